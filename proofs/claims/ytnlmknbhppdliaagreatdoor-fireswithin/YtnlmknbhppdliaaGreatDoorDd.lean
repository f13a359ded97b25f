/-
  Conditions, by the program. A condition and all of it, by the program. Names and windows, by the program; what a change of the map leaves.
-/
import Derived.Deep.LoopGhost
import Derived.Test.YtnlmknbhppdliaaGreatDoorDc
set_option maxHeartbeats 64000000
namespace Go.Proofs.YtnlmknbhppdliaaGreatDoor.Chk
open Go.ChangeShapes Go.WideShapes Go.ChangeAt Go.RowKit Go.Maps
set_option linter.unusedVariables false
set_option linter.unusedSimpArgs false
set_option maxRecDepth 20000
structure B3 (w0 w : World) (us vs ts : List Value) (t1 t2 t3 : TypeId) : Prop where
  bel : Below w0.heap.size w0 w
  b1 : w.heap[w0.heap.size]? = some (.cells us.toArray t1 (0, 0))
  b2 : w.heap[w0.heap.size + 1]? = some (.cells vs.toArray t2 (0, 0))
  b3 : w.heap[w0.heap.size + 2]? = some (.cells ts.toArray t3 (0, 0))
theorem B3.start (w : World) (us vs ts : List Value) (t1 t2 t3 : TypeId) : B3 w (((w.alloc (.cells us.toArray t1)).alloc (.cells vs.toArray t2)).alloc (.cells ts.toArray t3)) us vs ts t1 t2 t3 := by
  have e2 : ((w.alloc (.cells us.toArray t1)).alloc (.cells vs.toArray t2)).heap.size = w.heap.size + 2 := by simp
  have h3 := heap_alloc_new ((w.alloc (.cells us.toArray t1)).alloc (.cells vs.toArray t2)) (.cells ts.toArray t3)
  rw [e2] at h3
  exact ⟨(((Below.refl _ _).alloc (Nat.le_refl _) _).alloc (by simp) _).alloc (by simp; omega) _, (Below.heap_alloc _ _ _ (by simp; omega)).trans ((Below.heap_alloc _ _ _ (by simp)).trans (heap_alloc_new _ _)), (Below.heap_alloc _ _ _ (by simp)).trans (zC0 _ _ _), h3⟩
section
variable {w0 w w' : World} {us vs ts : List Value} {t1 t2 t3 : TypeId}
theorem B3.next (h : B3 w0 w us vs ts t1 t2 t3) (hb : Below w.heap.size w w') : B3 w0 w' us vs ts t1 t2 t3 := ⟨zAA h.bel hb h.bel.size, (hb.block _ (zAH h.b1)).trans h.b1, (hb.block _ (zAH h.b2)).trans h.b2, (hb.block _ (zAH h.b3)).trans h.b3⟩
theorem B3.c1 (h : B3 w0 w us vs ts t1 t2 t3) (j : Nat) : w.cell? ⟨w0.heap.size, j, none⟩ = us[j]? := by rw [zAC h.b1]; simp
theorem B3.c2 (h : B3 w0 w us vs ts t1 t2 t3) (j : Nat) : w.cell? ⟨w0.heap.size + 1, j, none⟩ = vs[j]? := by rw [zAC h.b2]; simp
theorem B3.c3 (h : B3 w0 w us vs ts t1 t2 t3) (j : Nat) : w.cell? ⟨w0.heap.size + 2, j, none⟩ = ts[j]? := by rw [zAC h.b3]; simp
end
inductive Wsz : Cn → Prop
  | mk (c : Cn) (cs : List Cn) : c.sb = cs.map encC → c.l.va.size ≤ maxLen → c.r.va.size ≤ maxLen → (∀ x, x ∈ cs → Wsz x) → Wsz c
theorem zBY (ck : Int) (p : Option Addr) (m cap : Nat) (l r : Opd) (w : World) : Calls Tryz.prog 181 #[cnV ck (.slice p m cap) l r] w fun e w' => e = .returned (.bool (!(eqz l && eqz r))) ∧ Below w.heap.size w w' := by
 obtain ⟨lk, lvk, lvi, lvt, lva, lfd⟩ := l
 obtain ⟨rk, rvk, rvi, rvt, rva, rfd⟩ := r
 go_enter Tryz.func181, Tryz.ntmps181
 go_wp2_with fail
 all_goals
  go_ret
  exact ⟨by simp [eqz, emp, *], by go_grown⟩
theorem zEN (c : Cn) (p : Option Addr) (cap : Nat) (w : World) : Calls Tryz.prog 170 #[cnV c.k (.slice p c.sb.length cap) c.l c.r] w fun e w' => e = .returned (.bool (noc c)) ∧ Below w.heap.size w w' := by
 obtain ⟨ck, csb, l, r⟩ := c
 unfold noc
 simp only
 obtain ⟨m, hm⟩ : ∃ n, csb.length = n := ⟨_, rfl⟩
 rw [hm]
 clear hm
 have HC := hid (fun W => zBY ck p m cap l r W)
 obtain ⟨q, hq⟩ : ∃ q, (eqz l && eqz r) = q := ⟨_, rfl⟩
 rw [hq] at HC
 have e9 : (decide (ck = 0) && decide (m = 0) && eqz l && eqz r) = (decide (ck = 0) && decide (m = 0) && q) := by rw [← hq, Bool.and_assoc, Bool.and_assoc]
 rw [e9]
 clear hq e9
 have HB := hid ((Below.refl w.heap.size w).alloc (Nat.le_refl _) (.cells (cnC ck (.slice p m cap) l r).toArray 46))
 by_cases hk : ck = 0
 . subst hk
   by_cases h0 : m = 0
   . subst h0
     go_enter Tryz.func170, Tryz.ntmps170
     go_wp2_with (go_at_call 181; refine (HC.out _).mono ?_; rintro e w2 ⟨rfl, hb2⟩; have HB2 := hid (zAA HB.out hb2 HB.out.size); clear hb2)
     go_ret
     exact ⟨by simp, HB2.out⟩
   . have b0 : ((m : Int) == 0) = false := by simp; omega
     have b1 : ¬ (m : Int) = 0 := by omega
     go_enter Tryz.func170, Tryz.ntmps170
     go_wp2_with fail
     go_ret
     exact ⟨by simp [h0], HB.out⟩
 . have b0 : (ck == 0) = false := by simpa using hk
   go_enter Tryz.func170, Tryz.ntmps170
   go_wp2_with fail
   go_ret
   exact ⟨by simp [hk], HB.out⟩
theorem cr_p {w w' : World} {R : Int × Int} {a e : Int} (h : R = (a, e)) (hb : Below w.heap.size w w') : CR w R (.returned (.tuple #[.int .i64 a, .int .i64 e])) w' := by subst h; exact ⟨a, rfl, fun _ => rfl, hb⟩
theorem zCO            (ts : List Tp) (ws : List Pt) (own : Tp) (b mb : Nat) (K : Kns) (n0 : Nat) (hkn : zA9   ts ws) (hk : Knw ts ws K) (hty : ∀ i (hi : i < ts.length), tyk ts[i].n ts[i].f = 0) (hown : tyk own.n own.f = 0) (c : Cn) (sv tv fv : Value) (w : World) (hl : c.l.va.size ≤ maxLen) (hr : c.r.va.size ≤ maxLen) (hs : Scp w ts tv b mb K n0) (hF : Rd w (.row 103 2 (own.f.map encF)) fv) (hS : Rd w (.row 46 14 c.sb) sv) (cs : List Cn) (hcs : c.sb = cs.map encC) :
    Calls Tryz.prog 182 #[scV tv b mb, cnV c.k sv c.l c.r, .agg #[.string own.n, fv]] w (CR w (if c.sb.length ≠ 0 then (0, 4)
       else if (sdk ts ws own c.l).2 ≠ 0 then (0, (sdk ts ws own c.l).2)
       else if (sdk ts ws own c.r).2 ≠ 0 then (0, (sdk ts ws own c.r).2)
       else if (sdk ts ws own c.l).1 ≠ (sdk ts ws own c.r).1 then (0, 13) else (1, 0))) := by
  have HL := hid (fun W (hW : Below w.heap.size w W) => zDG ts ws own c.l tv fv b mb K n0 W (hs.later hW) (hF.later hW) hkn hk hty (fun _ => hown) hl)
  have HR := hid (fun W (hW : Below w.heap.size w W) => zDG ts ws own c.r tv fv b mb K n0 W (hs.later hW) (hF.later hW) hkn hk hty (fun _ => hown) hr)
  obtain ⟨tp, tn, tc, rfl⟩ := zAB hs.rt
  obtain ⟨fp, fn, fc, rfl⟩ := zAB hF
  rw [hcs] at hS
  obtain ⟨p, cap, rfl, hmx, _⟩ := zAG lenC hS
  have hlen : c.sb.length = cs.length := by rw [hcs]; simp
  rw [hlen]
  obtain ⟨m, hm⟩ : ∃ m, cs.length = m := ⟨_, rfl⟩
  rw [hm] at hmx ⊢
  obtain ⟨on, ofs⟩ := own
  obtain ⟨ck, csb, l, r⟩ := c
  simp only at HL HR ⊢
  obtain ⟨⟨l1, l2⟩, hl0⟩ : ∃ x, sdk ts ws ⟨on, ofs⟩ l = x := ⟨_, rfl⟩
  obtain ⟨⟨r1, r2⟩, hr0⟩ : ∃ x, sdk ts ws ⟨on, ofs⟩ r = x := ⟨_, rfl⟩
  rw [hl0] at HL
  rw [hr0] at HR
  rw [hl0, hr0]
  simp only at HL HR ⊢
  have HT : Hid (B3 w (((w.alloc (.cells [.slice tp tn tc, .func (.func 95) #[] #[.pointer (some ⟨b, 0, none⟩)], .map (some mb)].toArray 174)).alloc (.cells (cnC ck (.slice p m cap) l r).toArray 46)).alloc (.cells [.string on, .slice fp fn fc].toArray 59)) [.slice tp tn tc, .func (.func 95) #[] #[.pointer (some ⟨b, 0, none⟩)], .map (some mb)] (cnC ck (.slice p m cap) l r) [.string on, .slice fp fn fc] 174 46 59) := B3.start w _ _ _ _ _ _
  clear hm hlen hcs hS hF hs hl hr hown hty hk hkn hl0 hr0
  obtain ⟨R, hR⟩ : ∃ R, (if m ≠ 0 then (0, 4) else if l2 ≠ 0 then (0, l2) else if r2 ≠ 0 then (0, r2) else if l1 ≠ r1 then (0, 13) else (1, 0) : Int × Int) = R := ⟨_, rfl⟩
  rw [hR]
  have HRR := hid hR
  clear hR
  by_cases h0 : m = 0
  . subst h0
    have a1 : True := trivial
    go_enter Tryz.func182, Tryz.ntmps182
    go_wp2_with fail
    refine (HL.out _ HT.out.bel).mono ?_
    rintro e w1 ⟨rfl, hb1⟩
    have HT1 : Hid _ := HT.out.next hb1
    clear hb1
    have s0 : w1.cell? ⟨w.heap.size, 0, none⟩ = some (.slice tp tn tc) := HT1.out.c1 0
    have s1 : w1.cell? ⟨w.heap.size, 1, none⟩ = some (.func (.func 95) #[] #[.pointer (some ⟨b, 0, none⟩)]) := HT1.out.c1 1
    have s2 : w1.cell? ⟨w.heap.size, 2, none⟩ = some (.map (some mb)) := HT1.out.c1 2
    have o0 : w1.cell? ⟨w.heap.size + 2, 0, none⟩ = some (.string on) := HT1.out.c3 0
    have o1 : w1.cell? ⟨w.heap.size + 2, 1, none⟩ = some (.slice fp fn fc) := HT1.out.c3 1
    have q0 : w1.cell? ⟨w.heap.size + 1, 8, none⟩ = some (.int .i64 r.k) := HT1.out.c2 8
    have q1 : w1.cell? ⟨w.heap.size + 1, 9, none⟩ = some (.int .i64 r.vk) := HT1.out.c2 9
    have q2 : w1.cell? ⟨w.heap.size + 1, 10, none⟩ = some (.int .i64 r.vi) := HT1.out.c2 10
    have q3 : w1.cell? ⟨w.heap.size + 1, 11, none⟩ = some (.string r.vt) := HT1.out.c2 11
    have q4 : w1.cell? ⟨w.heap.size + 1, 12, none⟩ = some (.string r.va) := HT1.out.c2 12
    have q5 : w1.cell? ⟨w.heap.size + 1, 13, none⟩ = some (.string r.fd) := HT1.out.c2 13
    by_cases hz : l2 = 0
    . subst hz
      go_wp2_with fail
      refine (HR.out _ HT1.out.bel).mono ?_
      rintro e w2 ⟨rfl, hb2⟩
      have HT2 : Hid _ := HT1.out.next hb2
      clear hb2 s0 s1 s2 o0 o1 q0 q1 q2 q3 q4 q5
      by_cases hy : r2 = 0
      . subst hy
        by_cases hx : l1 = r1
        . subst hx
          go_wp2_with fail
          go_ret2
          exact cr_p (by rw [← HRR.out]; simp) HT2.out.bel
        . have d1 : (l1 != r1) = true := by simpa using hx
          go_wp2_with fail
          go_ret2
          exact cr_p (by rw [← HRR.out]; simp [hx]) HT2.out.bel
      . have d1 : (r2 != 0) = true := by simpa using hy
        go_wp2_with fail
        go_ret2
        exact cr_p (by rw [← HRR.out]; simp [hy]) HT2.out.bel
    . have d1 : (l2 != 0) = true := by simpa using hz
      go_wp2_with fail
      go_ret2
      exact cr_p (by rw [← HRR.out]; simp [hz]) HT1.out.bel
  . have d0 : (0 : Int) < (m : Int) := by omega
    go_enter Tryz.func182, Tryz.ntmps182
    go_wp2_with fail
    go_ret2
    exact cr_p (by rw [← HRR.out]; simp [h0]) HT.out.bel
theorem group_of (f : Cn → Int × Int) (hfr : ∀ x, 0 ≤ (f x).1 ∧ (f x).1 ≤ 12) (cs : List Cn) (ts : List Tp) (b mb : Nat) (on : ByteArray) (ck : Int) (l r : Opd) (tp fp : Option Addr) (tn tc fn fc : Nat) (sv : Value) (dp : Int) (w : World) (hk : 1 ≤ ck ∧ ck ≤ 3) (hd : 0 ≤ dp ∧ dp ≤ 8) (hS : Rd w (.row 46 14 (cs.map encC)) sv)
  (hIH : ∀ x, x ∈ cs → ∀ W, Below w.heap.size w W → ∀ u, Rd W (.row 46 14 x.sb) u → Calls Tryz.prog 171 #[scV (.slice tp tn tc) b mb, cnV x.k u x.l x.r, .agg #[.string on, .slice fp fn fc], .int .i64 (dp + 1)] W (CR W (f x))) :
  Calls Tryz.prog 183 #[scV (.slice tp tn tc) b mb, cnV ck sv l r, .agg #[.string on, .slice fp fn fc], .int .i64 dp] w (CR w (if eqz l = false ∨ eqz r = false then (0, 4) else if (ck = 3 ∧ cs.length ≠ 1) ∨ (ck ≠ 3 ∧ cs.length < 2) then (0, 4) else cgo f cs 0)) := by
 obtain ⟨p, cap, rfl, hmx, hat⟩ := zAG lenC hS
 have HAT : Hid (At encC 14 w p cs) := hat
 obtain ⟨m, hm⟩ : ∃ m, cs.length = m := ⟨_, rfl⟩
 have HN := hid hm
 rw [hm] at hmx ⊢
 obtain ⟨F, hF⟩ : ∃ F, (if eqz l = false ∨ eqz r = false then (0, 4) else if (ck = 3 ∧ m ≠ 1) ∨ (ck ≠ 3 ∧ m < 2) then (0, 4) else cgo f cs 0 : Int × Int) = F := ⟨_, rfl⟩
 rw [hF]
 have HF := hid hF
 have HFR := hid hfr
 have HIH := hid hIH
 have HHS := hid (fun W => zBY ck p m cap l r W)
 have HT : Hid (B3 w (((w.alloc (.cells [.slice tp tn tc, .func (.func 95) #[] #[.pointer (some ⟨b, 0, none⟩)], .map (some mb)].toArray 174)).alloc (.cells (cnC ck (.slice p m cap) l r).toArray 46)).alloc (.cells [.string on, .slice fp fn fc].toArray 59)) [.slice tp tn tc, .func (.func 95) #[] #[.pointer (some ⟨b, 0, none⟩)], .map (some mb)] (cnC ck (.slice p m cap) l r) [.string on, .slice fp fn fc] 174 46 59) := B3.start w _ _ _ _ _ _
 have wd : wrap64 (dp + 1) = dp + 1 := by unfold wrap64; omega
 clear hm hF hfr hIH hat hS
 cases hz : (eqz l && eqz r) with
 | false =>
  rw [hz] at HHS
  have HR : Hid ((0, 4) = F) := by
    show _ = _
    rw [← HF.out, if_pos (by cases h1 : eqz l <;> simp_all)]
  clear hz
  go_enter Tryz.func183, Tryz.ntmps183
  go_wp2_with fail
  refine (HHS.out _).mono ?_
  rintro e w1 ⟨rfl, hb1⟩
  have HT1 : Hid _ := HT.out.next hb1
  clear hb1
  go_wp2_with fail
  go_ret2
  exact cr_p HR.out.symm HT1.out.bel
 | true =>
  rw [hz] at HHS
  have HF2 : Hid ((if (ck = 3 ∧ m ≠ 1) ∨ (ck ≠ 3 ∧ m < 2) then (0, 4) else cgo f cs 0 : Int × Int) = F) := by
    show _ = _
    have hnn : ¬ (eqz l = false ∨ eqz r = false) := by simp only [Bool.and_eq_true] at hz; rw [hz.1, hz.2]; simp
    rw [← HF.out, if_neg hnn]
  clear hz HF
  by_cases hbad : (ck = 3 ∧ m ≠ 1) ∨ (ck ≠ 3 ∧ m < 2)
  . have HR : Hid ((0, 4) = F) := by show _ = _; rw [← HF2.out, if_pos hbad]
    clear HF2
    rcases hbad with ⟨h3, hm1⟩ | ⟨h3, hm1⟩
    . subst h3
      have d1 : ((m : Int) != 1) = true := by simp; omega
      go_enter Tryz.func183, Tryz.ntmps183
      go_wp2_with fail
      refine (HHS.out _).mono ?_
      rintro e w1 ⟨rfl, hb1⟩
      have HT1 : Hid _ := HT.out.next hb1
      clear hb1
      have a0 : w1.cell? ⟨w.heap.size + 1, 0, none⟩ = some (.int .i64 3) := HT1.out.c2 0
      have a1 : w1.cell? ⟨w.heap.size + 1, 1, none⟩ = some (.slice p m cap) := HT1.out.c2 1
      go_wp2_with fail
      go_ret2
      exact cr_p HR.out.symm HT1.out.bel
    . have d1 : (ck == 3) = false := by simpa using h3
      have d2 : (ck != 3) = true := by simpa using h3
      have d3 : (m : Int) < 2 := by omega
      go_enter Tryz.func183, Tryz.ntmps183
      go_wp2_with fail
      refine (HHS.out _).mono ?_
      rintro e w1 ⟨rfl, hb1⟩
      have HT1 : Hid _ := HT.out.next hb1
      clear hb1
      have a0 : w1.cell? ⟨w.heap.size + 1, 0, none⟩ = some (.int .i64 ck) := HT1.out.c2 0
      have a1 : w1.cell? ⟨w.heap.size + 1, 1, none⟩ = some (.slice p m cap) := HT1.out.c2 1
      go_wp2_with fail
      go_ret2
      exact cr_p HR.out.symm HT1.out.bel
  . have HF3 : Hid (cgo f cs 0 = F) := by show _ = _; rw [← HF2.out, if_neg hbad]
    clear HF2
    have hcase : (ck = 3 ∧ m = 1) ∨ (ck ≠ 3 ∧ 2 ≤ m) := by omega
    clear hbad
    rcases hcase with ⟨h3, hm1⟩ | ⟨h3, hm1⟩
    . subst h3
      have hm2 : (m : Int) = 1 := by omega
      have d1 : ((m : Int) != 1) = false := by simp; omega
      clear hm2 hm1
      go_enter Tryz.func183, Tryz.ntmps183
      go_wp2_with fail
      refine (HHS.out _).mono ?_
      rintro e w1 ⟨rfl, hb1⟩
      have HT1 : Hid _ := HT.out.next hb1
      clear hb1
      have a0 : w1.cell? ⟨w.heap.size + 1, 0, none⟩ = some (.int .i64 3) := HT1.out.c2 0
      have a1 : w1.cell? ⟨w.heap.size + 1, 1, none⟩ = some (.slice p m cap) := HT1.out.c2 1
      go_wp2_with fail
      clear a0 a1
      go_loopg [10, 42] (m + 1) (fun gg s i wr => ∃ (k : Nat) (q : Int), k ≤ m ∧ gg = m + 1 - k ∧ i = .int .i64 (k : Nat) ∧ s = .int .i64 q ∧ 0 ≤ q ∧ q ≤ 12 ∧ cgo f (cs.drop k) q = F ∧ B3 w wr [.slice tp tn tc, .func (.func 95) #[] #[.pointer (some ⟨b, 0, none⟩)], .map (some mb)] (cnC 3 (.slice p m cap) l r) [.string on, .slice fp fn fc] 174 46 59)
      case atStart => exact ⟨0, 0, by omega, by omega, rfl, rfl, by decide, by decide, HF3.out, HT1.out⟩
      case round =>
       obtain ⟨k, q, hk2, rfl, rfl, rfl, hq0, hq1, hcg, hTr⟩ := hrel
       clear HT HT1
       have HT : Hid (B3 w wr [.slice tp tn tc, .func (.func 95) #[] #[.pointer (some ⟨b, 0, none⟩)], .map (some mb)] (cnC 3 (.slice p m cap) l r) [.string on, .slice fp fn fc] 174 46 59) := hTr
       by_cases hlt : k < m
       . have hkc : k < cs.length := by have := HN.out; omega
         obtain ⟨g, off, hp, hrd⟩ := HAT.out (by omega)
         subst hp
         obtain ⟨A, r1, o1'⟩ := hrd wr hTr.bel k hkc
         obtain ⟨u, z1, o2⟩ := zCI o1'
         obtain ⟨up, un, uc, hu⟩ := zAB o2
         have hcall := fun W (hW : Below wr.heap.size wr W) => HIH.out cs[k] (List.getElem_mem hkc) W (zAA hTr.bel hW hTr.bel.size) u (o2.later hW)
         have hA14 : A.length = 14 := o1'.1.symm
         rw [List.drop_eq_getElem_cons hkc, cgo] at hcg
         have hrg := HFR.out cs[k]
         obtain ⟨⟨rm, re⟩, hre⟩ : ∃ q, f cs[k] = q := ⟨_, rfl⟩
         rw [hre] at hcall hcg hrg
         simp only at hcg hrg
         have HCM : Hid (∀ W, Below wr.heap.size wr W → Calls Tryz.prog 171 #[scV (.slice tp tn tc) b mb, .agg A.toArray, .agg #[.string on, .slice fp fn fc], .int .i64 (dp + 1)] W (fun e w' => ∃ m : Int, e = .returned (.tuple #[.int .i64 m, .int .i64 re]) ∧ (re = 0 → m = rm) ∧ Below W.heap.size W w')) := fun W hW => by rw [z1]; exact hcall W hW
         have HAO : Hid (A.all (·.oneCell') = true) := by show _ = _; rw [z1, hu]; rfl
         have ZA : Hid ((Tryz.prog.info? 46).map (·.size) = some A.length) := by show _ = _; rw [hA14]; kernel_rfl
         have HAL := hid hA14
         have X1_ := hid r1
         have HCG := hid hcg
         have i1 : (0 : Int) ≤ (k : Int) := by omega
         have i2 : (k : Int) < (m : Int) := by omega
         clear hcall r1 o1' o2 hrd hTr hA14 hcg hre z1 hu
         go_wp2_with (first
           | ((with_reducible refine gLq ?_); refine wpList_load_mid (by rfl) 46 _ (by rfl) g (off + k * 14) (by rfl) A _ X1_.out Tryz.underlying46 rfl ZA.out ?_)
           | ((with_reducible refine gSq ?_); refine zA7 (by rfl) 46 _ _ (by rfl) wr.heap.size 0 _ 46 (.agg A.toArray) A (by rfl) (by rfl) (by rfl) (heap_alloc_new _ _) (by have := HAL.out; simp; omega) ZA.out HAO.out ?_; intro w1 hblk hfr; rw [zAT (by rw [HAL.out]; rfl)] at hblk; have XB : Hid (w1.rangeAt wr.heap.size 0 A) := zAE hblk; have hbl := zAM hfr; have HT1 : Hid _ := HT.out.next hbl; have HBW : Hid (Below wr.heap.size wr w1) := hbl; clear hblk hfr hbl; have s0 : w1.cell? ⟨w.heap.size, 0, none⟩ = some (.slice tp tn tc) := HT1.out.c1 0; have s1 : w1.cell? ⟨w.heap.size, 1, none⟩ = some (.func (.func 95) #[] #[.pointer (some ⟨b, 0, none⟩)]) := HT1.out.c1 1; have s2 : w1.cell? ⟨w.heap.size, 2, none⟩ = some (.map (some mb)) := HT1.out.c1 2; have o0 : w1.cell? ⟨w.heap.size + 2, 0, none⟩ = some (.string on) := HT1.out.c3 0; have o1 : w1.cell? ⟨w.heap.size + 2, 1, none⟩ = some (.slice fp fn fc) := HT1.out.c3 1)
           | ((with_reducible refine gLq ?_); refine wpList_load_mid (by rfl) 46 _ (by rfl) wr.heap.size 0 (by rfl) A _ XB.out Tryz.underlying46 rfl ZA.out ?_))
         refine (HCM.out _ HBW.out).mono ?_
         rintro e w5 ⟨m5, rfl, hm5, hb5⟩
         have HT5 : Hid _ := HT1.out.next hb5
         clear hb5 s0 s1 s2 o0 o1
         by_cases hr0 : re = 0
         . have hm9 := hm5 hr0
           have hcg := HCG.out
           rw [if_neg (by simpa using hr0)] at hcg
           have HCG2 := hid hcg
           clear hcg HCG hm5
           subst hr0 hm9
           have wq : wrap64 (q + m5) = q + m5 := by unfold wrap64; omega
           by_cases h12 : 12 < q + m5
           . have HR : Hid ((0, 1) = F) := by have h := HCG2.out; rw [if_pos h12] at h; exact h
             go_wp2_with fail
             go_ret2
             exact cr_p HR.out.symm HT5.out.bel
           . have HR : Hid (cgo f (cs.drop (k + 1)) (q + m5) = F) := by have h := HCG2.out; rw [if_neg h12] at h; exact h
             go_wp2_with fail
             go_roundg (m + 1 - (k + 1))
             case rel => exact ⟨k + 1, q + m5, by omega, rfl, by go_num, rfl, by omega, by omega, HR.out, HT5.out⟩
             case measure => omega
         . have HR : Hid ((0, re) = F) := by have h := HCG.out; rw [if_pos hr0] at h; exact h
           have d1 : (re != 0) = true := by simpa using hr0
           clear HCG hm5
           go_wp2_with fail
           go_ret2
           exact cr_p HR.out.symm HT5.out.bel
       . obtain rfl : k = m := by omega
         have hd0 : cs.drop k = [] := List.drop_of_length_le (by have := HN.out; omega)
         rw [hd0, cgo] at hcg
         have HR := hid hcg
         clear hcg hd0 hTr
         go_wp2_with fail
         go_ret2
         exact cr_p HR.out.symm HT.out.bel
    . have d1 : (ck == 3) = false := by simpa using h3
      have d2 : (ck != 3) = true := by simpa using h3
      have d3 : decide ((m : Int) < 2) = false := by simp; omega
      clear h3
      go_enter Tryz.func183, Tryz.ntmps183
      go_wp2_with fail
      refine (HHS.out _).mono ?_
      rintro e w1 ⟨rfl, hb1⟩
      have HT1 : Hid _ := HT.out.next hb1
      clear hb1
      have a0 : w1.cell? ⟨w.heap.size + 1, 0, none⟩ = some (.int .i64 ck) := HT1.out.c2 0
      have a1 : w1.cell? ⟨w.heap.size + 1, 1, none⟩ = some (.slice p m cap) := HT1.out.c2 1
      go_wp2_with fail
      clear a0 a1
      go_loopg [10, 42] (m + 1) (fun gg s i wr => ∃ (k : Nat) (q : Int), k ≤ m ∧ gg = m + 1 - k ∧ i = .int .i64 (k : Nat) ∧ s = .int .i64 q ∧ 0 ≤ q ∧ q ≤ 12 ∧ cgo f (cs.drop k) q = F ∧ B3 w wr [.slice tp tn tc, .func (.func 95) #[] #[.pointer (some ⟨b, 0, none⟩)], .map (some mb)] (cnC ck (.slice p m cap) l r) [.string on, .slice fp fn fc] 174 46 59)
      case atStart => exact ⟨0, 0, by omega, by omega, rfl, rfl, by decide, by decide, HF3.out, HT1.out⟩
      case round =>
       obtain ⟨k, q, hk2, rfl, rfl, rfl, hq0, hq1, hcg, hTr⟩ := hrel
       clear HT HT1
       have HT : Hid (B3 w wr [.slice tp tn tc, .func (.func 95) #[] #[.pointer (some ⟨b, 0, none⟩)], .map (some mb)] (cnC ck (.slice p m cap) l r) [.string on, .slice fp fn fc] 174 46 59) := hTr
       by_cases hlt : k < m
       . have hkc : k < cs.length := by have := HN.out; omega
         obtain ⟨g, off, hp, hrd⟩ := HAT.out (by omega)
         subst hp
         obtain ⟨A, r1, o1'⟩ := hrd wr hTr.bel k hkc
         obtain ⟨u, z1, o2⟩ := zCI o1'
         obtain ⟨up, un, uc, hu⟩ := zAB o2
         have hcall := fun W (hW : Below wr.heap.size wr W) => HIH.out cs[k] (List.getElem_mem hkc) W (zAA hTr.bel hW hTr.bel.size) u (o2.later hW)
         have hA14 : A.length = 14 := o1'.1.symm
         rw [List.drop_eq_getElem_cons hkc, cgo] at hcg
         have hrg := HFR.out cs[k]
         obtain ⟨⟨rm, re⟩, hre⟩ : ∃ q, f cs[k] = q := ⟨_, rfl⟩
         rw [hre] at hcall hcg hrg
         simp only at hcg hrg
         have HCM : Hid (∀ W, Below wr.heap.size wr W → Calls Tryz.prog 171 #[scV (.slice tp tn tc) b mb, .agg A.toArray, .agg #[.string on, .slice fp fn fc], .int .i64 (dp + 1)] W (fun e w' => ∃ m : Int, e = .returned (.tuple #[.int .i64 m, .int .i64 re]) ∧ (re = 0 → m = rm) ∧ Below W.heap.size W w')) := fun W hW => by rw [z1]; exact hcall W hW
         have HAO : Hid (A.all (·.oneCell') = true) := by show _ = _; rw [z1, hu]; rfl
         have ZA : Hid ((Tryz.prog.info? 46).map (·.size) = some A.length) := by show _ = _; rw [hA14]; kernel_rfl
         have HAL := hid hA14
         have X1_ := hid r1
         have HCG := hid hcg
         have i1 : (0 : Int) ≤ (k : Int) := by omega
         have i2 : (k : Int) < (m : Int) := by omega
         clear hcall r1 o1' o2 hrd hTr hA14 hcg hre z1 hu
         go_wp2_with (first
           | ((with_reducible refine gLq ?_); refine wpList_load_mid (by rfl) 46 _ (by rfl) g (off + k * 14) (by rfl) A _ X1_.out Tryz.underlying46 rfl ZA.out ?_)
           | ((with_reducible refine gSq ?_); refine zA7 (by rfl) 46 _ _ (by rfl) wr.heap.size 0 _ 46 (.agg A.toArray) A (by rfl) (by rfl) (by rfl) (heap_alloc_new _ _) (by have := HAL.out; simp; omega) ZA.out HAO.out ?_; intro w1 hblk hfr; rw [zAT (by rw [HAL.out]; rfl)] at hblk; have XB : Hid (w1.rangeAt wr.heap.size 0 A) := zAE hblk; have hbl := zAM hfr; have HT1 : Hid _ := HT.out.next hbl; have HBW : Hid (Below wr.heap.size wr w1) := hbl; clear hblk hfr hbl; have s0 : w1.cell? ⟨w.heap.size, 0, none⟩ = some (.slice tp tn tc) := HT1.out.c1 0; have s1 : w1.cell? ⟨w.heap.size, 1, none⟩ = some (.func (.func 95) #[] #[.pointer (some ⟨b, 0, none⟩)]) := HT1.out.c1 1; have s2 : w1.cell? ⟨w.heap.size, 2, none⟩ = some (.map (some mb)) := HT1.out.c1 2; have o0 : w1.cell? ⟨w.heap.size + 2, 0, none⟩ = some (.string on) := HT1.out.c3 0; have o1 : w1.cell? ⟨w.heap.size + 2, 1, none⟩ = some (.slice fp fn fc) := HT1.out.c3 1)
           | ((with_reducible refine gLq ?_); refine wpList_load_mid (by rfl) 46 _ (by rfl) wr.heap.size 0 (by rfl) A _ XB.out Tryz.underlying46 rfl ZA.out ?_))
         refine (HCM.out _ HBW.out).mono ?_
         rintro e w5 ⟨m5, rfl, hm5, hb5⟩
         have HT5 : Hid _ := HT1.out.next hb5
         clear hb5 s0 s1 s2 o0 o1
         by_cases hr0 : re = 0
         . have hm9 := hm5 hr0
           have hcg := HCG.out
           rw [if_neg (by simpa using hr0)] at hcg
           have HCG2 := hid hcg
           clear hcg HCG hm5
           subst hr0 hm9
           have wq : wrap64 (q + m5) = q + m5 := by unfold wrap64; omega
           by_cases h12 : 12 < q + m5
           . have HR : Hid ((0, 1) = F) := by have h := HCG2.out; rw [if_pos h12] at h; exact h
             go_wp2_with fail
             go_ret2
             exact cr_p HR.out.symm HT5.out.bel
           . have HR : Hid (cgo f (cs.drop (k + 1)) (q + m5) = F) := by have h := HCG2.out; rw [if_neg h12] at h; exact h
             go_wp2_with fail
             go_roundg (m + 1 - (k + 1))
             case rel => exact ⟨k + 1, q + m5, by omega, rfl, by go_num, rfl, by omega, by omega, HR.out, HT5.out⟩
             case measure => omega
         . have HR : Hid ((0, re) = F) := by have h := HCG.out; rw [if_pos hr0] at h; exact h
           have d1 : (re != 0) = true := by simpa using hr0
           clear HCG hm5
           go_wp2_with fail
           go_ret2
           exact cr_p HR.out.symm HT5.out.bel
       . obtain rfl : k = m := by omega
         have hd0 : cs.drop k = [] := List.drop_of_length_le (by have := HN.out; omega)
         rw [hd0, cgo] at hcg
         have HR := hid hcg
         clear hcg hd0 hTr
         go_wp2_with fail
         go_ret2
         exact cr_p HR.out.symm HT.out.bel
theorem zDM (ts : List Tp) (ws : List Pt) (own : Tp) (b mb : Nat) (K : Kns) (n0 : Nat) (hkn : zA9 ts ws) (hk : Knw ts ws K) (hty : ∀ i (hi : i < ts.length), tyk ts[i].n ts[i].f = 0) (hown : tyk own.n own.f = 0) : ∀ (n : Nat) (c : Cn) (sv tv fv : Value) (w : World) (dp : Int), n ≤ 8 → dp = 9 - (n : Int) → Wsz c → Scp w ts tv b mb K n0 → Rd w (.row 103 2 (own.f.map encF)) fv → Rd w (.row 46 14 c.sb) sv →
  Calls Tryz.prog 171 #[scV tv b mb, cnV c.k sv c.l c.r, .agg #[.string own.n, fv], .int .i64 dp] w (CR w (cdk ts ws own n c)) := by
 intro n
 induction n with
 | zero =>
  intro c sv tv fv w dp hn hdp hwz hs hF hS
  obtain ⟨tp, tn, tc, rfl⟩ := zAB hs.rt
  obtain ⟨fp, fn, fc, rfl⟩ := zAB hF
  obtain ⟨p, m, cap, rfl⟩ := zAB hS
  obtain ⟨on, ofs⟩ := own
  obtain ⟨ck, csb, l, r⟩ := c
  have HB : Hid (Below w.heap.size w (((w.alloc (.cells [.slice tp tn tc, .func (.func 95) #[] #[.pointer (some ⟨b, 0, none⟩)], .map (some mb)].toArray 174)).alloc (.cells (cnC ck (.slice p m cap) l r).toArray 46)).alloc (.cells [.string on, .slice fp fn fc].toArray 59))) := (B3.start w _ _ _ _ _ _).bel
  obtain ⟨R, hR⟩ : ∃ R, cdk ts ws ⟨on, ofs⟩ 0 ⟨ck, csb, l, r⟩ = R := ⟨_, rfl⟩
  rw [hR]
  unfold cdk at hR
  simp only at hR
  have HR := hid hR
  have d9 : (8 : Int) < dp := by omega
  clear hR hS hF hs hwz hn hdp hkn hk hty hown
  by_cases h1 : 1 ≤ ck ∧ ck ≤ 7
  . have HR2 : Hid (R = (0, 14)) := by show _ = _; rw [← HR.out, if_pos h1]
    obtain ⟨g1, g2⟩ := h1
    clear HR
    go_enter Tryz.func171, Tryz.ntmps171
    go_wp2_with fail
    go_ret2
    exact cr_p HR2.out HB.out
  . have HR2 : Hid (R = (0, 3)) := by show _ = _; rw [← HR.out, if_neg h1]
    clear HR
    by_cases h2 : ck < 1
    . have g1 : ck < 1 := by omega
      clear h1 h2
      go_enter Tryz.func171, Tryz.ntmps171
      go_wp2_with fail
      go_ret2
      exact cr_p HR2.out HB.out
    . obtain ⟨g1, g2⟩ : ¬ ck < 1 ∧ 7 < ck := by omega
      clear h1 h2
      go_enter Tryz.func171, Tryz.ntmps171
      go_wp2_with fail
      go_ret2
      exact cr_p HR2.out HB.out
 | succ n ih =>
  intro c sv tv fv w dp hn hdp hwz hs hF hS
  have hwz0 := hwz
  obtain ⟨_, cs, hcs, hl, hr, hws⟩ := hwz
  have HCMP := hid (fun W (hW : Below w.heap.size w W) => zCO ts ws own b mb K n0 hkn hk hty hown c sv tv fv W hl hr (hs.later hW) (hF.later hW) (hS.later hW) cs hcs)
  have hIH := fun x (hx : x ∈ cs) W (hW : Below w.heap.size w W) u (hu : Rd W (.row 46 14 x.sb) u) => ih x u tv fv W (dp + 1) (by omega) (by omega) (hws x hx) (hs.later hW) (hF.later hW) hu
  obtain ⟨tp, tn, tc, rfl⟩ := zAB hs.rt
  obtain ⟨fp, fn, fc, rfl⟩ := zAB hF
  obtain ⟨p, m, cap, rfl⟩ := zAB hS
  have HGRP : Hid (1 ≤ c.k ∧ c.k ≤ 3 → ∀ W, Below w.heap.size w W → Calls Tryz.prog 183 #[scV (.slice tp tn tc) b mb, cnV c.k (.slice p m cap) c.l c.r, .agg #[.string own.n, .slice fp fn fc], .int .i64 dp] W (CR W (if eqz c.l = false ∨ eqz c.r = false then (0, 4) else if (c.k = 3 ∧ c.sb.length ≠ 1) ∨ (c.k ≠ 3 ∧ c.sb.length < 2) then (0, 4) else cgo (cdk ts ws own n) (subs c) 0))) := fun h3 W hW => by
    rw [zHF hcs, show c.sb.length = cs.length by rw [hcs]; simp]
    exact group_of (cdk ts ws own n) (zEP ts ws own n) cs ts b mb own.n c.k c.l c.r tp fp tn tc fn fc (.slice p m cap) dp W h3 (by omega) (by rw [← hcs]; exact hS.later hW) (fun x hx W' hW' u hu => hIH x hx W' (zAA hW hW' hW.size) u hu)
  obtain ⟨R, hR⟩ : ∃ R, cdk ts ws own (n + 1) c = R := ⟨_, rfl⟩
  rw [hR]
  unfold cdk at hR
  obtain ⟨on, ofs⟩ := own
  obtain ⟨ck, csb, l, r⟩ := c
  simp only at hR HCMP HGRP ⊢
  have HR := hid hR
  have HT : Hid (B3 w (((w.alloc (.cells [.slice tp tn tc, .func (.func 95) #[] #[.pointer (some ⟨b, 0, none⟩)], .map (some mb)].toArray 174)).alloc (.cells (cnC ck (.slice p m cap) l r).toArray 46)).alloc (.cells [.string on, .slice fp fn fc].toArray 59)) [.slice tp tn tc, .func (.func 95) #[] #[.pointer (some ⟨b, 0, none⟩)], .map (some mb)] (cnC ck (.slice p m cap) l r) [.string on, .slice fp fn fc] 174 46 59) := B3.start w _ _ _ _ _ _
  have d8 : ¬ (8 : Int) < dp := by omega
  clear hR hS hF hs hwz0 hcs hl hr hws hIH ih hkn hk hty hown hdp hn
  by_cases h1 : 1 ≤ ck ∧ ck ≤ 7
  . have HR1 := HR.out
    rw [if_neg (fun c => c h1)] at HR1
    obtain ⟨g1, g2⟩ := h1
    have g1' : ¬ ck < 1 := by omega
    have g2' : ¬ 7 < ck := by omega
    by_cases h3 : 3 < ck
    . rw [if_pos h3] at HR1
      have HR2 := hid HR1
      have g3 : 4 ≤ ck := by omega
      rw [HR1] at HCMP
      clear HR1 HR HGRP h3
      go_enter Tryz.func171, Tryz.ntmps171
      go_wp2_with fail
      have X := HCMP.out _ HT.out.bel
      with_reducible refine X.mono ?_
      clear X
      rintro e w2 ⟨m2, rfl, hm2, hb2⟩
      have HT2 : Hid _ := HT.out.next hb2
      have HM := hid hm2
      clear hb2 hm2
      go_wp2_with fail
      go_ret2
      exact ⟨m2, rfl, HM.out, HT2.out.bel⟩
    . rw [if_neg h3] at HR1
      have HG := hid (HGRP.out ⟨by omega, by omega⟩)
      rw [HR1] at HG
      have g3 : ¬ 4 ≤ ck := by omega
      clear HR1 HR HGRP HCMP h3
      go_enter Tryz.func171, Tryz.ntmps171
      go_wp2_with fail
      have X := HG.out _ HT.out.bel
      with_reducible refine X.mono ?_
      clear X
      rintro e w2 ⟨m2, rfl, hm2, hb2⟩
      have HT2 : Hid _ := HT.out.next hb2
      have HM := hid hm2
      clear hb2 hm2
      go_wp2_with fail
      go_ret2
      exact ⟨m2, rfl, HM.out, HT2.out.bel⟩
  . have HR2 : Hid (R = (0, 3)) := by show _ = _; rw [← HR.out, if_pos h1]
    clear HR HCMP HGRP
    by_cases h2 : ck < 1
    . have g1 : ck < 1 := by omega
      clear h1 h2
      go_enter Tryz.func171, Tryz.ntmps171
      go_wp2_with fail
      go_ret2
      exact cr_p HR2.out HT.out.bel
    . obtain ⟨g1, g2⟩ : ¬ ck < 1 ∧ 7 < ck := by omega
      clear h1 h2
      go_enter Tryz.func171, Tryz.ntmps171
      go_wp2_with fail
      go_ret2
      exact cr_p HR2.out HT.out.bel
theorem zG7 (ts : List Tp) (ws : List Pt) (own : Tp) (b mb : Nat) (K : Kns) (n0 : Nat) (hkn : zA9 ts ws) (hk : Knw ts ws K) (hty : ∀ i (hi : i < ts.length), tyk ts[i].n ts[i].f = 0) (hown : tyk own.n own.f = 0) (c : Cn) (sv tv fv : Value) (w : World) (hwz : Wsz c) (hs : Scp w ts tv b mb K n0) (hF : Rd w (.row 103 2 (own.f.map encF)) fv) (hS : Rd w (.row 46 14 c.sb) sv) :
  Calls Tryz.prog 153 #[scV tv b mb, cnV c.k sv c.l c.r, .agg #[.string own.n, fv]] w fun e w' => e = .returned (.int .i64 (if noc c = true then 0 else (cdk ts ws own 8 c).2)) ∧ Below w.heap.size w w' := by
 have HCN := hid (fun W (hW : Below w.heap.size w W) => zDM ts ws own b mb K n0 hkn hk hty hown 8 c sv tv fv W 1 (Nat.le_refl _) (by decide) hwz (hs.later hW) (hF.later hW) (hS.later hW))
 have hlen : ∀ p m cap, sv = .slice p m cap → m = c.sb.length := fun p m cap h => by
  obtain ⟨_, cs, hcs, _⟩ := hwz
  rw [hcs] at hS ⊢
  subst h
  rw [List.length_map]
  exact (zBM hS).1
 obtain ⟨tp, tn, tc, rfl⟩ := zAB hs.rt
 obtain ⟨fp, fn, fc, rfl⟩ := zAB hF
 obtain ⟨p, m, cap, rfl⟩ := zAB hS
 obtain rfl := hlen p m cap rfl
 have HA := hid (fun W => zEN c p cap W)
 obtain ⟨q, hq⟩ : ∃ q, noc c = q := ⟨_, rfl⟩
 obtain ⟨⟨x1, x2⟩, hx⟩ : ∃ x, cdk ts ws own 8 c = x := ⟨_, rfl⟩
 rw [hq] at HA
 rw [hx] at HCN
 rw [hq, hx]
 obtain ⟨on, ofs⟩ := own
 obtain ⟨ck, csb, l, r⟩ := c
 simp only at HCN HA ⊢
 obtain ⟨m, hm⟩ : ∃ m, csb.length = m := ⟨_, rfl⟩
 rw [hm] at HCN HA ⊢
 have HT : Hid (B3 w (((w.alloc (.cells [.slice tp tn tc, .func (.func 95) #[] #[.pointer (some ⟨b, 0, none⟩)], .map (some mb)].toArray 174)).alloc (.cells (cnC ck (.slice p m cap) l r).toArray 46)).alloc (.cells [.string on, .slice fp fn fc].toArray 59)) [.slice tp tn tc, .func (.func 95) #[] #[.pointer (some ⟨b, 0, none⟩)], .map (some mb)] (cnC ck (.slice p m cap) l r) [.string on, .slice fp fn fc] 174 46 59) := B3.start w _ _ _ _ _ _
 clear hm hq hx hlen hS hF hs hwz hkn hk hty hown
 cases q with
 | true =>
  rw [if_pos rfl]
  go_enter Tryz.func153, Tryz.ntmps153
  go_wp2_with fail
  refine (HA.out _).mono ?_
  rintro e w1 ⟨rfl, hb1⟩
  have HT1 : Hid _ := HT.out.next hb1
  clear hb1
  go_wp2_with fail
  go_ret
  exact ⟨rfl, HT1.out.bel⟩
 | false =>
  rw [if_neg (by decide)]
  go_enter Tryz.func153, Tryz.ntmps153
  go_wp2_with fail
  refine (HA.out _).mono ?_
  rintro e w1 ⟨rfl, hb1⟩
  have HT1 : Hid _ := HT.out.next hb1
  clear hb1
  have s0 : w1.cell? ⟨w.heap.size, 0, none⟩ = some (.slice tp tn tc) := HT1.out.c1 0
  have s1 : w1.cell? ⟨w.heap.size, 1, none⟩ = some (.func (.func 95) #[] #[.pointer (some ⟨b, 0, none⟩)]) := HT1.out.c1 1
  have s2 : w1.cell? ⟨w.heap.size, 2, none⟩ = some (.map (some mb)) := HT1.out.c1 2
  have o0 : w1.cell? ⟨w.heap.size + 2, 0, none⟩ = some (.string on) := HT1.out.c3 0
  have o1 : w1.cell? ⟨w.heap.size + 2, 1, none⟩ = some (.slice fp fn fc) := HT1.out.c3 1
  have XC : Hid (w1.rangeAt (w.heap.size + 1) 0 (cnC ck (.slice p m cap) l r)) := zAE HT1.out.b2
  go_wp2_with ((with_reducible refine gLq ?_); refine wpList_load_mid (by rfl) 46 _ (by rfl) (w.heap.size + 1) 0 (by rfl) (cnC ck (.slice p m cap) l r) _ XC.out Tryz.underlying46 rfl (by kernel_rfl) ?_)
  refine (HCN.out _ HT1.out.bel).mono ?_
  rintro e w2 ⟨m2, rfl, hm2, hb2⟩
  have HT2 : Hid _ := HT1.out.next hb2
  clear hb2 hm2
  go_wp2_with fail
  go_ret
  exact ⟨rfl, HT2.out.bel⟩
theorem zA1 {w w' : World} {mb : Nat} (hk : ∃ es c, w.heap[mb]? = some (.map es c)) (hf : Fr (fun i => i = mb) w w') {p : Addr} {v : Value} (h : w.cell? p = some v) : w'.cell? p = some v := by
 obtain ⟨es, c, hm⟩ := hk
 have hne : p.block ≠ mb := fun e => by
  unfold World.cell? at h
  rw [e, hm] at h
  cases h
 exact (World.cell?_of_block (a := p) (hf.block _ (World.block_lt_of_cell? _ _ h) hne)).trans h
theorem zFC {w w' : World} {mb : Nat} (hk : ∃ es c, w.heap[mb]? = some (.map es c)) (hf : Fr (fun i => i = mb) w w') {g o : Nat} {l : List Value} (h : w.rangeAt g o l) : w'.rangeAt g o l := fun j x hx => zA1 hk hf (h j x hx)
theorem Rd.fr {w w' : World} {mb : Nat} (hk : ∃ es c, w.heap[mb]? = some (.map es c)) (hf : Fr (fun i => i = mb) w w') {d : Dat} {v : Value} (h : Rd w d v) : Rd w' d v := by
  induction h with
  | lit v => exact .lit v
  | nil e z p cap h => exact .nil e z p cap h
  | row e z l g off cap xs h1 h2 h3 h4 h5 _ ih => exact .row e z l g off cap xs h1 h2 h3 (zFC hk hf h4) h5 ih
theorem Km.isMap {w : World} {mb : Nat} {K : Kns} {n : Nat} (h : Km w mb K n) : ∃ es c, w.heap[mb]? = some (.map es c) := by
  obtain ⟨D, ⟨es, clock, hb, _⟩, _⟩ := h
  exact ⟨es, clock, hb⟩
theorem zCY {w w' : World} {mb g : Nat} {l : List (List UInt8)} (hk : ∃ es c, w.heap[mb]? = some (.map es c)) (hf : Fr (fun i => i = mb) w w') (h : Tab w g l) (hl : 0 < l.length) : Tab w' g l := by
  refine h.fr hf fun e => ?_
  subst e
  obtain ⟨es, c, hm⟩ := hk
  have := h.2 0 hl
  unfold World.cell? at this
  simp only [hm] at this
  cases this
theorem Scp.fr {w w' : World} {ts : List Tp} {tv : Value} {b mb n n' : Nat} {K K' : Kns} (h : Scp w ts tv b mb K n) (hf : Fr (fun i => i = mb) w w') (hk : Km w' mb K' n') : Scp w' ts tv b mb K' n' :=
  ⟨h.rt.fr h.km.isMap hf, zA1 h.km.isMap hf h.fd, hk, zCY h.km.isMap hf h.tk (by decide), zCY h.km.isMap hf h.tr (by decide)⟩
theorem zAW (s : ByteArray) (w : World) (hk : Tab w 0 kpl) (hr : Tab w 1 rll) : Calls Tryz.prog 85 #[.string s] w fun e w' => e = .returned (.int .i64 (frn s)) ∧ w' = w := by
 have H1 := hid (zB6 s w)
 have H2 := hid (zDP s w hk hr)
 unfold frn
 obtain ⟨r, hr'⟩ : ∃ r, nchk s = r := ⟨_, rfl⟩
 obtain ⟨q, hq⟩ : ∃ q, kpt s = q := ⟨_, rfl⟩
 rw [hr'] at H1
 rw [hq] at H2
 rw [hr', hq]
 clear hr' hq hk hr
 by_cases h0 : r = 0
 . subst h0
   cases q with
   | true =>
    rw [if_pos ⟨rfl, rfl⟩]
    go_enter Tryz.func85, Tryz.ntmps85
    go_wp2_with (first | (go_at_call 81; refine H1.out.mono ?_; rintro e _ ⟨rfl, rfl⟩) | (go_at_call 54; refine H2.out.mono ?_; rintro e _ ⟨rfl, rfl⟩))
    go_ret
    exact ⟨rfl, rfl⟩
   | false =>
    rw [if_neg (by simp)]
    go_enter Tryz.func85, Tryz.ntmps85
    go_wp2_with (first | (go_at_call 81; refine H1.out.mono ?_; rintro e _ ⟨rfl, rfl⟩) | (go_at_call 54; refine H2.out.mono ?_; rintro e _ ⟨rfl, rfl⟩))
    go_ret
    exact ⟨rfl, rfl⟩
 . rw [if_neg (fun c => h0 c.1)]
   have d1 : (r != 0) = true := by simpa using h0
   clear h0
   go_enter Tryz.func85, Tryz.ntmps85
   go_wp2_with (go_at_call 81; refine H1.out.mono ?_; rintro e _ ⟨rfl, rfl⟩)
   go_ret
   exact ⟨rfl, rfl⟩
def Ints (w : World) (v : Value) (xs : List Int) : Prop := ∃ g cap, v = .slice (some ⟨g, 0, none⟩) xs.length cap ∧ xs.length ≤ cap ∧ (xs.length : Int) ≤ 9223372036854775807 ∧ ∀ k (hk : k < xs.length), w.cell? ⟨g, k, none⟩ = some (.int .i64 xs[k])
theorem Ints.later {w w' : World} {v : Value} {xs : List Int} (h : Ints w v xs) (hb : Below w.heap.size w w') : Ints w' v xs := by
  obtain ⟨g, cap, h1, h2, h3, h4⟩ := h
  exact ⟨g, cap, h1, h2, h3, fun k hk => (hb.cell (p := ⟨g, k, none⟩) (World.block_lt_of_cell? _ _ (h4 k hk))).trans (h4 k hk)⟩
theorem zG9 (xs : List Int) (x : Int) (v : Value) (w : World) (h : Ints w v xs) : Calls Tryz.prog 180 #[v, .int .i64 x] w fun e w' => ∃ r : Int, e = .returned (.int .i64 r) ∧ (0 ≤ r ↔ x ∈ xs) ∧ w' = w := by
 obtain ⟨g, cap, rfl, hc, hmx, hcell⟩ := h
 have HC := hid hcell
 obtain ⟨n, hn⟩ : ∃ n, xs.length = n := ⟨_, rfl⟩
 have HN := hid hn
 rw [hn] at hc hmx ⊢
 clear hcell hn
 go_enter Tryz.func180, Tryz.ntmps180
 go_wp2_with fail
 go_loopg [8] (n + 1) (fun gg i wr => ∃ k : Nat, k ≤ n ∧ gg = n + 1 - k ∧ i = .int .i64 (k : Nat) ∧ (∀ j (hj : j < xs.length), j < k → x ≠ xs[j]) ∧ wr = w)
 case atStart => exact ⟨0, by omega, by omega, rfl, fun j _ h => by omega, rfl⟩
 case round =>
  obtain ⟨k, hk, rfl, rfl, hno, rfl⟩ := hrel
  have HNO := hid hno
  clear hno
  by_cases hlt : k < n
  . have hkc : k < xs.length := by have := HN.out; omega
    have c0 := HC.out k hkc
    obtain ⟨y, hy⟩ : ∃ y, xs[k] = y := ⟨_, rfl⟩
    have HY := hid hy
    rw [hy] at c0
    have i1 : (0 : Int) ≤ (k : Int) := by omega
    have i2 : (k : Int) < (n : Int) := by omega
    clear hy
    by_cases he : x = y
    . subst he
      go_wp2_with fail
      go_ret
      exact ⟨(k : Int), rfl, ⟨fun _ => by rw [← HY.out]; exact List.getElem_mem hkc, fun _ => by omega⟩, rfl⟩
    . have d1 : (x == y) = false := by simpa using he
      have HE := hid he
      clear he
      go_wp2_with fail
      go_roundg (n + 1 - (k + 1))
      case rel =>
       refine ⟨k + 1, by omega, rfl, by go_num, fun j hj hjk => ?_, rfl⟩
       by_cases c : j < k
       . exact HNO.out j hj c
       . obtain rfl : j = k := by omega
         rw [HY.out]
         exact HE.out
      case measure => omega
  . obtain rfl : k = n := by omega
    go_wp2_with fail
    go_ret
    refine ⟨-1, rfl, ⟨fun h => by omega, fun h => ?_⟩, rfl⟩
    obtain ⟨j, hj, e⟩ := List.getElem_of_mem h
    exact absurd e.symm (HNO.out j hj (by have := HN.out; omega))
theorem zD5 (xs : List Int) (x : Int) (v : Value) (w : World) (h : Ints w v xs) (q : Bool) (hq : decide (x ∈ xs) = q) : Calls Tryz.prog 169 #[v, .int .i64 x] w fun e w' => e = .returned (.bool q) ∧ w' = w := by
 have H1 := hid (zG9 xs x v w h)
 obtain ⟨g, cap, rfl, _, _, _⟩ := h
 have HQ := hid hq
 clear hq
 go_enter Tryz.func169, Tryz.ntmps169
 go_wp2_with fail
 refine H1.out.mono ?_
 rintro e _ ⟨r, rfl, hr, rfl⟩
 have HR := hid hr
 clear hr
 cases q with
 | true =>
  have g1 : 0 ≤ r := HR.out.2 (by simpa using HQ.out)
  go_wp2_with fail
  go_ret
  exact ⟨rfl, rfl⟩
 | false =>
  have h2 : ¬ x ∈ xs := by simpa using HQ.out
  have g1 : decide (0 ≤ r) = false := by simp only [decide_eq_false_iff_not]; exact fun c => h2 (HR.out.1 c)
  clear h2
  go_wp2_with fail
  go_ret
  exact ⟨rfl, rfl⟩
def wck (xs : List Int) (w n : Int) : Int := if ¬ w ∈ xs ∨ (w = 0 ∧ n ≠ 0) then 4 else if rbad w n then 2 else 0
theorem zCC (xs : List Int) (va ty : ByteArray) (ck : Int) (p : Option Addr) (m cap : Nat) (l r : Opd) (pw pn : Int) (v : Value) (w : World) (h : Ints w v xs) :
  Calls Tryz.prog 152 #[ptV va ty ck (.slice p m cap) l r pw pn, v] w fun e w' => e = .returned (.int .i64 (wck xs pw pn)) ∧ Below w.heap.size w w' := by
 obtain ⟨q, hq⟩ : ∃ q, decide (pw ∈ xs) = q := ⟨_, rfl⟩
 have HC := hid (fun W (hW : Below w.heap.size w W) => zD5 xs pw v W (h.later hW) q hq)
 have HB : Hid (Below w.heap.size w (w.alloc (.cells (ptC va ty ck (.slice p m cap) l r pw pn).toArray 48))) := (Below.refl _ _).alloc (Nat.le_refl _) _
 obtain ⟨g, vc, rfl, _, _, _⟩ := h
 obtain ⟨W, hW⟩ : ∃ W, wck xs pw pn = W := ⟨_, rfl⟩
 rw [hW]
 have HQ := hid hq
 unfold wck at hW
 have HW := hid hW
 clear hW hq
 cases q with
 | false =>
  have HM : Hid (¬ pw ∈ xs) := by show ¬ _; simpa using HQ.out
  go_enter Tryz.func152, Tryz.ntmps152
  go_wp2_with (go_at_call 169; refine (HC.out _ HB.out).mono ?_; rintro e _ ⟨rfl, rfl⟩)
  go_ret
  exact ⟨zAD (by rw [← HW.out]; rw [if_pos (.inl HM.out)]), HB.out⟩
 | true =>
  have HM : Hid (pw ∈ xs) := by show _ ∈ _; simpa using HQ.out
  rcases (by omega : (pw = 0 ∧ pn ≠ 0) ∨ (pw = 0 ∧ pn = 0) ∨ (pw = 1 ∧ pn < 0) ∨ (pw = 1 ∧ 1073741824 < pn) ∨ (pw = 1 ∧ 0 ≤ pn ∧ pn ≤ 1073741824) ∨ (pw = 2 ∧ pn < 1) ∨ (pw = 2 ∧ 120 < pn) ∨ (pw = 2 ∧ 1 ≤ pn ∧ pn ≤ 120) ∨ (pw ≠ 0 ∧ pw ≠ 1 ∧ pw ≠ 2)) with c | c | c | c | c | c | c | c | c
  . obtain ⟨rfl, c2⟩ := c
    have d2 : (pn != 0) = true := by simpa using c2
    have HX := hid c2
    clear c2
    go_enter Tryz.func152, Tryz.ntmps152
    go_wp2_with (go_at_call 169; refine (HC.out _ HB.out).mono ?_; rintro e _ ⟨rfl, rfl⟩)
    go_ret
    exact ⟨zAD (by rw [← HW.out]; rw [if_pos (.inr ⟨by simp, HX.out⟩)]), HB.out⟩
  . obtain ⟨rfl, rfl⟩ := c
    go_enter Tryz.func152, Tryz.ntmps152
    go_wp2_with (go_at_call 169; refine (HC.out _ HB.out).mono ?_; rintro e _ ⟨rfl, rfl⟩)
    go_ret
    exact ⟨zAD (by rw [← HW.out]; rw [if_neg (fun c => c.elim (fun d => d HM.out) (fun d => d.2 rfl)), if_neg (by unfold rbad; omega)]), HB.out⟩
  . obtain ⟨rfl, c2⟩ := c
    have HX := hid c2
    go_enter Tryz.func152, Tryz.ntmps152
    go_wp2_with (go_at_call 169; refine (HC.out _ HB.out).mono ?_; rintro e _ ⟨rfl, rfl⟩)
    go_ret
    exact ⟨zAD (by rw [← HW.out]; rw [if_neg (fun c => c.elim (fun d => d HM.out) (fun d => absurd d.1 (by decide))), if_pos (by have := HX.out; unfold rbad; omega)]), HB.out⟩
  . obtain ⟨rfl, c2⟩ := c
    have c3 : ¬ pn < 0 := by omega
    have HX := hid c2
    go_enter Tryz.func152, Tryz.ntmps152
    go_wp2_with (go_at_call 169; refine (HC.out _ HB.out).mono ?_; rintro e _ ⟨rfl, rfl⟩)
    go_ret
    exact ⟨zAD (by rw [← HW.out]; rw [if_neg (fun c => c.elim (fun d => d HM.out) (fun d => absurd d.1 (by decide))), if_pos (by have := HX.out; unfold rbad; omega)]), HB.out⟩
  . obtain ⟨rfl, c2, c3⟩ := c
    have c4 : ¬ pn < 0 := by omega
    have c5 : ¬ 1073741824 < pn := by omega
    have HX := hid (And.intro c2 c3)
    go_enter Tryz.func152, Tryz.ntmps152
    go_wp2_with (go_at_call 169; refine (HC.out _ HB.out).mono ?_; rintro e _ ⟨rfl, rfl⟩)
    go_ret
    exact ⟨zAD (by rw [← HW.out]; rw [if_neg (fun c => c.elim (fun d => d HM.out) (fun d => absurd d.1 (by decide))), if_neg (by have := HX.out; unfold rbad; omega)]), HB.out⟩
  . obtain ⟨rfl, c2⟩ := c
    have HX := hid c2
    go_enter Tryz.func152, Tryz.ntmps152
    go_wp2_with (go_at_call 169; refine (HC.out _ HB.out).mono ?_; rintro e _ ⟨rfl, rfl⟩)
    go_ret
    exact ⟨zAD (by rw [← HW.out]; rw [if_neg (fun c => c.elim (fun d => d HM.out) (fun d => absurd d.1 (by decide))), if_pos (by have := HX.out; unfold rbad; omega)]), HB.out⟩
  . obtain ⟨rfl, c2⟩ := c
    have c3 : ¬ pn < 1 := by omega
    have HX := hid c2
    go_enter Tryz.func152, Tryz.ntmps152
    go_wp2_with (go_at_call 169; refine (HC.out _ HB.out).mono ?_; rintro e _ ⟨rfl, rfl⟩)
    go_ret
    exact ⟨zAD (by rw [← HW.out]; rw [if_neg (fun c => c.elim (fun d => d HM.out) (fun d => absurd d.1 (by decide))), if_pos (by have := HX.out; unfold rbad; omega)]), HB.out⟩
  . obtain ⟨rfl, c2, c3⟩ := c
    have c4 : ¬ pn < 1 := by omega
    have c5 : ¬ 120 < pn := by omega
    have HX := hid (And.intro c2 c3)
    go_enter Tryz.func152, Tryz.ntmps152
    go_wp2_with (go_at_call 169; refine (HC.out _ HB.out).mono ?_; rintro e _ ⟨rfl, rfl⟩)
    go_ret
    exact ⟨zAD (by rw [← HW.out]; rw [if_neg (fun c => c.elim (fun d => d HM.out) (fun d => absurd d.1 (by decide))), if_neg (by have := HX.out; unfold rbad; omega)]), HB.out⟩
  . obtain ⟨c0, c1, c2⟩ := c
    have d0 : (pw == 0) = false := by simpa using c0
    have d1 : (pw == 1) = false := by simpa using c1
    have d2 : (pw == 2) = false := by simpa using c2
    have HX := hid (And.intro c0 (And.intro c1 c2))
    clear c0 c1 c2
    go_enter Tryz.func152, Tryz.ntmps152
    go_wp2_with (go_at_call 169; refine (HC.out _ HB.out).mono ?_; rintro e _ ⟨rfl, rfl⟩)
    go_ret
    exact ⟨zAD (by rw [← HW.out]; rw [if_neg (fun c => c.elim (fun d => d HM.out) (fun d => HX.out.1 d.1)), if_neg (by have := HX.out; unfold rbad; omega)]), HB.out⟩
end Go.Proofs.YtnlmknbhppdliaaGreatDoor.Chk
