/-
  Check, by the program. What events a pattern takes, by the program.
-/
import Derived.BigQuiet
import Derived.Test.YtnajcoikcoegoaaDoorDt
import Derived.Test.YtnajcoikcoegoaaDoorRb
import Derived.Test.YtnajcoikcoegoaaDoorXc
namespace Go.Proofs.YtnajcoikcoegoaaDoor.Chk
open Go.ChangeShapes Go.WideShapes Go.ChangeAt Go.RowKit Go.Maps
set_option linter.unusedVariables false
set_option linter.unusedSimpArgs false
set_option maxRecDepth 20000
theorem tks_all : ∀ (l done : List Tp), tks done l = 0 → ∀ t, t ∈ l → tyk t.n t.f = 0
  | [], _, _, t, ht => by cases ht
  | y :: r, done, h, t, ht => by
    rw [tks_step] at h
    split at h
    · rename_i c; exact absurd h c
    · rename_i c
      rcases List.mem_cons.1 ht with rfl | ht
      · have c' : tk1 done t = 0 := Classical.byContradiction c
        unfold tk1 at c'
        split at c'
        · rename_i d; exact absurd c' d
        · rename_i d; exact Classical.byContradiction d
      · exact tks_all r _ h t ht
theorem rks_all {ts : List Tp} : ∀ (l done : List Rl), rks (rck ts) done l = 0 → ∀ x, x ∈ l → rck ts x = 0
  | [], _, _, t, ht => by cases ht
  | y :: r, done, h, t, ht => by
    rw [rks_step] at h
    split at h
    · rename_i c; exact absurd h c
    · rename_i c
      rcases List.mem_cons.1 ht with rfl | ht
      · have c' : rk1 ts done t = 0 := Classical.byContradiction c
        unfold rk1 at c'
        split at c'
        · rename_i d; exact absurd c' d
        · rename_i d; exact Classical.byContradiction d
      · exact rks_all r _ h t ht
theorem rck_ok {ts : List Tp} {x : Rl} (h : rck ts x = 0) : Rok ts x ∧ szs x := by
  have h1 : frn x.n = 0 := by
    refine Classical.byContradiction fun c => ?_
    unfold rck at h
    rw [if_pos c] at h
    exact c h
  have h2 : szs x := by
    refine Classical.byContradiction fun c => ?_
    unfold rck at h
    rw [if_neg (fun d => d h1), if_pos c] at h
    omega
  refine ⟨?_, h2⟩
  rw [rck_parts ts x h1 h2] at h
  split at h
  · rename_i c; exact absurd h c
  · rename_i c1
    split at h
    · rename_i c; exact absurd h c
    · rename_i c2
      split at h
      · rename_i c; exact absurd h c
      · rename_i c3
        split at h
        · rename_i c; exact absurd h c
        · have a1 := wfs_known x.w [] (Classical.byContradiction c1)
          have a2 := nfs_known x.t (x.w.map Pt.va) (Classical.byContradiction c2)
          have a3 := mfs_known x.m (x.w.map Pt.va ++ x.t.map Pt.va) (Classical.byContradiction c3)
          refine ⟨fun p hp => ?_, fun he => ?_⟩
          · rw [List.mem_append, List.mem_append] at hp
            rcases hp with (hp | hp) | hp
            · exact a1 p hp
            · exact a2 p hp
            · obtain ⟨m, hm, rfl⟩ := List.mem_map.1 hp
              exact a3 m hm
          · unfold eck at h
            rw [if_neg (by rw [he]; decide)] at h
            split at h
            · omega
            · rename_i c
              rcases ixq_lt (q := fun t : Tp => seq t.n x.e.ty) ts 0 with d | ⟨j, hj, d, _⟩
              · have d0 : tyq ts x.e.ty = -1 := d
                omega
              · exact ⟨j, hj, by show ixq _ _ _ = _; rw [d]; simp⟩
set_option maxHeartbeats 16000000 in
/-- Check tells what the reference's words tell. -/
theorem check_any (ts : List Tp) (rs : List Rl) (hzz : ∀ r, r ∈ rs → Szr r) (tv rv : Value) (w : World) (hT : Rd w (.row 72 2 (ts.map encY)) tv) (hR : Rd w (.row 55 7 (rs.map encR)) rv) (htk : Tab w 0 kpl) (htr : Tab w 1 rll) :
    Calls Tryd.prog 13 #[.agg #[tv, rv]] w fun e w' => e = .returned (.int .i64 (bok ts rs)) ∧ Below w.heap.size w w' := by
  obtain ⟨tp, tc, rfl, _, _⟩ := rd_row lenY hT
  obtain ⟨rp, rc, rfl, _, _⟩ := rd_row lenR hR
  unfold bok bkf
  by_cases hs : 6 < ts.length ∨ 5 < rs.length
  · rw [if_pos hs]
    clear hT hR htk htr
    generalize ts.length = tn at *
    generalize rs.length = rn at *
    have HB : Hid (Below w.heap.size w (w.alloc (.cells #[.slice tp tn tc, .slice rp rn rc] 58))) := (Below.refl _ _).alloc (Nat.le_refl _) _
    by_cases h1 : 6 < tn
    · have d1 : decide ((tn : Int) > 6) = true := by simp; omega
      have d2 : (6 : Int) < (tn : Int) := by omega
      clear hs
      go_enter Tryd.func13, Tryd.ntmps13
      go_wp2_with fail
      go_ret
      exact ⟨rfl, HB.out⟩
    · have d1 : decide ((tn : Int) > 6) = false := by simp; omega
      have d2 : ¬ (6 : Int) < (tn : Int) := by omega
      have d3 : decide ((rn : Int) > 5) = true := by simp; omega
      have d4 : (5 : Int) < (rn : Int) := by omega
      clear hs
      go_enter Tryd.func13, Tryd.ntmps13
      go_wp2_with fail
      go_ret
      exact ⟨rfl, HB.out⟩
  · rw [if_neg hs]
    have HCT := hid (fun W (hW : Below w.heap.size w W) => checkTypes_any ts _ W (hT.later hW) (tab_later htk hW) (tab_later htr hW) (by omega))
    have HCR := hid (fun (hz : tks [] ts = 0) W (hW : Below w.heap.size w W) => checkRules_any ts (fun i hi => tks_all ts [] hz _ (List.getElem_mem hi)) rs hzz _ _ W (hT.later hW) (hR.later hW) (tab_later htk hW) (tab_later htr hW) (by omega))
    have HIE := hid (fun (hz : tks [] ts = 0) (hr : rks (rck ts) [] rs = 0) (q : Bool) (hq : ts.any (fun t => cmo rs t.n rs.length t.n) = q) W (hW : Below w.heap.size w W) => isEndless_any ts rs (fun x hx => (rck_ok (rks_all rs [] hr x hx)).1) (by omega) (fun x hx => by have h := (rck_ok (rks_all rs [] hr x hx)).2; unfold szs at h; omega) _ _ W (hT.later hW) (hR.later hW) q (by rw [← hq]; exact edl_eq (dst_of hz) (fun x hx => (rck_ok (rks_all rs [] hr x hx)).1) (by omega) (fun i j => edb_iff ts rs i j)))
    obtain ⟨qe, hqe⟩ : ∃ q, ts.any (fun t => cmo rs t.n rs.length t.n) = q := ⟨_, rfl⟩
    rw [hqe]
    have HIE2 := hid (fun hz hr => HIE.out hz hr qe hqe)
    clear HIE hqe hT hR htk htr hzz
    obtain ⟨E1, hE1⟩ : ∃ E, tks [] ts = E := ⟨_, rfl⟩
    obtain ⟨E2, hE2⟩ : ∃ E, rks (rck ts) [] rs = E := ⟨_, rfl⟩
    rw [hE1, hE2]
    rw [hE1] at HCT HCR HIE2
    rw [hE2] at HCR HIE2
    clear hE1 hE2
    obtain ⟨tn, htn⟩ : ∃ n, ts.length = n := ⟨_, rfl⟩
    obtain ⟨rn, hrn⟩ : ∃ n, rs.length = n := ⟨_, rfl⟩
    rw [htn] at HCT HCR HIE2 hs ⊢
    rw [hrn] at HCR HIE2 hs ⊢
    have d1 : decide ((tn : Int) > 6) = false := by simp; omega
    have d2 : ¬ (6 : Int) < (tn : Int) := by omega
    have d3 : decide ((rn : Int) > 5) = false := by simp; omega
    have d4 : ¬ (5 : Int) < (rn : Int) := by omega
    have HT : Hid (BlkT w (w.alloc (.cells [.slice tp tn tc, .slice rp rn rc].toArray 58)) [.slice tp tn tc, .slice rp rn rc] 58) := BlkT.start w _ _
    clear htn hrn hs
    by_cases h1 : E1 = 0
    · have HR0 := hid (HCR.out h1)
      have HI0 := hid (HIE2.out h1)
      clear HCR HIE2
      have HCR := HR0
      rw [if_neg (fun c => c h1)]
      subst h1
      by_cases h2 : E2 = 0
      · have HIE := hid (HI0.out h2)
        rw [if_neg (fun c => c h2)]
        subst h2
        clear HI0 HR0
        cases qe with
        | true =>
          rw [if_pos rfl]
          go_enter Tryd.func13, Tryd.ntmps13
          go_wp2_with fail
          refine (HCT.out _ HT.out.bel).mono ?_
          rintro e w1 ⟨rfl, hb1⟩
          have HT1 : Hid (BlkT w w1 [.slice tp tn tc, .slice rp rn rc] 58) := HT.out.next hb1
          clear hb1
          have c0 : w1.cell? ⟨w.heap.size, 0, none⟩ = some (.slice tp tn tc) := HT1.out.c 0
          have c1 : w1.cell? ⟨w.heap.size, 1, none⟩ = some (.slice rp rn rc) := HT1.out.c 1
          go_wp2_with fail
          refine (HCR.out _ HT1.out.bel).mono ?_
          rintro e w2 ⟨rfl, hb2⟩
          have HT2 : Hid (BlkT w w2 [.slice tp tn tc, .slice rp rn rc] 58) := HT1.out.next hb2
          clear hb2 c0 c1
          have c0 : w2.cell? ⟨w.heap.size, 0, none⟩ = some (.slice tp tn tc) := HT2.out.c 0
          have c1 : w2.cell? ⟨w.heap.size, 1, none⟩ = some (.slice rp rn rc) := HT2.out.c 1
          go_wp2_with fail
          refine (HIE.out _ HT2.out.bel).mono ?_
          rintro e w3 ⟨rfl, hb3⟩
          have HT3 : Hid (BlkT w w3 [.slice tp tn tc, .slice rp rn rc] 58) := HT2.out.next hb3
          clear hb3 c0 c1
          go_wp2_with fail
          go_ret
          exact ⟨rfl, HT3.out.bel⟩
        | false =>
          rw [if_neg (by decide)]
          go_enter Tryd.func13, Tryd.ntmps13
          go_wp2_with fail
          refine (HCT.out _ HT.out.bel).mono ?_
          rintro e w1 ⟨rfl, hb1⟩
          have HT1 : Hid (BlkT w w1 [.slice tp tn tc, .slice rp rn rc] 58) := HT.out.next hb1
          clear hb1
          have c0 : w1.cell? ⟨w.heap.size, 0, none⟩ = some (.slice tp tn tc) := HT1.out.c 0
          have c1 : w1.cell? ⟨w.heap.size, 1, none⟩ = some (.slice rp rn rc) := HT1.out.c 1
          go_wp2_with fail
          refine (HCR.out _ HT1.out.bel).mono ?_
          rintro e w2 ⟨rfl, hb2⟩
          have HT2 : Hid (BlkT w w2 [.slice tp tn tc, .slice rp rn rc] 58) := HT1.out.next hb2
          clear hb2 c0 c1
          have c0 : w2.cell? ⟨w.heap.size, 0, none⟩ = some (.slice tp tn tc) := HT2.out.c 0
          have c1 : w2.cell? ⟨w.heap.size, 1, none⟩ = some (.slice rp rn rc) := HT2.out.c 1
          go_wp2_with fail
          refine (HIE.out _ HT2.out.bel).mono ?_
          rintro e w3 ⟨rfl, hb3⟩
          have HT3 : Hid (BlkT w w3 [.slice tp tn tc, .slice rp rn rc] 58) := HT2.out.next hb3
          clear hb3 c0 c1
          go_wp2_with fail
          go_ret
          exact ⟨rfl, HT3.out.bel⟩
      · rw [if_pos h2]
        have d9 : (E2 != 0) = true := by simpa using h2
        clear h2 HI0 HR0
        go_enter Tryd.func13, Tryd.ntmps13
        go_wp2_with fail
        refine (HCT.out _ HT.out.bel).mono ?_
        rintro e w1 ⟨rfl, hb1⟩
        have HT1 : Hid (BlkT w w1 [.slice tp tn tc, .slice rp rn rc] 58) := HT.out.next hb1
        clear hb1
        have c0 : w1.cell? ⟨w.heap.size, 0, none⟩ = some (.slice tp tn tc) := HT1.out.c 0
        have c1 : w1.cell? ⟨w.heap.size, 1, none⟩ = some (.slice rp rn rc) := HT1.out.c 1
        go_wp2_with fail
        refine (HCR.out _ HT1.out.bel).mono ?_
        rintro e w2 ⟨rfl, hb2⟩
        have HT2 : Hid (BlkT w w2 [.slice tp tn tc, .slice rp rn rc] 58) := HT1.out.next hb2
        clear hb2 c0 c1
        go_wp2_with fail
        go_ret
        exact ⟨rfl, HT2.out.bel⟩
    · rw [if_pos h1]
      have d9 : (E1 != 0) = true := by simpa using h1
      clear h1 HCR HIE2
      go_enter Tryd.func13, Tryd.ntmps13
      go_wp2_with fail
      refine (HCT.out _ HT.out.bel).mono ?_
      rintro e w1 ⟨rfl, hb1⟩
      have HT1 : Hid (BlkT w w1 [.slice tp tn tc, .slice rp rn rc] 58) := HT.out.next hb1
      clear hb1
      go_wp2_with fail
      go_ret
      exact ⟨rfl, HT1.out.bel⟩
theorem name_at {ts : List Tp} {tv : Value} {w : World} (h : Rd w (.row 72 2 (ts.map encY)) tv) {i : Nat} (hi : i < ts.length) : ∃ g off n c, tv = .slice (some ⟨g, off, none⟩) n c ∧ ((i : Nat) : Int) < (n : Int) ∧ ∀ W, Below w.heap.size w W → W.cell? ⟨g, off + i * 2, none⟩ = some (.string ts[i].n) := by
  obtain ⟨p, cap, rfl, _, hat⟩ := rd_row lenY h
  obtain ⟨g, off, rfl, hrd⟩ := hat (by omega)
  refine ⟨g, off, _, _, rfl, by omega, fun W hW => ?_⟩
  obtain ⟨us, r1, o1⟩ := hrd W hW i hi
  obtain ⟨fv, z1, _⟩ := rdY o1
  rw [z1] at r1
  simpa using r1 0 _ rfl
set_option maxHeartbeats 16000000 in
theorem isOf_s (ts : List Tp) (tv : Value) (x : Ev) (u : Value) (A : List Value) (pty : ByteArray) (w : World) (hT : Rd w (.row 72 2 (ts.map encY)) tv) (hus : ∃ p n c, u = .slice p n c) (hA : A[1]? = some (.string pty)) (i : Nat) (hi : i < ts.length) (hx : x.t = (i : Int)) :
    Calls Tryd.prog 24 #[tv, evV x u, .agg A.toArray] w fun e w' => e = .returned (.bool (seq ts[i].n pty)) ∧ Below w.heap.size w w' := by
  obtain ⟨g, off, tn, tc, htv, hlt, hnm⟩ := name_at hT hi
  obtain ⟨up, un, uc, hu⟩ := hus
  subst htv hu
  obtain ⟨xn, xt, xs, xe, xv⟩ := x
  simp only at hx ⊢
  subst hx
  have hB : Bxs w ((w.alloc (.cells #[.int .i64 xn, .int .i64 (i : Nat), .int .i64 xs, .int .i64 xe, .slice up un uc] 40)).alloc (.cells A.toArray 47)) [([.int .i64 xn, .int .i64 (i : Nat), .int .i64 xs, .int .i64 xe, .slice up un uc], 40), (A, 47)] := bxs2 w _ _ _ _
  have t0 := hnm _ hB.bel
  have a1 : ((w.alloc (.cells #[.int .i64 xn, .int .i64 (i : Nat), .int .i64 xs, .int .i64 xe, .slice up un uc] 40)).alloc (.cells A.toArray 47)).cell? ⟨w.heap.size, 1, none⟩ = some (.int .i64 (i : Nat)) := hB.c 0 (by simp) 1
  have a2 : ((w.alloc (.cells #[.int .i64 xn, .int .i64 (i : Nat), .int .i64 xs, .int .i64 xe, .slice up un uc] 40)).alloc (.cells A.toArray 47)).cell? ⟨w.heap.size + 1, 1, none⟩ = some (.string pty) := by rw [hB.c 1 (by simp) 1]; exact hA
  obtain ⟨tnm, htnm⟩ : ∃ n, ts[i].n = n := ⟨_, rfl⟩
  rw [htnm] at t0 ⊢
  have HB := hid hB.bel
  have y1 : (0 : Int) ≤ (i : Int) := by omega
  have y2 : (i : Int) < (tn : Int) := hlt
  unfold seq
  clear hB hT hnm hA htnm hlt hi
  go_enter Tryd.func24, Tryd.ntmps24
  go_wp2_with fail
  go_quiet (fail)
  go_wp2_with fail
  go_ret
  exact ⟨rfl, below_drawn HB.out _⟩
theorem wpList_load_g {P : Program} {ops : Array Oper} {rest : List Oper} {op : Oper} {a : Act} {w : World} {Q : Exit → Act → World → Prop} (hw : Region.wanted op (yielded ops a.tmps) = true) (ty : TypeId) (x : Operand) (ho : op.op = .load ty x)
    (b o : Nat) (hx : a.eval x = .pointer (some ⟨b, o, none⟩)) (cs : List Value) (d : TypeDesc) (hc : w.rangeAt b o cs)
    (hu : P.underlying ty = some d) (hd : d.isRow = true) (hi : (P.info? ty).map (·.size) = some cs.length)
    (h : wpList P ops Q rest (a.put op.dst (.agg cs.toArray)) w) : wpList P ops Q (op :: rest) a w :=
  wpList_step fun K hK => by rw [if_pos hw]; exact wp_load_mid ty x ho b o hx cs d hc hu hd hi (hK _ _ h)
/-- Does a pattern take an event? -/
def tkb (ts : List Tp) (ws : List Pt) (own : Ev) (kn : List Ev) (p : Pt) : Bool := seq (ts.getD own.t.toNat dT).n p.ty && hld ts ws own kn 8 p.c
/-- A pattern that may be. -/
def Pok (ts : List Tp) (ws : List Pt) (p : Pt) : Prop := 0 ≤ tyq ts p.ty ∧ (p.c.k = 0 ∨ (cdk ts ws (ts.getD (tyq ts p.ty).toNat dT) 8 p.c).2 = 0)
theorem pck_pok {ts : List Tp} {kn : List Pt} {ah : List ByteArray} {p : Pt} {part : Int} (h : pck ts kn ah p part = 0) : Pok ts kn p := by
  obtain ⟨i, hi, e⟩ := pck_known h
  refine ⟨by omega, ?_⟩
  unfold pck at h
  split at h
  · rename_i c; exact absurd h c
  · split at h
    · omega
    · split at h
      · omega
      · split at h
        · omega
        · split at h
          · omega
          · split at h
            · rename_i c
              unfold noc at c
              simp only [Bool.and_eq_true, decide_eq_true_eq] at c
              exact .inl c.1.1.1
            · exact .inr h
set_option maxHeartbeats 32000000 in
theorem takes_s (ts : List Tp) (ws : List Pt) (own : Ev) (kn : List Ev) (tv ov wv kv : Value) (hk : Sok ts ws own kn) (hd : Dst ts) (p : Pt) (hp : Pok ts ws p) (hw : Wsz p.c) (A : List Value) (w : World) (hs : Scn w ts ws own kn tv ov wv kv) (hA : RdL w (encP p) A) :
    Calls Tryd.prog 18 #[snV tv own ov wv kv, .agg A.toArray] w fun e w' => e = .returned (.bool (tkb ts ws own kn p)) ∧ Below w.heap.size w w' := by
  obtain ⟨i, hi, e1, m1, m2⟩ := evk_ok hk.ev
  clear m1 m2
  have et : ts.getD own.t.toNat dT = ts[i] := by rw [e1, Int.toNat_natCast]; exact getD_lt hi _
  obtain ⟨vc, z1, o2⟩ := rdP hA
  obtain ⟨CL, hCL⟩ : ∃ CL : List Value, cnC p.c.k vc p.c.l p.c.r = CL := ⟨_, rfl⟩
  have hA1 : A[1]? = some (.string p.ty) := by rw [z1]; rfl
  have hAC : ∃ B, A = [.string p.va, .string p.ty] ++ (CL ++ B) := ⟨[.int .i64 p.w, .int .i64 p.n], by rw [z1, ← hCL]; rfl⟩
  have hAz : A.length = 18 := hA.1.symm
  have hCz : CL.length = 14 := by rw [← hCL]; rfl
  have hIO := fun W (hW : Below w.heap.size w W) => isOf_s ts tv own ov A p.ty W (hs.later hW).rt (rd_shape hs.ro) hA1 i hi e1
  have hHO : seq ts[i].n p.ty = true → ∀ W, Below w.heap.size w W → Calls Tryd.prog 25 #[snV tv own ov wv kv, .agg CL.toArray] W fun e w' => e = .returned (.bool (hld ts ws own kn 8 p.c)) ∧ Below W.heap.size W w' := fun hq W hW => by
    rw [← hCL]
    rcases hp.2 with h0 | h0
    · have e : hld ts ws own kn 8 p.c = true := by rw [hld, if_pos h0]
      rw [e]
      exact holds_zero ts ws own kn tv ov wv kv p.c vc W (hs.later hW) (o2.later hW) h0
    · have e2 : tyq ts p.ty = (i : Int) := by rw [← tyq_congr hq]; exact hd i hi
      refine holds_all ts ws own kn tv ov wv kv hk 8 p.c vc W (hs.later hW) (o2.later hW) hw ?_
      rw [e2, Int.toNat_natCast, getD_lt hi] at h0
      rw [et]
      exact h0
  unfold tkb
  rw [et]
  obtain ⟨q1, hq1⟩ : ∃ q, seq ts[i].n p.ty = q := ⟨_, rfl⟩
  obtain ⟨q2, hq2⟩ : ∃ q, hld ts ws own kn 8 p.c = q := ⟨_, rfl⟩
  rw [hq1] at hIO hHO ⊢
  rw [hq2] at hHO ⊢
  clear hk hd hp hw hA z1 o2 hCL hA1 hi e1 et hq1 hq2
  obtain ⟨B, hAB⟩ := hAC
  obtain ⟨tp, tn, tc, htv⟩ := rd_shape hs.rt
  obtain ⟨op, on2, oc, hov⟩ := rd_shape hs.ro
  obtain ⟨wp, wn, wc, hwv⟩ := rd_shape hs.rw
  obtain ⟨kp, kn2, kc, hkv⟩ := rd_shape hs.rk
  subst htv hov hwv hkv
  obtain ⟨on, ot, ost, oen, ovl⟩ := own
  simp only [snV, evV] at hIO hHO ⊢
  obtain ⟨UL, hUL⟩ : ∃ UL : List Value, [.slice tp tn tc, .int .i64 on, .int .i64 ot, .int .i64 ost, .int .i64 oen, .slice op on2 oc, .slice wp wn wc, .slice kp kn2 kc] = UL := ⟨_, rfl⟩
  obtain ⟨XL, hXL⟩ : ∃ XL : List Value, ([.int .i64 on, .int .i64 ot, .int .i64 ost, .int .i64 oen, .slice op on2 oc] : List Value) = XL := ⟨_, rfl⟩
  have hB : Bxs w (((w.alloc (.cells UL.toArray 80)).alloc (.cells A.toArray 47))) [(UL, 80), (A, 47)] := bxs2 w _ _ _ _
  have HIO : Hid (∀ W, Below w.heap.size w W → Calls Tryd.prog 24 #[.slice tp tn tc, .agg XL.toArray, .agg A.toArray] W fun e w' => e = .returned (.bool q1) ∧ Below W.heap.size W w') := fun W hW => by rw [← hXL]; exact hIO W hW
  have HHO : Hid (q1 = true → ∀ W, Below w.heap.size w W → Calls Tryd.prog 25 #[.agg UL.toArray, .agg CL.toArray] W fun e w' => e = .returned (.bool q2) ∧ Below W.heap.size W w') := fun hq W hW => by rw [← hUL]; exact hHO hq W hW
  have ZU : Hid ((Tryd.prog.info? 80).map (·.size) = some UL.length) := by show _ = _; rw [← hUL]; kernel_rfl
  have ZX : Hid ((Tryd.prog.info? 40).map (·.size) = some XL.length) := by show _ = _; rw [← hXL]; kernel_rfl
  have ZP : Hid ((Tryd.prog.info? 47).map (·.size) = some A.length) := by show _ = _; rw [hAz]; kernel_rfl
  have ZC : Hid ((Tryd.prog.info? 33).map (·.size) = some CL.length) := by show _ = _; rw [hCz]; kernel_rfl
  have hUX : UL = [.slice tp tn tc] ++ (XL ++ [.slice wp wn wc, .slice kp kn2 kc]) := by rw [← hUL, ← hXL]; rfl
  have cT : ((w.alloc (.cells UL.toArray 80)).alloc (.cells A.toArray 47)).cell? ⟨w.heap.size, 0, none⟩ = some (.slice tp tn tc) := by rw [show w.heap.size = w.heap.size + 0 from rfl, hB.c 0 (by simp) 0, ← hUL]; rfl
  have XE : Hid ((((w.alloc (.cells UL.toArray 80)).alloc (.cells A.toArray 47))).rangeAt w.heap.size 1 XL) := by
    have h := range_in (A := UL) (t := 80) (hB.b 0 (by simp)) (C := [Value.slice tp tn tc]) (B := XL ++ [Value.slice wp wn wc, Value.slice kp kn2 kc]) hUX rfl 5
    have e : (XL ++ [Value.slice wp wn wc, Value.slice kp kn2 kc]).take 5 = XL := by rw [← hXL]; rfl
    rw [e] at h
    exact h
  have XP := hid (hB.r 1 (by simp))
  have HXC : Hid (∀ W, Bxs w W [(UL, 80), (A, 47)] → W.rangeAt (w.heap.size + 1) 2 CL) := fun W h => by
    have h := range_in (A := A) (t := 47) (h.b 1 (by simp)) (C := [Value.string p.va, Value.string p.ty]) (B := CL ++ B) hAB rfl 14
    have e : (CL ++ B).take 14 = CL := by rw [List.take_append_of_le_length (by omega), List.take_of_length_le (by omega)]
    rw [e] at h
    exact h
  have hsv : (Value.agg #[.slice tp tn tc, .int .i64 on, .int .i64 ot, .int .i64 ost, .int .i64 oen, .slice op on2 oc, .slice wp wn wc, .slice kp kn2 kc]) = .agg UL.toArray := by rw [← hUL]
  rw [hsv]
  have HB := hid hB
  clear hB hs hIO hHO hUL hXL hAB hAz hCz hUX hsv
  cases q1 with
  | true =>
    have HH2 := hid (HHO.out rfl)
    go_enter Tryd.func18, Tryd.ntmps18
    go_wp2_with (first
      | ((with_reducible show wpList _ _ _ (Oper.mk _ (.load _ _) _ _ _ _ :: _) _ _); refine wpList_load_mid (by rfl) 40 _ (by rfl) w.heap.size 1 (by rfl) XL _ XE.out Tryd.underlying40 rfl ZX.out ?_)
      | ((with_reducible show wpList _ _ _ (Oper.mk _ (.load _ _) _ _ _ _ :: _) _ _); refine wpList_load_mid (by rfl) 47 _ (by rfl) (w.heap.size + 1) 0 (by rfl) A _ XP.out Tryd.underlying47 rfl ZP.out ?_))
    refine (HIO.out _ HB.out.bel).mono ?_
    rintro e w1 ⟨rfl, hb1⟩
    have HB1 := hid (HB.out.next hb1)
    clear hb1 cT XE XP
    have XS := hid (HB1.out.r 0 (by simp))
    have XC := hid (HXC.out _ HB1.out)
    go_wp2_with (first
      | ((with_reducible show wpList _ _ _ (Oper.mk _ (.load _ _) _ _ _ _ :: _) _ _); refine wpList_load_g (by rfl) 80 _ (by rfl) w.heap.size 0 (by rfl) UL _ XS.out Tryd.underlying80 rfl ZU.out ?_)
      | ((with_reducible show wpList _ _ _ (Oper.mk _ (.load _ _) _ _ _ _ :: _) _ _); refine wpList_load_g (by rfl) 33 _ (by rfl) (w.heap.size + 1) 2 (by rfl) CL _ XC.out Tryd.underlying33 rfl ZC.out ?_))
    refine (HH2.out _ HB1.out.bel).mono ?_
    rintro e w2 ⟨rfl, hb2⟩
    have HB2 := hid (HB1.out.next hb2)
    clear hb2
    go_wp2_with fail
    go_ret
    exact ⟨ret_bool (by simp), HB2.out.bel⟩
  | false =>
    go_enter Tryd.func18, Tryd.ntmps18
    go_wp2_with (first
      | ((with_reducible show wpList _ _ _ (Oper.mk _ (.load _ _) _ _ _ _ :: _) _ _); refine wpList_load_mid (by rfl) 40 _ (by rfl) w.heap.size 1 (by rfl) XL _ XE.out Tryd.underlying40 rfl ZX.out ?_)
      | ((with_reducible show wpList _ _ _ (Oper.mk _ (.load _ _) _ _ _ _ :: _) _ _); refine wpList_load_mid (by rfl) 47 _ (by rfl) (w.heap.size + 1) 0 (by rfl) A _ XP.out Tryd.underlying47 rfl ZP.out ?_))
    refine (HIO.out _ HB.out.bel).mono ?_
    rintro e w1 ⟨rfl, hb1⟩
    have HB1 := hid (HB.out.next hb1)
    clear hb1
    go_wp2_with fail
    go_ret
    exact ⟨ret_bool (by simp), HB1.out.bel⟩
/-- What is wrong with events, one by one. -/
def efs (ts : List Tp) : List Ev → Int
  | [] => 0
  | x :: r => if evk ts x ≠ 0 then evk ts x else efs ts r
theorem efs_all {ts : List Tp} : ∀ (l : List Ev), efs ts l = 0 → ∀ x, x ∈ l → evk ts x = 0
  | [], _, x, hx => by cases hx
  | y :: r, h, x, hx => by
    rw [efs] at h
    split at h
    · rename_i c; exact absurd h c
    · rename_i c
      rcases List.mem_cons.1 hx with rfl | hx
      · exact Classical.byContradiction c
      · exact efs_all r h x hx
set_option maxHeartbeats 16000000 in
theorem checkEvents_s (ts : List Tp) (x : Ev) (kn : List Ev) (tv u kv : Value) (w : World) (hT : Rd w (.row 72 2 (ts.map encY)) tv) (hu : Rd w (.row 29 3 (x.v.map encV)) u) (hK : Rd w (.row 40 5 (kn.map encX)) kv) :
    Calls Tryd.prog 15 #[tv, evV x u, kv] w fun e w' => e = .returned (.int .i64 (if evk ts x ≠ 0 then evk ts x else efs ts kn)) ∧ Below w.heap.size w w' := by
  have hC := fun W (hW : Below w.heap.size w W) => checkEvent_p ts x tv u W (hT.later hW) (hu.later hW)
  have hCk := fun (y : Ev) (yv : Value) W (hW : Below w.heap.size w W) (hy : Rd W (.row 29 3 (y.v.map encV)) yv) => checkEvent_p ts y tv yv W (hT.later hW) hy
  obtain ⟨E0, hE0⟩ : ∃ E, evk ts x = E := ⟨_, rfl⟩
  rw [hE0] at hC ⊢
  obtain ⟨tp, tn, tc, rfl⟩ := rd_shape hT
  obtain ⟨up, un, uc, rfl⟩ := rd_shape hu
  have HK := hid hK
  obtain ⟨kp, kc, rfl, hmx, _⟩ := rd_row lenX hK
  obtain ⟨n, hnl⟩ : ∃ n, kn.length = n := ⟨_, rfl⟩
  have HN := hid hnl
  rw [hnl] at hmx HK ⊢
  obtain ⟨R, hRR⟩ : ∃ R, efs ts kn = R := ⟨_, rfl⟩
  have HR := hid hRR
  rw [hRR]
  obtain ⟨xn, xt, xs, xe, xv⟩ := x
  simp only [evV] at hC ⊢
  have hB : BlkT w (w.alloc (.cells #[.int .i64 xn, .int .i64 xt, .int .i64 xs, .int .i64 xe, .slice up un uc] 40)) [.int .i64 xn, .int .i64 xt, .int .i64 xs, .int .i64 xe, .slice up un uc] 40 := BlkT.start w _ _
  have HC := hid hC
  have HCK := hid hCk
  have HB := hid hB
  have XR := hid (range_blk hB.b1)
  clear hT hu hK hE0 hnl hRR hC hCk hB
  by_cases hz : E0 = 0
  · rw [if_neg (fun c => c hz)]
    subst hz
    go_enter Tryd.func15, Tryd.ntmps15
    go_wp2_with ((with_reducible show wpList _ _ _ (Oper.mk _ (.load _ _) _ _ _ _ :: _) _ _); refine wpList_load_mid (by rfl) 40 _ (by rfl) w.heap.size 0 (by rfl) [.int .i64 xn, .int .i64 xt, .int .i64 xs, .int .i64 xe, .slice up un uc] _ XR.out Tryd.underlying40 rfl (by kernel_rfl) ?_)
    refine (HC.out _ HB.out.bel).mono ?_
    rintro e w0 ⟨rfl, hb0⟩
    have HB0 := hid (HB.out.next hb0).bel
    clear hb0 XR HB
    go_wp2_with fail
    go_loopg [19] (n + 1) (fun gg i wr => ∃ k : Nat, k ≤ n ∧ gg = n + 1 - k ∧ i = .int .i64 (k : Nat) ∧ efs ts (kn.drop k) = R ∧ Below w.heap.size w wr)
    case atStart => exact ⟨0, by omega, by omega, rfl, by simpa using HR.out, HB0.out⟩
    case round =>
      obtain ⟨k, hk, rfl, rfl, hev, hB⟩ := hrel
      have HB := hid hB
      by_cases hlt : k < n
      · have hkc : k < kn.length := by have := HN.out; omega
        obtain ⟨p', cap', e0, _, hat⟩ := rd_row lenX (HK.out.later hB)
        simp only [Value.slice.injEq] at e0
        obtain ⟨e01, hx0, e02⟩ := e0
        obtain ⟨g, off, e03, hrd⟩ := hat (by omega)
        obtain ⟨A, r1, o1⟩ := hrd wr (Below.refl _ _) k hkc
        obtain ⟨yv, z1, o2⟩ := rdX o1
        obtain ⟨a1, a2, a3, hu1⟩ := rd_shape o2
        obtain rfl : kp = some ⟨g, off, none⟩ := e01.trans e03
        have hAz : A.length = 5 := o1.1.symm
        rw [List.drop_eq_getElem_cons hkc, efs] at hev
        have hcall := fun W (hW : Below wr.heap.size wr W) => HCK.out kn[k] yv W (below_trans hB hW hB.size) (o2.later hW)
        obtain ⟨e9, he9⟩ : ∃ e9, evk ts kn[k] = e9 := ⟨_, rfl⟩
        rw [he9] at hcall hev
        have HCM : Hid (∀ W, Below wr.heap.size wr W → Calls Tryd.prog 23 #[.slice tp tn tc, .agg A.toArray] W fun e w' => e = .returned (.int .i64 e9) ∧ Below W.heap.size W w') := fun W hW => by rw [z1]; exact hcall W hW
        have HAO : Hid (A.all (·.oneCell') = true) := by show _ = _; rw [z1, hu1]; rfl
        have ZA : Hid ((Tryd.prog.info? 40).map (·.size) = some A.length) := by show _ = _; rw [hAz]; kernel_rfl
        have HAL := hid hAz
        have X1_ := hid r1
        have HEV := hid hev
        have i1 : (0 : Int) ≤ (k : Int) := by omega
        have i2 : (k : Int) < (n : Int) := by omega
        clear hB hat hrd r1 o1 hAz hev hx0 hcall he9 z1 hu1 o2 e01 e02 e03
        go_wp2_with (first
          | ((with_reducible show wpList _ _ _ (Oper.mk _ (.load _ _) _ _ _ _ :: _) _ _); refine wpList_load_mid (by rfl) 40 _ (by rfl) g (off + k * 5) (by rfl) A _ X1_.out Tryd.underlying40 rfl ZA.out ?_)
          | ((with_reducible show wpList _ _ _ (Oper.mk _ (.store _ _ _) _ _ _ _ :: _) _ _); refine wp_st (by rfl) 40 _ _ (by rfl) wr.heap.size 0 _ 40 (.agg A.toArray) A (by rfl) (by rfl) (by rfl) (heap_alloc_new _ _) (by have := HAL.out; simp; omega) ZA.out HAO.out ?_; intro w1 hblk hfr; rw [ovr_all (by rw [HAL.out]; rfl)] at hblk; have XB : Hid (w1.rangeAt wr.heap.size 0 A) := range_blk hblk; have HBK := hid hblk; have HBW : Hid (Below wr.heap.size wr w1) := new_store hfr; clear hblk hfr)
          | ((with_reducible show wpList _ _ _ (Oper.mk _ (.load _ _) _ _ _ _ :: _) _ _); refine wpList_load_mid (by rfl) 40 _ (by rfl) wr.heap.size 0 (by rfl) A _ XB.out Tryd.underlying40 rfl ZA.out ?_))
        refine (HCM.out _ HBW.out).mono ?_
        rintro e w2 ⟨rfl, hb2⟩
        have HB2 := hid (below_trans HB.out (below_trans HBW.out hb2 HBW.out.size) HB.out.size)
        clear hb2
        by_cases hz : e9 = 0
        · have HE2 := HEV.out
          rw [if_neg (fun c => c hz)] at HE2
          have HE3 := hid HE2
          subst hz
          clear HE2
          go_wp2_with fail
          go_roundg (n + 1 - (k + 1))
          case rel => exact ⟨k + 1, by omega, rfl, by go_num, HE3.out, HB2.out⟩
          case measure => omega
        · have HE2 : Hid (R = e9) := by have h := HEV.out; rw [if_pos hz] at h; exact h.symm
          have d9 : (e9 != 0) = true := by simpa using hz
          clear hz
          go_wp2_with fail
          go_ret
          exact ⟨ret_int HE2.out.symm, HB2.out⟩
      · obtain rfl : k = n := by omega
        have hd : kn.drop k = [] := List.drop_of_length_le (by have := HN.out; omega)
        rw [hd, efs] at hev
        have HE2 : Hid (R = 0) := hev.symm
        clear hev hd hB
        go_wp2_with fail
        go_ret
        exact ⟨ret_int HE2.out.symm, HB.out⟩
  · rw [if_pos hz]
    have d9 : (E0 != 0) = true := by simpa using hz
    clear hz
    go_enter Tryd.func15, Tryd.ntmps15
    go_wp2_with ((with_reducible show wpList _ _ _ (Oper.mk _ (.load _ _) _ _ _ _ :: _) _ _); refine wpList_load_mid (by rfl) 40 _ (by rfl) w.heap.size 0 (by rfl) [.int .i64 xn, .int .i64 xt, .int .i64 xs, .int .i64 xe, .slice up un uc] _ XR.out Tryd.underlying40 rfl (by kernel_rfl) ?_)
    refine (HC.out _ HB.out.bel).mono ?_
    rintro e w0 ⟨rfl, hb0⟩
    have HB0 := hid (HB.out.next hb0).bel
    clear hb0
    go_wp2_with fail
    go_ret
    exact ⟨rfl, HB0.out⟩
/-- Are events of their whens' types? -/
def kfs (ts : List Tp) : List Ev → List Pt → Int
  | x :: r, p :: q => if seq (ts.getD x.t.toNat dT).n p.ty = true then kfs ts r q else 13
  | _, _ => 0
def knk (ts : List Tp) (ws : List Pt) (kn : List Ev) : Int := if kn.length ≠ ws.length then 4 else kfs ts kn ws
theorem kfs_ok {ts : List Tp} (hd : Dst ts) : ∀ (kn : List Ev) (ws : List Pt), kfs ts kn ws = 0 → (∀ x, x ∈ kn → evk ts x = 0) → ∀ j (hj : j < kn.length) (hw : j < ws.length), evk ts kn[j] = 0 ∧ tyq ts ws[j].ty = kn[j].t
  | [], _, _, _, j, hj, _ => by simp at hj
  | _ :: _, [], _, _, j, _, hw => by simp at hw
  | x :: r, p :: q, h, hk, j, hj, hw => by
    rw [kfs] at h
    split at h
    · rename_i c
      cases j with
      | zero =>
        have he := hk x (List.mem_cons_self ..)
        obtain ⟨i, hi, e1, _, _⟩ := evk_ok he
        rw [e1, Int.toNat_natCast, getD_lt hi] at c
        exact ⟨he, by show tyq ts p.ty = x.t; rw [e1, ← tyq_congr c]; exact hd i hi⟩
      | succ j => exact kfs_ok hd r q h (fun y hy => hk y (List.mem_cons_of_mem _ hy)) j (by simpa using hj) (by simpa using hw)
    · omega
theorem knk_ok {ts : List Tp} {ws : List Pt} {kn : List Ev} (hd : Dst ts) (h : knk ts ws kn = 0) (hk : ∀ x, x ∈ kn → evk ts x = 0) : Kok ts ws kn := by
  unfold knk at h
  split at h
  · omega
  · rename_i c
    exact ⟨Classical.byContradiction c, kfs_ok hd kn ws h hk⟩
theorem ent_isof : ∀ args w, (callFunc 24 args).run Tryd.prog w = .ok (.enter 24 args) w := enters_of Tryd.func24 (by kernel_rfl) rfl
set_option maxHeartbeats 32000000 in
theorem checkKnown_s (ts : List Tp) (ws : List Pt) (kn : List Ev) (tv wv kv : Value) (hev : ∀ x, x ∈ kn → evk ts x = 0) (w : World) (hrt : Rd w (.row 72 2 (ts.map encY)) tv) (hrw : Rd w (.row 47 18 (ws.map encP)) wv) (hrk : Rd w (.row 40 5 (kn.map encX)) kv) :
    Calls Tryd.prog 17 #[tv, wv, kv] w fun e w' => e = .returned (.int .i64 (knk ts ws kn)) ∧ Below w.heap.size w w' := by
  obtain ⟨tp, tn, tc, htv⟩ := rd_shape hrt
  obtain ⟨wp, wc, hwv, hmw, hatw⟩ := rd_row lenP hrw
  obtain ⟨kp, kc, hkv, hmk, hatk⟩ := rd_row lenX hrk
  have HIS := hid (fun (x : Ev) (u : Value) (B : List Value) (pty : ByteArray) W (hW : Below w.heap.size w W) hus hA i hi hx => isOf_s ts tv x u B pty W (hrt.later hW) hus hA i hi hx)
  have HEV := hid hev
  subst htv hwv hkv
  unfold knk
  obtain ⟨n, hn⟩ : ∃ n, kn.length = n := ⟨_, rfl⟩
  obtain ⟨m, hm⟩ : ∃ m, ws.length = m := ⟨_, rfl⟩
  have HN := hid hn
  have HM := hid hm
  have HAW : Hid (At encP 18 w wp ws) := hatw
  have HAK : Hid (At encX 5 w kp kn) := hatk
  rw [hn, hm]
  rw [hn] at hmk
  rw [hm] at hmw
  by_cases hne : n = m
  · rw [if_neg (fun c => c hne)]
    subst hne
    obtain ⟨R, hRR⟩ : ∃ R, kfs ts kn ws = R := ⟨_, rfl⟩
    have HR := hid hRR
    rw [hRR]
    clear hrt hrw hrk hev hatw hatk hn hm hRR
    go_enter Tryd.func17, Tryd.ntmps17
    go_wp2_with fail
    go_loopg [16] (n + 1) (fun gg i wr => ∃ k : Nat, k ≤ n ∧ gg = n + 1 - k ∧ i = .int .i64 (k : Nat) ∧ kfs ts (kn.drop k) (ws.drop k) = R ∧ Below w.heap.size w wr)
    case atStart => exact ⟨0, by omega, by omega, rfl, by simpa using HR.out, Below.refl _ _⟩
    case round =>
      obtain ⟨k, hk, rfl, rfl, hkf, hT⟩ := hrel
      have HT := hid hT
      by_cases hlt : k < n
      · have hkc : k < kn.length := by have := HN.out; omega
        have hwc : k < ws.length := by have := HM.out; omega
        obtain ⟨g, off, e03, hrd⟩ := HAK.out (by omega)
        obtain ⟨A, r1, o1⟩ := hrd wr hT k hkc
        obtain ⟨yv, z1, o2⟩ := rdX o1
        obtain ⟨a1, a2, a3, hu1⟩ := rd_shape o2
        obtain ⟨g2, off2, e13, hrd2⟩ := HAW.out (by omega)
        obtain ⟨A2, r2, o3⟩ := hrd2 w (Below.refl _ _) k hwc
        obtain ⟨vc, z2, _⟩ := rdP o3
        subst e03 e13
        have hAz : A.length = 5 := o1.1.symm
        have hAz2 : A2.length = 18 := o3.1.symm
        obtain ⟨i, hi, ei, m1, m2⟩ := evk_ok (HEV.out _ (List.getElem_mem hkc))
        clear m1 m2
        have et : ts.getD kn[k].t.toNat dT = ts[i] := by rw [ei, Int.toNat_natCast]; exact getD_lt hi _
        rw [List.drop_eq_getElem_cons hkc, List.drop_eq_getElem_cons hwc, kfs, et] at hkf
        have hcall := fun W (hW : Below w.heap.size w W) => HIS.out kn[k] yv A2 ws[k].ty W hW ⟨_, _, _, hu1⟩ (by rw [z2]; rfl) i hi ei
        obtain ⟨q9, hq9⟩ : ∃ q, seq ts[i].n ws[k].ty = q := ⟨_, rfl⟩
        rw [hq9] at hcall hkf
        have HI1 : Hid (∀ W, Below w.heap.size w W → Calls Tryd.prog 24 #[.slice tp tn tc, .agg A.toArray, .agg A2.toArray] W fun e w' => e = .returned (.bool q9) ∧ Below W.heap.size W w') := fun W hW => by rw [z1]; exact hcall W hW
        have HAO : Hid (A.all (·.oneCell') = true) := by show _ = _; rw [z1, hu1]; rfl
        have ZA : Hid ((Tryd.prog.info? 40).map (·.size) = some A.length) := by show _ = _; rw [hAz]; kernel_rfl
        have ZA2 : Hid ((Tryd.prog.info? 47).map (·.size) = some A2.length) := by show _ = _; rw [hAz2]; kernel_rfl
        have HAL := hid hAz
        have X1_ := hid r1
        have X2_ := hid r2
        have HKF := hid hkf
        have i1 : (0 : Int) ≤ (k : Int) := by omega
        have i2 : (k : Int) < (n : Int) := by omega
        clear hT hrd hrd2 r1 r2 o1 o3 hAz hAz2 hkf hcall hq9 z1 z2 hu1 o2 et ei hi
        go_wp2_with (first
          | ((with_reducible show wpList _ _ _ (Oper.mk _ (.load _ _) _ _ _ _ :: _) _ _); refine wpList_load_mid (by rfl) 40 _ (by rfl) g (off + k * 5) (by rfl) A _ X1_.out Tryd.underlying40 rfl ZA.out ?_)
          | ((with_reducible show wpList _ _ _ (Oper.mk _ (.store _ _ _) _ _ _ _ :: _) _ _); refine wp_st (by rfl) 40 _ _ (by rfl) wr.heap.size 0 _ 40 (.agg A.toArray) A (by rfl) (by rfl) (by rfl) (heap_alloc_new _ _) (by have := HAL.out; simp; omega) ZA.out HAO.out ?_; intro w1 hblk hfr; rw [ovr_all (by rw [HAL.out]; rfl)] at hblk; have XB : Hid (w1.rangeAt wr.heap.size 0 A) := range_blk hblk; have HBK := hid hblk; have HBW : Hid (Below wr.heap.size wr w1) := new_store hfr; clear hblk hfr))
        have HT1 := hid (below_trans HT.out HBW.out HT.out.size)
        have HIO := hid (fun W (hW : Below w1.heap.size w1 W) => HI1.out W (below_trans HT1.out hW HT1.out.size))
        have HS6 : Hid (∀ W, Below w1.heap.size w1 W → (W.rangeAt wr.heap.size 0 A ∧ W.rangeAt g2 (off2 + k * 18) A2)) := fun W hW => ⟨range_below XB.out hW, range_below X2_.out (below_trans HT1.out hW HT1.out.size)⟩
        refine start_n (S := (fun w' => w'.rangeAt wr.heap.size 0 A ∧ w'.rangeAt g2 (off2 + k * 18) A2)) 8 #[false, false, false, false, false, false, false, false] rfl rfl (by kernel_rfl) (HS6.out _ (Below.drew (Below.refl _ _))) (fun hHeld => ?_)
        refine take_mk (i := 0) (v := ?v1) rfl (by kernel_rfl) (by kernel_rfl) (by kernel_rfl) (fun _ _ _ h => h) (Or.inl ⟨by rfl, ?hy1⟩) (by assumption) ?rest1
        case hy1 => (intro w0 hSw; (try dsimp only at hSw); go_simp <;> (try (with_reducible rfl)))
        (try simp only [Act.put, List.setIfInBounds_toArray, List.set_cons_zero, List.set_cons_succ])
        refine take_mk (i := 2) (v := ?v2) rfl (by kernel_rfl) (by kernel_rfl) (by kernel_rfl) (fun _ _ _ h => h) (Or.inl ⟨by rfl, ?hy2⟩) (by assumption) ?rest2
        case hy2 => (intro w0 hSw; (try dsimp only at hSw); go_simp <;> (try (with_reducible rfl)))
        (try simp only [Act.put, List.setIfInBounds_toArray, List.set_cons_zero, List.set_cons_succ])
        refine take_mk (i := 3) (v := ?v3) rfl (by kernel_rfl) (by kernel_rfl) (by kernel_rfl) (fun _ _ _ h => h) (Or.inl ⟨by rfl, ?hy3⟩) (by assumption) ?rest3
        case hy3 => (intro w0 hSw; (try dsimp only at hSw); go_simp <;> (try (with_reducible rfl)))
        (try simp only [Act.put, List.setIfInBounds_toArray, List.set_cons_zero, List.set_cons_succ])
        refine take_mk (i := 4) (v := ?v4) rfl (by kernel_rfl) (by kernel_rfl) (by kernel_rfl) (fun _ _ _ h => h) (Or.inl ⟨by rfl, ?hy4⟩) (by assumption) ?rest4
        case hy4 => (intro w0 hSw; (try dsimp only at hSw); go_simp <;> (try (with_reducible rfl)))
        (try simp only [Act.put, List.setIfInBounds_toArray, List.set_cons_zero, List.set_cons_succ])
        refine take_mk (i := 1) rfl (by kernel_rfl) (by kernel_rfl) (by kernel_rfl) (fun _ _ _ h => h) (yieldsIf_load_mid (by rfl) 40 _ rfl wr.heap.size (0) (by rfl) A _ (fun _ h => h.1) Tryd.underlying40 rfl ZA.out) (by assumption) ?_
        (try simp only [Act.put, List.setIfInBounds_toArray, List.set_cons_zero, List.set_cons_succ])
        refine take_mk (i := 5) rfl (by kernel_rfl) (by kernel_rfl) (by kernel_rfl) (fun _ _ _ h => h) (yieldsIf_load_mid (by rfl) 47 _ rfl g2 (off2 + k * 18) (by rfl) A2 _ (fun _ h => h.2) Tryd.underlying47 rfl ZA2.out) (by assumption) ?_
        (try simp only [Act.put, List.setIfInBounds_toArray, List.set_cons_zero, List.set_cons_succ])
        refine wpAnyH_ready (rs := [6]) (by kernel_rfl) (by simp) ?_
        refine cons_mk rfl (fun K hK => ?_) AllReadyH.nil
        refine step_call3 24 ent_isof (by rfl) _ _ _ _ (by rfl) (.slice tp tn tc) (.agg A.toArray) (.agg A2.toArray) (by rfl) (by rfl) (by rfl) _ (HIO.out _ (Below.drew (Below.refl _ _))) ?_
        rintro e w3 ⟨rfl, hb3⟩
        refine ⟨_, rfl, ?_⟩
        have HB3 : Hid (Below w1.heap.size w1 w3) := below_trans (Below.drew (Below.refl _ _)) hb3 (Nat.le_refl _)
        clear hb3
        refine hK.out _ _ (HS6.out _ HB3.out) (fun hHeld => ?_)
        clear hK K
        (try simp only [Act.put, List.setIfInBounds_toArray, List.set_cons_zero, List.set_cons_succ])
        refine take_mk (i := 7) (v := ?v5) rfl (by kernel_rfl) (by kernel_rfl) (by kernel_rfl) (fun _ _ _ h => h) (Or.inl ⟨by rfl, ?hy5⟩) (by assumption) ?rest5
        case hy5 => (intro w0 hSw; (try dsimp only at hSw); go_simp <;> (try (with_reducible rfl)))
        (try simp only [Act.put, List.setIfInBounds_toArray, List.set_cons_zero, List.set_cons_succ])
        refine wpAnyH_done (by kernel_rfl) ?_ _
        have HT3 := hid (below_trans HT1.out HB3.out HT1.out.size)
        clear HS6 HIO HI1 HT1
        cases q9 with
        | true =>
          have HE3 : Hid (kfs ts (kn.drop (k + 1)) (ws.drop (k + 1)) = R) := by have h := HKF.out; rw [if_pos rfl] at h; exact h
          go_wp2_with fail
          go_roundg (n + 1 - (k + 1))
          case rel => exact ⟨k + 1, by omega, rfl, by go_num, HE3.out, HT3.out⟩
          case measure => omega
        | false =>
          have HE3 : Hid (R = 13) := by have h := HKF.out; rw [if_neg (by decide)] at h; exact h.symm
          go_wp2_with fail
          go_ret
          exact ⟨ret_int HE3.out.symm, HT3.out⟩
      · obtain rfl : k = n := by omega
        have hd : kn.drop k = [] := List.drop_of_length_le (by have := HN.out; omega)
        rw [hd, kfs] at hkf
        have HE2 : Hid (R = 0) := hkf.symm
        clear hkf hd hT
        go_wp2_with fail
        go_ret
        exact ⟨ret_int HE2.out.symm, HT.out⟩
        all_goals (intro x r p q h; cases h)
  · rw [if_pos hne]
    have d9 : ((n : Int) != (m : Int)) = true := by simp; omega
    have d8 : ¬ (n : Int) = (m : Int) := by omega
    have d7 : (n = m) = False := by simp [hne]
    clear hrt hrw hrk hev hatw hatk hn hm HIS hne
    go_enter Tryd.func17, Tryd.ntmps17
    go_wp2_with fail
    go_ret
    exact ⟨rfl, Below.refl _ _⟩
end Go.Proofs.YtnajcoikcoegoaaDoor.Chk
