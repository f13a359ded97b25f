/-
  Check, by the program. What events a pattern takes, by the program. The patterns of a part, and the whens that are asked, by the program. Takes, by the program.
-/
import Derived.BigQuiet
import Derived.Test.YtnlmknbhppdliaaDoorDq
import Derived.Test.YtnlmknbhppdliaaDoorG
import Derived.Test.YtnlmknbhppdliaaDoorXc
set_option maxHeartbeats 64000000
namespace Go.Proofs.YtnlmknbhppdliaaDoor.Chk
open Go.ChangeShapes Go.WideShapes Go.ChangeAt Go.RowKit Go.Maps
set_option linter.unusedVariables false
set_option linter.unusedSimpArgs false
set_option maxRecDepth 20000
theorem zFD : ∀ (l done : List Tp), tks done l = 0 → ∀ t, t ∈ l → tyk t.n t.f = 0
 | [], _, _, t, ht => by cases ht
 | y :: r, done, h, t, ht => by
  rw [zFX] at h
  split at h
  . rename_i c; exact absurd h c
  . rename_i c
    rcases List.mem_cons.1 ht with rfl | ht
    . have c' : tk1 done t = 0 := Classical.byContradiction c
      unfold tk1 at c'
      split at c'
      . rename_i d; exact absurd c' d
      . rename_i d; exact Classical.byContradiction d
    . exact zFD r _ h t ht
theorem zCX {ts : List Tp} : ∀ (l done : List Rl), rks (rck ts) done l = 0 → ∀ x, x ∈ l → rck ts x = 0
 | [], _, _, t, ht => by cases ht
 | y :: r, done, h, t, ht => by
  rw [zGF] at h
  split at h
  . rename_i c; exact absurd h c
  . rename_i c
    rcases List.mem_cons.1 ht with rfl | ht
    . have c' : rk1 ts done t = 0 := Classical.byContradiction c
      unfold rk1 at c'
      split at c'
      . rename_i d; exact absurd c' d
      . rename_i d; exact Classical.byContradiction d
    . exact zCX r _ h t ht
theorem zE2 {ts : List Tp} {x : Rl} (h : rck ts x = 0) : Rok ts x ∧ szs x := by
 have h1 : frn x.n = 0 := by
   refine Classical.byContradiction fun c => ?_
   unfold rck at h
   rw [if_pos c] at h
   exact c h
 have h2 : szs x := by
   refine Classical.byContradiction fun c => ?_
   unfold rck at h
   rw [if_neg (fun d => d h1), if_pos c] at h
   omega
 refine ⟨?_, h2⟩
 rw [zCY ts x h1 h2] at h
 split at h
 . rename_i c; exact absurd h c
 . rename_i c1
   split at h
   . rename_i c; exact absurd h c
   . rename_i c2
     split at h
     . rename_i c; exact absurd h c
     . rename_i c3
       split at h
       . rename_i c; exact absurd h c
       . have a1 := zFB x.w [] (Classical.byContradiction c1)
         have a2 := zES x.t (x.w.map Pt.va) (Classical.byContradiction c2)
         have a3 := zFA x.m (x.w.map Pt.va ++ x.t.map Pt.va) (Classical.byContradiction c3)
         refine ⟨fun p hp => ?_, fun he => ?_⟩
         . rw [List.mem_append, List.mem_append] at hp
           rcases hp with (hp | hp) | hp
           . exact a1 p hp
           . exact a2 p hp
           . obtain ⟨m, hm, rfl⟩ := List.mem_map.1 hp
             exact a3 m hm
         . unfold eck at h
           rw [if_neg (by rw [he]; decide)] at h
           split at h
           . omega
           . rename_i c
             rcases zBC (q := fun t : Tp => seq t.n x.e.ty) ts 0 with d | ⟨j, hj, d, _⟩
             . have d0 : tyq ts x.e.ty = -1 := d
               omega
             . exact ⟨j, hj, by show ixq _ _ _ = _; rw [d]; simp⟩
theorem check_any (ts : List Tp) (rs : List Rl) (hzz : ∀ r, r ∈ rs → Szr r) (tv rv : Value) (w : World) (hT : Rd w (.row 72 2 (ts.map encY)) tv) (hR : Rd w (.row 55 7 (rs.map encR)) rv) (htk : Tab w 0 kpl) (htr : Tab w 1 rll) :
   Calls Tryd.prog 13 #[.agg #[tv, rv]] w fun e w' => e = .returned (.int .i64 (bok ts rs)) ∧ Below w.heap.size w w' := by
 obtain ⟨tp, tc, rfl, _, _⟩ := zAG lenY hT
 obtain ⟨rp, rc, rfl, _, _⟩ := zAG lenR hR
 unfold bok bkf
 by_cases hs : 6 < ts.length ∨ 5 < rs.length
 . rw [if_pos hs]
   clear hT hR htk htr
   generalize ts.length = tn at *
   generalize rs.length = rn at *
   have HB : Hid (Below w.heap.size w (w.alloc (.cells #[.slice tp tn tc, .slice rp rn rc] 58))) := (Below.refl _ _).alloc (Nat.le_refl _) _
   by_cases h1 : 6 < tn
   . have d1 : decide ((tn : Int) > 6) = true := by simp; omega
     have d2 : (6 : Int) < (tn : Int) := by omega
     clear hs
     go_enter Tryd.func13, Tryd.ntmps13
     go_wp2_with fail
     go_ret
     exact ⟨rfl, HB.out⟩
   . have d1 : decide ((tn : Int) > 6) = false := by simp; omega
     have d2 : ¬ (6 : Int) < (tn : Int) := by omega
     have d3 : decide ((rn : Int) > 5) = true := by simp; omega
     have d4 : (5 : Int) < (rn : Int) := by omega
     clear hs
     go_enter Tryd.func13, Tryd.ntmps13
     go_wp2_with fail
     go_ret
     exact ⟨rfl, HB.out⟩
 . rw [if_neg hs]
   have HCT := hid (fun W (hW : Below w.heap.size w W) => zDD ts _ W (hT.later hW) (zAI htk hW) (zAI htr hW) (by omega))
   have HCR := hid (fun (hz : tks [] ts = 0) W (hW : Below w.heap.size w W) => zDB ts (fun i hi => zFD ts [] hz _ (List.getElem_mem hi)) rs hzz _ _ W (hT.later hW) (hR.later hW) (zAI htk hW) (zAI htr hW) (by omega))
   have HIE := hid (fun (hz : tks [] ts = 0) (hr : rks (rck ts) [] rs = 0) (q : Bool) (hq : ts.any (fun t => cmo rs t.n rs.length t.n) = q) W (hW : Below w.heap.size w W) => zD0 ts rs (fun x hx => (zE2 (zCX rs [] hr x hx)).1) (by omega) (fun x hx => by have h := (zE2 (zCX rs [] hr x hx)).2; unfold szs at h; omega) _ _ W (hT.later hW) (hR.later hW) q (by rw [← hq]; exact edl_eq (dst_of hz) (fun x hx => (zE2 (zCX rs [] hr x hx)).1) (by omega) (fun i j => edb_iff ts rs i j)))
   obtain ⟨qe, hqe⟩ : ∃ q, ts.any (fun t => cmo rs t.n rs.length t.n) = q := ⟨_, rfl⟩
   rw [hqe]
   have HIE2 := hid (fun hz hr => HIE.out hz hr qe hqe)
   clear HIE hqe hT hR htk htr hzz
   obtain ⟨E1, hE1⟩ : ∃ E, tks [] ts = E := ⟨_, rfl⟩
   obtain ⟨E2, hE2⟩ : ∃ E, rks (rck ts) [] rs = E := ⟨_, rfl⟩
   rw [hE1, hE2]
   rw [hE1] at HCT HCR HIE2
   rw [hE2] at HCR HIE2
   clear hE1 hE2
   obtain ⟨tn, htn⟩ : ∃ n, ts.length = n := ⟨_, rfl⟩
   obtain ⟨rn, hrn⟩ : ∃ n, rs.length = n := ⟨_, rfl⟩
   rw [htn] at HCT HCR HIE2 hs ⊢
   rw [hrn] at HCR HIE2 hs ⊢
   have d1 : decide ((tn : Int) > 6) = false := by simp; omega
   have d2 : ¬ (6 : Int) < (tn : Int) := by omega
   have d3 : decide ((rn : Int) > 5) = false := by simp; omega
   have d4 : ¬ (5 : Int) < (rn : Int) := by omega
   have HT : Hid (BlkT w (w.alloc (.cells [.slice tp tn tc, .slice rp rn rc].toArray 58)) [.slice tp tn tc, .slice rp rn rc] 58) := BlkT.start w _ _
   clear htn hrn hs
   by_cases h1 : E1 = 0
   . have HR0 := hid (HCR.out h1)
     have HI0 := hid (HIE2.out h1)
     clear HCR HIE2
     have HCR := HR0
     rw [if_neg (fun c => c h1)]
     subst h1
     by_cases h2 : E2 = 0
     . have HIE := hid (HI0.out h2)
       rw [if_neg (fun c => c h2)]
       subst h2
       clear HI0 HR0
       cases qe with
       | true =>
        rw [if_pos rfl]
        go_enter Tryd.func13, Tryd.ntmps13
        go_wp2_with fail
        refine (HCT.out _ HT.out.bel).mono ?_
        rintro e w1 ⟨rfl, hb1⟩
        have HT1 : Hid _ := HT.out.next hb1
        clear hb1
        have c0 : w1.cell? ⟨w.heap.size, 0, none⟩ = some (.slice tp tn tc) := HT1.out.c 0
        have c1 : w1.cell? ⟨w.heap.size, 1, none⟩ = some (.slice rp rn rc) := HT1.out.c 1
        go_wp2_with fail
        refine (HCR.out _ HT1.out.bel).mono ?_
        rintro e w2 ⟨rfl, hb2⟩
        have HT2 : Hid _ := HT1.out.next hb2
        clear hb2 c0 c1
        have c0 : w2.cell? ⟨w.heap.size, 0, none⟩ = some (.slice tp tn tc) := HT2.out.c 0
        have c1 : w2.cell? ⟨w.heap.size, 1, none⟩ = some (.slice rp rn rc) := HT2.out.c 1
        go_wp2_with fail
        refine (HIE.out _ HT2.out.bel).mono ?_
        rintro e w3 ⟨rfl, hb3⟩
        have HT3 : Hid _ := HT2.out.next hb3
        clear hb3 c0 c1
        go_wp2_with fail
        go_ret
        exact ⟨rfl, HT3.out.bel⟩
       | false =>
        rw [if_neg (by decide)]
        go_enter Tryd.func13, Tryd.ntmps13
        go_wp2_with fail
        refine (HCT.out _ HT.out.bel).mono ?_
        rintro e w1 ⟨rfl, hb1⟩
        have HT1 : Hid _ := HT.out.next hb1
        clear hb1
        have c0 : w1.cell? ⟨w.heap.size, 0, none⟩ = some (.slice tp tn tc) := HT1.out.c 0
        have c1 : w1.cell? ⟨w.heap.size, 1, none⟩ = some (.slice rp rn rc) := HT1.out.c 1
        go_wp2_with fail
        refine (HCR.out _ HT1.out.bel).mono ?_
        rintro e w2 ⟨rfl, hb2⟩
        have HT2 : Hid _ := HT1.out.next hb2
        clear hb2 c0 c1
        have c0 : w2.cell? ⟨w.heap.size, 0, none⟩ = some (.slice tp tn tc) := HT2.out.c 0
        have c1 : w2.cell? ⟨w.heap.size, 1, none⟩ = some (.slice rp rn rc) := HT2.out.c 1
        go_wp2_with fail
        refine (HIE.out _ HT2.out.bel).mono ?_
        rintro e w3 ⟨rfl, hb3⟩
        have HT3 : Hid _ := HT2.out.next hb3
        clear hb3 c0 c1
        go_wp2_with fail
        go_ret
        exact ⟨rfl, HT3.out.bel⟩
     . rw [if_pos h2]
       have d9 : (E2 != 0) = true := by simpa using h2
       clear h2 HI0 HR0
       go_enter Tryd.func13, Tryd.ntmps13
       go_wp2_with fail
       refine (HCT.out _ HT.out.bel).mono ?_
       rintro e w1 ⟨rfl, hb1⟩
       have HT1 : Hid _ := HT.out.next hb1
       clear hb1
       have c0 : w1.cell? ⟨w.heap.size, 0, none⟩ = some (.slice tp tn tc) := HT1.out.c 0
       have c1 : w1.cell? ⟨w.heap.size, 1, none⟩ = some (.slice rp rn rc) := HT1.out.c 1
       go_wp2_with fail
       refine (HCR.out _ HT1.out.bel).mono ?_
       rintro e w2 ⟨rfl, hb2⟩
       have HT2 : Hid _ := HT1.out.next hb2
       clear hb2 c0 c1
       go_wp2_with fail
       go_ret
       exact ⟨rfl, HT2.out.bel⟩
   . rw [if_pos h1]
     have d9 : (E1 != 0) = true := by simpa using h1
     clear h1 HCR HIE2
     go_enter Tryd.func13, Tryd.ntmps13
     go_wp2_with fail
     refine (HCT.out _ HT.out.bel).mono ?_
     rintro e w1 ⟨rfl, hb1⟩
     have HT1 : Hid _ := HT.out.next hb1
     clear hb1
     go_wp2_with fail
     go_ret
     exact ⟨rfl, HT1.out.bel⟩
theorem name_at {ts : List Tp} {tv : Value} {w : World} (h : Rd w (.row 72 2 (ts.map encY)) tv) {i : Nat} (hi : i < ts.length) : ∃ g off n c, tv = .slice (some ⟨g, off, none⟩) n c ∧ ((i : Nat) : Int) < (n : Int) ∧ ∀ W, Below w.heap.size w W → W.cell? ⟨g, off + i * 2, none⟩ = some (.string ts[i].n) := by
  obtain ⟨p, cap, rfl, _, hat⟩ := zAG lenY h
  obtain ⟨g, off, rfl, hrd⟩ := hat (by omega)
  refine ⟨g, off, _, _, rfl, by omega, fun W hW => ?_⟩
  obtain ⟨us, r1, o1⟩ := hrd W hW i hi
  obtain ⟨fv, z1, _⟩ := rdY o1
  rw [z1] at r1
  simpa using r1 0 _ rfl
theorem isOf_s (ts : List Tp) (tv : Value) (x : Ev) (u : Value) (A : List Value) (pty : ByteArray) (w : World) (hT : Rd w (.row 72 2 (ts.map encY)) tv) (hus : ∃ p n c, u = .slice p n c) (hA : A[1]? = some (.string pty)) (i : Nat) (hi : i < ts.length) (hx : x.t = (i : Int)) :
  Calls Tryd.prog 25 #[tv, evV x u, .agg A.toArray] w fun e w' => e = .returned (.bool (seq ts[i].n pty)) ∧ Below w.heap.size w w' := by
 obtain ⟨g, off, tn, tc, htv, hlt, hnm⟩ := name_at hT hi
 obtain ⟨up, un, uc, hu⟩ := hus
 subst htv hu
 obtain ⟨xn, xt, xs, xe, xv⟩ := x
 simp only at hx ⊢
 subst hx
 have hB : Bxs w ((w.alloc (.cells #[.int .i64 xn, .int .i64 (i : Nat), .int .i64 xs, .int .i64 xe, .slice up un uc] 40)).alloc (.cells A.toArray 47)) [([.int .i64 xn, .int .i64 (i : Nat), .int .i64 xs, .int .i64 xe, .slice up un uc], 40), (A, 47)] := bxs2 w _ _ _ _
 have t0 := hnm _ hB.bel
 have a1 : ((w.alloc (.cells #[.int .i64 xn, .int .i64 (i : Nat), .int .i64 xs, .int .i64 xe, .slice up un uc] 40)).alloc (.cells A.toArray 47)).cell? ⟨w.heap.size, 1, none⟩ = some (.int .i64 (i : Nat)) := hB.c 0 (by simp) 1
 have a2 : ((w.alloc (.cells #[.int .i64 xn, .int .i64 (i : Nat), .int .i64 xs, .int .i64 xe, .slice up un uc] 40)).alloc (.cells A.toArray 47)).cell? ⟨w.heap.size + 1, 1, none⟩ = some (.string pty) := by rw [hB.c 1 (by simp) 1]; exact hA
 obtain ⟨tnm, htnm⟩ : ∃ n, ts[i].n = n := ⟨_, rfl⟩
 rw [htnm] at t0 ⊢
 have HB := hid hB.bel
 have y1 : (0 : Int) ≤ (i : Int) := by omega
 have y2 : (i : Int) < (tn : Int) := hlt
 unfold seq
 clear hB hT hnm hA htnm hlt hi
 go_enter Tryd.func25, Tryd.ntmps25
 go_wp2_with fail
 go_quiet (fail)
 go_wp2_with fail
 go_ret
 exact ⟨rfl, zAN HB.out _⟩
theorem zCA {P : Program} {ops : Array Oper} {rest : List Oper} {op : Oper} {a : Act} {w : World} {Q : Exit → Act → World → Prop} (hw : Region.wanted op (yielded ops a.tmps) = true) (ty : TypeId) (x : Operand) (ho : op.op = .load ty x)
  (b o : Nat) (hx : a.eval x = .pointer (some ⟨b, o, none⟩)) (cs : List Value) (d : TypeDesc) (hc : w.rangeAt b o cs)
  (hu : P.underlying ty = some d) (hd : d.isRow = true) (hi : (P.info? ty).map (·.size) = some cs.length)
  (h : wpList P ops Q rest (a.put op.dst (.agg cs.toArray)) w) : wpList P ops Q (op :: rest) a w :=
 wpList_step fun K hK => by rw [if_pos hw]; exact wp_load_mid ty x ho b o hx cs d hc hu hd hi (hK _ _ h)
def tkb (ts : List Tp) (ws : List Pt) (own : Ev) (kn : List Ev) (p : Pt) : Bool := seq (ts.getD own.t.toNat dT).n p.ty && hld ts ws own kn 8 p.c
def Pok (ts : List Tp) (ws : List Pt) (p : Pt) : Prop := 0 ≤ tyq ts p.ty ∧ (p.c.k = 0 ∨ (cdk ts ws (ts.getD (tyq ts p.ty).toNat dT) 8 p.c).2 = 0)
theorem zFH {ts : List Tp} {kn : List Pt} {ah : List ByteArray} {p : Pt} {part : Int} (h : pck ts kn ah p part = 0) : Pok ts kn p := by
 obtain ⟨i, hi, e⟩ := zBD h
 refine ⟨by omega, ?_⟩
 unfold pck at h
 split at h
 . rename_i c; exact absurd h c
 . split at h
   . omega
   . split at h
     . omega
     . split at h
       . omega
       . split at h
         . omega
         . split at h
           . rename_i c
             unfold noc at c
             simp only [Bool.and_eq_true, decide_eq_true_eq] at c
             exact .inl c.1.1.1
           . exact .inr h
theorem takes_s (ts : List Tp) (ws : List Pt) (own : Ev) (kn : List Ev) (tv ov wv kv : Value) (hk : Sok ts ws own kn) (hd : Dst ts) (p : Pt) (hp : Pok ts ws p) (hw : Wsz p.c) (A : List Value) (w : World) (hs : Scn w ts ws own kn tv ov wv kv) (hA : RdL w (encP p) A) :
  Calls Tryd.prog 18 #[snV tv own ov wv kv, .agg A.toArray] w fun e w' => e = .returned (.bool (tkb ts ws own kn p)) ∧ Below w.heap.size w w' := by
 obtain ⟨i, hi, e1, m1, m2⟩ := zE3 hk.ev
 clear m1 m2
 have et : ts.getD own.t.toNat dT = ts[i] := by rw [e1, Int.toNat_natCast]; exact zA1 hi _
 obtain ⟨vc, z1, o2⟩ := rdP hA
 obtain ⟨CL, hCL⟩ : ∃ CL : List Value, cnC p.c.k vc p.c.l p.c.r = CL := ⟨_, rfl⟩
 have hA1 : A[1]? = some (.string p.ty) := by rw [z1]; rfl
 have hAC : ∃ B, A = [.string p.va, .string p.ty] ++ (CL ++ B) := ⟨[.int .i64 p.w, .int .i64 p.n], by rw [z1, ← hCL]; rfl⟩
 have hAz : A.length = 18 := hA.1.symm
 have hCz : CL.length = 14 := by rw [← hCL]; rfl
 have hIO := fun W (hW : Below w.heap.size w W) => isOf_s ts tv own ov A p.ty W (hs.later hW).rt (zAB hs.ro) hA1 i hi e1
 have hHO : seq ts[i].n p.ty = true → ∀ W, Below w.heap.size w W → Calls Tryd.prog 26 #[snV tv own ov wv kv, .agg CL.toArray] W fun e w' => e = .returned (.bool (hld ts ws own kn 8 p.c)) ∧ Below W.heap.size W w' := fun hq W hW => by
  rw [← hCL]
  rcases hp.2 with h0 | h0
  . have e : hld ts ws own kn 8 p.c = true := by rw [hld, if_pos h0]
    rw [e]
    exact zGJ ts ws own kn tv ov wv kv p.c vc W (hs.later hW) (o2.later hW) h0
  . have e2 : tyq ts p.ty = (i : Int) := by rw [← zCB hq]; exact hd i hi
    refine zHD ts ws own kn tv ov wv kv hk 8 p.c vc W (hs.later hW) (o2.later hW) hw ?_
    rw [e2, Int.toNat_natCast, zA1 hi] at h0
    rw [et]
    exact h0
 unfold tkb
 rw [et]
 obtain ⟨q1, hq1⟩ : ∃ q, seq ts[i].n p.ty = q := ⟨_, rfl⟩
 obtain ⟨q2, hq2⟩ : ∃ q, hld ts ws own kn 8 p.c = q := ⟨_, rfl⟩
 rw [hq1] at hIO hHO ⊢
 rw [hq2] at hHO ⊢
 clear hk hd hp hw hA z1 o2 hCL hA1 hi e1 et hq1 hq2
 obtain ⟨B, hAB⟩ := hAC
 obtain ⟨tp, tn, tc, htv⟩ := zAB hs.rt
 obtain ⟨op, on2, oc, hov⟩ := zAB hs.ro
 obtain ⟨wp, wn, wc, hwv⟩ := zAB hs.rw
 obtain ⟨kp, kn2, kc, hkv⟩ := zAB hs.rk
 subst htv hov hwv hkv
 obtain ⟨on, ot, ost, oen, ovl⟩ := own
 simp only [snV, evV] at hIO hHO ⊢
 obtain ⟨UL, hUL⟩ : ∃ UL : List Value, [.slice tp tn tc, .int .i64 on, .int .i64 ot, .int .i64 ost, .int .i64 oen, .slice op on2 oc, .slice wp wn wc, .slice kp kn2 kc] = UL := ⟨_, rfl⟩
 obtain ⟨XL, hXL⟩ : ∃ XL : List Value, ([.int .i64 on, .int .i64 ot, .int .i64 ost, .int .i64 oen, .slice op on2 oc] : List Value) = XL := ⟨_, rfl⟩
 have hB : Bxs w (((w.alloc (.cells UL.toArray 80)).alloc (.cells A.toArray 47))) [(UL, 80), (A, 47)] := bxs2 w _ _ _ _
 have HIO : Hid (∀ W, Below w.heap.size w W → Calls Tryd.prog 25 #[.slice tp tn tc, .agg XL.toArray, .agg A.toArray] W fun e w' => e = .returned (.bool q1) ∧ Below W.heap.size W w') := fun W hW => by rw [← hXL]; exact hIO W hW
 have HHO : Hid (q1 = true → ∀ W, Below w.heap.size w W → Calls Tryd.prog 26 #[.agg UL.toArray, .agg CL.toArray] W fun e w' => e = .returned (.bool q2) ∧ Below W.heap.size W w') := fun hq W hW => by rw [← hUL]; exact hHO hq W hW
 have ZU : Hid ((Tryd.prog.info? 80).map (·.size) = some UL.length) := by show _ = _; rw [← hUL]; kernel_rfl
 have ZX : Hid ((Tryd.prog.info? 40).map (·.size) = some XL.length) := by show _ = _; rw [← hXL]; kernel_rfl
 have ZP : Hid ((Tryd.prog.info? 47).map (·.size) = some A.length) := by show _ = _; rw [hAz]; kernel_rfl
 have ZC : Hid ((Tryd.prog.info? 33).map (·.size) = some CL.length) := by show _ = _; rw [hCz]; kernel_rfl
 have hUX : UL = [.slice tp tn tc] ++ (XL ++ [.slice wp wn wc, .slice kp kn2 kc]) := by rw [← hUL, ← hXL]; rfl
 have cT : ((w.alloc (.cells UL.toArray 80)).alloc (.cells A.toArray 47)).cell? ⟨w.heap.size, 0, none⟩ = some (.slice tp tn tc) := by rw [show w.heap.size = w.heap.size + 0 from rfl, hB.c 0 (by simp) 0, ← hUL]; rfl
 have XE : Hid ((((w.alloc (.cells UL.toArray 80)).alloc (.cells A.toArray 47))).rangeAt w.heap.size 1 XL) := by
  have h := zBX (A := UL) (t := 80) (hB.b 0 (by simp)) (C := [Value.slice tp tn tc]) (B := XL ++ [Value.slice wp wn wc, Value.slice kp kn2 kc]) hUX rfl 5
  have e : (XL ++ [Value.slice wp wn wc, Value.slice kp kn2 kc]).take 5 = XL := by rw [← hXL]; rfl
  rw [e] at h
  exact h
 have XP := hid (hB.r 1 (by simp))
 have HXC : Hid (∀ W, Bxs w W [(UL, 80), (A, 47)] → W.rangeAt (w.heap.size + 1) 2 CL) := fun W h => by
  have h := zBX (A := A) (t := 47) (h.b 1 (by simp)) (C := [Value.string p.va, Value.string p.ty]) (B := CL ++ B) hAB rfl 14
  have e : (CL ++ B).take 14 = CL := by rw [List.take_append_of_le_length (by omega), List.take_of_length_le (by omega)]
  rw [e] at h
  exact h
 have hsv : (Value.agg #[.slice tp tn tc, .int .i64 on, .int .i64 ot, .int .i64 ost, .int .i64 oen, .slice op on2 oc, .slice wp wn wc, .slice kp kn2 kc]) = .agg UL.toArray := by rw [← hUL]
 rw [hsv]
 have HB := hid hB
 clear hB hs hIO hHO hUL hXL hAB hAz hCz hUX hsv
 cases q1 with
 | true =>
  have HH2 := hid (HHO.out rfl)
  go_enter Tryd.func18, Tryd.ntmps18
  go_wp2_with (first
    | ((with_reducible refine gLq ?_); refine wpList_load_mid (by rfl) 40 _ (by rfl) w.heap.size 1 (by rfl) XL _ XE.out Tryd.underlying40 rfl ZX.out ?_)
    | ((with_reducible refine gLq ?_); refine wpList_load_mid (by rfl) 47 _ (by rfl) (w.heap.size + 1) 0 (by rfl) A _ XP.out Tryd.underlying47 rfl ZP.out ?_))
  refine (HIO.out _ HB.out.bel).mono ?_
  rintro e w1 ⟨rfl, hb1⟩
  have HB1 := hid (HB.out.next hb1)
  clear hb1 cT XE XP
  have XS := hid (HB1.out.r 0 (by simp))
  have XC := hid (HXC.out _ HB1.out)
  go_wp2_with (first
    | ((with_reducible refine gLq ?_); refine zCA (by rfl) 80 _ (by rfl) w.heap.size 0 (by rfl) UL _ XS.out Tryd.underlying80 rfl ZU.out ?_)
    | ((with_reducible refine gLq ?_); refine zCA (by rfl) 33 _ (by rfl) (w.heap.size + 1) 2 (by rfl) CL _ XC.out Tryd.underlying33 rfl ZC.out ?_))
  refine (HH2.out _ HB1.out.bel).mono ?_
  rintro e w2 ⟨rfl, hb2⟩
  have HB2 := hid (HB1.out.next hb2)
  clear hb2
  go_wp2_with fail
  go_ret
  exact ⟨zAX (by simp), HB2.out.bel⟩
 | false =>
  go_enter Tryd.func18, Tryd.ntmps18
  go_wp2_with (first
    | ((with_reducible refine gLq ?_); refine wpList_load_mid (by rfl) 40 _ (by rfl) w.heap.size 1 (by rfl) XL _ XE.out Tryd.underlying40 rfl ZX.out ?_)
    | ((with_reducible refine gLq ?_); refine wpList_load_mid (by rfl) 47 _ (by rfl) (w.heap.size + 1) 0 (by rfl) A _ XP.out Tryd.underlying47 rfl ZP.out ?_))
  refine (HIO.out _ HB.out.bel).mono ?_
  rintro e w1 ⟨rfl, hb1⟩
  have HB1 := hid (HB.out.next hb1)
  clear hb1
  go_wp2_with fail
  go_ret
  exact ⟨zAX (by simp), HB1.out.bel⟩
def efs (ts : List Tp) : List Ev → Int
  | [] => 0
  | x :: r => if evk ts x ≠ 0 then evk ts x else efs ts r
theorem zFP {ts : List Tp} : ∀ (l : List Ev), efs ts l = 0 → ∀ x, x ∈ l → evk ts x = 0
 | [], _, x, hx => by cases hx
 | y :: r, h, x, hx => by
  rw [efs] at h
  split at h
  . rename_i c; exact absurd h c
  . rename_i c
    rcases List.mem_cons.1 hx with rfl | hx
    . exact Classical.byContradiction c
    . exact zFP r h x hx
def kfs (ts : List Tp) : List Ev → List Pt → Int
  | x :: r, p :: q => if seq (ts.getD x.t.toNat dT).n p.ty = true then kfs ts r q else 13
  | _, _ => 0
def knk (ts : List Tp) (ws : List Pt) (kn : List Ev) : Int := if kn.length ≠ ws.length then 4 else kfs ts kn ws
theorem kfs_ok {ts : List Tp} (hd : Dst ts) : ∀ (kn : List Ev) (ws : List Pt), kfs ts kn ws = 0 → (∀ x, x ∈ kn → evk ts x = 0) → ∀ j (hj : j < kn.length) (hw : j < ws.length), evk ts kn[j] = 0 ∧ tyq ts ws[j].ty = kn[j].t
 | [], _, _, _, j, hj, _ => by simp at hj
 | _ :: _, [], _, _, j, _, hw => by simp at hw
 | x :: r, p :: q, h, hk, j, hj, hw => by
  rw [kfs] at h
  split at h
  . rename_i c
    cases j with
    | zero =>
     have he := hk x (List.mem_cons_self ..)
     obtain ⟨i, hi, e1, _, _⟩ := zE3 he
     rw [e1, Int.toNat_natCast, zA1 hi] at c
     exact ⟨he, by show tyq ts p.ty = x.t; rw [e1, ← zCB c]; exact hd i hi⟩
    | succ j => exact kfs_ok hd r q h (fun y hy => hk y (List.mem_cons_of_mem _ hy)) j (by simpa using hj) (by simpa using hw)
  . omega
theorem knk_ok {ts : List Tp} {ws : List Pt} {kn : List Ev} (hd : Dst ts) (h : knk ts ws kn = 0) (hk : ∀ x, x ∈ kn → evk ts x = 0) : Kok ts ws kn := by
 unfold knk at h
 split at h
 . omega
 . rename_i c
   exact ⟨Classical.byContradiction c, kfs_ok hd kn ws h hk⟩
theorem ent_isof : ∀ args w, (callFunc 25 args).run Tryd.prog w = .ok (.enter 25 args) w := enters_of Tryd.func25 (by kernel_rfl) rfl
def asq (part : Int) (k : Nat) (ws : List Pt) : List Pt := if part = 0 then ws.take k else ws
theorem asked_s (r : Rl) (u1 u2 u3 u4 u5 : Value) (w : World) (h1 : Rd w (.row 47 18 (r.w.map encP)) u1) (h2 : Rd w (.row 47 18 (r.t.map encP)) u2) (h3 : Rd w (.row 87 20 (r.m.map encM)) u3) (h4 : Rd w (.row 127 3 (r.k.map encK)) u4) (h5 : Rd w (.row 31 6 (r.e.v.map encO)) u5) (part at_ : Int) (k : Nat) (hk : part = 0 → at_ = (k : Int) ∧ k ≤ r.w.length) :
   Calls Tryd.prog 16 #[.agg #[.string r.n, u1, u2, u3, u4, .string r.e.ty, u5], .int .i64 part, .int .i64 at_] w fun e w' => ∃ v, e = .returned v ∧ (∀ W', Rd W' (.row 47 18 (r.w.map encP)) u1 → Rd W' (.row 47 18 ((asq part k r.w).map encP)) v) ∧ Below w.heap.size w w' := by
 obtain ⟨q1, j1, e1, _, _⟩ := zAG lenP h1
 obtain ⟨q2, j2, e2, _, _⟩ := zAG lenP h2
 obtain ⟨q3, j3, e3, _, _⟩ := zAG lenM h3
 obtain ⟨q4, l4, j4, e4⟩ := zAB h4
 obtain ⟨q5, l5, j5, e5⟩ := zAB h5
 subst e1 e2 e3 e4 e5
 have hcp := rd_cap h1
 by_cases hp : part = 0
 . obtain ⟨rfl, hkl⟩ := hk hp
   have htk := fun W' (h : Rd W' (.row 47 18 (r.w.map encP)) (.slice q1 r.w.length j1)) => rd_take h k hkl
   have e : asq part k r.w = r.w.take k := by unfold asq; rw [if_pos hp]
   rw [e]
   subst hp
   obtain ⟨rn, ws, ns, ms, ks, ⟨ety, vs⟩⟩ := r
   simp only at htk hkl hcp ⊢
   have HTK := hid htk
   obtain ⟨LD, hLD⟩ : ∃ LD, (ws.take k).map encP = LD := ⟨_, rfl⟩
   obtain ⟨LE, hLE⟩ : ∃ LE, ws.map encP = LE := ⟨_, rfl⟩
   rw [hLD, hLE] at HTK ⊢
   clear hLD hLE
   generalize ws.length = l1 at *
   generalize ns.length = l2
   generalize ms.length = l3
   have HB : Hid (Below w.heap.size w (w.alloc (.cells #[.string rn, .slice q1 l1 j1, .slice q2 l2 j2, .slice q3 l3 j3, .slice q4 l4 j4, .string ety, .slice q5 l5 j5] 55))) := (Below.refl _ _).alloc (Nat.le_refl _) _
   have i1 : (0 : Int) ≤ (k : Int) := by omega
   have i2 : (k : Int) ≤ (j1 : Int) := by omega
   have i3 : (j1 < k) = False := by simp; omega
   clear h1 h2 h3 h4 h5 hk htk
   go_enter Tryd.func16, Tryd.ntmps16
   go_wp2_with fail
   all_goals
    go_ret
    exact ⟨_, rfl, HTK.out, HB.out⟩
 . have e : asq part k r.w = r.w := by unfold asq; rw [if_neg hp]
   rw [e]
   obtain ⟨rn, ws, ns, ms, ks, ⟨ety, vs⟩⟩ := r
   simp only
   obtain ⟨l1, hl1⟩ : ∃ l, ws.length = l := ⟨_, rfl⟩
   rw [hl1]
   generalize ns.length = l2
   generalize ms.length = l3
   have HB : Hid (Below w.heap.size w (w.alloc (.cells #[.string rn, .slice q1 l1 j1, .slice q2 l2 j2, .slice q3 l3 j3, .slice q4 l4 j4, .string ety, .slice q5 l5 j5] 55))) := (Below.refl _ _).alloc (Nat.le_refl _) _
   have d0 : decide (part = 0) = false := by simpa using hp
   have d1 : (part == 0) = false := by simpa using hp
   clear h1 h2 h3 h4 h5 hk hcp hl1 e
   go_enter Tryd.func16, Tryd.ntmps16
   go_wp2_with fail
   go_ret
   exact ⟨_, rfl, fun W' h => h, HB.out⟩
def prt (part : Int) (r : Rl) : List Pt := if part = 0 then r.w else if part = 1 then r.t else if part = 2 then r.m.map Mn.p else []
section
variable {ops : Array Oper} {rest : List Oper} {o : Oper} {a : Act} {w : World} {Q : Exit → Act → World → Prop}
theorem wp_mkP (hgd : o.guard = none) (x : Operand) (ho : o.op = .makeSlice 48 x x) (n : Nat) (hn : n ≤ 1000) (hx : a.eval x = .int .i64 (n : Nat))
  (h : ∀ (zs : List Value), zs.length = n * 18 → wpList Tryd.prog ops Q rest (a.put o.dst (.slice (some ⟨w.heap.size, 0, none⟩) n n)) (w.alloc (.cells zs.toArray 47))) : wpList Tryd.prog ops Q (o :: rest) a w := by
 refine wpList_plain hgd fun K hK => ?_
 obtain ⟨i0, b1, b2, b3, b4⟩ := info_parts infoP
 have hr := run_make (P := Tryd.prog) w 48 47 i0 zP Tryd.underlying48 b1 b2 .i64 .i64 n n (by omega) (Int.le_refl _) (by rw [b4]; omega) (by omega)
 simp only [Int.toNat_natCast] at hr
 rw [b3] at hr
 have h2 := h (madeCells zP.cells (n * 18)).toList (by rw [Array.length_toList, size_madeCells])
 rw [Array.toArray_toList] at h2
 unfold Oper.wp
 simp [execOp, ho, hx, hr, Result.andThen]
 exact hK _ _ h2
end
def Mks (w wr : World) (nb n k : Nat) (L : List Pt) : Prop := ∃ xs zs : List Value, wr.heap[nb]? = some (.cells (xs ++ zs).toArray 47 (0, 0)) ∧ xs.length = k * 18 ∧ zs.length = (n - k) * 18 ∧ RdL w (L.map encP).flatten xs
theorem Mks.store {w wr W : World} {nb n k : Nat} {L : List Pt} {B : List Value} {p : Pt} {o : Nat} (h : Mks w wr nb n k L) (hk : k < n) (ho : o = k * 18) (cs : List Value) (hcs : wr.heap[nb]? = some (.cells cs.toArray 47 (0, 0))) (hB : RdL w (encP p) B) (hb : W.heap[nb]? = some (.cells (ovr cs o B).toArray 47 (0, 0))) : Mks w W nb n (k + 1) (L ++ [p]) := by
 obtain ⟨xs, zs, e1, e2, e3, e4⟩ := h
 have hBl : B.length = 18 := hB.1.symm
 rw [e1] at hcs
 have e : xs ++ zs = cs := by
   have := Option.some.inj hcs
   simp at this
   exact this
 have hkn : n - k = (n - (k + 1)) + 1 := by omega
 have h18 : 18 ≤ zs.length := by rw [e3, hkn]; omega
 have h19 : zs.length - 18 = (n - (k + 1)) * 18 := by rw [e3, hkn]; omega
 refine ⟨xs ++ B, zs.drop 18, ?_, by rw [List.length_append, e2, hBl]; omega, by rw [List.length_drop]; exact h19, ?_⟩
 . rw [hb, ← e, ho]
   unfold ovr
   rw [List.take_append_of_le_length (by omega), List.take_of_length_le (by omega), List.drop_append, List.drop_of_length_le (by omega), hBl]
   simp [e2, List.append_assoc]
 . rw [List.map_append, List.flatten_append]
   exact zBO e4 (by simpa using hB)
theorem Mks.rd {w wr : World} {nb n : Nat} {L : List Pt} (h : Mks w wr nb n n L) (hL : L.length = n) (hn : n ≤ maxLen) (hb : Below w.heap.size w wr) : Rd wr (.row 47 18 (L.map encP)) (.slice (some ⟨nb, 0, none⟩) n n) := by
 obtain ⟨xs, zs, e1, e2, e3, e4⟩ := h
 obtain rfl : zs = [] := List.eq_nil_of_length_eq_zero (by simpa using e3)
 rw [List.append_nil] at e1
 by_cases h0 : n = 0
 . subst h0
   obtain rfl : L = [] := List.eq_nil_of_length_eq_zero hL
   exact .nil _ _ _ _ hn
 . have h4 := e4.below hb
   have := Rd.row (w := wr) 47 18 (L.map encP) nb 0 n xs (by simp; omega) (by simp; omega) hn (zAJ e1) h4.1 h4.2
   rw [List.length_map, hL] at this
   exact this
theorem patS_two (r : Rl) (u1 u2 u3 u4 u5 : Value) (w : World) (h1 : Rd w (.row 47 18 (r.w.map encP)) u1) (h2 : Rd w (.row 47 18 (r.t.map encP)) u2) (h3 : Rd w (.row 87 20 (r.m.map encM)) u3) (h4 : Rd w (.row 127 3 (r.k.map encK)) u4) (h5 : Rd w (.row 31 6 (r.e.v.map encO)) u5) (hz3 : r.m.length ≤ 100) :
  Calls Tryd.prog 14 #[.agg #[.string r.n, u1, u2, u3, u4, .string r.e.ty, u5], .int .i64 2] w fun e w' => ∃ v, e = .returned v ∧ Rd w' (.row 47 18 ((r.m.map Mn.p).map encP)) v ∧ Below w.heap.size w w' := by
 obtain ⟨q1, j1, e1, _, _⟩ := zAG lenP h1
 obtain ⟨q2, j2, e2, _, _⟩ := zAG lenP h2
 obtain ⟨q3, j3, e3, _, _⟩ := zAG lenM h3
 obtain ⟨q4, l4, j4, e4⟩ := zAB h4
 obtain ⟨q5, l5, j5, e5⟩ := zAB h5
 subst e1 e2 e3 e4 e5
 obtain ⟨rn, ws, ns, ms, ks, ⟨ety, vs⟩⟩ := r
 simp only at h3 hz3 ⊢
 generalize ws.length = l1
 generalize ns.length = l2
 obtain ⟨l3, hl3⟩ : ∃ l, ms.length = l := ⟨_, rfl⟩
 rw [hl3] at h3 hz3 ⊢
 have HN := hid hl3
 have HM := hid h3
 have HZ := hid hz3
 have HB0 : Hid (Below w.heap.size w (w.alloc (.cells #[.string rn, .slice q1 l1 j1, .slice q2 l2 j2, .slice q3 l3 j3, .slice q4 l4 j4, .string ety, .slice q5 l5 j5] 55))) := (Below.refl _ _).alloc (Nat.le_refl _) _
 have hc3 : ∀ o, ((w.alloc (.cells #[.string rn, .slice q1 l1 j1, .slice q2 l2 j2, .slice q3 l3 j3, .slice q4 l4 j4, .string ety, .slice q5 l5 j5] 55)).alloc o).cell? ⟨w.heap.size, 3, none⟩ = some (.slice q3 l3 j3) := fun o => by
  refine zAD (cs := #[.string rn, .slice q1 l1 j1, .slice q2 l2 j2, .slice q3 l3 j3, .slice q4 l4 j4, .string ety, .slice q5 l5 j5]) (T := 55) ?_ 3
  rw [Below.heap_alloc _ _ _ (by simp)]
  exact heap_alloc_new _ _
 clear h1 h2 h3 h4 h5 hz3 hl3
 go_enter Tryd.func14, Tryd.ntmps14
 go_wp2_with ((with_reducible show wpList _ _ _ (Oper.mk (some 22) _ _ _ _ _ :: _) _ _); refine wp_mkP (by rfl) (.tmp 21) (by rfl) l3 (by have := HZ.out; omega) (by rfl) ?_; intro zs hzs; have HZS := hid hzs; have c3 := hc3 (.cells zs.toArray 47); clear hzs)
 go_loopg [26] (l3 + 1) (fun gg i wr => ∃ k : Nat, k ≤ l3 ∧ gg = l3 + 1 - k ∧ i = .int .i64 (k : Nat) ∧ Mks w wr (w.heap.size + 1) l3 k ((ms.take k).map Mn.p) ∧ Below w.heap.size w wr)
 case atStart => exact ⟨0, by omega, by omega, rfl, ⟨[], zs, by simpa using zC0 _ _ _, by simp, by simpa using HZS.out, RdL.nil _⟩, HB0.out.alloc HB0.out.size _⟩
 case round =>
  obtain ⟨k, hk, rfl, rfl, hMk, hB⟩ := hrel
  have HMK := hid hMk
  have HB := hid hB
  by_cases hlt : k < l3
  . have hkc : k < ms.length := by have := HN.out; omega
    obtain ⟨p', cap', e0, m0, hat⟩ := zAG lenM HM.out
    simp only [Value.slice.injEq] at e0
    obtain ⟨e01, hx0, e02⟩ := e0
    obtain ⟨g, off, e03, hrd⟩ := hat (by omega)
    obtain ⟨A, r1, o1⟩ := hrd w (Below.refl _ _) k hkc
    obtain ⟨B, z0, o0⟩ := rdM o1
    obtain ⟨vc, z1, o2⟩ := rdP o0
    obtain ⟨up, un, uc, hu⟩ := zAB o2
    obtain rfl : q3 = some ⟨g, off, none⟩ := e01.trans e03
    obtain ⟨CS, hCS, hCl⟩ : ∃ CS : List Value, wr.heap[w.heap.size + 1]? = some (.cells CS.toArray 47 (0, 0)) ∧ CS.length = l3 * 18 := by
     obtain ⟨xs, zs, b1, b2, b3, _⟩ := hMk
     refine ⟨xs ++ zs, b1, ?_⟩
     rw [List.length_append, b2, b3, ← Nat.add_mul]
     congr 1
     omega
    have hAz : A.length = 20 := o1.1.symm
    have hBz : B.length = 18 := o0.1.symm
    have HAO : Hid (A.all (·.oneCell') = true) := by show _ = _; rw [z0, z1, hu]; rfl
    have HBO : Hid (B.all (·.oneCell') = true) := by show _ = _; rw [z1, hu]; rfl
    have ZA : Hid ((Tryd.prog.info? 87).map (·.size) = some A.length) := by show _ = _; rw [hAz]; kernel_rfl
    have ZB : Hid ((Tryd.prog.info? 47).map (·.size) = some B.length) := by show _ = _; rw [hBz]; kernel_rfl
    have HRB : Hid (RdL w (encP ms[k].p) B) := o0
    have HAL := hid hAz
    have HBL := hid hBz
    have HCS := hid hCS
    have HCL : Hid (k * 18 + 18 ≤ CS.length) := by show _ ≤ _; rw [hCl]; omega
    have HKN := hid hlt
    have HZ0 := hid z0
    have X1_ := hid (zAP r1 hB)
    have HTK : Hid ((ms.take k).map Mn.p ++ [ms[k].p] = (ms.take (k + 1)).map Mn.p) := by show _ = _; rw [List.take_succ_eq_append_getElem hkc, List.map_append]; rfl
    have i1 : (0 : Int) ≤ (k : Int) := by omega
    have i2 : (k : Int) < (l3 : Int) := by omega
    clear hB hat hrd r1 o1 hAz hBz hx0 z0 z1 hu o2 o0 e01 e02 e03 hMk hCS hCl m0
    go_wp2_with (first
     | ((with_reducible refine gLq ?_); refine wpList_load_mid (by rfl) 87 _ (by rfl) g (off + k * 20) (by rfl) A _ X1_.out Tryd.underlying87 rfl ZA.out ?_)
     | ((with_reducible show wpList _ _ _ (Oper.mk _ (.store 87 _ _) _ _ _ _ :: _) _ _); refine zBA (by rfl) 87 _ _ (by rfl) wr.heap.size 0 _ 87 (.agg A.toArray) A (by rfl) (by rfl) (by rfl) (heap_alloc_new _ _) (by have := HAL.out; simp; omega) ZA.out HAO.out ?_; intro w2 hblk hfr; rw [zAY (by rw [HAL.out]; rfl)] at hblk; have XB : Hid (w2.rangeAt wr.heap.size 2 B) := zCG hblk HZ0.out; have HBW : Hid (Below wr.heap.size wr w2) := zAH hfr; clear hblk hfr)
     | ((with_reducible refine gLq ?_); refine wpList_load_mid (by rfl) 47 _ (by rfl) wr.heap.size 2 (by rfl) B _ XB.out Tryd.underlying47 rfl ZB.out ?_)
     | ((with_reducible show wpList _ _ _ (Oper.mk _ (.store 47 _ _) _ _ _ _ :: _) _ _); refine zBA (by rfl) 47 _ _ (by rfl) (w.heap.size + 1) (k * 18) CS 47 (.agg B.toArray) B (by rfl) (by rfl) (by rfl) ((HBW.out.block _ (zAE HCS.out)).trans HCS.out) (by have := HCL.out; have := HBL.out; omega) ZB.out HBO.out ?_; intro w3 hb3 hf3; have HM3 := hid (HMK.out.store HKN.out rfl CS HCS.out HRB.out hb3); have HB3 : Hid (Below w.heap.size w w3) := zAO (zAA HB.out HBW.out HB.out.size) hf3 (by omega); clear hb3 hf3))
    go_roundg (l3 + 1 - (k + 1))
    case rel => exact ⟨k + 1, by omega, rfl, by go_num, by rw [← HTK.out]; exact HM3.out, HB3.out⟩
    case measure => omega
  . obtain rfl : k = l3 := by omega
    have hw : ms.take k = ms := List.take_of_length_le (by have := HN.out; omega)
    rw [hw] at hMk
    have HRD := hid (hMk.rd (by simpa using HN.out) (by have := HZ.out; unfold maxLen; omega) hB)
    clear hMk hB hw
    go_wp2_with fail
    go_ret
    exact ⟨_, rfl, HRD.out, HB.out⟩
theorem patS_any (r : Rl) (u1 u2 u3 u4 u5 : Value) (w : World) (h1 : Rd w (.row 47 18 (r.w.map encP)) u1) (h2 : Rd w (.row 47 18 (r.t.map encP)) u2) (h3 : Rd w (.row 87 20 (r.m.map encM)) u3) (h4 : Rd w (.row 127 3 (r.k.map encK)) u4) (h5 : Rd w (.row 31 6 (r.e.v.map encO)) u5) (hz3 : r.m.length ≤ 100) (part : Int) :
   Calls Tryd.prog 14 #[.agg #[.string r.n, u1, u2, u3, u4, .string r.e.ty, u5], .int .i64 part] w fun e w' => ∃ v, e = .returned v ∧ Rd w' (.row 47 18 ((prt part r).map encP)) v ∧ Below w.heap.size w w' := by
 unfold prt
 by_cases p2 : part = 2
 . subst p2
   rw [if_neg (by decide), if_neg (by decide), if_pos rfl]
   exact patS_two r u1 u2 u3 u4 u5 w h1 h2 h3 h4 h5 hz3
 . have H1 := hid (fun W (hW : Below w.heap.size w W) => h1.later hW)
   have H2 := hid (fun W (hW : Below w.heap.size w W) => h2.later hW)
   obtain ⟨q1, j1, e1, _, _⟩ := zAG lenP h1
   obtain ⟨q2, j2, e2, _, _⟩ := zAG lenP h2
   obtain ⟨q3, j3, e3, _, _⟩ := zAG lenM h3
   obtain ⟨q4, l4, j4, e4⟩ := zAB h4
   obtain ⟨q5, l5, j5, e5⟩ := zAB h5
   subst e1 e2 e3 e4 e5
   obtain ⟨rn, ws, ns, ms, ks, ⟨ety, vs⟩⟩ := r
   simp only at H1 H2 ⊢
   obtain ⟨l1, hl1⟩ : ∃ l, ws.length = l := ⟨_, rfl⟩
   obtain ⟨l2, hl2⟩ : ∃ l, ns.length = l := ⟨_, rfl⟩
   rw [hl1] at H1 ⊢
   rw [hl2] at H2 ⊢
   generalize ms.length = l3
   have HB : Hid (Below w.heap.size w (w.alloc (.cells #[.string rn, .slice q1 l1 j1, .slice q2 l2 j2, .slice q3 l3 j3, .slice q4 l4 j4, .string ety, .slice q5 l5 j5] 55))) := (Below.refl _ _).alloc (Nat.le_refl _) _
   clear h1 h2 h3 h4 h5 hl1 hl2 hz3
   by_cases p0 : part = 0
   . subst p0
     rw [if_pos rfl]
     go_enter Tryd.func14, Tryd.ntmps14
     go_wp2_with fail
     go_ret
     exact ⟨_, rfl, H1.out _ HB.out, HB.out⟩
   . rw [if_neg p0]
     by_cases p1 : part = 1
     . subst p1
       rw [if_pos rfl]
       go_enter Tryd.func14, Tryd.ntmps14
       go_wp2_with fail
       go_ret
       exact ⟨_, rfl, H2.out _ HB.out, HB.out⟩
     . rw [if_neg p1, if_neg p2]
       have d0 : (part == 0) = false := by simpa using p0
       have d1 : (part == 1) = false := by simpa using p1
       have d2 : (part == 2) = false := by simpa using p2
       have f0 : decide (part = 0) = false := by simpa using p0
       have f1 : decide (part = 1) = false := by simpa using p1
       have f2 : decide (part = 2) = false := by simpa using p2
       go_enter Tryd.func14, Tryd.ntmps14
       go_wp2_with fail
       go_ret
       exact ⟨_, rfl, .nil _ _ none 0 (Nat.zero_le _), HB.out⟩
def r0 : Rl := ⟨txt [], [], [], [], [], ⟨txt [], []⟩⟩
def p0 : Pt := ⟨txt [], txt [], cn0, 0, 0⟩
def tkr (ts : List Tp) (rs : List Rl) (rule part at_ : Int) (x : Ev) (kn : List Ev) : Bool × Int :=
  if bok ts rs ≠ 0 then (false, bok ts rs)
  else if ¬ (0 ≤ rule ∧ rule < (rs.length : Int)) then (false, 2)
  else if ¬ (0 ≤ at_ ∧ at_ < ((prt part (rs.getD rule.toNat r0)).length : Int)) then (false, 2)
  else if evk ts x ≠ 0 then (false, evk ts x)
  else if efs ts kn ≠ 0 then (false, efs ts kn)
  else if knk ts (asq part at_.toNat (rs.getD rule.toNat r0).w) kn ≠ 0 then (false, knk ts (asq part at_.toNat (rs.getD rule.toNat r0).w) kn)
  else (tkb ts (asq part at_.toNat (rs.getD rule.toNat r0).w) x kn ((prt part (rs.getD rule.toNat r0)).getD at_.toNat p0), 0)
theorem zHP {ts : List Tp} : ∀ (l done : List Pt), wfs 0 ts done l = 0 → ∀ k (hk : k < l.length), Pok ts (done ++ l.take k) l[k]
 | [], _, _, k, hk => by simp at hk
 | y :: r, done, h, k, hk => by
  rw [wfs] at h
  split at h
  . rename_i c; exact absurd h c
  . rename_i c
    cases k with
    | zero => simpa using zFH (Classical.byContradiction c)
    | succ k =>
     have := zHP r (done ++ [y]) h k (by simpa using hk)
     simpa using this
theorem zIA {ts : List Tp} {ws : List Pt} : ∀ (l : List Pt) (ah : List ByteArray), nfs 0 ts ws ah l = 0 → ∀ p, p ∈ l → Pok ts ws p
 | [], ah, _, p, hp => by cases hp
 | y :: r, ah, h, p, hp => by
  rw [nfs] at h
  split at h
  . rename_i c; exact absurd h c
  . rename_i c
    rcases List.mem_cons.1 hp with rfl | hp
    . exact zFH (Classical.byContradiction c)
    . exact zIA r _ h p hp
theorem zHS {ts : List Tp} {ws : List Pt} : ∀ (l : List Mn) (ah : List ByteArray), mfs 0 ts ws ah l = 0 → ∀ m, m ∈ l → Pok ts ws m.p
 | [], ah, _, p, hp => by cases hp
 | y :: r, ah, h, p, hp => by
  rw [mfs] at h
  split at h
  . rename_i c; exact absurd h c
  . rename_i c
    rcases List.mem_cons.1 hp with rfl | hp
    . have h0 : mck ts ws ah p = 0 := Classical.byContradiction c
      unfold mck at h0
      split at h0
      . omega
      . split at h0
        . rename_i d; exact absurd h0 d
        . rename_i d; exact zFH (Classical.byContradiction d)
    . exact zHS r _ h p hp
theorem rck_pok {ts : List Tp} {r : Rl} (h : rck ts r = 0) {part : Int} {k : Nat} (hk : k < (prt part r).length) : Pok ts (asq part k r.w) (prt part r)[k] := by
 obtain ⟨_, hsz⟩ := zE2 h
 have hf : frn r.n = 0 := by
   refine Classical.byContradiction fun c => ?_
   unfold rck at h
   rw [if_pos c] at h
   exact c h
 rw [zCY ts r hf hsz] at h
 split at h
 . rename_i c; exact absurd h c
 . rename_i c1
   split at h
   . rename_i c; exact absurd h c
   . rename_i c2
     split at h
     . rename_i c; exact absurd h c
     . rename_i c3
       have a1 := zHP r.w [] (Classical.byContradiction c1)
       have a2 := zIA r.t (r.w.map Pt.va) (Classical.byContradiction c2)
       have a3 := zHS r.m (r.w.map Pt.va ++ r.t.map Pt.va) (Classical.byContradiction c3)
       unfold asq
       by_cases p0 : part = 0
       . have e : prt part r = r.w := by unfold prt; rw [if_pos p0]
         rw [if_pos p0]
         simp only [e] at hk ⊢
         simpa using a1 k hk
       . rw [if_neg p0]
         by_cases p1 : part = 1
         . have e : prt part r = r.t := by unfold prt; rw [if_neg p0, if_pos p1]
           simp only [e] at hk ⊢
           exact a2 _ (List.getElem_mem hk)
         . by_cases p2 : part = 2
           . have e : prt part r = r.m.map Mn.p := by unfold prt; rw [if_neg p0, if_neg p1, if_pos p2]
             simp only [e] at hk ⊢
             rw [List.getElem_map]
             exact a3 _ (List.getElem_mem (by simpa using hk))
           . have e : prt part r = [] := by unfold prt; rw [if_neg p0, if_neg p1, if_neg p2]
             rw [e] at hk
             simp at hk
theorem szr_prt {r : Rl} (h : Szr r) {part : Int} {k : Nat} (hk : k < (prt part r).length) : Wsz (prt part r)[k].c := by
 by_cases p0 : part = 0
 . have e : prt part r = r.w := by unfold prt; rw [if_pos p0]
   simp only [e] at hk ⊢
   exact h.w _ (List.getElem_mem hk)
 . by_cases p1 : part = 1
   . have e : prt part r = r.t := by unfold prt; rw [if_neg p0, if_pos p1]
     simp only [e] at hk ⊢
     exact h.t _ (List.getElem_mem hk)
   . by_cases p2 : part = 2
     . have e : prt part r = r.m.map Mn.p := by unfold prt; rw [if_neg p0, if_neg p1, if_pos p2]
       simp only [e] at hk ⊢
       rw [List.getElem_map]
       exact h.m _ (List.getElem_mem (by simpa using hk))
     . have e : prt part r = [] := by unfold prt; rw [if_neg p0, if_neg p1, if_neg p2]
       rw [e] at hk
       simp at hk
theorem zBY {P : Program} {ops : Array Oper} {S : World → Prop} {op : Oper} {a : Act} (hw : Region.wanted op (yielded ops a.tmps) = true) (t : TypeId) (parts : Array (Nat × Operand)) (ho : op.op = .build t parts) (vals : Array (Nat × Value)) (hp : (parts.map fun x => (x.1, a.eval x.2)) = vals) (v : Value) (hv : ∀ w, (Instr.build t vals).run P w = .ok v w) : YieldsIf P ops S op v a :=
 .inl ⟨hw, fun w _ => by
  unfold execOp
  simp only [ho, Sem.run_bind, hp, hv, Result.andThen_ok, Sem.run_pure]⟩
theorem wp_bd {P : Program} {ops : Array Oper} {rest : List Oper} {op : Oper} {a : Act} {w : World} {Q : Exit → Act → World → Prop} (hgd : op.guard = none) (t : TypeId) (parts : Array (Nat × Operand)) (ho : op.op = .build t parts) (vals : Array (Nat × Value)) (hp : (parts.map fun x => (x.1, a.eval x.2)) = vals) (v : Value) (hv : ∀ w, (Instr.build t vals).run P w = .ok v w)
  (h : wpList P ops Q rest (a.put op.dst v) w) : wpList P ops Q (op :: rest) a w :=
 wpList_plain hgd fun K hK => by
  unfold Oper.wp execOp
  simp only [ho, Sem.run_bind, hp, hv, Result.andThen_ok, Sem.run_pure]
  exact hK _ _ h
abbrev zSN : List Value := [.slice none 0 0, .int .i64 0, .int .i64 0, .int .i64 0, .int .i64 0, .slice none 0 0, .slice none 0 0, .slice none 0 0]
theorem bd_sn (tp up ap kp : Option Addr) (tn tc un uc an ac kn2 kc : Nat) (xn xt xs xe : Int) (w : World) : (Instr.build 80 #[(0, .slice tp tn tc), (1, .agg #[.int .i64 xn, .int .i64 xt, .int .i64 xs, .int .i64 xe, .slice up un uc]), (2, .slice ap an ac), (3, .slice kp kn2 kc)]).run Tryd.prog w = .ok (.agg #[.slice tp tn tc, .int .i64 xn, .int .i64 xt, .int .i64 xs, .int .i64 xe, .slice up un uc, .slice ap an ac, .slice kp kn2 kc]) w := by kernel_rfl
theorem zHR : ∀ args w, (callFunc 18 args).run Tryd.prog w = .ok (.enter 18 args) w := enters_of Tryd.func18 (by kernel_rfl) rfl
structure Tkx (w W : World) (bk ev : List Value) (rb : Nat) (A : List Value) : Prop where
  bx : Bxs w W [(bk, 58), (ev, 40)]
  r : W.heap[rb]? = some (.cells A.toArray 55 (0, 0))
theorem Tkx.next {w W W' : World} {bk ev A : List Value} {rb : Nat} (h : Tkx w W bk ev rb A) (hb : Below W.heap.size W W') : Tkx w W' bk ev rb A := ⟨h.bx.next hb, (hb.block _ (zAE h.r)).trans h.r⟩
theorem bok_zero {ts : List Tp} {rs : List Rl} (h : bok ts rs = 0) : tks [] ts = 0 ∧ rks (rck ts) [] rs = 0 := by
 unfold bok bkf at h
 split at h
 . omega
 . split at h
   . rename_i c; exact absurd h c
   . rename_i c1
     split at h
     . rename_i c; exact absurd h c
     . rename_i c2
       exact ⟨Classical.byContradiction c1, Classical.byContradiction c2⟩
theorem zH6 (ts : List Tp) (rs : List Rl) (hzz : ∀ r, r ∈ rs → Szr r) (tv rv : Value) (rule part at_ : Int) (x : Ev) (u : Value) (kn : List Ev) (kv : Value) (w : World) (hT : Rd w (.row 72 2 (ts.map encY)) tv) (hR : Rd w (.row 55 7 (rs.map encR)) rv) (htk : Tab w 0 kpl) (htr : Tab w 1 rll) (hu : Rd w (.row 29 3 (x.v.map encV)) u) (hK : Rd w (.row 40 5 (kn.map encX)) kv) (hb : bok ts rs ≠ 0) : Calls Tryd.prog 9 #[.agg #[tv, rv], .int .i64 rule, .int .i64 part, .int .i64 at_, evV x u, kv] w fun e w' => e = .returned (.tuple #[.bool (false), .int .i64 (bok ts rs)]) ∧ Below w.heap.size w w' := by
  have HCH := hid (fun W (hW : Below w.heap.size w W) => check_any ts rs hzz tv rv W (hT.later hW) (hR.later hW) (zAI htk hW) (zAI htr hW))
  obtain ⟨tp, tc, htv, _, _⟩ := zAG lenY hT
  obtain ⟨rp, rc, hrv, hmr, _⟩ := zAG lenR hR
  obtain ⟨up, un, uc, huv⟩ := zAB hu
  obtain ⟨kp, kn2, kc, hkv⟩ := zAB hK
  obtain ⟨E0, hE0⟩ : ∃ E, bok ts rs = E := ⟨_, rfl⟩
  rw [hE0] at HCH hb ⊢
  subst htv hrv huv hkv
  obtain ⟨xn, xt, xs, xe, xv⟩ := x
  simp only [evV] at *
  generalize ts.length = tn at *
  generalize rs.length = rn at *
  have hB : Bxs w ((w.alloc (.cells #[.slice tp tn tc, .slice rp rn rc] 58)).alloc (.cells #[.int .i64 xn, .int .i64 xt, .int .i64 xs, .int .i64 xe, .slice up un uc] 40)) [([.slice tp tn tc, .slice rp rn rc], 58), ([.int .i64 xn, .int .i64 xt, .int .i64 xs, .int .i64 xe, .slice up un uc], 40)] := bxs2 w _ _ _ _
  have HB := hid hB
  have d9 : (E0 != 0) = true := by simpa using hb
  clear hT hR htk htr hu hK hzz hE0 hb hB hmr
  go_enter Tryd.func9, Tryd.ntmps9
  go_wp2_with fail
  refine (HCH.out _ HB.out.bel).mono ?_
  rintro e w1 ⟨rfl, hb1⟩
  have HB1 := hid (HB.out.next hb1)
  clear hb1
  go_wp2_with fail
  go_ret2
  exact ⟨rfl, HB1.out.bel⟩
theorem zHK (ts : List Tp) (rs : List Rl) (hzz : ∀ r, r ∈ rs → Szr r) (tv rv : Value) (rule part at_ : Int) (x : Ev) (u : Value) (kn : List Ev) (kv : Value) (w : World) (hT : Rd w (.row 72 2 (ts.map encY)) tv) (hR : Rd w (.row 55 7 (rs.map encR)) rv) (htk : Tab w 0 kpl) (htr : Tab w 1 rll) (hu : Rd w (.row 29 3 (x.v.map encV)) u) (hK : Rd w (.row 40 5 (kn.map encX)) kv) (hb : bok ts rs = 0) (hr : ¬ (0 ≤ rule ∧ rule < (rs.length : Int))) : Calls Tryd.prog 9 #[.agg #[tv, rv], .int .i64 rule, .int .i64 part, .int .i64 at_, evV x u, kv] w fun e w' => e = .returned (.tuple #[.bool (false), .int .i64 (2)]) ∧ Below w.heap.size w w' := by
 have HCH := hid (fun W (hW : Below w.heap.size w W) => check_any ts rs hzz tv rv W (hT.later hW) (hR.later hW) (zAI htk hW) (zAI htr hW))
 obtain ⟨tp, tc, htv, _, _⟩ := zAG lenY hT
 obtain ⟨rp, rc, hrv, hmr, _⟩ := zAG lenR hR
 obtain ⟨up, un, uc, huv⟩ := zAB hu
 obtain ⟨kp, kn2, kc, hkv⟩ := zAB hK
 rw [hb] at HCH
 subst htv hrv huv hkv
 obtain ⟨xn, xt, xs, xe, xv⟩ := x
 simp only [evV] at *
 generalize ts.length = tn at *
 generalize rs.length = rn at *
 have hB : Bxs w ((w.alloc (.cells #[.slice tp tn tc, .slice rp rn rc] 58)).alloc (.cells #[.int .i64 xn, .int .i64 xt, .int .i64 xs, .int .i64 xe, .slice up un uc] 40)) [([.slice tp tn tc, .slice rp rn rc], 58), ([.int .i64 xn, .int .i64 xt, .int .i64 xs, .int .i64 xe, .slice up un uc], 40)] := bxs2 w _ _ _ _
 have HB := hid hB
 clear hT hR htk htr hu hK hzz hb hB hmr
 by_cases h0 : rule < 0
 . have d1 : decide (rule < 0) = true := by simpa using h0
   clear hr
   go_enter Tryd.func9, Tryd.ntmps9
   go_wp2_with fail
   refine (HCH.out _ HB.out.bel).mono ?_
   rintro e w1 ⟨rfl, hb1⟩
   have HB1 := hid (HB.out.next hb1)
   clear hb1
   go_wp2_with fail
   go_ret2
   exact ⟨rfl, HB1.out.bel⟩
 . have d1 : decide (rule < 0) = false := by simpa using h0
   have h1 : (rn : Int) ≤ rule := by omega
   have d2 : decide (rule ≥ (rn : Int)) = true := by simpa using h1
   clear hr
   go_enter Tryd.func9, Tryd.ntmps9
   go_wp2_with fail
   refine (HCH.out _ HB.out.bel).mono ?_
   rintro e w1 ⟨rfl, hb1⟩
   have HB1 := hid (HB.out.next hb1)
   have c1 : w1.cell? ⟨w.heap.size, 1, none⟩ = some (.slice rp rn rc) := HB1.out.c 0 (by simp) 1
   clear hb1
   go_wp2_with fail
   go_ret2
   exact ⟨rfl, HB1.out.bel⟩
end Go.Proofs.YtnlmknbhppdliaaDoor.Chk
