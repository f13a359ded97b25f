/-
  What events a pattern takes, by the program. The patterns of a part, and the whens that are asked, by the program.
-/
import Derived.BigQuiet
import Derived.Test.YthndlfdbmljkhaaGreatDoorXc
import Derived.Test.YthndlfdbmljkhaaGreatDoorDt
namespace Go.Proofs.YthndlfdbmljkhaaGreatDoor.Chk
open Go.ChangeShapes Go.WideShapes Go.ChangeAt Go.RowKit Go.Maps
set_option linter.unusedVariables false
set_option linter.unusedSimpArgs false
set_option maxRecDepth 20000
theorem name_at {ts : List Tp} {tv : Value} {w : World} (h : Rd w (.row 72 2 (ts.map encY)) tv) {i : Nat} (hi : i < ts.length) : ∃ g off n c, tv = .slice (some ⟨g, off, none⟩) n c ∧ ((i : Nat) : Int) < (n : Int) ∧ ∀ W, Below w.heap.size w W → W.cell? ⟨g, off + i * 2, none⟩ = some (.string ts[i].n) := by
  obtain ⟨p, cap, rfl, _, hat⟩ := rd_row lenY h
  obtain ⟨g, off, rfl, hrd⟩ := hat (by omega)
  refine ⟨g, off, _, _, rfl, by omega, fun W hW => ?_⟩
  obtain ⟨us, r1, o1⟩ := hrd W hW i hi
  obtain ⟨fv, z1, _⟩ := rdY o1
  rw [z1] at r1
  simpa using r1 0 _ rfl
set_option maxHeartbeats 16000000 in
theorem isOf_s (ts : List Tp) (tv : Value) (x : Ev) (u : Value) (A : List Value) (pty : ByteArray) (w : World) (hT : Rd w (.row 72 2 (ts.map encY)) tv) (hus : ∃ p n c, u = .slice p n c) (hA : A[1]? = some (.string pty)) (i : Nat) (hi : i < ts.length) (hx : x.t = (i : Int)) :
  Calls Tryz.prog 31 #[tv, evV x u, .agg A.toArray] w fun e w' => e = .returned (.bool (seq ts[i].n pty)) ∧ Below w.heap.size w w' := by
 obtain ⟨g, off, tn, tc, htv, hlt, hnm⟩ := name_at hT hi
 obtain ⟨up, un, uc, hu⟩ := hus
 subst htv hu
 obtain ⟨xn, xt, xs, xe, xv⟩ := x
 simp only at hx ⊢
 subst hx
 have hB : Bxs w ((w.alloc (.cells #[.int .i64 xn, .int .i64 (i : Nat), .int .i64 xs, .int .i64 xe, .slice up un uc] 30)).alloc (.cells A.toArray 65)) [([.int .i64 xn, .int .i64 (i : Nat), .int .i64 xs, .int .i64 xe, .slice up un uc], 30), (A, 65)] := bxs2 w _ _ _ _
 have t0 := hnm _ hB.bel
 have a1 : ((w.alloc (.cells #[.int .i64 xn, .int .i64 (i : Nat), .int .i64 xs, .int .i64 xe, .slice up un uc] 30)).alloc (.cells A.toArray 65)).cell? ⟨w.heap.size, 1, none⟩ = some (.int .i64 (i : Nat)) := hB.c 0 (by simp) 1
 have a2 : ((w.alloc (.cells #[.int .i64 xn, .int .i64 (i : Nat), .int .i64 xs, .int .i64 xe, .slice up un uc] 30)).alloc (.cells A.toArray 65)).cell? ⟨w.heap.size + 1, 1, none⟩ = some (.string pty) := by rw [hB.c 1 (by simp) 1]; exact hA
 obtain ⟨tnm, htnm⟩ : ∃ n, ts[i].n = n := ⟨_, rfl⟩
 rw [htnm] at t0 ⊢
 have HB := hid hB.bel
 have y1 : (0 : Int) ≤ (i : Int) := by omega
 have y2 : (i : Int) < (tn : Int) := hlt
 unfold seq
 clear hB hT hnm hA htnm hlt hi
 go_enter Tryz.func31, Tryz.ntmps31
 go_wp2_with fail
 go_quiet (fail)
 go_wp2_with fail
 go_ret
 exact ⟨rfl, below_drawn HB.out _⟩
theorem wpList_load_g {P : Program} {ops : Array Oper} {rest : List Oper} {op : Oper} {a : Act} {w : World} {Q : Exit → Act → World → Prop} (hw : Region.wanted op (yielded ops a.tmps) = true) (ty : TypeId) (x : Operand) (ho : op.op = .load ty x)
  (b o : Nat) (hx : a.eval x = .pointer (some ⟨b, o, none⟩)) (cs : List Value) (d : TypeDesc) (hc : w.rangeAt b o cs)
  (hu : P.underlying ty = some d) (hd : d.isRow = true) (hi : (P.info? ty).map (·.size) = some cs.length)
  (h : wpList P ops Q rest (a.put op.dst (.agg cs.toArray)) w) : wpList P ops Q (op :: rest) a w :=
 wpList_step fun K hK => by rw [if_pos hw]; exact wp_load_mid ty x ho b o hx cs d hc hu hd hi (hK _ _ h)
def tkb (ts : List Tp) (ws : List Pt) (own : Ev) (kn : List Ev) (p : Pt) : Bool := seq (ts.getD own.t.toNat dT).n p.ty && hld ts ws own kn 8 p.c
def Pok (ts : List Tp) (ws : List Pt) (p : Pt) : Prop := 0 ≤ tyq ts p.ty ∧ (p.c.k = 0 ∨ (cdk ts ws (ts.getD (tyq ts p.ty).toNat dT) 8 p.c).2 = 0)
theorem pck_pok {ts : List Tp} {kn : List Pt} {ah : List ByteArray} {p : Pt} {part : Int} (h : pck ts kn ah p part = 0) : Pok ts kn p := by
 obtain ⟨i, hi, e⟩ := pck_known h
 refine ⟨by omega, ?_⟩
 unfold pck at h
 split at h
 . rename_i c; exact absurd h c
 . split at h
   . omega
   . split at h
     . omega
     . split at h
       . omega
       . split at h
         . omega
         . split at h
           . rename_i c
             unfold noc at c
             simp only [Bool.and_eq_true, decide_eq_true_eq] at c
             exact .inl c.1.1.1
           . exact .inr h
set_option maxHeartbeats 32000000 in
theorem takes_s (ts : List Tp) (ws : List Pt) (own : Ev) (kn : List Ev) (tv ov wv kv : Value) (hk : Sok ts ws own kn) (hd : Dst ts) (p : Pt) (hp : Pok ts ws p) (hw : Wsz p.c) (A : List Value) (w : World) (hs : Scn w ts ws own kn tv ov wv kv) (hA : RdL w (encP p) A) :
  Calls Tryz.prog 15 #[snV tv own ov wv kv, .agg A.toArray] w fun e w' => e = .returned (.bool (tkb ts ws own kn p)) ∧ Below w.heap.size w w' := by
 obtain ⟨i, hi, e1, m1, m2⟩ := evk_ok hk.ev
 clear m1 m2
 have et : ts.getD own.t.toNat dT = ts[i] := by rw [e1, Int.toNat_natCast]; exact getD_lt hi _
 obtain ⟨vc, z1, o2⟩ := rdP hA
 obtain ⟨CL, hCL⟩ : ∃ CL : List Value, cnC p.c.k vc p.c.l p.c.r = CL := ⟨_, rfl⟩
 have hA1 : A[1]? = some (.string p.ty) := by rw [z1]; rfl
 have hAC : ∃ B, A = [.string p.va, .string p.ty] ++ (CL ++ B) := ⟨[.int .i64 p.w, .int .i64 p.n], by rw [z1, ← hCL]; rfl⟩
 have hAz : A.length = 18 := hA.1.symm
 have hCz : CL.length = 14 := by rw [← hCL]; rfl
 have hIO := fun W (hW : Below w.heap.size w W) => isOf_s ts tv own ov A p.ty W (hs.later hW).rt (rd_shape hs.ro) hA1 i hi e1
 have hHO : seq ts[i].n p.ty = true → ∀ W, Below w.heap.size w W → Calls Tryz.prog 32 #[snV tv own ov wv kv, .agg CL.toArray] W fun e w' => e = .returned (.bool (hld ts ws own kn 8 p.c)) ∧ Below W.heap.size W w' := fun hq W hW => by
  rw [← hCL]
  rcases hp.2 with h0 | h0
  . have e : hld ts ws own kn 8 p.c = true := by rw [hld, if_pos h0]
    rw [e]
    exact holds_zero ts ws own kn tv ov wv kv p.c vc W (hs.later hW) (o2.later hW) h0
  . have e2 : tyq ts p.ty = (i : Int) := by rw [← tyq_congr hq]; exact hd i hi
    refine holds_all ts ws own kn tv ov wv kv hk 8 p.c vc W (hs.later hW) (o2.later hW) hw ?_
    rw [e2, Int.toNat_natCast, getD_lt hi] at h0
    rw [et]
    exact h0
 unfold tkb
 rw [et]
 obtain ⟨q1, hq1⟩ : ∃ q, seq ts[i].n p.ty = q := ⟨_, rfl⟩
 obtain ⟨q2, hq2⟩ : ∃ q, hld ts ws own kn 8 p.c = q := ⟨_, rfl⟩
 rw [hq1] at hIO hHO ⊢
 rw [hq2] at hHO ⊢
 clear hk hd hp hw hA z1 o2 hCL hA1 hi e1 et hq1 hq2
 obtain ⟨B, hAB⟩ := hAC
 obtain ⟨tp, tn, tc, htv⟩ := rd_shape hs.rt
 obtain ⟨op, on2, oc, hov⟩ := rd_shape hs.ro
 obtain ⟨wp, wn, wc, hwv⟩ := rd_shape hs.rw
 obtain ⟨kp, kn2, kc, hkv⟩ := rd_shape hs.rk
 subst htv hov hwv hkv
 obtain ⟨on, ot, ost, oen, ovl⟩ := own
 simp only [snV, evV] at hIO hHO ⊢
 obtain ⟨UL, hUL⟩ : ∃ UL : List Value, [.slice tp tn tc, .int .i64 on, .int .i64 ot, .int .i64 ost, .int .i64 oen, .slice op on2 oc, .slice wp wn wc, .slice kp kn2 kc] = UL := ⟨_, rfl⟩
 obtain ⟨XL, hXL⟩ : ∃ XL : List Value, ([.int .i64 on, .int .i64 ot, .int .i64 ost, .int .i64 oen, .slice op on2 oc] : List Value) = XL := ⟨_, rfl⟩
 have hB : Bxs w (((w.alloc (.cells UL.toArray 55)).alloc (.cells A.toArray 65))) [(UL, 55), (A, 65)] := bxs2 w _ _ _ _
 have HIO : Hid (∀ W, Below w.heap.size w W → Calls Tryz.prog 31 #[.slice tp tn tc, .agg XL.toArray, .agg A.toArray] W fun e w' => e = .returned (.bool q1) ∧ Below W.heap.size W w') := fun W hW => by rw [← hXL]; exact hIO W hW
 have HHO : Hid (q1 = true → ∀ W, Below w.heap.size w W → Calls Tryz.prog 32 #[.agg UL.toArray, .agg CL.toArray] W fun e w' => e = .returned (.bool q2) ∧ Below W.heap.size W w') := fun hq W hW => by rw [← hUL]; exact hHO hq W hW
 have ZU : Hid ((Tryz.prog.info? 55).map (·.size) = some UL.length) := by show _ = _; rw [← hUL]; kernel_rfl
 have ZX : Hid ((Tryz.prog.info? 30).map (·.size) = some XL.length) := by show _ = _; rw [← hXL]; kernel_rfl
 have ZP : Hid ((Tryz.prog.info? 65).map (·.size) = some A.length) := by show _ = _; rw [hAz]; kernel_rfl
 have ZC : Hid ((Tryz.prog.info? 63).map (·.size) = some CL.length) := by show _ = _; rw [hCz]; kernel_rfl
 have hUX : UL = [.slice tp tn tc] ++ (XL ++ [.slice wp wn wc, .slice kp kn2 kc]) := by rw [← hUL, ← hXL]; rfl
 have cT : ((w.alloc (.cells UL.toArray 55)).alloc (.cells A.toArray 65)).cell? ⟨w.heap.size, 0, none⟩ = some (.slice tp tn tc) := by rw [show w.heap.size = w.heap.size + 0 from rfl, hB.c 0 (by simp) 0, ← hUL]; rfl
 have XE : Hid ((((w.alloc (.cells UL.toArray 55)).alloc (.cells A.toArray 65))).rangeAt w.heap.size 1 XL) := by
  have h := range_in (A := UL) (t := 55) (hB.b 0 (by simp)) (C := [Value.slice tp tn tc]) (B := XL ++ [Value.slice wp wn wc, Value.slice kp kn2 kc]) hUX rfl 5
  have e : (XL ++ [Value.slice wp wn wc, Value.slice kp kn2 kc]).take 5 = XL := by rw [← hXL]; rfl
  rw [e] at h
  exact h
 have XP := hid (hB.r 1 (by simp))
 have HXC : Hid (∀ W, Bxs w W [(UL, 55), (A, 65)] → W.rangeAt (w.heap.size + 1) 2 CL) := fun W h => by
  have h := range_in (A := A) (t := 65) (h.b 1 (by simp)) (C := [Value.string p.va, Value.string p.ty]) (B := CL ++ B) hAB rfl 14
  have e : (CL ++ B).take 14 = CL := by rw [List.take_append_of_le_length (by omega), List.take_of_length_le (by omega)]
  rw [e] at h
  exact h
 have hsv : (Value.agg #[.slice tp tn tc, .int .i64 on, .int .i64 ot, .int .i64 ost, .int .i64 oen, .slice op on2 oc, .slice wp wn wc, .slice kp kn2 kc]) = .agg UL.toArray := by rw [← hUL]
 rw [hsv]
 have HB := hid hB
 clear hB hs hIO hHO hUL hXL hAB hAz hCz hUX hsv
 cases q1 with
 | true =>
  have HH2 := hid (HHO.out rfl)
  go_enter Tryz.func15, Tryz.ntmps15
  go_wp2_with (first
    | ((with_reducible refine gLq ?_); refine wpList_load_mid (by rfl) 30 _ (by rfl) w.heap.size 1 (by rfl) XL _ XE.out Tryz.underlying30 rfl ZX.out ?_)
    | ((with_reducible refine gLq ?_); refine wpList_load_mid (by rfl) 65 _ (by rfl) (w.heap.size + 1) 0 (by rfl) A _ XP.out Tryz.underlying65 rfl ZP.out ?_))
  refine (HIO.out _ HB.out.bel).mono ?_
  rintro e w1 ⟨rfl, hb1⟩
  have HB1 := hid (HB.out.next hb1)
  clear hb1 cT XE XP
  have XS := hid (HB1.out.r 0 (by simp))
  have XC := hid (HXC.out _ HB1.out)
  go_wp2_with (first
    | ((with_reducible refine gLq ?_); refine wpList_load_g (by rfl) 55 _ (by rfl) w.heap.size 0 (by rfl) UL _ XS.out Tryz.underlying55 rfl ZU.out ?_)
    | ((with_reducible refine gLq ?_); refine wpList_load_g (by rfl) 63 _ (by rfl) (w.heap.size + 1) 2 (by rfl) CL _ XC.out Tryz.underlying63 rfl ZC.out ?_))
  refine (HH2.out _ HB1.out.bel).mono ?_
  rintro e w2 ⟨rfl, hb2⟩
  have HB2 := hid (HB1.out.next hb2)
  clear hb2
  go_wp2_with fail
  go_ret
  exact ⟨ret_bool (by simp), HB2.out.bel⟩
 | false =>
  go_enter Tryz.func15, Tryz.ntmps15
  go_wp2_with (first
    | ((with_reducible refine gLq ?_); refine wpList_load_mid (by rfl) 30 _ (by rfl) w.heap.size 1 (by rfl) XL _ XE.out Tryz.underlying30 rfl ZX.out ?_)
    | ((with_reducible refine gLq ?_); refine wpList_load_mid (by rfl) 65 _ (by rfl) (w.heap.size + 1) 0 (by rfl) A _ XP.out Tryz.underlying65 rfl ZP.out ?_))
  refine (HIO.out _ HB.out.bel).mono ?_
  rintro e w1 ⟨rfl, hb1⟩
  have HB1 := hid (HB.out.next hb1)
  clear hb1
  go_wp2_with fail
  go_ret
  exact ⟨ret_bool (by simp), HB1.out.bel⟩
def efs (ts : List Tp) : List Ev → Int
  | [] => 0
  | x :: r => if evk ts x ≠ 0 then evk ts x else efs ts r
theorem efs_all {ts : List Tp} : ∀ (l : List Ev), efs ts l = 0 → ∀ x, x ∈ l → evk ts x = 0
 | [], _, x, hx => by cases hx
 | y :: r, h, x, hx => by
  rw [efs] at h
  split at h
  . rename_i c; exact absurd h c
  . rename_i c
    rcases List.mem_cons.1 hx with rfl | hx
    . exact Classical.byContradiction c
    . exact efs_all r h x hx
set_option maxHeartbeats 16000000 in
theorem checkEvents_s (ts : List Tp) (x : Ev) (kn : List Ev) (tv u kv : Value) (w : World) (hT : Rd w (.row 72 2 (ts.map encY)) tv) (hu : Rd w (.row 59 3 (x.v.map encV)) u) (hK : Rd w (.row 30 5 (kn.map encX)) kv) :
   Calls Tryz.prog 12 #[tv, evV x u, kv] w fun e w' => e = .returned (.int .i64 (if evk ts x ≠ 0 then evk ts x else efs ts kn)) ∧ Below w.heap.size w w' := by
 have hC := fun W (hW : Below w.heap.size w W) => checkEvent_p ts x tv u W (hT.later hW) (hu.later hW)
 have hCk := fun (y : Ev) (yv : Value) W (hW : Below w.heap.size w W) (hy : Rd W (.row 59 3 (y.v.map encV)) yv) => checkEvent_p ts y tv yv W (hT.later hW) hy
 obtain ⟨E0, hE0⟩ : ∃ E, evk ts x = E := ⟨_, rfl⟩
 rw [hE0] at hC ⊢
 obtain ⟨tp, tn, tc, rfl⟩ := rd_shape hT
 obtain ⟨up, un, uc, rfl⟩ := rd_shape hu
 have HK := hid hK
 obtain ⟨kp, kc, rfl, hmx, _⟩ := rd_row lenX hK
 obtain ⟨n, hnl⟩ : ∃ n, kn.length = n := ⟨_, rfl⟩
 have HN := hid hnl
 rw [hnl] at hmx HK ⊢
 obtain ⟨R, hRR⟩ : ∃ R, efs ts kn = R := ⟨_, rfl⟩
 have HR := hid hRR
 rw [hRR]
 obtain ⟨xn, xt, xs, xe, xv⟩ := x
 simp only [evV] at hC ⊢
 have hB : BlkT w (w.alloc (.cells #[.int .i64 xn, .int .i64 xt, .int .i64 xs, .int .i64 xe, .slice up un uc] 30)) [.int .i64 xn, .int .i64 xt, .int .i64 xs, .int .i64 xe, .slice up un uc] 30 := BlkT.start w _ _
 have HC := hid hC
 have HCK := hid hCk
 have HB := hid hB
 have XR := hid (range_blk hB.b1)
 clear hT hu hK hE0 hnl hRR hC hCk hB
 by_cases hz : E0 = 0
 . rw [if_neg (fun c => c hz)]
   subst hz
   go_enter Tryz.func12, Tryz.ntmps12
   go_wp2_with ((with_reducible refine gLq ?_); refine wpList_load_mid (by rfl) 30 _ (by rfl) w.heap.size 0 (by rfl) [.int .i64 xn, .int .i64 xt, .int .i64 xs, .int .i64 xe, .slice up un uc] _ XR.out Tryz.underlying30 rfl (by kernel_rfl) ?_)
   refine (HC.out _ HB.out.bel).mono ?_
   rintro e w0 ⟨rfl, hb0⟩
   have HB0 := hid (HB.out.next hb0).bel
   clear hb0 XR HB
   go_wp2_with fail
   go_loopg [19] (n + 1) (fun gg i wr => ∃ k : Nat, k ≤ n ∧ gg = n + 1 - k ∧ i = .int .i64 (k : Nat) ∧ efs ts (kn.drop k) = R ∧ Below w.heap.size w wr)
   case atStart => exact ⟨0, by omega, by omega, rfl, by simpa using HR.out, HB0.out⟩
   case round =>
    obtain ⟨k, hk, rfl, rfl, hev, hB⟩ := hrel
    have HB := hid hB
    by_cases hlt : k < n
    . have hkc : k < kn.length := by have := HN.out; omega
      obtain ⟨p', cap', e0, _, hat⟩ := rd_row lenX (HK.out.later hB)
      simp only [Value.slice.injEq] at e0
      obtain ⟨e01, hx0, e02⟩ := e0
      obtain ⟨g, off, e03, hrd⟩ := hat (by omega)
      obtain ⟨A, r1, o1⟩ := hrd wr (Below.refl _ _) k hkc
      obtain ⟨yv, z1, o2⟩ := rdX o1
      obtain ⟨a1, a2, a3, hu1⟩ := rd_shape o2
      obtain rfl : kp = some ⟨g, off, none⟩ := e01.trans e03
      have hAz : A.length = 5 := o1.1.symm
      rw [List.drop_eq_getElem_cons hkc, efs] at hev
      have hcall := fun W (hW : Below wr.heap.size wr W) => HCK.out kn[k] yv W (below_trans hB hW hB.size) (o2.later hW)
      obtain ⟨e9, he9⟩ : ∃ e9, evk ts kn[k] = e9 := ⟨_, rfl⟩
      rw [he9] at hcall hev
      have HCM : Hid (∀ W, Below wr.heap.size wr W → Calls Tryz.prog 30 #[.slice tp tn tc, .agg A.toArray] W fun e w' => e = .returned (.int .i64 e9) ∧ Below W.heap.size W w') := fun W hW => by rw [z1]; exact hcall W hW
      have HAO : Hid (A.all (·.oneCell') = true) := by show _ = _; rw [z1, hu1]; rfl
      have ZA : Hid ((Tryz.prog.info? 30).map (·.size) = some A.length) := by show _ = _; rw [hAz]; kernel_rfl
      have HAL := hid hAz
      have X1_ := hid r1
      have HEV := hid hev
      have i1 : (0 : Int) ≤ (k : Int) := by omega
      have i2 : (k : Int) < (n : Int) := by omega
      clear hB hat hrd r1 o1 hAz hev hx0 hcall he9 z1 hu1 o2 e01 e02 e03
      go_wp2_with (first
        | ((with_reducible refine gLq ?_); refine wpList_load_mid (by rfl) 30 _ (by rfl) g (off + k * 5) (by rfl) A _ X1_.out Tryz.underlying30 rfl ZA.out ?_)
        | ((with_reducible refine gSq ?_); refine wp_st (by rfl) 30 _ _ (by rfl) wr.heap.size 0 _ 30 (.agg A.toArray) A (by rfl) (by rfl) (by rfl) (heap_alloc_new _ _) (by have := HAL.out; simp; omega) ZA.out HAO.out ?_; intro w1 hblk hfr; rw [ovr_all (by rw [HAL.out]; rfl)] at hblk; have XB : Hid (w1.rangeAt wr.heap.size 0 A) := range_blk hblk; have HBK := hid hblk; have HBW : Hid (Below wr.heap.size wr w1) := new_store hfr; clear hblk hfr)
        | ((with_reducible refine gLq ?_); refine wpList_load_mid (by rfl) 30 _ (by rfl) wr.heap.size 0 (by rfl) A _ XB.out Tryz.underlying30 rfl ZA.out ?_))
      refine (HCM.out _ HBW.out).mono ?_
      rintro e w2 ⟨rfl, hb2⟩
      have HB2 := hid (below_trans HB.out (below_trans HBW.out hb2 HBW.out.size) HB.out.size)
      clear hb2
      by_cases hz : e9 = 0
      . have HE2 := HEV.out
        rw [if_neg (fun c => c hz)] at HE2
        have HE3 := hid HE2
        subst hz
        clear HE2
        go_wp2_with fail
        go_roundg (n + 1 - (k + 1))
        case rel => exact ⟨k + 1, by omega, rfl, by go_num, HE3.out, HB2.out⟩
        case measure => omega
      . have HE2 : Hid (R = e9) := by have h := HEV.out; rw [if_pos hz] at h; exact h.symm
        have d9 : (e9 != 0) = true := by simpa using hz
        clear hz
        go_wp2_with fail
        go_ret
        exact ⟨ret_int HE2.out.symm, HB2.out⟩
    . obtain rfl : k = n := by omega
      have hd : kn.drop k = [] := List.drop_of_length_le (by have := HN.out; omega)
      rw [hd, efs] at hev
      have HE2 : Hid (R = 0) := hev.symm
      clear hev hd hB
      go_wp2_with fail
      go_ret
      exact ⟨ret_int HE2.out.symm, HB.out⟩
 . rw [if_pos hz]
   have d9 : (E0 != 0) = true := by simpa using hz
   clear hz
   go_enter Tryz.func12, Tryz.ntmps12
   go_wp2_with ((with_reducible refine gLq ?_); refine wpList_load_mid (by rfl) 30 _ (by rfl) w.heap.size 0 (by rfl) [.int .i64 xn, .int .i64 xt, .int .i64 xs, .int .i64 xe, .slice up un uc] _ XR.out Tryz.underlying30 rfl (by kernel_rfl) ?_)
   refine (HC.out _ HB.out.bel).mono ?_
   rintro e w0 ⟨rfl, hb0⟩
   have HB0 := hid (HB.out.next hb0).bel
   clear hb0
   go_wp2_with fail
   go_ret
   exact ⟨rfl, HB0.out⟩
def kfs (ts : List Tp) : List Ev → List Pt → Int
  | x :: r, p :: q => if seq (ts.getD x.t.toNat dT).n p.ty = true then kfs ts r q else 13
  | _, _ => 0
def knk (ts : List Tp) (ws : List Pt) (kn : List Ev) : Int := if kn.length ≠ ws.length then 4 else kfs ts kn ws
theorem kfs_ok {ts : List Tp} (hd : Dst ts) : ∀ (kn : List Ev) (ws : List Pt), kfs ts kn ws = 0 → (∀ x, x ∈ kn → evk ts x = 0) → ∀ j (hj : j < kn.length) (hw : j < ws.length), evk ts kn[j] = 0 ∧ tyq ts ws[j].ty = kn[j].t
 | [], _, _, _, j, hj, _ => by simp at hj
 | _ :: _, [], _, _, j, _, hw => by simp at hw
 | x :: r, p :: q, h, hk, j, hj, hw => by
  rw [kfs] at h
  split at h
  . rename_i c
    cases j with
    | zero =>
     have he := hk x (List.mem_cons_self ..)
     obtain ⟨i, hi, e1, _, _⟩ := evk_ok he
     rw [e1, Int.toNat_natCast, getD_lt hi] at c
     exact ⟨he, by show tyq ts p.ty = x.t; rw [e1, ← tyq_congr c]; exact hd i hi⟩
    | succ j => exact kfs_ok hd r q h (fun y hy => hk y (List.mem_cons_of_mem _ hy)) j (by simpa using hj) (by simpa using hw)
  . omega
theorem knk_ok {ts : List Tp} {ws : List Pt} {kn : List Ev} (hd : Dst ts) (h : knk ts ws kn = 0) (hk : ∀ x, x ∈ kn → evk ts x = 0) : Kok ts ws kn := by
 unfold knk at h
 split at h
 . omega
 . rename_i c
   exact ⟨Classical.byContradiction c, kfs_ok hd kn ws h hk⟩
theorem ent_isof : ∀ args w, (callFunc 31 args).run Tryz.prog w = .ok (.enter 31 args) w := enters_of Tryz.func31 (by kernel_rfl) rfl
set_option maxHeartbeats 32000000 in
theorem checkKnown_s (ts : List Tp) (ws : List Pt) (kn : List Ev) (tv wv kv : Value) (hev : ∀ x, x ∈ kn → evk ts x = 0) (w : World) (hrt : Rd w (.row 72 2 (ts.map encY)) tv) (hrw : Rd w (.row 65 18 (ws.map encP)) wv) (hrk : Rd w (.row 30 5 (kn.map encX)) kv) :
   Calls Tryz.prog 14 #[tv, wv, kv] w fun e w' => e = .returned (.int .i64 (knk ts ws kn)) ∧ Below w.heap.size w w' := by
 obtain ⟨tp, tn, tc, htv⟩ := rd_shape hrt
 obtain ⟨wp, wc, hwv, hmw, hatw⟩ := rd_row lenP hrw
 obtain ⟨kp, kc, hkv, hmk, hatk⟩ := rd_row lenX hrk
 have HIS := hid (fun (x : Ev) (u : Value) (B : List Value) (pty : ByteArray) W (hW : Below w.heap.size w W) hus hA i hi hx => isOf_s ts tv x u B pty W (hrt.later hW) hus hA i hi hx)
 have HEV := hid hev
 subst htv hwv hkv
 unfold knk
 obtain ⟨n, hn⟩ : ∃ n, kn.length = n := ⟨_, rfl⟩
 obtain ⟨m, hm⟩ : ∃ m, ws.length = m := ⟨_, rfl⟩
 have HN := hid hn
 have HM := hid hm
 have HAW : Hid (At encP 18 w wp ws) := hatw
 have HAK : Hid (At encX 5 w kp kn) := hatk
 rw [hn, hm]
 rw [hn] at hmk
 rw [hm] at hmw
 by_cases hne : n = m
 . rw [if_neg (fun c => c hne)]
   subst hne
   obtain ⟨R, hRR⟩ : ∃ R, kfs ts kn ws = R := ⟨_, rfl⟩
   have HR := hid hRR
   rw [hRR]
   clear hrt hrw hrk hev hatw hatk hn hm hRR
   go_enter Tryz.func14, Tryz.ntmps14
   go_wp2_with fail
   go_loopg [16] (n + 1) (fun gg i wr => ∃ k : Nat, k ≤ n ∧ gg = n + 1 - k ∧ i = .int .i64 (k : Nat) ∧ kfs ts (kn.drop k) (ws.drop k) = R ∧ Below w.heap.size w wr)
   case atStart => exact ⟨0, by omega, by omega, rfl, by simpa using HR.out, Below.refl _ _⟩
   case round =>
    obtain ⟨k, hk, rfl, rfl, hkf, hT⟩ := hrel
    have HT := hid hT
    by_cases hlt : k < n
    . have hkc : k < kn.length := by have := HN.out; omega
      have hwc : k < ws.length := by have := HM.out; omega
      obtain ⟨g, off, e03, hrd⟩ := HAK.out (by omega)
      obtain ⟨A, r1, o1⟩ := hrd wr hT k hkc
      obtain ⟨yv, z1, o2⟩ := rdX o1
      obtain ⟨a1, a2, a3, hu1⟩ := rd_shape o2
      obtain ⟨g2, off2, e13, hrd2⟩ := HAW.out (by omega)
      obtain ⟨A2, r2, o3⟩ := hrd2 w (Below.refl _ _) k hwc
      obtain ⟨vc, z2, _⟩ := rdP o3
      subst e03 e13
      have hAz : A.length = 5 := o1.1.symm
      have hAz2 : A2.length = 18 := o3.1.symm
      obtain ⟨i, hi, ei, m1, m2⟩ := evk_ok (HEV.out _ (List.getElem_mem hkc))
      clear m1 m2
      have et : ts.getD kn[k].t.toNat dT = ts[i] := by rw [ei, Int.toNat_natCast]; exact getD_lt hi _
      rw [List.drop_eq_getElem_cons hkc, List.drop_eq_getElem_cons hwc, kfs, et] at hkf
      have hcall := fun W (hW : Below w.heap.size w W) => HIS.out kn[k] yv A2 ws[k].ty W hW ⟨_, _, _, hu1⟩ (by rw [z2]; rfl) i hi ei
      obtain ⟨q9, hq9⟩ : ∃ q, seq ts[i].n ws[k].ty = q := ⟨_, rfl⟩
      rw [hq9] at hcall hkf
      have HI1 : Hid (∀ W, Below w.heap.size w W → Calls Tryz.prog 31 #[.slice tp tn tc, .agg A.toArray, .agg A2.toArray] W fun e w' => e = .returned (.bool q9) ∧ Below W.heap.size W w') := fun W hW => by rw [z1]; exact hcall W hW
      have HAO : Hid (A.all (·.oneCell') = true) := by show _ = _; rw [z1, hu1]; rfl
      have ZA : Hid ((Tryz.prog.info? 30).map (·.size) = some A.length) := by show _ = _; rw [hAz]; kernel_rfl
      have ZA2 : Hid ((Tryz.prog.info? 65).map (·.size) = some A2.length) := by show _ = _; rw [hAz2]; kernel_rfl
      have HAL := hid hAz
      have X1_ := hid r1
      have X2_ := hid r2
      have HKF := hid hkf
      have i1 : (0 : Int) ≤ (k : Int) := by omega
      have i2 : (k : Int) < (n : Int) := by omega
      clear hT hrd hrd2 r1 r2 o1 o3 hAz hAz2 hkf hcall hq9 z1 z2 hu1 o2 et ei hi
      go_wp2_with (first
       | ((with_reducible refine gLq ?_); refine wpList_load_mid (by rfl) 30 _ (by rfl) g (off + k * 5) (by rfl) A _ X1_.out Tryz.underlying30 rfl ZA.out ?_)
       | ((with_reducible refine gSq ?_); refine wp_st (by rfl) 30 _ _ (by rfl) wr.heap.size 0 _ 30 (.agg A.toArray) A (by rfl) (by rfl) (by rfl) (heap_alloc_new _ _) (by have := HAL.out; simp; omega) ZA.out HAO.out ?_; intro w1 hblk hfr; rw [ovr_all (by rw [HAL.out]; rfl)] at hblk; have XB : Hid (w1.rangeAt wr.heap.size 0 A) := range_blk hblk; have HBK := hid hblk; have HBW : Hid (Below wr.heap.size wr w1) := new_store hfr; clear hblk hfr))
      have HT1 := hid (below_trans HT.out HBW.out HT.out.size)
      have HIO := hid (fun W (hW : Below w1.heap.size w1 W) => HI1.out W (below_trans HT1.out hW HT1.out.size))
      have HS6 : Hid (∀ W, Below w1.heap.size w1 W → (W.rangeAt wr.heap.size 0 A ∧ W.rangeAt g2 (off2 + k * 18) A2)) := fun W hW => ⟨range_below XB.out hW, range_below X2_.out (below_trans HT1.out hW HT1.out.size)⟩
      refine start_n (S := (fun w' => w'.rangeAt wr.heap.size 0 A ∧ w'.rangeAt g2 (off2 + k * 18) A2)) 8 #[false, false, false, false, false, false, false, false] rfl rfl (by kernel_rfl) (HS6.out _ (Below.drew (Below.refl _ _))) (fun hHeld => ?_)
      refine tkq (i := 0) (v := ?v1) rfl ?hy1 ?rest1; (case hy1 => intro w0 hSw; (try dsimp only at hSw); go_simp <;> (try (with_reducible rfl))); (try simp only [puts])
      refine tkq (i := 2) (v := ?v2) rfl ?hy2 ?rest2; (case hy2 => intro w0 hSw; (try dsimp only at hSw); go_simp <;> (try (with_reducible rfl))); (try simp only [puts])
      refine tkq (i := 3) (v := ?v3) rfl ?hy3 ?rest3; (case hy3 => intro w0 hSw; (try dsimp only at hSw); go_simp <;> (try (with_reducible rfl))); (try simp only [puts])
      refine tkq (i := 4) (v := ?v4) rfl ?hy4 ?rest4; (case hy4 => intro w0 hSw; (try dsimp only at hSw); go_simp <;> (try (with_reducible rfl))); (try simp only [puts])
      refine tlq (i := 1) rfl (yieldsIf_load_mid (by rfl) 30 _ rfl wr.heap.size (0) (by rfl) A _ (fun _ h => h.1) Tryz.underlying30 rfl ZA.out) ?_
      (try simp only [puts])
      refine tlq (i := 5) rfl (yieldsIf_load_mid (by rfl) 65 _ rfl g2 (off2 + k * 18) (by rfl) A2 _ (fun _ h => h.2) Tryz.underlying65 rfl ZA2.out) ?_
      (try simp only [puts])
      refine wpAnyH_ready (rs := [6]) (by kernel_rfl) (by simp) ?_
      refine cons_mk rfl (fun K hK => ?_) AllReadyH.nil
      refine step_call3 31 ent_isof (by rfl) _ _ _ _ (by rfl) (.slice tp tn tc) (.agg A.toArray) (.agg A2.toArray) (by rfl) (by rfl) (by rfl) _ (HIO.out _ (Below.drew (Below.refl _ _))) ?_
      rintro e w3 ⟨rfl, hb3⟩
      refine ⟨_, rfl, ?_⟩
      have HB3 : Hid (Below w1.heap.size w1 w3) := below_trans (Below.drew (Below.refl _ _)) hb3 (Nat.le_refl _)
      clear hb3
      refine hK.out _ _ (HS6.out _ HB3.out) (fun hHeld => ?_)
      clear hK K
      (try simp only [puts])
      refine tkq (i := 7) (v := ?v5) rfl ?hy5 ?rest5; (case hy5 => intro w0 hSw; (try dsimp only at hSw); go_simp <;> (try (with_reducible rfl))); (try simp only [puts])
      refine wpAnyH_done (by kernel_rfl) ?_ _
      have HT3 := hid (below_trans HT1.out HB3.out HT1.out.size)
      clear HS6 HIO HI1 HT1
      cases q9 with
      | true =>
       have HE3 : Hid (kfs ts (kn.drop (k + 1)) (ws.drop (k + 1)) = R) := by have h := HKF.out; rw [if_pos rfl] at h; exact h
       go_wp2_with fail
       go_roundg (n + 1 - (k + 1))
       case rel => exact ⟨k + 1, by omega, rfl, by go_num, HE3.out, HT3.out⟩
       case measure => omega
      | false =>
       have HE3 : Hid (R = 13) := by have h := HKF.out; rw [if_neg (by decide)] at h; exact h.symm
       go_wp2_with fail
       go_ret
       exact ⟨ret_int HE3.out.symm, HT3.out⟩
    . obtain rfl : k = n := by omega
      have hd : kn.drop k = [] := List.drop_of_length_le (by have := HN.out; omega)
      rw [hd, kfs] at hkf
      have HE2 : Hid (R = 0) := hkf.symm
      clear hkf hd hT
      go_wp2_with fail
      go_ret
      exact ⟨ret_int HE2.out.symm, HT.out⟩
      all_goals (intro x r p q h; cases h)
 . rw [if_pos hne]
   have d9 : ((n : Int) != (m : Int)) = true := by simp; omega
   have d8 : ¬ (n : Int) = (m : Int) := by omega
   have d7 : (n = m) = False := by simp [hne]
   clear hrt hrw hrk hev hatw hatk hn hm HIS hne
   go_enter Tryz.func14, Tryz.ntmps14
   go_wp2_with fail
   go_ret
   exact ⟨rfl, Below.refl _ _⟩
def asq (part : Int) (k : Nat) (ws : List Pt) : List Pt := if part = 0 then ws.take k else ws
set_option maxHeartbeats 8000000 in
theorem asked_s (r : Rl) (u1 u2 u3 u4 u5 : Value) (w : World) (h1 : Rd w (.row 65 18 (r.w.map encP)) u1) (h2 : Rd w (.row 65 18 (r.t.map encP)) u2) (h3 : Rd w (.row 68 20 (r.m.map encM)) u3) (h4 : Rd w (.row 103 3 (r.k.map encK)) u4) (h5 : Rd w (.row 61 6 (r.e.v.map encO)) u5) (part at_ : Int) (k : Nat) (hk : part = 0 → at_ = (k : Int) ∧ k ≤ r.w.length) :
   Calls Tryz.prog 13 #[.agg #[.string r.n, u1, u2, u3, u4, .string r.e.ty, u5], .int .i64 part, .int .i64 at_] w fun e w' => ∃ v, e = .returned v ∧ (∀ W', Rd W' (.row 65 18 (r.w.map encP)) u1 → Rd W' (.row 65 18 ((asq part k r.w).map encP)) v) ∧ Below w.heap.size w w' := by
 obtain ⟨q1, j1, e1, _, _⟩ := rd_row lenP h1
 obtain ⟨q2, j2, e2, _, _⟩ := rd_row lenP h2
 obtain ⟨q3, j3, e3, _, _⟩ := rd_row lenM h3
 obtain ⟨q4, l4, j4, e4⟩ := rd_shape h4
 obtain ⟨q5, l5, j5, e5⟩ := rd_shape h5
 subst e1 e2 e3 e4 e5
 have hcp := rd_cap h1
 by_cases hp : part = 0
 . obtain ⟨rfl, hkl⟩ := hk hp
   have htk := fun W' (h : Rd W' (.row 65 18 (r.w.map encP)) (.slice q1 r.w.length j1)) => rd_take h k hkl
   have e : asq part k r.w = r.w.take k := by unfold asq; rw [if_pos hp]
   rw [e]
   subst hp
   obtain ⟨rn, ws, ns, ms, ks, ⟨ety, vs⟩⟩ := r
   simp only at htk hkl hcp ⊢
   have HTK := hid htk
   obtain ⟨LD, hLD⟩ : ∃ LD, (ws.take k).map encP = LD := ⟨_, rfl⟩
   obtain ⟨LE, hLE⟩ : ∃ LE, ws.map encP = LE := ⟨_, rfl⟩
   rw [hLD, hLE] at HTK ⊢
   clear hLD hLE
   generalize ws.length = l1 at *
   generalize ns.length = l2
   generalize ms.length = l3
   have HB : Hid (Below w.heap.size w (w.alloc (.cells #[.string rn, .slice q1 l1 j1, .slice q2 l2 j2, .slice q3 l3 j3, .slice q4 l4 j4, .string ety, .slice q5 l5 j5] 49))) := (Below.refl _ _).alloc (Nat.le_refl _) _
   have i1 : (0 : Int) ≤ (k : Int) := by omega
   have i2 : (k : Int) ≤ (j1 : Int) := by omega
   have i3 : (j1 < k) = False := by simp; omega
   clear h1 h2 h3 h4 h5 hk htk
   go_enter Tryz.func13, Tryz.ntmps13
   go_wp2_with fail
   all_goals
    go_ret
    exact ⟨_, rfl, HTK.out, HB.out⟩
 . have e : asq part k r.w = r.w := by unfold asq; rw [if_neg hp]
   rw [e]
   obtain ⟨rn, ws, ns, ms, ks, ⟨ety, vs⟩⟩ := r
   simp only
   obtain ⟨l1, hl1⟩ : ∃ l, ws.length = l := ⟨_, rfl⟩
   rw [hl1]
   generalize ns.length = l2
   generalize ms.length = l3
   have HB : Hid (Below w.heap.size w (w.alloc (.cells #[.string rn, .slice q1 l1 j1, .slice q2 l2 j2, .slice q3 l3 j3, .slice q4 l4 j4, .string ety, .slice q5 l5 j5] 49))) := (Below.refl _ _).alloc (Nat.le_refl _) _
   have d0 : decide (part = 0) = false := by simpa using hp
   have d1 : (part == 0) = false := by simpa using hp
   clear h1 h2 h3 h4 h5 hk hcp hl1 e
   go_enter Tryz.func13, Tryz.ntmps13
   go_wp2_with fail
   go_ret
   exact ⟨_, rfl, fun W' h => h, HB.out⟩
def prt (part : Int) (r : Rl) : List Pt := if part = 0 then r.w else if part = 1 then r.t else if part = 2 then r.m.map Mn.p else []
section
variable {ops : Array Oper} {rest : List Oper} {o : Oper} {a : Act} {w : World} {Q : Exit → Act → World → Prop}
theorem wp_mkP (hgd : o.guard = none) (x : Operand) (ho : o.op = .makeSlice 42 x x) (n : Nat) (hn : n ≤ 1000) (hx : a.eval x = .int .i64 (n : Nat))
  (h : ∀ (zs : List Value), zs.length = n * 18 → wpList Tryz.prog ops Q rest (a.put o.dst (.slice (some ⟨w.heap.size, 0, none⟩) n n)) (w.alloc (.cells zs.toArray 65))) : wpList Tryz.prog ops Q (o :: rest) a w := by
 refine wpList_plain hgd fun K hK => ?_
 obtain ⟨i0, b1, b2, b3, b4⟩ := info_parts infoP
 have hr := run_make (P := Tryz.prog) w 42 65 i0 zP Tryz.underlying42 b1 b2 .i64 .i64 n n (by omega) (Int.le_refl _) (by rw [b4]; omega) (by omega)
 simp only [Int.toNat_natCast] at hr
 rw [b3] at hr
 have h2 := h (madeCells zP.cells (n * 18)).toList (by rw [Array.length_toList, size_madeCells])
 rw [Array.toArray_toList] at h2
 unfold Oper.wp
 simp [execOp, ho, hx, hr, Result.andThen]
 exact hK _ _ h2
end
def Mks (w wr : World) (nb n k : Nat) (L : List Pt) : Prop := ∃ xs zs : List Value, wr.heap[nb]? = some (.cells (xs ++ zs).toArray 65 (0, 0)) ∧ xs.length = k * 18 ∧ zs.length = (n - k) * 18 ∧ RdL w (L.map encP).flatten xs
theorem Mks.store {w wr W : World} {nb n k : Nat} {L : List Pt} {B : List Value} {p : Pt} {o : Nat} (h : Mks w wr nb n k L) (hk : k < n) (ho : o = k * 18) (cs : List Value) (hcs : wr.heap[nb]? = some (.cells cs.toArray 65 (0, 0))) (hB : RdL w (encP p) B) (hb : W.heap[nb]? = some (.cells (ovr cs o B).toArray 65 (0, 0))) : Mks w W nb n (k + 1) (L ++ [p]) := by
 obtain ⟨xs, zs, e1, e2, e3, e4⟩ := h
 have hBl : B.length = 18 := hB.1.symm
 rw [e1] at hcs
 have e : xs ++ zs = cs := by
   have := Option.some.inj hcs
   simp at this
   exact this
 have hkn : n - k = (n - (k + 1)) + 1 := by omega
 have h18 : 18 ≤ zs.length := by rw [e3, hkn]; omega
 have h19 : zs.length - 18 = (n - (k + 1)) * 18 := by rw [e3, hkn]; omega
 refine ⟨xs ++ B, zs.drop 18, ?_, by rw [List.length_append, e2, hBl]; omega, by rw [List.length_drop]; exact h19, ?_⟩
 . rw [hb, ← e, ho]
   unfold ovr
   rw [List.take_append_of_le_length (by omega), List.take_of_length_le (by omega), List.drop_append, List.drop_of_length_le (by omega), hBl]
   simp [e2, List.append_assoc]
 . rw [List.map_append, List.flatten_append]
   exact rdl_app e4 (by simpa using hB)
theorem Mks.rd {w wr : World} {nb n : Nat} {L : List Pt} (h : Mks w wr nb n n L) (hL : L.length = n) (hn : n ≤ maxLen) (hb : Below w.heap.size w wr) : Rd wr (.row 65 18 (L.map encP)) (.slice (some ⟨nb, 0, none⟩) n n) := by
 obtain ⟨xs, zs, e1, e2, e3, e4⟩ := h
 obtain rfl : zs = [] := List.eq_nil_of_length_eq_zero (by simpa using e3)
 rw [List.append_nil] at e1
 by_cases h0 : n = 0
 . subst h0
   obtain rfl : L = [] := List.eq_nil_of_length_eq_zero hL
   exact .nil _ _ _ _ hn
 . have h4 := e4.below hb
   have := Rd.row (w := wr) 65 18 (L.map encP) nb 0 n xs (by simp; omega) (by simp; omega) hn (range_blk e1) h4.1 h4.2
   rw [List.length_map, hL] at this
   exact this
set_option maxHeartbeats 16000000 in
theorem patS_two (r : Rl) (u1 u2 u3 u4 u5 : Value) (w : World) (h1 : Rd w (.row 65 18 (r.w.map encP)) u1) (h2 : Rd w (.row 65 18 (r.t.map encP)) u2) (h3 : Rd w (.row 68 20 (r.m.map encM)) u3) (h4 : Rd w (.row 103 3 (r.k.map encK)) u4) (h5 : Rd w (.row 61 6 (r.e.v.map encO)) u5) (hz3 : r.m.length ≤ 100) :
  Calls Tryz.prog 11 #[.agg #[.string r.n, u1, u2, u3, u4, .string r.e.ty, u5], .int .i64 2] w fun e w' => ∃ v, e = .returned v ∧ Rd w' (.row 65 18 ((r.m.map Mn.p).map encP)) v ∧ Below w.heap.size w w' := by
 obtain ⟨q1, j1, e1, _, _⟩ := rd_row lenP h1
 obtain ⟨q2, j2, e2, _, _⟩ := rd_row lenP h2
 obtain ⟨q3, j3, e3, _, _⟩ := rd_row lenM h3
 obtain ⟨q4, l4, j4, e4⟩ := rd_shape h4
 obtain ⟨q5, l5, j5, e5⟩ := rd_shape h5
 subst e1 e2 e3 e4 e5
 obtain ⟨rn, ws, ns, ms, ks, ⟨ety, vs⟩⟩ := r
 simp only at h3 hz3 ⊢
 generalize ws.length = l1
 generalize ns.length = l2
 obtain ⟨l3, hl3⟩ : ∃ l, ms.length = l := ⟨_, rfl⟩
 rw [hl3] at h3 hz3 ⊢
 have HN := hid hl3
 have HM := hid h3
 have HZ := hid hz3
 have HB0 : Hid (Below w.heap.size w (w.alloc (.cells #[.string rn, .slice q1 l1 j1, .slice q2 l2 j2, .slice q3 l3 j3, .slice q4 l4 j4, .string ety, .slice q5 l5 j5] 49))) := (Below.refl _ _).alloc (Nat.le_refl _) _
 have hc3 : ∀ o, ((w.alloc (.cells #[.string rn, .slice q1 l1 j1, .slice q2 l2 j2, .slice q3 l3 j3, .slice q4 l4 j4, .string ety, .slice q5 l5 j5] 49)).alloc o).cell? ⟨w.heap.size, 3, none⟩ = some (.slice q3 l3 j3) := fun o => by
  refine cell_of_blk (cs := #[.string rn, .slice q1 l1 j1, .slice q2 l2 j2, .slice q3 l3 j3, .slice q4 l4 j4, .string ety, .slice q5 l5 j5]) (T := 49) ?_ 3
  rw [Below.heap_alloc _ _ _ (by simp)]
  exact heap_alloc_new _ _
 clear h1 h2 h3 h4 h5 hz3 hl3
 go_enter Tryz.func11, Tryz.ntmps11
 go_wp2_with ((with_reducible show wpList _ _ _ (Oper.mk (some 22) _ _ _ _ _ :: _) _ _); refine wp_mkP (by rfl) (.tmp 21) (by rfl) l3 (by have := HZ.out; omega) (by rfl) ?_; intro zs hzs; have HZS := hid hzs; have c3 := hc3 (.cells zs.toArray 65); clear hzs)
 go_loopg [26] (l3 + 1) (fun gg i wr => ∃ k : Nat, k ≤ l3 ∧ gg = l3 + 1 - k ∧ i = .int .i64 (k : Nat) ∧ Mks w wr (w.heap.size + 1) l3 k ((ms.take k).map Mn.p) ∧ Below w.heap.size w wr)
 case atStart => exact ⟨0, by omega, by omega, rfl, ⟨[], zs, by simpa using heap_2 _ _ _, by simp, by simpa using HZS.out, RdL.nil _⟩, HB0.out.alloc HB0.out.size _⟩
 case round =>
  obtain ⟨k, hk, rfl, rfl, hMk, hB⟩ := hrel
  have HMK := hid hMk
  have HB := hid hB
  by_cases hlt : k < l3
  . have hkc : k < ms.length := by have := HN.out; omega
    obtain ⟨p', cap', e0, m0, hat⟩ := rd_row lenM HM.out
    simp only [Value.slice.injEq] at e0
    obtain ⟨e01, hx0, e02⟩ := e0
    obtain ⟨g, off, e03, hrd⟩ := hat (by omega)
    obtain ⟨A, r1, o1⟩ := hrd w (Below.refl _ _) k hkc
    obtain ⟨B, z0, o0⟩ := rdM o1
    obtain ⟨vc, z1, o2⟩ := rdP o0
    obtain ⟨up, un, uc, hu⟩ := rd_shape o2
    obtain rfl : q3 = some ⟨g, off, none⟩ := e01.trans e03
    obtain ⟨CS, hCS, hCl⟩ : ∃ CS : List Value, wr.heap[w.heap.size + 1]? = some (.cells CS.toArray 65 (0, 0)) ∧ CS.length = l3 * 18 := by
     obtain ⟨xs, zs, b1, b2, b3, _⟩ := hMk
     refine ⟨xs ++ zs, b1, ?_⟩
     rw [List.length_append, b2, b3, ← Nat.add_mul]
     congr 1
     omega
    have hAz : A.length = 20 := o1.1.symm
    have hBz : B.length = 18 := o0.1.symm
    have HAO : Hid (A.all (·.oneCell') = true) := by show _ = _; rw [z0, z1, hu]; rfl
    have HBO : Hid (B.all (·.oneCell') = true) := by show _ = _; rw [z1, hu]; rfl
    have ZA : Hid ((Tryz.prog.info? 68).map (·.size) = some A.length) := by show _ = _; rw [hAz]; kernel_rfl
    have ZB : Hid ((Tryz.prog.info? 65).map (·.size) = some B.length) := by show _ = _; rw [hBz]; kernel_rfl
    have HRB : Hid (RdL w (encP ms[k].p) B) := o0
    have HAL := hid hAz
    have HBL := hid hBz
    have HCS := hid hCS
    have HCL : Hid (k * 18 + 18 ≤ CS.length) := by show _ ≤ _; rw [hCl]; omega
    have HKN := hid hlt
    have HZ0 := hid z0
    have X1_ := hid (range_below r1 hB)
    have HTK : Hid ((ms.take k).map Mn.p ++ [ms[k].p] = (ms.take (k + 1)).map Mn.p) := by show _ = _; rw [List.take_succ_eq_append_getElem hkc, List.map_append]; rfl
    have i1 : (0 : Int) ≤ (k : Int) := by omega
    have i2 : (k : Int) < (l3 : Int) := by omega
    clear hB hat hrd r1 o1 hAz hBz hx0 z0 z1 hu o2 o0 e01 e02 e03 hMk hCS hCl m0
    go_wp2_with (first
     | ((with_reducible refine gLq ?_); refine wpList_load_mid (by rfl) 68 _ (by rfl) g (off + k * 20) (by rfl) A _ X1_.out Tryz.underlying68 rfl ZA.out ?_)
     | ((with_reducible show wpList _ _ _ (Oper.mk _ (.store 68 _ _) _ _ _ _ :: _) _ _); refine wp_st (by rfl) 68 _ _ (by rfl) wr.heap.size 0 _ 68 (.agg A.toArray) A (by rfl) (by rfl) (by rfl) (heap_alloc_new _ _) (by have := HAL.out; simp; omega) ZA.out HAO.out ?_; intro w2 hblk hfr; rw [ovr_all (by rw [HAL.out]; rfl)] at hblk; have XB : Hid (w2.rangeAt wr.heap.size 2 B) := range_tail hblk HZ0.out; have HBW : Hid (Below wr.heap.size wr w2) := new_store hfr; clear hblk hfr)
     | ((with_reducible refine gLq ?_); refine wpList_load_mid (by rfl) 65 _ (by rfl) wr.heap.size 2 (by rfl) B _ XB.out Tryz.underlying65 rfl ZB.out ?_)
     | ((with_reducible show wpList _ _ _ (Oper.mk _ (.store 65 _ _) _ _ _ _ :: _) _ _); refine wp_st (by rfl) 65 _ _ (by rfl) (w.heap.size + 1) (k * 18) CS 65 (.agg B.toArray) B (by rfl) (by rfl) (by rfl) ((HBW.out.block _ (blk_lt HCS.out)).trans HCS.out) (by have := HCL.out; have := HBL.out; omega) ZB.out HBO.out ?_; intro w3 hb3 hf3; have HM3 := hid (HMK.out.store HKN.out rfl CS HCS.out HRB.out hb3); have HB3 : Hid (Below w.heap.size w w3) := below_fr (below_trans HB.out HBW.out HB.out.size) hf3 (by omega); clear hb3 hf3))
    go_roundg (l3 + 1 - (k + 1))
    case rel => exact ⟨k + 1, by omega, rfl, by go_num, by rw [← HTK.out]; exact HM3.out, HB3.out⟩
    case measure => omega
  . obtain rfl : k = l3 := by omega
    have hw : ms.take k = ms := List.take_of_length_le (by have := HN.out; omega)
    rw [hw] at hMk
    have HRD := hid (hMk.rd (by simpa using HN.out) (by have := HZ.out; unfold maxLen; omega) hB)
    clear hMk hB hw
    go_wp2_with fail
    go_ret
    exact ⟨_, rfl, HRD.out, HB.out⟩
set_option maxHeartbeats 8000000 in
theorem patS_any (r : Rl) (u1 u2 u3 u4 u5 : Value) (w : World) (h1 : Rd w (.row 65 18 (r.w.map encP)) u1) (h2 : Rd w (.row 65 18 (r.t.map encP)) u2) (h3 : Rd w (.row 68 20 (r.m.map encM)) u3) (h4 : Rd w (.row 103 3 (r.k.map encK)) u4) (h5 : Rd w (.row 61 6 (r.e.v.map encO)) u5) (hz3 : r.m.length ≤ 100) (part : Int) :
   Calls Tryz.prog 11 #[.agg #[.string r.n, u1, u2, u3, u4, .string r.e.ty, u5], .int .i64 part] w fun e w' => ∃ v, e = .returned v ∧ Rd w' (.row 65 18 ((prt part r).map encP)) v ∧ Below w.heap.size w w' := by
 unfold prt
 by_cases p2 : part = 2
 . subst p2
   rw [if_neg (by decide), if_neg (by decide), if_pos rfl]
   exact patS_two r u1 u2 u3 u4 u5 w h1 h2 h3 h4 h5 hz3
 . have H1 := hid (fun W (hW : Below w.heap.size w W) => h1.later hW)
   have H2 := hid (fun W (hW : Below w.heap.size w W) => h2.later hW)
   obtain ⟨q1, j1, e1, _, _⟩ := rd_row lenP h1
   obtain ⟨q2, j2, e2, _, _⟩ := rd_row lenP h2
   obtain ⟨q3, j3, e3, _, _⟩ := rd_row lenM h3
   obtain ⟨q4, l4, j4, e4⟩ := rd_shape h4
   obtain ⟨q5, l5, j5, e5⟩ := rd_shape h5
   subst e1 e2 e3 e4 e5
   obtain ⟨rn, ws, ns, ms, ks, ⟨ety, vs⟩⟩ := r
   simp only at H1 H2 ⊢
   obtain ⟨l1, hl1⟩ : ∃ l, ws.length = l := ⟨_, rfl⟩
   obtain ⟨l2, hl2⟩ : ∃ l, ns.length = l := ⟨_, rfl⟩
   rw [hl1] at H1 ⊢
   rw [hl2] at H2 ⊢
   generalize ms.length = l3
   have HB : Hid (Below w.heap.size w (w.alloc (.cells #[.string rn, .slice q1 l1 j1, .slice q2 l2 j2, .slice q3 l3 j3, .slice q4 l4 j4, .string ety, .slice q5 l5 j5] 49))) := (Below.refl _ _).alloc (Nat.le_refl _) _
   clear h1 h2 h3 h4 h5 hl1 hl2 hz3
   by_cases p0 : part = 0
   . subst p0
     rw [if_pos rfl]
     go_enter Tryz.func11, Tryz.ntmps11
     go_wp2_with fail
     go_ret
     exact ⟨_, rfl, H1.out _ HB.out, HB.out⟩
   . rw [if_neg p0]
     by_cases p1 : part = 1
     . subst p1
       rw [if_pos rfl]
       go_enter Tryz.func11, Tryz.ntmps11
       go_wp2_with fail
       go_ret
       exact ⟨_, rfl, H2.out _ HB.out, HB.out⟩
     . rw [if_neg p1, if_neg p2]
       have d0 : (part == 0) = false := by simpa using p0
       have d1 : (part == 1) = false := by simpa using p1
       have d2 : (part == 2) = false := by simpa using p2
       have f0 : decide (part = 0) = false := by simpa using p0
       have f1 : decide (part = 1) = false := by simpa using p1
       have f2 : decide (part = 2) = false := by simpa using p2
       go_enter Tryz.func11, Tryz.ntmps11
       go_wp2_with fail
       go_ret
       exact ⟨_, rfl, .nil _ _ none 0 (Nat.zero_le _), HB.out⟩
end Go.Proofs.YthndlfdbmljkhaaGreatDoor.Chk
