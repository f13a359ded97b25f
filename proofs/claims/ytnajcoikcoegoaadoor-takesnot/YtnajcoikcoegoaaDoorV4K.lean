/-
  Fit. What the document says of values of a type. Events: CheckEvent, and what the document says of an event. What the document says of an event. Events that are only read; when conditions hold, in plain words. Conditions of raw numbers, and their contraries, in plain words.
-/
import Derived.Test.YtnajcoikcoegoaaDoorV4D
import Derived.Test.YtnajcoikcoegoaaDoorDh
namespace Go.Proofs.YtnajcoikcoegoaaDoor.V4
open Go.ChangeShapes Go.WideShapes Go.ChangeAt Go.RowKit
set_option linter.unusedVariables false
set_option linter.unusedSimpArgs false
set_option maxRecDepth 20000
theorem kat_at {l : List Vl} {fs : List Fd} {k : Nat} (h : k < l.length) (h2 : k < fs.length) : kat l fs k = if l[k].k ≠ fs[k].k then 13 else 0 := by
  unfold kat
  rw [List.getElem?_eq_getElem h, List.getElem?_eq_getElem h2]
set_option maxHeartbeats 8000000 in
theorem fit_any (t : Ty) (v : Value) (u : Value) (l : List Vl) (w : World) (hv : FieldsAt w v t.fs) (hu : ValsAt w u l) :
    Calls Tryd.prog 39 #[.agg #[.string t.s, v], u] w fun e w' => e = .returned (.int .i64 (fit t l)) ∧ Below w.heap.size w w' := by
  obtain ⟨s, fs⟩ := t
  obtain ⟨T, hT⟩ : ∃ T, tchk ⟨s, fs⟩ = T := ⟨_, rfl⟩
  obtain ⟨A, hA⟩ : ∃ A, fst (vat l) l.length = A := ⟨_, rfl⟩
  obtain ⟨R, hR⟩ : ∃ R, fit ⟨s, fs⟩ l = R := ⟨_, rfl⟩
  simp only at hv
  have HV : Hid (FieldsAt w v fs) := hv
  have HU : Hid (ValsAt w u l) := hu
  have H1 : Hid (∀ W, Below w.heap.size w W → Calls Tryd.prog 28 #[.agg #[.string s, v]] W fun e w' => e = .returned (.int .i64 T) ∧ Below W.heap.size W w') := fun W hb => by rw [← hT]; exact checkType_any ⟨s, fs⟩ _ _ (HV.out.below hb)
  have H2 : Hid (∀ W, Below w.heap.size w W → Calls Tryd.prog 62 #[u] W fun e w' => e = .returned (.int .i64 A) ∧ Below W.heap.size W w') := fun W hb => by rw [← hA]; exact checkAll_any _ _ _ (HU.out.below hb)
  obtain ⟨n, hn⟩ : ∃ n, fs.length = n := ⟨_, rfl⟩
  obtain ⟨m, hm⟩ : ∃ m, l.length = m := ⟨_, rfl⟩
  have HR : Hid (R = if T ≠ 0 then T else if A ≠ 0 then A else if m ≠ n then 13 else fst (kat l fs) m) := by rw [← hR]; unfold fit; simp only; rw [hT, hA, hn, hm]; exact rfl
  have HN : Hid (fs.length = n ∧ l.length = m) := ⟨hn, hm⟩
  rw [hR]
  obtain ⟨p, cap, hsh, _, _, hfc⟩ := hv
  obtain ⟨p2, cap2, hsh2, _, hmx2, hvc⟩ := hu
  rw [hn] at hsh
  rw [hm] at hsh2
  subst hsh hsh2
  have HFC : Hid (0 < fs.length → ∃ g off, p = some ⟨g, off, none⟩ ∧ ∀ j (hj : j < fs.length), g < w.heap.size ∧ w.cell? ⟨g, off + j * 2, none⟩ = some (.string fs[j].s) ∧ w.cell? ⟨g, off + j * 2 + 1, none⟩ = some (.int .i64 fs[j].k)) := hfc
  have HVC : Hid (0 < l.length → ∃ g off, p2 = some ⟨g, off, none⟩ ∧ ∀ j (hj : j < l.length), g < w.heap.size ∧ w.cell? ⟨g, off + j * 3, none⟩ = some (.int .i64 l[j].k) ∧ w.cell? ⟨g, off + j * 3 + 1, none⟩ = some (.int .i64 l[j].n) ∧ w.cell? ⟨g, off + j * 3 + 2, none⟩ = some (.string l[j].s)) := hvc
  have hmx : (m : Int) ≤ 9223372036854775807 := by unfold maxLen at hmx2; omega
  clear hT hA hR hfc hvc hmx2 hn hm
  go_enter Tryd.func39, Tryd.ntmps39
  go_wp2_with fail
  refine (H1.out _ ((Below.refl _ w).alloc (Nat.le_refl _) _)).mono ?_
  rintro e w1 ⟨rfl, hb1⟩
  have HB1 : Hid (Below w.heap.size w w1) := below_trans ((Below.refl _ w).alloc (Nat.le_refl _) (.cells #[.string s, .slice p n cap] 72)) hb1 (by simp)
  have c0 : w1.cell? ⟨w.heap.size, 0, none⟩ = some (.string s) := (hb1.cell (by simp)).trans (cell_new rfl rfl)
  have c1 : w1.cell? ⟨w.heap.size, 1, none⟩ = some (.slice p n cap) := (hb1.cell (by simp)).trans (cell_new rfl rfl)
  clear hb1
  by_cases hT0 : T = 0
  · subst hT0
    go_wp2_with fail
    refine (H2.out _ HB1.out).mono ?_
    rintro e w2 ⟨rfl, hb2⟩
    have HB2 : Hid (Below w.heap.size w w2) := below_trans HB1.out hb2 HB1.out.size
    have d1 : w2.cell? ⟨w.heap.size, 1, none⟩ = some (.slice p n cap) := (hb2.cell (World.block_lt_of_cell? _ _ c1)).trans c1
    clear hb2 c0 c1
    by_cases hA0 : A = 0
    · subst hA0
      by_cases hmn : m = n
      · subst hmn
        have hx : R = fst (kat l fs) m := by rw [HR.out]; simp
        have HX : Hid (R = fst (kat l fs) m) := hx
        clear hx
        go_wp2
        go_loopw [27] (fun i wr => ∃ k : Nat, k ≤ m ∧ i = .int .i64 (k : Nat) ∧ fst (kat l fs) k = 0 ∧ Below w.heap.size w wr ∧ wr.cell? ⟨w.heap.size, 1, none⟩ = some (.slice p m cap)) (fun i _ => m + 1 - (intOf i).toNat)
        case atStart => exact ⟨0, by omega, rfl, rfl, HB2.out, d1⟩
        case round =>
          obtain ⟨k, hk, rfl, hf, hB, bt⟩ := hrel
          have HF : Hid (fst (kat l fs) k = 0) := hf
          have HB : Hid (Below w.heap.size w wr) := hB
          by_cases hlt : k < m
          · have hkd : k < l.length := by have := HN.out; omega
            have hkf : k < fs.length := by have := HN.out; omega
            obtain ⟨g, off, hg, hcl⟩ := HFC.out (by omega)
            obtain ⟨g2, off2, hg2, hcl2⟩ := HVC.out (by omega)
            obtain ⟨hgs, c0j, c1⟩ := hcl k hkf
            obtain ⟨hgs2, e0, e1, e2⟩ := hcl2 k hkd
            subst hg hg2
            have HK : Hid (kat l fs k = if l[k].k ≠ fs[k].k then 13 else 0) := kat_at hkd hkf
            obtain ⟨y, hy⟩ : ∃ y, fs[k].k = y := ⟨_, rfl⟩
            obtain ⟨d, hd⟩ : ∃ d, l[k] = d := ⟨_, rfl⟩
            rw [hy] at c1 HK
            rw [hd] at e0 e1 e2 HK
            have b0 : wr.cell? ⟨g2, off2 + k * 3, none⟩ = some (.int .i64 d.k) := (hB.cell (p := ⟨g2, off2 + k * 3, none⟩) hgs2).trans e0
            have b1 : wr.cell? ⟨g2, off2 + k * 3 + 1, none⟩ = some (.int .i64 d.n) := (hB.cell (p := ⟨g2, off2 + k * 3 + 1, none⟩) hgs2).trans e1
            have b2 : wr.cell? ⟨g2, off2 + k * 3 + 2, none⟩ = some (.string d.s) := (hB.cell (p := ⟨g2, off2 + k * 3 + 2, none⟩) hgs2).trans e2
            have i1 : (0 : Int) ≤ (k : Int) := by omega
            have i2 : (k : Int) < (m : Int) := by omega
            have HWR : Hid (w.heap.size < wr.heap.size) := World.block_lt_of_cell? wr ⟨w.heap.size, 1, none⟩ bt
            have x0 : (wr.alloc (.cells #[.int .i64 d.k, .int .i64 d.n, .string d.s] 29)).cell? ⟨wr.heap.size, 0, none⟩ = some (.int .i64 d.k) := cell_new rfl rfl
            have x1 : (wr.alloc (.cells #[.int .i64 d.k, .int .i64 d.n, .string d.s] 29)).cell? ⟨w.heap.size, 1, none⟩ = some (.slice (some ⟨g, off, none⟩) m cap) := (((Below.refl _ wr).alloc (Nat.le_refl _) _).cell (p := ⟨w.heap.size, 1, none⟩) HWR.out).trans bt
            have x2 : (wr.alloc (.cells #[.int .i64 d.k, .int .i64 d.n, .string d.s] 29)).cell? ⟨g, off + k * 2 + 1, none⟩ = some (.int .i64 y) := ((HB.out.alloc HB.out.size _).cell (p := ⟨g, off + k * 2 + 1, none⟩) hgs).trans c1
            have HW1 : Hid (Below w.heap.size w (wr.alloc (.cells #[.int .i64 d.k, .int .i64 d.n, .string d.s] 29))) := HB.out.alloc HB.out.size _
            clear hcl hcl2 c0j c1 e0 e1 e2 hgs hgs2 hf hB hkd hkf hy hd
            go_wp2_with fail
            generalize wr.alloc (.cells #[.int .i64 d.k, .int .i64 d.n, .string d.s] 29) = W1 at x0 x1 x2 HW1 ⊢
            clear b0 b1 b2 bt HWR HB
            by_cases hdy : d.k = y
            · have HKE : Hid (kat l fs k = 0) := by rw [HK.out, if_neg (by simp [hdy])]; exact rfl
              go_quiet (fail)
              go_wp2
              go_roundw
              case rel => exact ⟨k + 1, by omega, by go_num, fst_step HF.out HKE.out, below_trans HW1.out (Go.Joins.below_draws _ _ _) (Nat.le_refl _), by assumption⟩
              case measure => simp [intOf]; omega
            · have hb1 : (d.k == y) = false := by simpa using hdy
              have hb2 : (d.k != y) = true := by simpa using hdy
              have HKE : Hid (kat l fs k = 13) := by rw [HK.out, if_pos hdy]; exact rfl
              go_quiet (fail)
              go_wp2
              go_ret
              exact ⟨ret_int (by rw [HX.out, fst_hit HF.out (by rw [HKE.out]; omega) hlt, HKE.out]), below_trans HW1.out (Go.Joins.below_draws _ _ _) (Nat.le_refl _)⟩
          · obtain rfl : k = m := by omega
            clear hf hB bt
            go_wp2
            go_ret
            exact ⟨ret_int (by rw [HX.out, HF.out]), HB.out⟩
      · have hb1 : ((m : Int) == (n : Int)) = false := by simp; omega
        have hb2 : ((m : Int) != (n : Int)) = true := by simp; omega
        have hb3 : (m = n) = False := by simpa using hmn
        have hx : R = 13 := by rw [HR.out]; simp [hmn]
        have HX : Hid (R = 13) := hx
        clear hx
        go_wp2
        go_ret
        exact ⟨ret_int HX.out.symm, HB2.out⟩
    · have hb1 : (A == 0) = false := by simpa using hA0
      have hb2 : (A != 0) = true := by simpa using hA0
      have hx : R = A := by rw [HR.out]; simp [hA0]
      have HX : Hid (R = A) := hx
      clear hx
      go_wp2
      go_ret
      exact ⟨ret_int HX.out.symm, HB2.out⟩
  · have hb1 : (T == 0) = false := by simpa using hT0
    have hb2 : (T != 0) = true := by simpa using hT0
    have hx : R = T := by rw [HR.out]; simp [hT0]
    have HX : Hid (R = T) := hx
    clear hx
    clear c0 c1
    go_wp2
    go_ret
    exact ⟨ret_int HX.out.symm, HB1.out⟩
def schk (st en : Int) : Int := if ¬ (0 ≤ st ∧ st ≤ 1099511627776) ∨ ¬ (0 ≤ en ∧ en ≤ 1099511627776) then 2 else if en < st then 11 else 0
def TysAt (w : World) (v : Value) (ts : List Ty) : Prop :=
  ∃ p cap, v = .slice p ts.length cap ∧ ts.length ≤ cap ∧ cap ≤ maxLen ∧ (0 < ts.length → ∃ g off, p = some ⟨g, off, none⟩ ∧ ∀ j (hj : j < ts.length), g < w.heap.size ∧ w.cell? ⟨g, off + j * 2, none⟩ = some (.string ts[j].s) ∧ ∃ u, w.cell? ⟨g, off + j * 2 + 1, none⟩ = some u ∧ FieldsAt w u ts[j].fs)
def echk (ts : List Ty) (num typ st en : Int) (l : List Vl) : Int :=
  if num < 1 ∨ 1048576 < num then 2 else if typ < 0 ∨ (ts.length : Int) ≤ typ then 6 else if schk st en ≠ 0 then schk st en
  else fit (ts.getD typ.toNat ⟨ByteArray.empty, []⟩) l
theorem isTime_any (a : Int) (r : Bool) (h : Say r (0 ≤ a ∧ a ≤ 1099511627776)) (w : World) :
    Calls Tryd.prog 61 #[.int .i64 a] w fun e w' => e = .returned (.bool r) ∧ w' = w := by
  have H : Hid (Say r (0 ≤ a ∧ a ≤ 1099511627776)) := h
  clear h
  go_enter Tryd.func61, Tryd.ntmps61
  go_wp2
  all_goals
    go_ret
    exact ⟨ret_bool (by have h := H.out; unfold Say at h; rw [Bool.eq_iff_iff, h]; simp <;> omega), rfl⟩
set_option maxHeartbeats 2000000 in
theorem tickCheck_any (st en : Int) (w : World) :
    Calls Tryd.prog 38 #[.agg #[.int .i64 st, .int .i64 en]] w fun e w' => e = .returned (.int .i64 (schk st en)) ∧ Below w.heap.size w w' := by
  obtain ⟨a, ha⟩ := bool_of (0 ≤ st ∧ st ≤ 1099511627776)
  obtain ⟨b, hb⟩ := bool_of (0 ≤ en ∧ en ≤ 1099511627776)
  have HA : Hid (Say a (0 ≤ st ∧ st ≤ 1099511627776)) := ha
  have HB : Hid (Say b (0 ≤ en ∧ en ≤ 1099511627776)) := hb
  clear ha hb
  cases a <;> cases b
  all_goals
    go_enter Tryd.func38, Tryd.ntmps38
    go_wp2_with (first | (go_at_call_of 61 (Value.int IntKind.i64 st); refine (isTime_any _ _ HA.out _).mono ?_; rintro e w2 ⟨rfl, rfl⟩) | (go_at_call_of 61 (Value.int IntKind.i64 en); refine (isTime_any _ _ HB.out _).mono ?_; rintro e w2 ⟨rfl, rfl⟩))
    all_goals
      go_ret
      refine ⟨ret_int ?_, (Below.refl _ w).alloc (Nat.le_refl _) _⟩
      have h1 := HA.out
      have h2 := HB.out
      simp only [Say, true_iff, false_iff, Bool.false_eq_true] at h1 h2
      unfold schk
      (repeat' split) <;> first | rfl | (exfalso; omega)
theorem echk_typ {ts : List Ty} {num typ st en : Int} {l : List Vl} {j : Nat} (hj : j < ts.length) (h1 : ¬ (num < 1 ∨ 1048576 < num)) (h2 : typ = (j : Int)) : echk ts num typ st en l = if schk st en ≠ 0 then schk st en else fit ts[j] l := by
  subst h2
  unfold echk
  rw [if_neg h1, if_neg (by omega)]
  simp [List.getElem?_eq_getElem hj]
set_option maxHeartbeats 8000000 in
theorem checkEvent_any (v : Value) (ts : List Ty) (num typ st en : Int) (u : Value) (l : List Vl) (w : World) (hv : TysAt w v ts) (hu : ValsAt w u l) :
    Calls Tryd.prog 23 #[v, .agg #[.int .i64 num, .int .i64 typ, .int .i64 st, .int .i64 en, u]] w fun e w' => e = .returned (.int .i64 (echk ts num typ st en l)) ∧ Below w.heap.size w w' := by
  obtain ⟨R, hR⟩ : ∃ R, echk ts num typ st en l = R := ⟨_, rfl⟩
  obtain ⟨n, hn⟩ : ∃ n, ts.length = n := ⟨_, rfl⟩
  obtain ⟨r, hr⟩ : ∃ r, schk st en = r := ⟨_, rfl⟩
  have HU : Hid (ValsAt w u l) := hu
  have HN : Hid (ts.length = n) := hn
  have HR : Hid (echk ts num typ st en l = R) := hR
  have H1 : Hid (∀ W, Calls Tryd.prog 38 #[.agg #[.int .i64 st, .int .i64 en]] W fun e w' => e = .returned (.int .i64 r) ∧ Below W.heap.size W w') := fun W => by rw [← hr]; exact tickCheck_any _ _ _
  have HRR : Hid (schk st en = r) := hr
  rw [hR]
  obtain ⟨p, cap, hsh, _, hmx, htc⟩ := hv
  obtain ⟨p2, cap2, hsh2, _, _⟩ := hu.shape
  obtain ⟨m, hm⟩ : ∃ m, l.length = m := ⟨_, rfl⟩
  rw [hm] at hsh2
  rw [hn] at hsh
  subst hsh hsh2
  have HTC : Hid (0 < ts.length → ∃ g off, p = some ⟨g, off, none⟩ ∧ ∀ j (hj : j < ts.length), g < w.heap.size ∧ w.cell? ⟨g, off + j * 2, none⟩ = some (.string ts[j].s) ∧ ∃ u, w.cell? ⟨g, off + j * 2 + 1, none⟩ = some u ∧ FieldsAt w u ts[j].fs) := htc
  clear hR hn hr hu htc hm hmx
  by_cases h1 : num < 1 ∨ 1048576 < num
  · have hx : R = 2 := by rw [← HR.out]; unfold echk; rw [if_pos h1]
    have HX : Hid (R = 2) := hx
    clear hx
    rcases h1 with h1 | h1
    · go_enter Tryd.func23, Tryd.ntmps23
      go_wp2
      go_ret
      exact ⟨ret_int HX.out.symm, (Below.refl _ w).alloc (Nat.le_refl _) _⟩
    · have h0 : ¬ num < 1 := by omega
      go_enter Tryd.func23, Tryd.ntmps23
      go_wp2
      go_ret
      exact ⟨ret_int HX.out.symm, (Below.refl _ w).alloc (Nat.le_refl _) _⟩
  · have n1 : ¬ num < 1 := by omega
    have n2 : ¬ 1048576 < num := by omega
    have H0 : Hid (¬ (num < 1 ∨ 1048576 < num)) := h1
    by_cases h2 : typ < 0 ∨ (n : Int) ≤ typ
    · have hx : R = 6 := by rw [← HR.out]; unfold echk; rw [if_neg h1, if_pos (by rw [HN.out]; exact h2)]
      have HX : Hid (R = 6) := hx
      clear hx h1
      rcases h2 with h2 | h2
      · go_enter Tryd.func23, Tryd.ntmps23
        go_wp2
        go_ret
        exact ⟨ret_int HX.out.symm, (Below.refl _ w).alloc (Nat.le_refl _) _⟩
      · have h0 : ¬ typ < 0 := by omega
        go_enter Tryd.func23, Tryd.ntmps23
        go_wp2
        go_ret
        exact ⟨ret_int HX.out.symm, (Below.refl _ w).alloc (Nat.le_refl _) _⟩
    · obtain ⟨j, hj⟩ : ∃ j : Nat, typ = (j : Int) := ⟨typ.toNat, by omega⟩
      subst hj
      have hjl : j < ts.length := by have := HN.out; omega
      have t1 : (0 : Int) ≤ (j : Int) := by omega
      have t2 : (j : Int) < (n : Int) := by omega
      have t3 : ¬ ((n : Int) ≤ (j : Int)) := by omega
      have t4 : decide ((n : Int) ≤ (j : Int)) = false := by simp; omega
      have t5 : decide ((j : Int) < 0) = false := by simp
      have hx : R = if r ≠ 0 then r else fit ts[j] l := by rw [← HR.out, echk_typ hjl h1 rfl, HRR.out]
      obtain ⟨q, hq⟩ : ∃ q, fit ts[j] l = q := ⟨_, rfl⟩
      rw [hq] at hx
      have HX : Hid (R = if r ≠ 0 then r else q) := hx
      obtain ⟨g, off, hg, hcl⟩ := HTC.out (by omega)
      subst hg
      obtain ⟨hgs, c0, uf, c1, hF⟩ := hcl j hjl
      have HF : Hid (FieldsAt w uf ts[j].fs) := hF
      have H2 : Hid (∀ W, Below w.heap.size w W → Calls Tryd.prog 39 #[.agg #[.string ts[j].s, uf], .slice p2 m cap2] W fun e w' => e = .returned (.int .i64 q) ∧ Below W.heap.size W w') := fun W hb => by rw [← hq]; exact fit_any ts[j] _ _ _ _ (HF.out.below hb) (HU.out.below hb)
      obtain ⟨pf, capf, hshf, hF1, hF2⟩ := hF.shape
      obtain ⟨nf, hnf⟩ : ∃ nf, ts[j].fs.length = nf := ⟨_, rfl⟩
      rw [hnf] at hshf
      subst hshf
      obtain ⟨tn, htn⟩ : ∃ x, ts[j].s = x := ⟨_, rfl⟩
      rw [htn] at c0 H2
      have HGS : Hid (g < w.heap.size ∧ w.cell? ⟨g, off + j * 2, none⟩ = some (.string tn) ∧ w.cell? ⟨g, off + j * 2 + 1, none⟩ = some (.slice pf nf capf)) := ⟨hgs, c0, c1⟩
      clear hx hq hcl HF hF hF1 hF2 hnf htn hgs c0 c1 h1 h2 hjl
      go_enter Tryd.func23, Tryd.ntmps23
      go_wp2_with fail
      refine (H1.out _).mono ?_
      rintro e w1 ⟨rfl, hb1⟩
      have HB1 : Hid (Below w.heap.size w w1) := below_trans ((Below.refl _ w).alloc (Nat.le_refl _) (.cells #[.int .i64 num, .int .i64 (j : Int), .int .i64 st, .int .i64 en, .slice p2 m cap2] 40)) hb1 (by simp)
      have x1 : w1.cell? ⟨w.heap.size, 1, none⟩ = some (.int .i64 (j : Int)) := (hb1.cell (by simp)).trans (cell_new rfl rfl)
      have x4 : w1.cell? ⟨w.heap.size, 4, none⟩ = some (.slice p2 m cap2) := (hb1.cell (by simp)).trans (cell_new rfl rfl)
      have y0 : w1.cell? ⟨g, off + j * 2, none⟩ = some (.string tn) := (HB1.out.cell (p := ⟨g, off + j * 2, none⟩) HGS.out.1).trans HGS.out.2.1
      have y1 : w1.cell? ⟨g, off + j * 2 + 1, none⟩ = some (.slice pf nf capf) := (HB1.out.cell (p := ⟨g, off + j * 2 + 1, none⟩) HGS.out.1).trans HGS.out.2.2
      clear hb1
      by_cases hr0 : r = 0
      · subst hr0
        have hx : R = q := by have := HX.out; simpa using this
        have HXQ : Hid (R = q) := hx
        clear hx HX
        have HLT : Hid (w.heap.size < w1.heap.size ∧ g < w1.heap.size) := ⟨World.block_lt_of_cell? w1 ⟨w.heap.size, 1, none⟩ x1, World.block_lt_of_cell? w1 ⟨g, off + j * 2, none⟩ y0⟩
        go_wp2_with fail
        go_region_held3 (fun w' => w'.cell? ⟨w.heap.size, 1, none⟩ = some (.int .i64 (j : Int)) ∧ w'.cell? ⟨w.heap.size, 4, none⟩ = some (.slice p2 m cap2) ∧ w'.cell? ⟨g, off + j * 2, none⟩ = some (.string tn) ∧ w'.cell? ⟨g, off + j * 2 + 1, none⟩ = some (.slice pf nf capf))
          (first | exact ⟨z0, z1, z2, z3⟩ | (go_keep; done))
          ((go_at_call 39; refine (H2.out _ HB1.out.drew).mono ?_; rintro e w2 ⟨rfl, hb2⟩; have HB2 : Hid (Below w1.heap.size w1 w2) := below_trans ((Below.refl _ w1).drew) hb2 (Nat.le_refl _); have z0 : w2.cell? ⟨w.heap.size, 1, none⟩ = some (.int .i64 (j : Int)) := (HB2.out.cell (p := ⟨w.heap.size, 1, none⟩) (HLT.out.1)).trans x1; have z1 : w2.cell? ⟨w.heap.size, 4, none⟩ = some (.slice p2 m cap2) := (HB2.out.cell (p := ⟨w.heap.size, 4, none⟩) (HLT.out.1)).trans x4; have z2 : w2.cell? ⟨g, off + j * 2, none⟩ = some (.string tn) := (HB2.out.cell (p := ⟨g, off + j * 2, none⟩) (HLT.out.2)).trans y0; have z3 : w2.cell? ⟨g, off + j * 2 + 1, none⟩ = some (.slice pf nf capf) := (HB2.out.cell (p := ⟨g, off + j * 2 + 1, none⟩) (HLT.out.2)).trans y1; clear hb2))
        clear x1 x4 y0 y1 z0 z1 z2 z3
        go_wp2
        go_ret
        exact ⟨ret_int HXQ.out.symm, below_trans HB1.out HB2.out HB1.out.size⟩
      · have hb1 : (r == 0) = false := by simpa using hr0
        have hb2 : (r != 0) = true := by simpa using hr0
        have hx : R = r := by rw [HX.out]; simp [hr0]
        have HXQ : Hid (R = r) := hx
        clear hx HX x1 x4 y0 y1
        go_wp2
        go_ret
        exact ⟨ret_int HXQ.out.symm, HB1.out⟩
end Go.Proofs.YtnajcoikcoegoaaDoor.V4
namespace Go.Proofs.YtnajcoikcoegoaaDoor.Chk
open Go.ChangeShapes Go.WideShapes Go.ChangeAt Go.RowKit Go.Maps
set_option linter.unusedVariables false
set_option linter.unusedSimpArgs false
set_option maxRecDepth 20000
/-- An event: number, type, span, values. -/
structure Ev where
  n : Int
  t : Int
  st : Int
  en : Int
  v : List V4.Vl
def encV (v : V4.Vl) : List Dat := [.lit (.int .i64 v.k), .lit (.int .i64 v.n), .lit (.string v.s)]
def encX (x : Ev) : List Dat := [.lit (.int .i64 x.n), .lit (.int .i64 x.t), .lit (.int .i64 x.st), .lit (.int .i64 x.en), .row 29 3 (x.v.map encV)]
theorem lenV (c : V4.Vl) : (encV c).length = 3 := rfl
theorem lenX (c : Ev) : (encX c).length = 5 := rfl
theorem rdV {w : World} {o : V4.Vl} {vs : List Value} (h : RdL w (encV o) vs) : vs = [.int .i64 o.k, .int .i64 o.n, .string o.s] := by
  obtain ⟨v0, r0, rfl, h0, h⟩ := RdL.one h
  obtain ⟨v1, r1, rfl, h1, h⟩ := RdL.one h
  obtain ⟨v2, r2, rfl, h2, h⟩ := RdL.one h
  rw [rd_lit h0, rd_lit h1, rd_lit h2, RdL.none h]
theorem rdX {w : World} {x : Ev} {vs : List Value} (h : RdL w (encX x) vs) : ∃ u, vs = [.int .i64 x.n, .int .i64 x.t, .int .i64 x.st, .int .i64 x.en, u] ∧ Rd w (.row 29 3 (x.v.map encV)) u := by
  obtain ⟨v0, r0, rfl, h0, h⟩ := RdL.one h
  obtain ⟨v1, r1, rfl, h1, h⟩ := RdL.one h
  obtain ⟨v2, r2, rfl, h2, h⟩ := RdL.one h
  obtain ⟨v3, r3, rfl, h3, h⟩ := RdL.one h
  obtain ⟨v4, r4, rfl, h4, h⟩ := RdL.one h
  rw [rd_lit h0, rd_lit h1, rd_lit h2, rd_lit h3, RdL.none h]
  exact ⟨v4, rfl, h4⟩
def vT (t : Tp) : V4.Ty := ⟨t.n, t.f.map vF⟩
theorem valsAt {w : World} {v : Value} {l : List V4.Vl} (h : Rd w (.row 29 3 (l.map encV)) v) : V4.ValsAt w v l := by
  obtain ⟨p, cap, rfl, _, hat⟩ := rd_row lenV h
  obtain ⟨_, h1, h2⟩ := rd_caps h
  refine ⟨p, cap, rfl, h1, h2, fun h0 => ?_⟩
  obtain ⟨g, off, rfl, hr⟩ := hat h0
  refine ⟨g, off, rfl, fun j hj => ?_⟩
  obtain ⟨us, r1, r2⟩ := hr w (Below.refl _ _) j hj
  rw [rdV r2] at r1
  have c0 : w.cell? ⟨g, off + j * 3, none⟩ = some (.int .i64 l[j].k) := by simpa using r1 0 _ rfl
  have c1 : w.cell? ⟨g, off + j * 3 + 1, none⟩ = some (.int .i64 l[j].n) := r1 1 _ rfl
  have c2 : w.cell? ⟨g, off + j * 3 + 2, none⟩ = some (.string l[j].s) := r1 2 _ rfl
  exact ⟨World.block_lt_of_cell? _ _ c0, c0, c1, c2⟩
theorem tysAt {w : World} {v : Value} {ts : List Tp} (h : Rd w (.row 72 2 (ts.map encY)) v) : V4.TysAt w v (ts.map vT) := by
  obtain ⟨p, cap, rfl, _, hat⟩ := rd_row lenY h
  obtain ⟨_, h1, h2⟩ := rd_caps h
  have hl : (ts.map vT).length = ts.length := by simp
  refine ⟨p, cap, by rw [hl], by rw [hl]; exact h1, h2, fun h0 => ?_⟩
  obtain ⟨g, off, rfl, hr⟩ := hat (by rw [hl] at h0; exact h0)
  refine ⟨g, off, rfl, fun j hj => ?_⟩
  have hj' : j < ts.length := by rw [hl] at hj; exact hj
  obtain ⟨us, r1, r2⟩ := hr w (Below.refl _ _) j hj'
  obtain ⟨fv, z1, o2⟩ := rdY r2
  rw [z1] at r1
  have c0 : w.cell? ⟨g, off + j * 2, none⟩ = some (.string ts[j].n) := by simpa using r1 0 _ rfl
  have c1 : w.cell? ⟨g, off + j * 2 + 1, none⟩ = some fv := r1 1 _ rfl
  refine ⟨World.block_lt_of_cell? _ _ c0, ?_, fv, c1, ?_⟩
  · rw [List.getElem_map]; exact c0
  · rw [List.getElem_map]; exact fieldsAt o2
/-- What is wrong with an event. -/
def evk (ts : List Tp) (x : Ev) : Int := V4.echk (ts.map vT) x.n x.t x.st x.en x.v
abbrev evV (x : Ev) (u : Value) : Value := .agg #[.int .i64 x.n, .int .i64 x.t, .int .i64 x.st, .int .i64 x.en, u]
theorem checkEvent_p (ts : List Tp) (x : Ev) (tv u : Value) (w : World) (hT : Rd w (.row 72 2 (ts.map encY)) tv) (hu : Rd w (.row 29 3 (x.v.map encV)) u) :
    Calls Tryd.prog 23 #[tv, evV x u] w fun e w' => e = .returned (.int .i64 (evk ts x)) ∧ Below w.heap.size w w' :=
  V4.checkEvent_any tv (ts.map vT) x.n x.t x.st x.en u x.v w (tysAt hT) (valsAt hu)
def dT : Tp := ⟨txt [], []⟩
def ev0 : Ev := ⟨0, 0, 0, 0, []⟩
def vl0 : V4.Vl := ⟨0, 0, txt []⟩
theorem getD_lt {α : Type} {l : List α} {i : Nat} (h : i < l.length) (d : α) : l.getD i d = l[i] := by simp [List.getD, List.getElem?_eq_getElem h]
/-- An event that may be: its type, and its values. -/
theorem evk_ok {ts : List Tp} {x : Ev} (h : evk ts x = 0) : ∃ i, ∃ hi : i < ts.length, x.t = (i : Int) ∧ x.v.length = ts[i].f.length ∧ ∀ k (hk : k < x.v.length) (hf : k < ts[i].f.length), V4.vchk x.v[k] = 0 ∧ x.v[k].k = ts[i].f[k].k := by
  unfold evk V4.echk at h
  split at h
  · omega
  · split at h
    · omega
    · rename_i c1 c2
      rw [List.length_map] at c2
      split at h
      · rename_i c; exact absurd h c
      · obtain ⟨i, hi⟩ : ∃ i : Nat, x.t = (i : Int) := ⟨x.t.toNat, by omega⟩
        have hil : i < ts.length := by omega
        refine ⟨i, hil, hi, ?_⟩
        rw [hi, Int.toNat_natCast, getD_lt (by rw [List.length_map]; exact hil), List.getElem_map] at h
        unfold V4.fit at h
        split at h
        · rename_i c; exact absurd h c
        · split at h
          · rename_i c; exact absurd h c
          · rename_i c3
            split at h
            · omega
            · rename_i c4
              have e1 : x.v.length = ts[i].f.length := by have := Classical.byContradiction c4; rw [this]; simp [vT]
              refine ⟨e1, fun k hk hf => ?_⟩
              have a1 := V4.fst_zero (Classical.byContradiction c3) k hk
              have a2 := V4.fst_zero h k hk
              unfold V4.vat at a1
              rw [List.getElem?_eq_getElem hk] at a1
              unfold V4.kat at a2
              have hg : (vT ts[i]).fs[k]? = some (vF ts[i].f[k]) := by simp [vT, List.getElem?_eq_getElem hf]
              rw [List.getElem?_eq_getElem hk, hg] at a2
              refine ⟨a1, ?_⟩
              simp only at a2
              split at a2
              · omega
              · rename_i c; have := Classical.byContradiction c; simpa [vF] using this
/-- The value of an event in a field. -/
def fvl (ts : List Tp) (x : Ev) (nm : ByteArray) : V4.Vl := x.v.getD (fdq (ts.getD x.t.toNat dT).f nm).toNat vl0
theorem ixq_ex {α : Type} {q : α → Bool} {l : List α} (h : 0 ≤ ixq q l 0) : ∃ j, ∃ hj : j < l.length, ixq q l 0 = (j : Int) ∧ q l[j] = true := by
  rcases ixq_lt (q := q) l 0 with c | ⟨j, hj, c, d⟩
  · omega
  · exact ⟨j, hj, by rw [c]; simp, d⟩
theorem fvl_ok {ts : List Tp} {x : Ev} {nm : ByteArray} (h : evk ts x = 0) (hf : 0 ≤ fdq (ts.getD x.t.toNat dT).f nm) : ∃ k, ∃ hk : k < x.v.length, fdq (ts.getD x.t.toNat dT).f nm = (k : Int) ∧ fvl ts x nm = x.v[k] ∧ V4.vchk (fvl ts x nm) = 0 ∧ (fvl ts x nm).k = (fck (ts.getD x.t.toNat dT).f nm).1 := by
  obtain ⟨i, hi, e1, e2, e3⟩ := evk_ok h
  have et : ts.getD x.t.toNat dT = ts[i] := by rw [e1, Int.toNat_natCast]; exact getD_lt hi _
  rw [et] at hf ⊢
  obtain ⟨k, hk, e4, _⟩ := ixq_ex hf
  have e4' : fdq ts[i].f nm = (k : Int) := e4
  have hkv : k < x.v.length := by omega
  have e5 : fvl ts x nm = x.v[k] := by unfold fvl; rw [et, e4', Int.toNat_natCast]; exact getD_lt hkv _
  obtain ⟨a1, a2⟩ := e3 k hkv hk
  refine ⟨k, hkv, e4', e5, by rw [e5]; exact a1, ?_⟩
  rw [e5, a2]
  unfold fck
  rw [if_neg (by omega), e4', Int.toNat_natCast, getD_lt hk]
/-- The value that a side stands for. -/
def svl (ts : List Tp) (ws : List Pt) (own : Ev) (kn : List Ev) (o : Opd) : V4.Vl :=
  if o.k = 2 then fvl ts own o.fd else if o.k = 3 then fvl ts (kn.getD (ptq ws o.va).toNat ev0) o.fd else ⟨o.vk, o.vi, o.vt⟩
/-- Events of whens. -/
def Kok (ts : List Tp) (ws : List Pt) (kn : List Ev) : Prop := kn.length = ws.length ∧ ∀ j (hj : j < kn.length) (hw : j < ws.length), evk ts kn[j] = 0 ∧ tyq ts ws[j].ty = kn[j].t
theorem vck_zero {vk vi : Int} {vt : ByteArray} (h : vck vk vi vt = 0) : V4.vchk ⟨vk, vi, vt⟩ = 0 := by rw [vck_eq]; exact h
theorem svl_ok {ts : List Tp} {ws : List Pt} {own : Ev} {kn : List Ev} {o : Opd} (hs : (sdk ts ws (ts.getD own.t.toNat dT) o).2 = 0) (ho : evk ts own = 0) (hk : Kok ts ws kn) : V4.vchk (svl ts ws own kn o) = 0 ∧ (svl ts ws own kn o).k = (sdk ts ws (ts.getD own.t.toNat dT) o).1 := by
  unfold sdk at hs ⊢
  by_cases h0 : 1 ≤ o.k ∧ o.k ≤ 3
  · rw [if_neg (fun c => c h0)] at hs ⊢
    by_cases h1 : o.k = 1
    · rw [if_pos h1] at hs ⊢
      split at hs
      · simp at hs
      · rename_i c
        rw [if_neg c]
        unfold svl
        rw [if_neg (by omega), if_neg (by omega)]
        exact ⟨vck_zero hs, rfl⟩
    · rw [if_neg h1] at hs ⊢
      by_cases h2 : o.k = 2
      · rw [if_pos h2] at hs ⊢
        split at hs
        · simp at hs
        · rename_i c
          rw [if_neg c]
          unfold svl
          rw [if_pos h2]
          have hf : 0 ≤ fdq (ts.getD own.t.toNat dT).f o.fd := by
            unfold fck at hs
            split at hs
            · simp at hs
            · omega
          obtain ⟨k, hk1, _, _, a, b⟩ := fvl_ok ho hf
          exact ⟨a, b⟩
      · rw [if_neg h2] at hs ⊢
        split at hs
        · simp at hs
        · rename_i c1
          rw [if_neg c1]
          split at hs
          · simp at hs
          · rename_i c2
            rw [if_neg c2]
            obtain ⟨j, hj, e1, _⟩ := ixq_ex (q := fun p : Pt => seq p.va o.va) (l := ws) (by show 0 ≤ ptq ws o.va; omega)
            have e1' : ptq ws o.va = (j : Int) := e1
            have hjk : j < kn.length := by rw [hk.1]; exact hj
            obtain ⟨g1, g2⟩ := hk.2 j hjk hj
            have et : tyOf ts ws o.va = ts.getD kn[j].t.toNat dT := by
              unfold tyOf
              rw [e1', Int.toNat_natCast, getD_lt hj, g2]
              rfl
            have es : svl ts ws own kn o = fvl ts kn[j] o.fd := by
              unfold svl
              rw [if_neg h2, if_pos (by omega), e1', Int.toNat_natCast, getD_lt hjk]
            rw [et] at hs ⊢
            rw [es]
            have hf : 0 ≤ fdq (ts.getD kn[j].t.toNat dT).f o.fd := by
              unfold fck at hs
              split at hs
              · simp at hs
              · omega
            obtain ⟨k, hk1, _, _, a, b⟩ := fvl_ok g1 hf
            exact ⟨a, b⟩
  · rw [if_pos h0] at hs; simp at hs
/-- Does a comparison hold, of what comes of comparing? -/
def cmb (k n : Int) : Bool := if k = 4 then decide (n = 0) else if k = 5 then !decide (n = 0) else if k = 6 then decide (n < 0) else decide (n ≤ 0)
/-- Does a condition hold? -/
def hld (ts : List Tp) (ws : List Pt) (own : Ev) (kn : List Ev) : Nat → Cn → Bool
  | 0, _ => false
  | n + 1, c => if c.k = 0 then true else if c.k = 1 then (subs c).all (hld ts ws own kn n) else if c.k = 2 then (subs c).any (hld ts ws own kn n) else if c.k = 3 then !(hld ts ws own kn n ((subs c).getD 0 cn0)) else cmb c.k (V4.ord (svl ts ws own kn c.l) (svl ts ws own kn c.r))
theorem cgo_all {f : Cn → Int × Int} : ∀ (l : List Cn) (m : Int), (cgo f l m).2 = 0 → ∀ x, x ∈ l → (f x).2 = 0
  | [], _, _, x, hx => by cases hx
  | y :: r, m, h, x, hx => by
    rw [cgo] at h
    split at h
    · rename_i c; exact absurd h c
    · rename_i c
      split at h
      · simp at h
      · rcases List.mem_cons.1 hx with rfl | hx
        · exact Classical.byContradiction c
        · exact cgo_all r _ h x hx
/-- A condition that may be: a group, or a comparison. -/
theorem cdk_ok {ts : List Tp} {ws : List Pt} {own : Tp} {n : Nat} {c : Cn} (h : (cdk ts ws own n c).2 = 0) : ∃ m, n = m + 1 ∧ 1 ≤ c.k ∧ c.k ≤ 7 ∧ (c.k ≤ 3 → (c.k = 3 → c.sb.length = 1) ∧ ∀ x, x ∈ subs c → (cdk ts ws own m x).2 = 0) ∧ (3 < c.k → (sdk ts ws own c.l).2 = 0 ∧ (sdk ts ws own c.r).2 = 0 ∧ (sdk ts ws own c.l).1 = (sdk ts ws own c.r).1) := by
  cases n with
  | zero => unfold cdk at h; split at h <;> simp at h
  | succ m =>
    refine ⟨m, rfl, ?_⟩
    unfold cdk at h
    split at h
    · simp at h
    · rename_i c0
      have c0' : 1 ≤ c.k ∧ c.k ≤ 7 := Classical.byContradiction c0
      refine ⟨c0'.1, c0'.2, fun hk => ?_, fun hk => ?_⟩
      · rw [if_neg (by omega)] at h
        split at h
        · simp at h
        · split at h
          · simp at h
          · rename_i c2
            exact ⟨fun h3 => by omega, fun x hx => cgo_all _ _ h x hx⟩
      · rw [if_pos hk] at h
        split at h
        · simp at h
        · split at h
          · rename_i c1; exact absurd h c1
          · rename_i c1
            split at h
            · rename_i c2; exact absurd h c2
            · rename_i c2
              split at h
              · simp at h
              · rename_i c3
                exact ⟨Classical.byContradiction c1, Classical.byContradiction c2, Classical.byContradiction c3⟩
/-- The types of all books of raw numbers. -/
def kts : List Tp := [⟨txt [97], [⟨txt [110], 1⟩]⟩, ⟨txt [98], [⟨txt [110], 1⟩, ⟨txt [115], 2⟩]⟩, ⟨txt [99], []⟩, ⟨txt [100], [⟨txt [110], 1⟩]⟩, ⟨txt [101], [⟨txt [110], 1⟩]⟩]
def ownO (nm : ByteArray) : Opd := ⟨2, 0, 0, txt [], txt [], nm⟩
def numO (n : Int) : Opd := ⟨1, 1, n, txt [], txt [], txt []⟩
def cmpC (k : Int) (a b : Opd) : Cn := ⟨k, [], a, b⟩
def grpC (k : Int) (l : List Cn) : Cn := ⟨k, l.map encC, opd0, opd0⟩
def nO : Opd := ownO (txt [110])
/-- A condition of raw numbers: of what kind, of which type, with which number, held against which side. -/
def whC (co at_ : Nat) (k : Int) (ot : Opd) : Cn :=
  if at_ = 2 then cn0
  else if co = 0 then cmpC 6 (numO k) nO
  else if co = 1 then cmpC 4 nO ot
  else if co = 2 then cmpC 5 nO ot
  else if co = 3 then grpC 2 [cmpC 4 nO (numO k), cmpC 7 nO (numO 1)]
  else if co = 4 then grpC 1 [cmpC 4 ot nO, grpC 3 [cmpC 4 nO (numO k)]]
  else if co = 5 then (if at_ = 1 then cmpC 5 (ownO (txt [115])) ⟨1, 2, 0, txt [120], txt [], txt []⟩ else cmpC 7 nO ot)
  else cn0
/-- One that is not empty. -/
def whN (co at_ : Nat) (k : Int) : Cn := if (whC co at_ k (numO k)).k = 0 then cmpC 4 (numO 1) (numO 1) else whC co at_ k (numO k)
def ntC (c : Cn) : Cn := grpC 3 [c]
/-- It, its contrary, both together, one of both. -/
def cds (c : Cn) (i : Nat) : Cn := if i = 0 then c else if i = 1 then ntC c else if i = 2 then grpC 1 [c, ntC c] else grpC 2 [c, ntC c]
def tyN (at_ : Nat) : ByteArray := if at_ = 0 then txt [97] else if at_ = 1 then txt [98] else if at_ = 2 then txt [99] else txt [100]
def rlN (at_ : Nat) (c : Cn) : Rl := ⟨txt [114], [⟨txt [120], tyN at_, c, 0, 0⟩], [], [], [], ⟨txt [], []⟩⟩
theorem bok_cds : ∀ at_, at_ < 4 → ∀ co, co < 9 → ∀ k, k < 6 → ∀ i, i < 4 → bok kts [rlN at_ (cds (whN co at_ (k : Nat)) i)] = 0 := by decide +kernel
theorem subs_grp (k : Int) (l : List Cn) : subs (grpC k l) = l := subs_of rfl
theorem hld_cmp {ts : List Tp} {ws : List Pt} {x : Ev} {kn : List Ev} (n m : Nat) (k : Int) (a b : Opd) (hk : 4 ≤ k) : hld ts ws x kn (n + 1) (cmpC k a b) = hld ts ws x kn (m + 1) (cmpC k a b) := by
  unfold hld
  have e : (cmpC k a b).k = k := rfl
  rw [e, if_neg (by omega), if_neg (by omega), if_neg (by omega), if_neg (by omega), if_neg (by omega), if_neg (by omega), if_neg (by omega), if_neg (by omega)]
theorem hld_and {ts : List Tp} {ws : List Pt} {x : Ev} {kn : List Ev} (n : Nat) (l : List Cn) : hld ts ws x kn (n + 1) (grpC 1 l) = l.all (hld ts ws x kn n) := by
  rw [hld, show (grpC 1 l).k = 1 from rfl, if_neg (by decide), if_pos rfl, subs_grp]
theorem hld_or {ts : List Tp} {ws : List Pt} {x : Ev} {kn : List Ev} (n : Nat) (l : List Cn) : hld ts ws x kn (n + 1) (grpC 2 l) = l.any (hld ts ws x kn n) := by
  rw [hld, show (grpC 2 l).k = 2 from rfl, if_neg (by decide), if_neg (by decide), if_pos rfl, subs_grp]
theorem hld_not {ts : List Tp} {ws : List Pt} {x : Ev} {kn : List Ev} (n : Nat) (c : Cn) : hld ts ws x kn (n + 1) (ntC c) = !hld ts ws x kn n c := by
  rw [hld, show (ntC c).k = 3 from rfl, if_neg (by decide), if_neg (by decide), if_neg (by decide), if_pos rfl]
  unfold ntC
  rw [subs_grp]
  rfl
/-- How many steps are left does not matter: three are enough. -/
theorem hld_whN {ts : List Tp} {ws : List Pt} {x : Ev} {kn : List Ev} (n m co at_ : Nat) (k : Int) : hld ts ws x kn (n + 3) (whN co at_ k) = hld ts ws x kn (m + 3) (whN co at_ k) := by
  have h2 : ∀ (k : Int) (a b : Opd), 4 ≤ k → hld ts ws x kn (n + 2) (cmpC k a b) = hld ts ws x kn (m + 2) (cmpC k a b) := fun k a b hk => hld_cmp (n + 1) (m + 1) k a b hk
  have h1 : ∀ (k : Int) (a b : Opd), 4 ≤ k → hld ts ws x kn (n + 1) (cmpC k a b) = hld ts ws x kn (m + 1) (cmpC k a b) := fun k a b hk => hld_cmp n m k a b hk
  have h3 : ∀ (k : Int) (a b : Opd), 4 ≤ k → hld ts ws x kn (n + 3) (cmpC k a b) = hld ts ws x kn (m + 3) (cmpC k a b) := fun k a b hk => hld_cmp (n + 2) (m + 2) k a b hk
  unfold whN
  split
  · exact h3 _ _ _ (by decide)
  · rename_i c
    revert c
    unfold whC
    split
    · intro c; exact absurd rfl c
    · split
      · intro _; exact h3 _ _ _ (by decide)
      · split
        · intro _; exact h3 _ _ _ (by decide)
        · split
          · intro _; exact h3 _ _ _ (by decide)
          · split
            · intro _
              rw [hld_or, hld_or]
              simp only [List.any_cons, List.any_nil, h2 4 nO (numO k) (by decide), h2 7 nO (numO 1) (by decide)]
            · split
              · intro _
                rw [hld_and, hld_and]
                have e : ∀ q, hld ts ws x kn (q + 2) (grpC 3 [cmpC 4 nO (numO k)]) = !hld ts ws x kn (q + 1) (cmpC 4 nO (numO k)) := fun q => hld_not (q + 1) _
                simp only [List.all_cons, List.all_nil, h2 4 (numO k) nO (by decide), e, h1 4 nO (numO k) (by decide)]
              · split
                · split
                  · intro _; exact h3 _ _ _ (by decide)
                  · intro _; exact h3 _ _ _ (by decide)
                · intro c; exact absurd rfl c
/-- What a condition takes its contrary does not. -/
theorem hld_cds {ts : List Tp} {ws : List Pt} {x : Ev} {kn : List Ev} (co at_ : Nat) (k : Int) : hld ts ws x kn 8 (cds (whN co at_ k) 1) = !hld ts ws x kn 8 (cds (whN co at_ k) 0) ∧ hld ts ws x kn 8 (cds (whN co at_ k) 2) = false ∧ hld ts ws x kn 8 (cds (whN co at_ k) 3) = true := by
  have e7 : hld ts ws x kn 7 (whN co at_ k) = hld ts ws x kn 8 (whN co at_ k) := hld_whN 4 5 co at_ k
  have e6 : hld ts ws x kn 6 (whN co at_ k) = hld ts ws x kn 8 (whN co at_ k) := hld_whN 3 5 co at_ k
  refine ⟨?_, ?_, ?_⟩
  · show hld ts ws x kn 8 (ntC _) = !hld ts ws x kn 8 (whN co at_ k)
    rw [hld_not, e7]
  · show hld ts ws x kn 8 (grpC 1 _) = false
    rw [hld_and]
    simp only [List.all_cons, List.all_nil, hld_not, e6, e7]
    cases hld ts ws x kn 8 (whN co at_ k) <;> rfl
  · show hld ts ws x kn 8 (grpC 2 _) = true
    rw [hld_or]
    simp only [List.any_cons, List.any_nil, hld_not, e6, e7]
    cases hld ts ws x kn 8 (whN co at_ k) <;> rfl
end Go.Proofs.YtnajcoikcoegoaaDoor.Chk
