/-
  Fit.
-/
import Derived.Test.YthenkpeibkpmkabW3
namespace Go.Proofs.Ythenkpeibkpmkab
open Go.ChangeShapes Go.WideShapes Go.ChangeAt Go.RowKit
set_option linter.unusedVariables false
set_option linter.unusedSimpArgs false
theorem kat_at {l : List Vl} {fs : List Fd} {k : Nat} (h : k < l.length) (h2 : k < fs.length) : kat l fs k = if l[k].k ≠ fs[k].k then 13 else 0 := by
  unfold kat
  rw [List.getElem?_eq_getElem h, List.getElem?_eq_getElem h2]
set_option maxHeartbeats 8000000 in
theorem fit_any (t : Ty) (v : Value) (u : Value) (l : List Vl) (w : World) (hv : FieldsAt w v t.fs) (hu : ValsAt w u l) :
    Calls Try.prog 16 #[.agg #[.string t.s, v], u] w fun e w' => e = .returned (.int .i64 (fit t l)) ∧ Below w.heap.size w w' := by
  obtain ⟨s, fs⟩ := t
  obtain ⟨T, hT⟩ : ∃ T, tchk ⟨s, fs⟩ = T := ⟨_, rfl⟩
  obtain ⟨A, hA⟩ : ∃ A, fst (vat l) l.length = A := ⟨_, rfl⟩
  obtain ⟨R, hR⟩ : ∃ R, fit ⟨s, fs⟩ l = R := ⟨_, rfl⟩
  simp only at hv
  have HV : Hid (FieldsAt w v fs) := hv
  have HU : Hid (ValsAt w u l) := hu
  have H1 : Hid (∀ W, Below w.heap.size w W → Calls Try.prog 15 #[.agg #[.string s, v]] W fun e w' => e = .returned (.int .i64 T) ∧ Below W.heap.size W w') := fun W hb => by rw [← hT]; exact checkType_any ⟨s, fs⟩ _ _ (HV.out.below hb)
  have H2 : Hid (∀ W, Below w.heap.size w W → Calls Try.prog 25 #[u] W fun e w' => e = .returned (.int .i64 A) ∧ Below W.heap.size W w') := fun W hb => by rw [← hA]; exact checkAll_any _ _ _ (HU.out.below hb)
  obtain ⟨n, hn⟩ : ∃ n, fs.length = n := ⟨_, rfl⟩
  obtain ⟨m, hm⟩ : ∃ m, l.length = m := ⟨_, rfl⟩
  have HR : Hid (R = if T ≠ 0 then T else if A ≠ 0 then A else if m ≠ n then 13 else fst (kat l fs) m) := by rw [← hR]; unfold fit; simp only; rw [hT, hA, hn, hm]; exact rfl
  have HN : Hid (fs.length = n ∧ l.length = m) := ⟨hn, hm⟩
  rw [hR]
  obtain ⟨p, cap, hsh, _, _, hfc⟩ := hv
  obtain ⟨p2, cap2, hsh2, _, hmx2, hvc⟩ := hu
  rw [hn] at hsh
  rw [hm] at hsh2
  subst hsh hsh2
  have HFC : Hid (0 < fs.length → ∃ g off, p = some ⟨g, off, none⟩ ∧ ∀ j (hj : j < fs.length), g < w.heap.size ∧ w.cell? ⟨g, off + j * 2, none⟩ = some (.string fs[j].s) ∧ w.cell? ⟨g, off + j * 2 + 1, none⟩ = some (.int .i64 fs[j].k)) := hfc
  have HVC : Hid (0 < l.length → ∃ g off, p2 = some ⟨g, off, none⟩ ∧ ∀ j (hj : j < l.length), g < w.heap.size ∧ w.cell? ⟨g, off + j * 3, none⟩ = some (.int .i64 l[j].k) ∧ w.cell? ⟨g, off + j * 3 + 1, none⟩ = some (.int .i64 l[j].n) ∧ w.cell? ⟨g, off + j * 3 + 2, none⟩ = some (.string l[j].s)) := hvc
  have hmx : (m : Int) ≤ 9223372036854775807 := by unfold maxLen at hmx2; omega
  clear hT hA hR hfc hvc hmx2 hn hm
  go_enter Try.func16, Try.ntmps16
  go_wp2_with fail
  refine (H1.out _ ((Below.refl _ w).alloc (Nat.le_refl _) _)).mono ?_
  rintro e w1 ⟨rfl, hb1⟩
  have HB1 : Hid (Below w.heap.size w w1) := below_trans ((Below.refl _ w).alloc (Nat.le_refl _) (.cells #[.string s, .slice p n cap] 44)) hb1 (by simp)
  have c0 : w1.cell? ⟨w.heap.size, 0, none⟩ = some (.string s) := (hb1.cell (by simp)).trans (cell_new rfl rfl)
  have c1 : w1.cell? ⟨w.heap.size, 1, none⟩ = some (.slice p n cap) := (hb1.cell (by simp)).trans (cell_new rfl rfl)
  clear hb1
  by_cases hT0 : T = 0
  · subst hT0
    go_wp2_with fail
    refine (H2.out _ HB1.out).mono ?_
    rintro e w2 ⟨rfl, hb2⟩
    have HB2 : Hid (Below w.heap.size w w2) := below_trans HB1.out hb2 HB1.out.size
    have d1 : w2.cell? ⟨w.heap.size, 1, none⟩ = some (.slice p n cap) := (hb2.cell (World.block_lt_of_cell? _ _ c1)).trans c1
    clear hb2 c0 c1
    by_cases hA0 : A = 0
    · subst hA0
      by_cases hmn : m = n
      · subst hmn
        have hx : R = fst (kat l fs) m := by rw [HR.out]; simp
        have HX : Hid (R = fst (kat l fs) m) := hx
        clear hx
        go_wp2
        go_loopw [27] (fun i wr => ∃ k : Nat, k ≤ m ∧ i = .int .i64 (k : Nat) ∧ fst (kat l fs) k = 0 ∧ Below w.heap.size w wr ∧ wr.cell? ⟨w.heap.size, 1, none⟩ = some (.slice p m cap)) (fun i _ => m + 1 - (intOf i).toNat)
        case atStart => exact ⟨0, by omega, rfl, rfl, HB2.out, d1⟩
        case round =>
          obtain ⟨k, hk, rfl, hf, hB, bt⟩ := hrel
          have HF : Hid (fst (kat l fs) k = 0) := hf
          have HB : Hid (Below w.heap.size w wr) := hB
          by_cases hlt : k < m
          · have hkd : k < l.length := by have := HN.out; omega
            have hkf : k < fs.length := by have := HN.out; omega
            obtain ⟨g, off, hg, hcl⟩ := HFC.out (by omega)
            obtain ⟨g2, off2, hg2, hcl2⟩ := HVC.out (by omega)
            obtain ⟨hgs, c0j, c1⟩ := hcl k hkf
            obtain ⟨hgs2, e0, e1, e2⟩ := hcl2 k hkd
            subst hg hg2
            have HK : Hid (kat l fs k = if l[k].k ≠ fs[k].k then 13 else 0) := kat_at hkd hkf
            obtain ⟨y, hy⟩ : ∃ y, fs[k].k = y := ⟨_, rfl⟩
            obtain ⟨d, hd⟩ : ∃ d, l[k] = d := ⟨_, rfl⟩
            rw [hy] at c1 HK
            rw [hd] at e0 e1 e2 HK
            have b0 : wr.cell? ⟨g2, off2 + k * 3, none⟩ = some (.int .i64 d.k) := (hB.cell (p := ⟨g2, off2 + k * 3, none⟩) hgs2).trans e0
            have b1 : wr.cell? ⟨g2, off2 + k * 3 + 1, none⟩ = some (.int .i64 d.n) := (hB.cell (p := ⟨g2, off2 + k * 3 + 1, none⟩) hgs2).trans e1
            have b2 : wr.cell? ⟨g2, off2 + k * 3 + 2, none⟩ = some (.string d.s) := (hB.cell (p := ⟨g2, off2 + k * 3 + 2, none⟩) hgs2).trans e2
            have i1 : (0 : Int) ≤ (k : Int) := by omega
            have i2 : (k : Int) < (m : Int) := by omega
            have HWR : Hid (w.heap.size < wr.heap.size) := World.block_lt_of_cell? wr ⟨w.heap.size, 1, none⟩ bt
            have x0 : (wr.alloc (.cells #[.int .i64 d.k, .int .i64 d.n, .string d.s] 32)).cell? ⟨wr.heap.size, 0, none⟩ = some (.int .i64 d.k) := cell_new rfl rfl
            have x1 : (wr.alloc (.cells #[.int .i64 d.k, .int .i64 d.n, .string d.s] 32)).cell? ⟨w.heap.size, 1, none⟩ = some (.slice (some ⟨g, off, none⟩) m cap) := (((Below.refl _ wr).alloc (Nat.le_refl _) _).cell (p := ⟨w.heap.size, 1, none⟩) HWR.out).trans bt
            have x2 : (wr.alloc (.cells #[.int .i64 d.k, .int .i64 d.n, .string d.s] 32)).cell? ⟨g, off + k * 2 + 1, none⟩ = some (.int .i64 y) := ((HB.out.alloc HB.out.size _).cell (p := ⟨g, off + k * 2 + 1, none⟩) hgs).trans c1
            have HW1 : Hid (Below w.heap.size w (wr.alloc (.cells #[.int .i64 d.k, .int .i64 d.n, .string d.s] 32))) := HB.out.alloc HB.out.size _
            clear hcl hcl2 c0j c1 e0 e1 e2 hgs hgs2 hf hB hkd hkf hy hd
            go_wp2_with fail
            generalize wr.alloc (.cells #[.int .i64 d.k, .int .i64 d.n, .string d.s] 32) = W1 at x0 x1 x2 HW1 ⊢
            clear b0 b1 b2 bt HWR HB
            by_cases hdy : d.k = y
            · have HKE : Hid (kat l fs k = 0) := by rw [HK.out, if_neg (by simp [hdy])]; exact rfl
              go_quiet (fail)
              go_wp2
              go_roundw
              case rel => exact ⟨k + 1, by omega, by go_num, fst_step HF.out HKE.out, below_trans HW1.out (Go.Joins.below_draws _ _ _) (Nat.le_refl _), by assumption⟩
              case measure => simp [intOf]; omega
            · have hb1 : (d.k == y) = false := by simpa using hdy
              have hb2 : (d.k != y) = true := by simpa using hdy
              have HKE : Hid (kat l fs k = 13) := by rw [HK.out, if_pos hdy]; exact rfl
              go_quiet (fail)
              go_wp2
              go_ret
              exact ⟨ret_int (by rw [HX.out, fst_hit HF.out (by rw [HKE.out]; omega) hlt, HKE.out]), below_trans HW1.out (Go.Joins.below_draws _ _ _) (Nat.le_refl _)⟩
          · obtain rfl : k = m := by omega
            clear hf hB bt
            go_wp2
            go_ret
            exact ⟨ret_int (by rw [HX.out, HF.out]), HB.out⟩
      · have hb1 : ((m : Int) == (n : Int)) = false := by simp; omega
        have hb2 : ((m : Int) != (n : Int)) = true := by simp; omega
        have hb3 : (m = n) = False := by simpa using hmn
        have hx : R = 13 := by rw [HR.out]; simp [hmn]
        have HX : Hid (R = 13) := hx
        clear hx
        go_wp2
        go_ret
        exact ⟨ret_int HX.out.symm, HB2.out⟩
    · have hb1 : (A == 0) = false := by simpa using hA0
      have hb2 : (A != 0) = true := by simpa using hA0
      have hx : R = A := by rw [HR.out]; simp [hA0]
      have HX : Hid (R = A) := hx
      clear hx
      go_wp2
      go_ret
      exact ⟨ret_int HX.out.symm, HB2.out⟩
  · have hb1 : (T == 0) = false := by simpa using hT0
    have hb2 : (T != 0) = true := by simpa using hT0
    have hx : R = T := by rw [HR.out]; simp [hT0]
    have HX : Hid (R = T) := hx
    clear hx
    clear c0 c1
    go_wp2
    go_ret
    exact ⟨ret_int HX.out.symm, HB1.out⟩
end Go.Proofs.Ythenkpeibkpmkab
