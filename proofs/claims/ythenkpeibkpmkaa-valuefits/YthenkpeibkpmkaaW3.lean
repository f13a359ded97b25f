/-
  The walk of ValueTypes.
-/
import Derived.Test.YthenkpeibkpmkaaJ
namespace Go.Proofs.Ythenkpeibkpmkaa
open Go.ChangeShapes Go.WideShapes Go.ChangeAt Go.RowKit
set_option linter.unusedVariables false
set_option linter.unusedSimpArgs false
theorem FieldsAt.shape {w : World} {v : Value} {l : List Fd} (h : FieldsAt w v l) : ∃ p cap, v = .slice p l.length cap ∧ l.length ≤ cap ∧ (l.length : Int) ≤ 9223372036854775807 := by
  obtain ⟨p, cap, h1, h2, h3, _⟩ := h
  exact ⟨p, cap, h1, h2, by unfold maxLen at h3; omega⟩
theorem ValsAt.shape {w : World} {v : Value} {l : List Vl} (h : ValsAt w v l) : ∃ p cap, v = .slice p l.length cap ∧ l.length ≤ cap ∧ (l.length : Int) ≤ 9223372036854775807 := by
  obtain ⟨p, cap, h1, h2, h3, _⟩ := h
  exact ⟨p, cap, h1, h2, by unfold maxLen at h3; omega⟩
set_option maxHeartbeats 2000000 in
theorem valueTypes_walk (t : Ty) (v : Value) (w : World) (hv : FieldsAt w v t.fs) :
    Calls Try.prog 6 #[.agg #[.string t.s, v]] w fun e w' => e = .returned (.bool true) ∧ Below w.heap.size w w' := by
  obtain ⟨s, l⟩ := t
  obtain ⟨r, hr⟩ : ∃ r, tchk ⟨s, l⟩ = r := ⟨_, rfl⟩
  have HV : Hid (FieldsAt w v l) := hv
  have H1 : Hid (∀ W, Below w.heap.size w W → Calls Try.prog 15 #[.agg #[.string s, v]] W fun e w' => e = .returned (.int .i64 r) ∧ Below W.heap.size W w') := fun W hb => by rw [← hr]; exact checkType_any ⟨s, l⟩ _ _ (HV.out.below hb)
  have H2 : Hid (∀ W, Below w.heap.size w W → Calls Try.prog 16 #[.agg #[.string s, v]] W fun e w' => e = .returned (.int .i64 r) ∧ Below W.heap.size W w') := fun W hb => by rw [← hr]; exact tfault_any ⟨s, l⟩ _ _ (HV.out.below hb)
  obtain ⟨p, cap, hsh, _, _⟩ := hv.shape
  simp only at hsh
  obtain ⟨n, hn⟩ : ∃ n, l.length = n := ⟨_, rfl⟩
  rw [hn] at hsh
  subst hsh
  clear hr hv hn
  go_enter Try.func6, Try.ntmps6
  go_wp2_with fail
  refine (H1.out _ ((Below.refl _ w).alloc (Nat.le_refl _) _)).mono ?_
  rintro e w1 ⟨rfl, hb1⟩
  have HB1 : Hid (Below w.heap.size w w1) := below_trans ((Below.refl _ w).alloc (Nat.le_refl _) (.cells #[.string s, .slice p n cap] 34)) hb1 (by simp)
  have c0 : w1.cell? ⟨w.heap.size, 0, none⟩ = some (.string s) := (hb1.cell (by simp)).trans (cell_new rfl rfl)
  have c1 : w1.cell? ⟨w.heap.size, 1, none⟩ = some (.slice p n cap) := (hb1.cell (by simp)).trans (cell_new rfl rfl)
  clear hb1
  go_wp2_with fail
  refine (H2.out _ HB1.out).mono ?_
  rintro e w2 ⟨rfl, hb2⟩
  have HB2 : Hid (Below w.heap.size w w2) := below_trans HB1.out hb2 HB1.out.size
  clear hb2 c0 c1
  go_wp2
  go_ret
  exact ⟨ret_bool (by simp), HB2.out⟩
end Go.Proofs.Ythenkpeibkpmkaa
