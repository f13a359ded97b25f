/-
  The walk of ValueFields.
-/
import Derived.Test.YthenkpeibkpmkaaM
namespace Go.Proofs.Ythenkpeibkpmkaa
open Go.ChangeShapes Go.WideShapes Go.ChangeAt Go.RowKit
set_option linter.unusedVariables false
set_option linter.unusedSimpArgs false
set_option maxHeartbeats 2000000 in
theorem valueFields_walk (t : Ty) (v : Value) (name : ByteArray) (w : World) (hv : FieldsAt w v t.fs) :
    Calls Try.prog 8 #[.agg #[.string t.s, v], .string name] w fun e w' => e = .returned (.bool true) ∧ Below w.heap.size w w' := by
  obtain ⟨s, l⟩ := t
  obtain ⟨x, y, z, hr⟩ : ∃ x y z, fld ⟨s, l⟩ name = (x, y, z) := ⟨_, _, _, rfl⟩
  have HV : Hid (FieldsAt w v l) := hv
  have H1 : Hid (∀ W, Below w.heap.size w W → Calls Try.prog 19 #[.agg #[.string s, v], .string name] W fun e w' => e = .returned (.tuple #[.int .i64 x, .int .i64 y, .int .i64 z]) ∧ Below W.heap.size W w') := fun W hb => by have := field_any ⟨s, l⟩ v name W (HV.out.below hb); rw [hr] at this; exact this
  have H2 : Hid (∀ W, Below w.heap.size w W → Calls Try.prog 20 #[.agg #[.string s, v], .string name] W fun e w' => e = .returned (.tuple #[.int .i64 x, .int .i64 y, .int .i64 z]) ∧ Below W.heap.size W w') := fun W hb => by have := fieldOf_any ⟨s, l⟩ v name W (HV.out.below hb); rw [hr] at this; exact this
  obtain ⟨p, cap, hsh, _, _⟩ := hv.shape
  simp only at hsh
  obtain ⟨n, hn⟩ : ∃ n, l.length = n := ⟨_, rfl⟩
  rw [hn] at hsh
  subst hsh
  clear hr hv hn
  go_enter Try.func8, Try.ntmps8
  go_wp2_with fail
  refine (H1.out _ ((Below.refl _ w).alloc (Nat.le_refl _) _)).mono ?_
  rintro e w1 ⟨rfl, hb1⟩
  have HB1 : Hid (Below w.heap.size w w1) := below_trans ((Below.refl _ w).alloc (Nat.le_refl _) (.cells #[.string s, .slice p n cap] 34)) hb1 (by simp)
  have c0 : w1.cell? ⟨w.heap.size, 0, none⟩ = some (.string s) := (hb1.cell (by simp)).trans (cell_new rfl rfl)
  have c1 : w1.cell? ⟨w.heap.size, 1, none⟩ = some (.slice p n cap) := (hb1.cell (by simp)).trans (cell_new rfl rfl)
  clear hb1
  go_wp2_with fail
  refine (H2.out _ HB1.out).mono ?_
  rintro e w2 ⟨rfl, hb2⟩
  have HB2 : Hid (Below w.heap.size w w2) := below_trans HB1.out hb2 HB1.out.size
  clear hb2 c0 c1
  go_wp2
  go_ret
  exact ⟨ret_bool (by simp), HB2.out⟩
end Go.Proofs.Ythenkpeibkpmkaa
