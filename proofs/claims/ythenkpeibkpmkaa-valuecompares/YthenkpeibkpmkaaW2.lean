/-
  The walk of ValueCompares.
-/
import Derived.Test.YthenkpeibkpmkaaG
namespace Go.Proofs.Ythenkpeibkpmkaa
open Go.ChangeShapes Go.WideShapes Go.ChangeAt Go.RowKit
set_option linter.unusedVariables false
set_option linter.unusedSimpArgs false
set_option maxHeartbeats 4000000 in
theorem valueCompares_walk (a b : Vl) (w : World) :
    Calls Try.prog 4 #[vV a, vV b] w fun e w' => e = .returned (.bool true) ∧ Below w.heap.size w w' := by
  obtain ⟨k, n, s⟩ := a
  obtain ⟨k', n', s'⟩ := b
  obtain ⟨x, hx⟩ : ∃ x, cmpV ⟨k, n, s⟩ ⟨k', n', s'⟩ = x := ⟨_, rfl⟩
  obtain ⟨y, hy⟩ : ∃ x, cmpE ⟨k, n, s⟩ ⟨k', n', s'⟩ = x := ⟨_, rfl⟩
  have H1 : Hid (∀ W, Calls Try.prog 11 #[vV ⟨k, n, s⟩, vV ⟨k', n', s'⟩] W fun e w' => e = .returned (.tuple #[.int .i64 x, .int .i64 y]) ∧ Below W.heap.size W w') := fun W => by rw [← hx, ← hy]; exact compare_any _ _ _
  have H2 : Hid (∀ W, Calls Try.prog 12 #[vV ⟨k, n, s⟩, vV ⟨k', n', s'⟩] W fun e w' => e = .returned (.tuple #[.int .i64 x, .int .i64 y]) ∧ Below W.heap.size W w') := fun W => by rw [← hx, ← hy]; exact compared_any _ _ _
  clear hx hy
  unfold vV
  go_enter Try.func4, Try.ntmps4
  go_wp2_with fail
  refine (H1.out _).mono ?_
  rintro e w1 ⟨rfl, hb1⟩
  have HB1 : Hid (Below w.heap.size w w1) := below_trans (below_two w (.cells #[.int .i64 k, .int .i64 n, .string s] 23) (.cells #[.int .i64 k', .int .i64 n', .string s'] 23)) hb1 (by simp; omega)
  have c0 : w1.cell? ⟨w.heap.size, 0, none⟩ = some (.int .i64 k) := by rw [hb1.cell (by simp; omega)]; simp
  have c1 : w1.cell? ⟨w.heap.size, 1, none⟩ = some (.int .i64 n) := by rw [hb1.cell (by simp; omega)]; simp
  have c2 : w1.cell? ⟨w.heap.size, 2, none⟩ = some (.string s) := by rw [hb1.cell (by simp; omega)]; simp
  have c3 : w1.cell? ⟨w.heap.size + 1, 0, none⟩ = some (.int .i64 k') := by rw [hb1.cell (by simp)]; simp
  have c4 : w1.cell? ⟨w.heap.size + 1, 1, none⟩ = some (.int .i64 n') := by rw [hb1.cell (by simp)]; simp
  have c5 : w1.cell? ⟨w.heap.size + 1, 2, none⟩ = some (.string s') := by rw [hb1.cell (by simp)]; simp
  clear hb1
  go_wp2_with fail
  refine (H2.out _).mono ?_
  rintro e w2 ⟨rfl, hb2⟩
  have HB2 : Hid (Below w.heap.size w w2) := below_trans HB1.out hb2 HB1.out.size
  clear hb2 c0 c1 c2 c3 c4 c5
  go_wp2
  go_ret
  exact ⟨ret_bool (by simp), HB2.out⟩
end Go.Proofs.Ythenkpeibkpmkaa
