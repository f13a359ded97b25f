/-
  The walk of LexChecks.
-/
import Derived.Test.YtmnblopbelppbaaDoorL
import Derived.Test.YtmnblopbelppbaaDoorFr
namespace Go.Proofs.YtmnblopbelppbaaDoor
open Go.ChangeShapes Go.WideShapes Go.ChangeAt Go.RowKit
set_option linter.unusedVariables false
set_option linter.unusedSimpArgs false
set_option maxHeartbeats 2000000 in
theorem lexChecks_walk (v : Tk) (w : World) (hM : Marks w) (hw : wfT v) :
    Calls Tryd.prog 4 #[tV v] w fun e w' => e = .returned (.bool true) ∧ Below w.heap.size w w' := by
  obtain ⟨k, s, n⟩ := v
  obtain ⟨r, hr⟩ : ∃ r, tchk ⟨k, s, n⟩ = r := ⟨_, rfl⟩
  have H1 : Hid (∀ W, Marks W → Calls Tryd.prog 12 #[tV ⟨k, s, n⟩] W fun e w' => e = .returned (.int .i64 r) ∧ Below W.heap.size W w') := fun W hW => by rw [← hr]; exact check_any _ _ hW
  have H2 : Hid (∀ W, Calls Tryd.prog 13 #[tV ⟨k, s, n⟩] W fun e w' => e = .returned (.int .i64 r) ∧ Below W.heap.size W w') := fun W => by rw [← hr]; exact tfault_any _ _ (by have := hw.2.1; unfold maxLen at this; simp at this ⊢; omega)
  have HM : Hid (∀ o, Marks (w.alloc o)) := fun o => hM.alloc o
  clear hr hM
  unfold tV
  go_enter Tryd.func4, Tryd.ntmps4
  go_wp2_with fail
  refine (H1.out _ (HM.out _)).mono ?_
  rintro e w1 ⟨rfl, hb1⟩
  have B1 := below_trans ((Below.refl _ w).alloc (Nat.le_refl _) (.cells #[.int .i64 k, .string s, .int .i64 n] 29)) hb1 (by simp)
  have HB1 : Hid (Below w.heap.size w w1) := B1
  have c0 : w1.cell? ⟨w.heap.size, 0, none⟩ = some (.int .i64 k) := by rw [hb1.cell (by simp)]; simp
  have c1 : w1.cell? ⟨w.heap.size, 1, none⟩ = some (.string s) := by rw [hb1.cell (by simp)]; simp
  have c2 : w1.cell? ⟨w.heap.size, 2, none⟩ = some (.int .i64 n) := by rw [hb1.cell (by simp)]; simp
  clear B1 hb1
  go_wp2_with fail
  refine (H2.out _).mono ?_
  rintro e w2 ⟨rfl, hb2⟩
  have HB2 : Hid (Below w.heap.size w w2) := below_trans HB1.out hb2 HB1.out.size
  clear hb2 c0 c1 c2
  go_wp2
  go_ret
  exact ⟨ret_bool (by simp), HB2.out⟩
end Go.Proofs.YtmnblopbelppbaaDoor
