/-
  The walks of ValueChecks and ValueNames.
-/
import Derived.Test.YthenkpeibkpmkaaD
namespace Go.Proofs.Ythenkpeibkpmkaa
open Go.ChangeShapes Go.WideShapes Go.ChangeAt Go.RowKit
set_option linter.unusedVariables false
set_option linter.unusedSimpArgs false
set_option maxHeartbeats 2000000 in
theorem valueChecks_walk (v : Vl) (w : World) :
    Calls Try.prog 3 #[vV v] w fun e w' => e = .returned (.bool true) ∧ Below w.heap.size w w' := by
  obtain ⟨k, n, s⟩ := v
  obtain ⟨r, hr⟩ : ∃ r, vchk ⟨k, n, s⟩ = r := ⟨_, rfl⟩
  have H1 : Hid (∀ W, Calls Try.prog 9 #[vV ⟨k, n, s⟩] W fun e w' => e = .returned (.int .i64 r) ∧ Below W.heap.size W w') := fun W => by rw [← hr]; exact check_any _ _
  have H2 : Hid (∀ W, Calls Try.prog 10 #[vV ⟨k, n, s⟩] W fun e w' => e = .returned (.int .i64 r) ∧ Below W.heap.size W w') := fun W => by rw [← hr]; exact vfault_any _ _
  clear hr
  unfold vV
  go_enter Try.func3, Try.ntmps3
  go_wp2_with fail
  refine (H1.out _).mono ?_
  rintro e w1 ⟨rfl, hb1⟩
  have B1 := below_trans ((Below.refl _ w).alloc (Nat.le_refl _) (.cells #[.int .i64 k, .int .i64 n, .string s] 23)) hb1 (by simp)
  have HB1 : Hid (Below w.heap.size w w1) := B1
  have c0 : w1.cell? ⟨w.heap.size, 0, none⟩ = some (.int .i64 k) := by rw [hb1.cell (by simp)]; simp
  have c1 : w1.cell? ⟨w.heap.size, 1, none⟩ = some (.int .i64 n) := by rw [hb1.cell (by simp)]; simp
  have c2 : w1.cell? ⟨w.heap.size, 2, none⟩ = some (.string s) := by rw [hb1.cell (by simp)]; simp
  clear B1 hb1
  go_wp2_with fail
  refine (H2.out _).mono ?_
  rintro e w2 ⟨rfl, hb2⟩
  have HB2 : Hid (Below w.heap.size w w2) := below_trans HB1.out hb2 HB1.out.size
  clear hb2 c0 c1 c2
  go_wp2
  go_ret
  exact ⟨ret_bool (by simp), HB2.out⟩
set_option maxHeartbeats 2000000 in
theorem valueNames_walk (s : ByteArray) (w : World) :
    Calls Try.prog 5 #[.string s] w fun e w' => e = .returned (.bool true) ∧ Below w.heap.size w w' := by
  obtain ⟨r, hr⟩ : ∃ r, nchk s = r := ⟨_, rfl⟩
  have H1 : Hid (∀ W, Calls Try.prog 13 #[.string s] W fun e w' => e = .returned (.int .i64 r) ∧ w' = W) := fun W => by rw [← hr]; exact name_any _ _
  have H2 : Hid (∀ W, Calls Try.prog 14 #[.string s] W fun e w' => e = .returned (.int .i64 r) ∧ w' = W) := fun W => by rw [← hr]; exact nfault_any _ _
  clear hr
  go_enter Try.func5, Try.ntmps5
  go_wp2_with fail
  refine (H1.out _).mono ?_
  rintro e w ⟨rfl, rfl⟩
  go_wp2_with fail
  refine (H2.out _).mono ?_
  rintro e w ⟨rfl, rfl⟩
  go_wp2
  go_ret
  exact ⟨ret_bool (by simp), Below.refl _ _⟩
end Go.Proofs.Ythenkpeibkpmkaa
