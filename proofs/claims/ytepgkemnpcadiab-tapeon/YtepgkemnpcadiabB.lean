/-
  What Check and the document say of a value.
-/
import Derived.Test.YtepgkemnpcadiabA
namespace Go.Proofs.Ytepgkemnpcadiab
open Go.ChangeShapes Go.WideShapes Go.ChangeAt Go.RowKit
set_option linter.unusedVariables false
set_option linter.unusedSimpArgs false
theorem ret_int {k : IntKind} {a b : Int} (h : a = b) : Ending.returned (.int k a) = .returned (.int k b) := by rw [h]
theorem vchk_eq (v : Vl) : vchk v = if v.k = 1 then (if v.s.toList ≠ [] then 4 else if v.n < -1125899906842624 ∨ 1125899906842624 < v.n then 2 else 0) else if v.k ≠ 2 then 3 else if v.n ≠ 0 then 4 else if 20 < v.s.size then 1 else 0 := by
  unfold vchk
  by_cases h1 : v.k = 1
  · by_cases h2 : v.s.toList = []
    · have := size_nil h2
      simp [h1, h2, this]
    · simp [h1, h2]
  · by_cases h2 : v.k = 2
    · by_cases h3 : v.n = 0
      · simp [h2, h3]
      · simp [h2, h3]
    · simp [h1, h2]
set_option maxHeartbeats 2000000 in
theorem check_any (v : Vl) (w : World) :
    Calls Try.prog 51 #[vV v] w fun e w' => e = .returned (.int .i64 (vchk v)) ∧ Below w.heap.size w w' := by
  obtain ⟨k, n, s⟩ := v
  unfold vV
  have hz : s.toList = [] → s.size = 0 := size_nil
  have HZ : Hid (s.toList = [] → s.size = 0) := hz
  clear hz
  go_enter Try.func51, Try.ntmps51
  go_wp2
  all_goals
    go_ret
    refine ⟨ret_int ?_, (Below.refl _ _).alloc (Nat.le_refl _) _⟩
    have hz := HZ.out
    rw [vchk_eq]
    simp_all <;> omega
end Go.Proofs.Ytepgkemnpcadiab
