/-
  Numbers and spans that are picked.
-/
import Derived.Test.YtgikaheojcpmpabDoorTF
import Derived.Handy
import Derived.WalkSmall
import Derived.RegionTactic
import Derived.ChangeAlike
namespace Go.Proofs.YtgikaheojcpmpabDoor.T1
open Go.ChangeShapes Go.WideShapes Go.ChangeAt Go.RowKit
set_option linter.unusedVariables false
set_option linter.unusedSimpArgs false
theorem tm_bd (n m : Int) (hn : n < 0) (hm : 0 < m) : 0 ≤ -((n + 1).tmod m) ∧ -((n + 1).tmod m) < m := by
  have e : -((n + 1).tmod m) = (-(n + 1)).tmod m := (Int.neg_tmod _ _).symm
  rw [e]
  exact ⟨Int.tmod_nonneg _ (by omega), Int.tmod_lt_of_pos _ hm⟩
set_option maxHeartbeats 1000000 in
theorem picked_any (n m : Int) (w : World) (hn1 : -9223372036854775808 ≤ n) (hn2 : n ≤ 9223372036854775807) (hm : 0 < m) (hm2 : m ≤ 1099511627776) :
    Calls Tryd.prog 10 #[.int .i64 n, .int .i64 m] w fun e w' => ∃ k : Int, e = .returned (.int .i64 k) ∧ 0 ≤ k ∧ k < m ∧ w' = w := by
  have hm0 : ¬ m = 0 := by omega
  by_cases h : 0 ≤ n
  · go_enter Tryd.func10, Tryd.ntmps10
    go_wp2
    go_ret
    exact ⟨_, rfl, Int.emod_nonneg n hm0, Int.emod_lt_of_pos n hm, rfl⟩
  · have h' : n < 0 := by omega
    go_enter Tryd.func10, Tryd.ntmps10
    go_wp2
    go_ret
    exact ⟨_, rfl, (tm_bd n m h' hm).1, (tm_bd n m h' hm).2, rfl⟩
set_option maxHeartbeats 1000000 in
/-- A span of raw numbers: from 0 to 59, at most 24 long. -/
theorem span_any (a n : Int) (w : World) (ha1 : -9223372036854775808 ≤ a) (ha2 : a ≤ 9223372036854775807) (hn1 : -9223372036854775808 ≤ n) (hn2 : n ≤ 9223372036854775807) :
    Calls Tryd.prog 7 #[.int .i64 a, .int .i64 n] w fun e w' => ∃ s t : Int, e = .returned (.agg #[.int .i64 s, .int .i64 t]) ∧ 0 ≤ s ∧ s < 60 ∧ s ≤ t ∧ t < s + 25 ∧ Below w.heap.size w w' := by
  go_enter Tryd.func7, Tryd.ntmps7
  go_wp2_with fail
  refine (picked_any a _ _ ha1 ha2 (by omega) (by omega)).mono ?_
  rintro e w1 ⟨s, rfl, hs0, hs1, rfl⟩
  go_wp2_with fail
  refine (picked_any n _ _ hn1 hn2 (by omega) (by omega)).mono ?_
  rintro e w2 ⟨k, rfl, hk0, hk1, rfl⟩
  go_wp2
  go_returns
  exact ⟨s, s + k, rfl, hs0, hs1, by omega, by omega, by go_grown⟩
end Go.Proofs.YtgikaheojcpmpabDoor.T1
