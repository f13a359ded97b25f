/-
  What the program's Check and checkBoth answer.
-/
import Derived.Test.YtgikaheojcpmpabDoorTH
import Derived.Handy
import Derived.WalkSmall
import Derived.RegionTactic
import Derived.ChangeAlike
namespace Go.Proofs.YtgikaheojcpmpabDoor.T1
open Go.ChangeShapes Go.WideShapes Go.ChangeAt Go.RowKit
set_option linter.unusedVariables false
set_option linter.unusedSimpArgs false
theorem span_cases (s t : Int) : ¬ 0 ≤ s ∨ (0 ≤ s ∧ ¬ s ≤ 1099511627776) ∨ (0 ≤ s ∧ s ≤ 1099511627776 ∧ ¬ 0 ≤ t) ∨ (0 ≤ s ∧ s ≤ 1099511627776 ∧ 0 ≤ t ∧ ¬ t ≤ 1099511627776) ∨ (0 ≤ s ∧ s ≤ 1099511627776 ∧ 0 ≤ t ∧ t ≤ 1099511627776 ∧ s ≤ t) ∨ (0 ≤ s ∧ s ≤ 1099511627776 ∧ 0 ≤ t ∧ t ≤ 1099511627776 ∧ ¬ s ≤ t) := by omega
set_option maxHeartbeats 1000000 in
theorem check_any (s t : Int) (w : World) :
    Calls Tryd.prog 29 #[.agg #[.int .i64 s, .int .i64 t]] w fun e w' => e = .returned (.int .i64 (spanE s t)) ∧ Below w.heap.size w w' := by
  unfold spanE
  rcases span_cases s t with h | ⟨h0, h⟩ | ⟨h0, h1, h⟩ | ⟨h0, h1, h2, h⟩ | ⟨h0, h1, h2, h3, h⟩ | ⟨h0, h1, h2, h3, h⟩
  all_goals
    simp only [*, true_and, false_and, and_true, and_false, if_true, if_false]
    go_enter Tryd.func29, Tryd.ntmps29
    go_wp2
    go_ret
    exact ⟨rfl, by go_grown⟩
theorem check_ok (s t : Int) (w : World) (h0 : 0 ≤ s) (h1 : s ≤ t) (h2 : t ≤ 1099511627776) :
    Calls Tryd.prog 29 #[.agg #[.int .i64 s, .int .i64 t]] w fun e w' => e = .returned (.int .i64 0) ∧ Below w.heap.size w w' := by
  have := check_any s t w
  rwa [show spanE s t = 0 from by unfold spanE; rw [if_pos (by omega), if_pos h1]] at this
theorem check_order (s t : Int) (w : World) (h0 : 0 ≤ t) (h1 : t < s) (h2 : s ≤ 1099511627776) :
    Calls Tryd.prog 29 #[.agg #[.int .i64 s, .int .i64 t]] w fun e w' => e = .returned (.int .i64 11) ∧ Below w.heap.size w w' := by
  have := check_any s t w
  rwa [show spanE s t = 11 from by unfold spanE; rw [if_pos (by omega), if_neg (by omega)]] at this
theorem check_range (s t : Int) (w : World) (h0 : s < 0 ∨ 1099511627776 < t) :
    Calls Tryd.prog 29 #[.agg #[.int .i64 s, .int .i64 t]] w fun e w' => e = .returned (.int .i64 2) ∧ Below w.heap.size w w' := by
  have := check_any s t w
  rwa [show spanE s t = 2 from by unfold spanE; rw [if_neg (by omega)]] at this
set_option maxHeartbeats 2000000 in
theorem checkBoth_any (a1 a2 b1 b2 : Int) (w : World) :
    Calls Tryd.prog 16 #[.agg #[.int .i64 a1, .int .i64 a2], .agg #[.int .i64 b1, .int .i64 b2]] w fun e w' => e = .returned (.int .i64 (bothE a1 a2 b1 b2)) ∧ Below w.heap.size w w' := by
  by_cases h : spanE a1 a2 = 0
  · rw [show bothE a1 a2 b1 b2 = spanE b1 b2 from if_pos h]
    go_enter Tryd.func16, Tryd.ntmps16
    go_wp2_with fail
    refine (check_any _ _ _).mono ?_
    rintro e w1 ⟨rfl, hb⟩
    have hb' : Below w.heap.size w w1 := below_on (below_on (below_new _ _) (below_new _ _)) hb
    obtain ⟨⟨c0, c1, c2, c3⟩, f0, f1, f2, f3⟩ := two_boxes hb
    clear hb
    go_wp2_with fail
    refine (check_any _ _ _).mono ?_
    rintro e w2 ⟨rfl, hb2⟩
    have hb3 := below_on hb' hb2
    go_wp2
    go_ret
    exact ⟨rfl, hb3⟩
  · rw [show bothE a1 a2 b1 b2 = spanE a1 a2 from if_neg h]
    go_enter Tryd.func16, Tryd.ntmps16
    go_wp2_with fail
    refine (check_any _ _ _).mono ?_
    rintro e w1 ⟨rfl, hb⟩
    have hb' : Below w.heap.size w w1 := below_on (below_on (below_new _ _) (below_new _ _)) hb
    clear hb
    have hn : (spanE a1 a2 != 0) = true := by simp [h]
    go_wp2
    go_ret
    exact ⟨rfl, hb'⟩
end Go.Proofs.YtgikaheojcpmpabDoor.T1
