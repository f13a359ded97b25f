/-
  What the document's own SpanFault, twoSpans, sign, lies answer.
-/
import Derived.Test.YtakimdbkkmafnaaDoorK
import Derived.Handy
import Derived.WalkSmall
import Derived.Deep.QuietTactic
import Derived.BigQuiet
namespace Go.Proofs.YtakimdbkkmafnaaDoor
open Go.ChangeShapes Go.WideShapes Go.ChangeAt Go.RowKit
set_option linter.unusedVariables false
set_option linter.unusedSimpArgs false
set_option maxHeartbeats 1000000 in
theorem fault_any (s t : Int) (w : World) :
    Calls Tryd.prog 25 #[.agg #[.int .i64 s, .int .i64 t]] w fun e w' => e = .returned (.int .i64 (spanE s t)) ∧ Below w.heap.size w w' := by
  unfold spanE
  rcases span_cases s t with h | ⟨h0, h⟩ | ⟨h0, h1, h⟩ | ⟨h0, h1, h2, h⟩ | ⟨h0, h1, h2, h3, h⟩ | ⟨h0, h1, h2, h3, h⟩
  all_goals
    simp only [*, true_and, false_and, and_true, and_false, if_true, if_false]
    go_enter Tryd.func25, Tryd.ntmps25
    go_wp2
    go_ret
    exact ⟨rfl, by go_grown⟩
set_option maxHeartbeats 2000000 in
theorem twoSpans_any (a1 a2 b1 b2 : Int) (w : World) :
    Calls Tryd.prog 19 #[.agg #[.int .i64 a1, .int .i64 a2], .agg #[.int .i64 b1, .int .i64 b2]] w fun e w' => e = .returned (.int .i64 (bothE a1 a2 b1 b2)) ∧ Below w.heap.size w w' := by
  by_cases h : spanE a1 a2 = 0
  · rw [show bothE a1 a2 b1 b2 = spanE b1 b2 from if_pos h]
    go_enter Tryd.func19, Tryd.ntmps19
    go_wp2_with fail
    refine (fault_any _ _ _).mono ?_
    rintro e w1 ⟨rfl, hb⟩
    have hb' : Below w.heap.size w w1 := below_on (below_on (below_new _ _) (below_new _ _)) hb
    obtain ⟨⟨c0, c1, c2, c3⟩, f0, f1, f2, f3⟩ := two_boxes hb
    clear hb
    go_wp2_with fail
    refine (fault_any _ _ _).mono ?_
    rintro e w2 ⟨rfl, hb2⟩
    have hb3 := below_on hb' hb2
    go_wp2
    go_ret
    exact ⟨rfl, hb3⟩
  · rw [show bothE a1 a2 b1 b2 = spanE a1 a2 from if_neg h]
    go_enter Tryd.func19, Tryd.ntmps19
    go_wp2_with fail
    refine (fault_any _ _ _).mono ?_
    rintro e w1 ⟨rfl, hb⟩
    have hb' : Below w.heap.size w w1 := below_on (below_on (below_new _ _) (below_new _ _)) hb
    clear hb
    have hn : (spanE a1 a2 == 0) = false := by simp [h]
    go_wp2
    go_ret
    exact ⟨rfl, hb'⟩
set_option maxHeartbeats 1000000 in
theorem sign_any (a b : Int) (w : World) :
    Calls Tryd.prog 29 #[.int .i64 a, .int .i64 b] w fun e w' => e = .returned (.int .i64 (sg a b)) ∧ w' = w := by
  rcases sg_spec a b with ⟨h, e⟩ | ⟨h, e⟩ | ⟨h, e⟩
  · rw [e]; clear e
    go_enter Tryd.func29, Tryd.ntmps29
    go_wp2
    go_ret
    exact ⟨rfl, rfl⟩
  · rw [e]; clear e
    have h' : ¬ a < b := by omega
    go_enter Tryd.func29, Tryd.ntmps29
    go_wp2
    go_ret
    exact ⟨rfl, rfl⟩
  · rw [e]; clear e
    subst h
    go_enter Tryd.func29, Tryd.ntmps29
    go_wp2
    go_ret
    exact ⟨rfl, rfl⟩
set_option maxHeartbeats 2000000 in
theorem lies_any (a1 a2 b1 b2 : Int) (w : World) :
    Calls Tryd.prog 26 #[.agg #[.int .i64 a1, .int .i64 a2], .agg #[.int .i64 b1, .int .i64 b2]] w fun e w' => e = .returned (.tuple #[.int .i64 (sg a1 b1), .int .i64 (sg a2 b2), .int .i64 (sg a2 b1), .int .i64 (sg a1 b2)]) ∧ Below w.heap.size w w' := by
  go_enter Tryd.func26, Tryd.ntmps26
  go_wp2
  go_quiet ((go_at_call 29; exact Calls.quiet_of_same (sign_any _ _ _)))
  go_wp2
  go_returns
  exact ⟨rfl, below_drewN (by go_grown) _⟩
end Go.Proofs.YtakimdbkkmafnaaDoor
