/-
  Contracts: what tick.Add, tick.Check and the document's own Added, SpanFault answer, at every argument, and that they write nothing that was there.
-/
import Derived.Test.YtakimdbkkmafnaaRows
import Derived.Test.YtakimdbkkmafnaaSpec
import Derived.Handy
import Derived.WalkSmall
namespace Go.Proofs.Ytakimdbkkmafnaa
open Go.ChangeShapes Go.WideShapes Go.ChangeAt Go.RowKit
set_option linter.unusedVariables false
set_option linter.unusedSimpArgs false
/-- Behind a call that turned nothing old: all old cells and marks read as before. -/
theorem bcell {W w1 : World} (hb : Below W.heap.size W w1) : (∀ b o, b < W.heap.size → w1.cell? ⟨b, o, none⟩ = W.cell? ⟨b, o, none⟩) ∧ (∀ b o, b < W.heap.size → w1.frozen? ⟨b, o, none⟩ = W.frozen? ⟨b, o, none⟩) :=
  ⟨fun b o h => hb.cell (p := ⟨b, o, none⟩) h, fun b o h => hb.frozen (p := ⟨b, o, none⟩) h⟩
theorem below_on {a b c : World} (h : Below a.heap.size a b) (k : Below b.heap.size b c) : Below a.heap.size a c := h.trans (k.mono h.size)
theorem below_new (a : World) (o : Obj) : Below a.heap.size a (a.alloc o) := (Below.refl _ _).alloc (Nat.le_refl _) o
theorem add_cases (t d : Int) : ¬ 0 ≤ t ∨ (0 ≤ t ∧ ¬ t ≤ 1099511627776) ∨ (0 ≤ t ∧ t ≤ 1099511627776 ∧ ¬ 0 ≤ d) ∨ (0 ≤ t ∧ t ≤ 1099511627776 ∧ 0 ≤ d ∧ t + d ≤ 1099511627776) ∨ (0 ≤ t ∧ t ≤ 1099511627776 ∧ 0 ≤ d ∧ ¬ t + d ≤ 1099511627776 ∧ d ≤ 1099511627776) ∨ (0 ≤ t ∧ t ≤ 1099511627776 ∧ 0 ≤ d ∧ ¬ t + d ≤ 1099511627776 ∧ ¬ d ≤ 1099511627776) := by omega
set_option maxHeartbeats 1000000 in
theorem add_any (t d : Int) (hd1 : -9223372036854775808 ≤ d) (hd2 : d ≤ 9223372036854775807) (w : World) :
    Calls Try.prog 5 #[.int .i64 t, .int .i64 d] w fun e w' => e = .returned (.tuple #[.int .i64 (addV t d), .int .i64 (addE t d)]) ∧ w' = w := by
  unfold addV addE
  rcases add_cases t d with h | ⟨h0, h⟩ | ⟨h0, h1, h⟩ | ⟨h0, h1, h2, h⟩ | ⟨h0, h1, h2, h3, h⟩ | ⟨h0, h1, h2, h3, h⟩
  all_goals
    simp only [*, true_and, false_and, and_true, and_false, if_true, if_false]
    go_enter Try.func5, Try.ntmps5
    go_wp2
    go_ret2
    exact ⟨rfl, rfl⟩
set_option maxHeartbeats 1000000 in
theorem added_any (t d : Int) (hd1 : -9223372036854775808 ≤ d) (hd2 : d ≤ 9223372036854775807) (w : World) :
    Calls Try.prog 6 #[.int .i64 t, .int .i64 d] w fun e w' => e = .returned (.tuple #[.int .i64 (addV t d), .int .i64 (addE t d)]) ∧ w' = w := by
  unfold addV addE
  rcases add_cases t d with h | ⟨h0, h⟩ | ⟨h0, h1, h⟩ | ⟨h0, h1, h2, h⟩ | ⟨h0, h1, h2, h3, h⟩ | ⟨h0, h1, h2, h3, h⟩
  all_goals
    simp only [*, true_and, false_and, and_true, and_false, if_true, if_false]
    go_enter Try.func6, Try.ntmps6
    go_wp2
    go_ret2
    exact ⟨rfl, rfl⟩
theorem span_cases (s t : Int) : ¬ 0 ≤ s ∨ (0 ≤ s ∧ ¬ s ≤ 1099511627776) ∨ (0 ≤ s ∧ s ≤ 1099511627776 ∧ ¬ 0 ≤ t) ∨ (0 ≤ s ∧ s ≤ 1099511627776 ∧ 0 ≤ t ∧ ¬ t ≤ 1099511627776) ∨ (0 ≤ s ∧ s ≤ 1099511627776 ∧ 0 ≤ t ∧ t ≤ 1099511627776 ∧ s ≤ t) ∨ (0 ≤ s ∧ s ≤ 1099511627776 ∧ 0 ≤ t ∧ t ≤ 1099511627776 ∧ ¬ s ≤ t) := by omega
set_option maxHeartbeats 1000000 in
theorem check_any (s t : Int) (w : World) :
    Calls Try.prog 7 #[.agg #[.int .i64 s, .int .i64 t]] w fun e w' => e = .returned (.int .i64 (spanE s t)) ∧ Below w.heap.size w w' := by
  unfold spanE
  rcases span_cases s t with h | ⟨h0, h⟩ | ⟨h0, h1, h⟩ | ⟨h0, h1, h2, h⟩ | ⟨h0, h1, h2, h3, h⟩ | ⟨h0, h1, h2, h3, h⟩
  all_goals
    simp only [*, true_and, false_and, and_true, and_false, if_true, if_false]
    go_enter Try.func7, Try.ntmps7
    go_wp2
    go_ret
    exact ⟨rfl, by go_grown⟩
set_option maxHeartbeats 1000000 in
theorem fault_any (s t : Int) (w : World) :
    Calls Try.prog 8 #[.agg #[.int .i64 s, .int .i64 t]] w fun e w' => e = .returned (.int .i64 (spanE s t)) ∧ Below w.heap.size w w' := by
  unfold spanE
  rcases span_cases s t with h | ⟨h0, h⟩ | ⟨h0, h1, h⟩ | ⟨h0, h1, h2, h⟩ | ⟨h0, h1, h2, h3, h⟩ | ⟨h0, h1, h2, h3, h⟩
  all_goals
    simp only [*, true_and, false_and, and_true, and_false, if_true, if_false]
    go_enter Try.func8, Try.ntmps8
    go_wp2
    go_ret
    exact ⟨rfl, by go_grown⟩
/-! The laws' walks. -/
set_option maxHeartbeats 1000000 in
theorem tickAdds_walk (t d : Int) (hd1 : -9223372036854775808 ≤ d) (hd2 : d ≤ 9223372036854775807) (w : World) :
    Calls Try.prog 3 #[.int .i64 t, .int .i64 d] w fun e w' => e = .returned (.bool true) ∧ Below w.heap.size w w' := by
  go_enter Try.func3, Try.ntmps3
  go_wp2_with (first
    | (go_at_call 5; refine (add_any _ _ hd1 hd2 _).mono ?_; rintro e w' ⟨rfl, rfl⟩)
    | (go_at_call 6; refine (added_any _ _ hd1 hd2 _).mono ?_; rintro e w' ⟨rfl, rfl⟩))
  go_ret
  exact ⟨rfl, by go_grown⟩
set_option maxHeartbeats 1000000 in
theorem tickSpans_walk (s t : Int) (w : World) :
    Calls Try.prog 4 #[.agg #[.int .i64 s, .int .i64 t]] w fun e w' => e = .returned (.bool true) ∧ Below w.heap.size w w' := by
  go_enter Try.func4, Try.ntmps4
  go_wp2_with (first
    | (go_at_call 7; refine (check_any _ _ _).mono ?_; rintro e w1 ⟨rfl, hb⟩; obtain ⟨hc, hf⟩ := bcell hb)
    | (go_at_call 8; refine (fault_any _ _ _).mono ?_; rintro e w2 ⟨rfl, hb2⟩))
  go_ret
  exact ⟨rfl, below_on (below_on (below_new _ _) hb) hb2⟩
end Go.Proofs.Ytakimdbkkmafnaa
