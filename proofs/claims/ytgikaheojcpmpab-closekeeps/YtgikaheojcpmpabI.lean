/-
  Free matrices, by the program and by the reference.
-/
import Derived.Test.YtgikaheojcpmpabG
import Derived.Test.YtgikaheojcpmpabC
namespace Go.Proofs.Ytgikaheojcpmpab
open Go.ChangeShapes Go.WideShapes Go.ChangeAt Go.RowKit Go.Maps
set_option linter.unusedVariables false
set_option linter.unusedSimpArgs false
set_option maxRecDepth 20000
set_option maxHeartbeats 4000000 in
theorem freeP_any (n : Nat) (w : World) (hn : n ≤ 12) :
    Calls Try.prog 12 #[.int .i64 (n : Int)] w fun e w' => (∃ V, e = .returned (pairV V 0) ∧ New w w' V n (fun _ => n) fre) ∧ Below w.heap.size w w' := by
  have HN := hid hn
  have q1 : ¬ (n : Int) < 0 := by omega
  have q2 : ¬ (12 : Int) < (n : Int) := by omega
  clear hn
  go_enter Try.func12, Try.ntmps12
  go_wp2_with fail
  refine (free_any n _ HN.out).mono ?_
  rintro e w1 ⟨⟨V, rfl, hN⟩, hB⟩
  have HNW := hid hN
  have HB := hid hB
  clear hN hB
  go_wp2_with fail
  go_ret2
  exact ⟨⟨_, rfl, HNW.out⟩, HB.out⟩
set_option maxHeartbeats 4000000 in
theorem freeP_bad (n : Int) (w : World) (hn : n < 0 ∨ 12 < n) :
    Calls Try.prog 12 #[.int .i64 n] w fun e w' => e = .returned (pairV (.slice none 0 0) 1) ∧ w' = w := by
  rcases (by omega : n < 0 ∨ (¬ n < 0 ∧ 12 < n)) with q | ⟨q, q2⟩
  · clear hn
    go_enter Try.func12, Try.ntmps12
    go_wp2_with fail
    go_ret2
    exact ⟨rfl, rfl⟩
  · clear hn
    go_enter Try.func12, Try.ntmps12
    go_wp2_with fail
    go_ret2
    exact ⟨rfl, rfl⟩
end Go.Proofs.Ytgikaheojcpmpab
