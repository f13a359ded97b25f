/-
  Both and Either, by the program and by the reference.
-/
import Derived.Test.YtgikaheojcpmpaaDoorJ
import Derived.Test.YtgikaheojcpmpaaDoorC
import Derived.Test.YtgikaheojcpmpaaDoorE
namespace Go.Proofs.YtgikaheojcpmpaaDoor
open Go.ChangeShapes Go.WideShapes Go.ChangeAt Go.RowKit Go.Maps
set_option linter.unusedVariables false
set_option linter.unusedSimpArgs false
set_option maxRecDepth 20000
/-- What is wrong with two matrices. -/
def prE (n : Nat) (L : Nat → Nat) (X : Nat → Nat → Int) (m : Nat) (M : Nat → Nat) (Y : Nat → Nat → Int) : Int :=
  if chk n L X ≠ 0 then chk n L X else if chk m M Y ≠ 0 then chk m M Y else if n ≠ m then 4 else 0
theorem prE_ok {n : Nat} {L : Nat → Nat} {X : Nat → Nat → Int} {m : Nat} {M : Nat → Nat} {Y : Nat → Nat → Int} (h : prE n L X m M Y = 0) : chk n L X = 0 ∧ chk m M Y = 0 ∧ n = m := by
  unfold prE at h
  by_cases h1 : chk n L X = 0
  · rw [if_neg (by simp [h1])] at h
    by_cases h2 : chk m M Y = 0
    · rw [if_neg (by simp [h2])] at h
      by_cases h3 : n = m
      · exact ⟨h1, h2, h3⟩
      · rw [if_pos h3] at h; exact absurd h (by decide)
    · rw [if_pos h2] at h; exact absurd h h2
  · rw [if_pos h1] at h; exact absurd h h1
end Go.Proofs.YtgikaheojcpmpaaDoor
