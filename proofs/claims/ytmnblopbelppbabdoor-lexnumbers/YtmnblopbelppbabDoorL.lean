/-
  What the document says of a token.
-/
import Derived.Test.YtmnblopbelppbabDoorK
namespace Go.Proofs.YtmnblopbelppbabDoor
open Go.ChangeShapes Go.WideShapes Go.ChangeAt Go.RowKit
set_option linter.unusedVariables false
set_option linter.unusedSimpArgs false
theorem ib_iff (c : UInt8) : ∀ l : List UInt8, 0 ≤ Lib.indexByte l c ↔ c ∈ l
  | [] => by simp [Lib.indexByte]
  | b :: l => by
    have ih := ib_iff c l
    have hg := Lib.indexByte_ge l c
    unfold Lib.indexByte
    by_cases h : b = c
    · simp [h]
    · have hb : (b == c) = false := by simpa using h
      have hc : ¬ c = b := fun e => h e.symm
      simp only [hb, List.mem_cons, hc, false_or]
      by_cases g : Lib.indexByte l c = -1
      · simp [g] at ih ⊢
        exact ih
      · have gb : (Lib.indexByte l c == -1) = false := by simpa using g
        simp only [gb]
        rw [← ih]
        simp
        omega
end Go.Proofs.YtmnblopbelppbabDoor
