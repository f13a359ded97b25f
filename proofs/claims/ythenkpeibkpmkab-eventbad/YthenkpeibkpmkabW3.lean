/-
  The walk of ValueTypes.
-/
import Derived.Test.YthenkpeibkpmkabJ
namespace Go.Proofs.Ythenkpeibkpmkab
open Go.ChangeShapes Go.WideShapes Go.ChangeAt Go.RowKit
set_option linter.unusedVariables false
set_option linter.unusedSimpArgs false
theorem FieldsAt.shape {w : World} {v : Value} {l : List Fd} (h : FieldsAt w v l) : ∃ p cap, v = .slice p l.length cap ∧ l.length ≤ cap ∧ (l.length : Int) ≤ 9223372036854775807 := by
  obtain ⟨p, cap, h1, h2, h3, _⟩ := h
  exact ⟨p, cap, h1, h2, by unfold maxLen at h3; omega⟩
theorem ValsAt.shape {w : World} {v : Value} {l : List Vl} (h : ValsAt w v l) : ∃ p cap, v = .slice p l.length cap ∧ l.length ≤ cap ∧ (l.length : Int) ≤ 9223372036854775807 := by
  obtain ⟨p, cap, h1, h2, h3, _⟩ := h
  exact ⟨p, cap, h1, h2, by unfold maxLen at h3; omega⟩
end Go.Proofs.Ythenkpeibkpmkab
