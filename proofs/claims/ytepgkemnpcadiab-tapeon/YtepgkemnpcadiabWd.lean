/-
  Whether an operation may be told as bytes: the document's WireFault; the law.
-/
import Derived.Test.YtepgkemnpcadiabWc
namespace Go.Proofs.Ytepgkemnpcadiab
open Go.ChangeShapes Go.WideShapes Go.ChangeAt Go.RowKit Go.Maps
set_option linter.unusedVariables false
set_option linter.unusedSimpArgs false
theorem fst_keep {f : Nat → Int} {k n : Nat} (h : fst f k ≠ 0) (hk : k ≤ n) : fst f n = fst f k := by
  induction n with
  | zero => obtain rfl : k = 0 := by omega
            rfl
  | succ n ih =>
    by_cases e : k = n + 1
    · subst e; rfl
    · have := ih (by omega)
      show (if fst f n ≠ 0 then fst f n else f n) = fst f k
      rw [if_pos (by rw [this]; exact h), this]
/-- What is wrong ahead of the values. -/
def evh (a b : Int) (n : Nat) : Int := if schk a b ≠ 0 then schk a b else if 4 < n then 1 else 0
theorem evk_h (a b : Int) (l : List Vl) : evk a b l = if evh a b l.length ≠ 0 then evh a b l.length else fst (vat l) l.length := by
  unfold evk evh
  by_cases h : schk a b = 0
  · by_cases h2 : 4 < l.length <;> simp [h, h2]
  · simp [h]
end Go.Proofs.Ytepgkemnpcadiab
