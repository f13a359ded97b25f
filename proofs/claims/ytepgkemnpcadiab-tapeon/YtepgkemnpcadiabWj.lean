/-
  Bytes by the document: joined, sevens, folded, textBytes.
-/
import Derived.Test.YtepgkemnpcadiabWe
namespace Go.Proofs.Ytepgkemnpcadiab
open Go.ChangeShapes Go.WideShapes Go.ChangeAt Go.RowKit Go.Maps
set_option linter.unusedVariables false
set_option linter.unusedSimpArgs false
set_option maxRecDepth 20000
/-- Bytes that are read, whatever the room behind them. -/
def BR (w : World) (v : Value) (l : List UInt8) : Prop :=
  ∃ p cap, v = .slice p l.length cap ∧ (0 < l.length → ∃ g off, p = some ⟨g, off, none⟩ ∧ ∀ j (hj : j < l.length), g < w.heap.size ∧ w.cell? ⟨g, off + j, none⟩ = some (.int .u8 (l[j].toNat : Int)))
theorem BA.br {w : World} {v : Value} {l : List UInt8} (h : BA w v l) : BR w v l := by
  obtain ⟨p, cap, h1, _, _, h2⟩ := h
  exact ⟨p, cap, h1, h2⟩
theorem BO.br {w : World} {B : Nat} {v : Value} {l : List UInt8} (h : BO w B v l) : BR w v l := h.ba.br
theorem BR.below {w w' : World} {v : Value} {l : List UInt8} (h : BR w v l) (b : Below w.heap.size w w') : BR w' v l := by
  obtain ⟨p, cap, h1, h4⟩ := h
  refine ⟨p, cap, h1, fun c => ?_⟩
  obtain ⟨g, off, hp, hc⟩ := h4 c
  refine ⟨g, off, hp, fun j hj => ?_⟩
  obtain ⟨q1, q2⟩ := hc j hj
  exact ⟨Nat.lt_of_lt_of_le q1 b.size, (b.cell (p := ⟨g, off + j, none⟩) q1).trans q2⟩
theorem BR.shape {w : World} {v : Value} {l : List UInt8} (h : BR w v l) : ∃ p cap, v = .slice p l.length cap := by
  obtain ⟨p, cap, h, _⟩ := h
  exact ⟨p, cap, h⟩
theorem take_snoc {l : List UInt8} {k : Nat} (h : k < l.length) : l.take (k + 1) = l.take k ++ [l[k]] := List.take_succ_eq_append_getElem h
end Go.Proofs.Ytepgkemnpcadiab
