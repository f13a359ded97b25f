/-
  Bytes by the document: sevens, textBytes.
-/
import Derived.Test.YtepgkemnpcadiabWj
namespace Go.Proofs.Ytepgkemnpcadiab
open Go.ChangeShapes Go.WideShapes Go.ChangeAt Go.RowKit Go.Maps
set_option linter.unusedVariables false
set_option linter.unusedSimpArgs false
set_option maxRecDepth 20000
theorem size_drew (W : World) : W.drew.heap.size = W.heap.size := rfl
theorem drew_alloc_size (W : World) (o : Obj) : (W.drew.alloc o).heap.size = W.heap.size + 1 := by
  rw [← size_drew W]
  simp
/-- The bytes of a text, as a new row. -/
theorem conv_text (W : World) (s : ByteArray) : ∃ p cap W', (convert 9 25 (.string s)).run Try.prog W = .ok (.slice p s.size cap) W' ∧ BR W' (.slice p s.size cap) s.data.toList ∧ Below W.heap.size W W' := by
  have hz : s.data.toList.length = s.size := by simp
  refine ⟨_, _, _, run_bytes_of_string (P := Try.prog) W 9 25 5 s Try.underlying9 Try.underlying25 Try.underlying5, ?_, (Below.refl _ _).drew.alloc (Nat.le_refl _) _⟩
  refine ⟨some ⟨W.heap.size, 0, none⟩, grownCap W s.size 0 5, by rw [hz], fun _ => ⟨W.heap.size, 0, rfl, fun j hj => ⟨by rw [drew_alloc_size]; omega, ?_⟩⟩⟩
  generalize ((bytesRow s (grownCap W s.size 0 5)).size, (bytesRow s (grownCap W s.size 0 5)).size + 1) = fr
  have := World.cell?_alloc_mark W.drew (bytesRow s (grownCap W s.size 0 5)) 5 fr (0 + j)
  rw [size_drew W] at this
  rw [this, Nat.zero_add, bytesRow_at s _ j (by simpa using hj)]
  simp
end Go.Proofs.Ytepgkemnpcadiab
