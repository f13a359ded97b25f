/-
  A copy of a matrix, by the reference.
-/
import Derived.Test.YtgikaheojcpmpabDoorD
namespace Go.Proofs.YtgikaheojcpmpabDoor
open Go.ChangeShapes Go.WideShapes Go.ChangeAt Go.RowKit Go.Maps
set_option linter.unusedVariables false
set_option linter.unusedSimpArgs false
set_option maxRecDepth 20000
/-- Bounds of what came in. -/
def Fit (n : Nat) (L : Nat → Nat) : Prop := n * 24 ≤ 140737488355328 ∧ ∀ i, i < n → L i * 8 ≤ 140737488355328
theorem cell_new (w : World) (u : Value) (t : TypeId) : (w.alloc (.cells #[u] t)).cell? ((⟨w.heap.size, 0, none⟩ : Addr).add 0) = some u := by
  rw [Addr.add_mid]; go_simp
theorem below_new (w : World) (o : Obj) : Below w.heap.size w (w.alloc o) := (Below.refl _ _).alloc (Nat.le_refl _) o
theorem Rw.fresh {w : World} {B : Nat} {v : Value} {k : Nat} {z : Nat → Int} (h : Rw w B v k z) : ∀ x, v.ownBlock = some x → B ≤ x := fun x hx => (own_lt h hx).1
end Go.Proofs.YtgikaheojcpmpabDoor
