/-
  A reader of bytes: what its block holds; refuse, small.
-/
import Derived.Test.YtepgkemnpcadiacWj
namespace Go.Proofs.Ytepgkemnpcadiac
open Go.ChangeShapes Go.WideShapes Go.ChangeAt Go.RowKit Go.Maps
set_option linter.unusedVariables false
set_option linter.unusedSimpArgs false
set_option maxRecDepth 20000
/-- What is left, and what was wrong first. -/
structure Sx where
  l : List UInt8
  e : Int
def rfx (s : Sx) (x : Int) : Sx := if s.e = 0 then ⟨s.l, x⟩ else s
def smV (s : Sx) : Nat := match s.l with | [] => 0 | c :: _ => c.toNat
def smS (s : Sx) : Sx := match s.l with | [] => rfx s 5 | _ :: r => ⟨r, s.e⟩
theorem smV_lt (s : Sx) : smV s < 256 := by
  unfold smV
  split
  · omega
  · rename_i c _ _
    exact c.toNat_lt
theorem heap_set {W : World} {g i : Nat} {cur : Array Value} {e : TypeId} {fr : Nat × Nat} (v : Value) (h : W.heap[g]? = some (.cells cur e fr)) : (W.setCell ⟨g, i, none⟩ v).heap[g]? = some (.cells (cur.setIfInBounds i v) e fr) := by
  simp [World.setCell, Array.getElem?_modify, h]
theorem heap_other {W : World} {g i : Nat} (v : Value) {k : Nat} (h : k ≠ g) : (W.setCell ⟨g, i, none⟩ v).heap[k]? = W.heap[k]? := by
  simp [World.setCell, Array.getElem?_modify, h.symm]
theorem set_size (W : World) (a : Addr) (v : Value) : (W.setCell a v).heap.size = W.heap.size := by simp [World.setCell]
theorem row_cell {w : World} {R j : Nat} {cs : Array Value} {t : TypeId} {v : Value} (h : w.heap[R]? = some (.cells cs t (0, 0))) (hv : cs[j]? = some v) : w.cell? ⟨R, j, none⟩ = some v := by
  rw [cell_of_row _ _ _ _ t (0, 0) h]
  simpa using hv
theorem row_frozen {w : World} {R j : Nat} {cs : Array Value} {t : TypeId} (h : w.heap[R]? = some (.cells cs t (0, 0))) : w.frozen? ⟨R, j, none⟩ = false := by
  unfold World.frozen?
  rw [h]
  simp
def Gb (w : World) (R : Nat) (w' : World) : Prop := w.grownBy w' (some R)
theorem Gb.refl (w : World) (R : Nat) : Gb w R w := ⟨rfl, rfl, rfl, Nat.le_refl _, fun _ _ _ => rfl⟩
theorem Gb.trans {w w1 w2 : World} {R : Nat} (h : Gb w R w1) (h2 : Gb w1 R w2) : Gb w R w2 :=
  ⟨h2.os.trans h.os, h2.tape.trans h.tape, h2.output.trans h.output, Nat.le_trans h.size h2.size, fun k hk hne => (h2.block k (Nat.lt_of_lt_of_le hk h.size) hne).trans (h.block k hk hne)⟩
theorem Gb.set (w : World) (R i : Nat) (v : Value) : Gb w R (w.setCell ⟨R, i, none⟩ v) :=
  ⟨rfl, rfl, rfl, by rw [set_size]; exact Nat.le_refl _, fun k hk hne => heap_other v (fun e => hne (by rw [e]))⟩
theorem Gb.of_below {w w' : World} {R : Nat} (b : Below w.heap.size w w') : Gb w R w' := ⟨b.os, b.tape, b.output, b.size, fun k hk _ => b.block k hk⟩
theorem Gb.below {w w' : World} {R B : Nat} (h : Gb w R w') (hB : B ≤ R) (hw : B ≤ w.heap.size) : Below B w w' := ⟨h.os, h.tape, h.output, h.size, fun k hk => h.block k (by omega) (by simp; omega)⟩
theorem Gb.cell {w w' : World} {R g j : Nat} {x : Value} (h : Gb w R w') (hc : w.cell? ⟨g, j, none⟩ = some x) (hg : g ≠ R) : w'.cell? ⟨g, j, none⟩ = some x := World.grownBy.cell h hc (by simpa using hg)
end Go.Proofs.Ytepgkemnpcadiac
