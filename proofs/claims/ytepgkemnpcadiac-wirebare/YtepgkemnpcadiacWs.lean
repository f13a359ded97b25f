/-
  A reader of bytes: a value.
-/
import Derived.Test.YtepgkemnpcadiacWr
namespace Go.Proofs.Ytepgkemnpcadiac
open Go.ChangeShapes Go.WideShapes Go.ChangeAt Go.RowKit Go.Maps
set_option linter.unusedVariables false
set_option linter.unusedSimpArgs false
set_option maxRecDepth 20000
theorem sizeV : (Try.prog.info? 53).map (·.size) = some 3 := by kernel_rfl
theorem retV {fn : Func} {R : Ending → World → Prop} {a : Act} {w : World} {b : Nat} {v : Vl} (p : Tmp) (h : fn.results = #[.cell p 53]) (hp : a.tmps.getD p undef = .pointer (some ⟨b, 0, none⟩)) (hr : w.heap[b]? = some (.cells #[.int .i64 v.k, .int .i64 v.n, .string v.s] 53 (0, 0))) (hd : a.defers = []) (hR : R (.returned (vV v)) w) : bodyPost Try.prog fn R .ret a w :=
  bodyPost_ret (results_cell_row h a.tmps w b 53 _ (0, 0) _ hp hr Try.underlying53 rfl sizeV) hd hR
theorem Gb.setNew {w w' : World} {R b i : Nat} {v : Value} (h : Gb w R w') (hb : w.heap.size ≤ b) : Gb w R (w'.setCell ⟨b, i, none⟩ v) :=
  ⟨h.os, h.tape, h.output, by rw [set_size]; exact h.size, fun k hk hne => (heap_other v (by omega)).trans (h.block k hk hne)⟩
theorem Gb.alloc {w w' : World} {R : Nat} (h : Gb w R w') (o : Obj) : Gb w R (w'.alloc o) := h.trans (Gb.of_below ((Below.refl _ _).alloc (Nat.le_refl _) o))
theorem row_new (w : World) (o : Obj) : (w.alloc o).heap[w.heap.size]? = some o := by first | exact heap_alloc_new w _ | exact _root_.Go.heap_alloc_new w _
theorem set3_row {X : World} {b : Nat} {x y z a b' c : Value} {t : TypeId} (h : X.heap[b]? = some (.cells #[x, y, z] t (0, 0))) : (((X.setCell ⟨b, 0, none⟩ a).setCell ⟨b, 1, none⟩ b').setCell ⟨b, 2, none⟩ c).heap[b]? = some (.cells #[a, b', c] t (0, 0)) := by
  rw [heap_set _ (heap_set _ (heap_set _ h))]; rfl
theorem Gb.set3 {w X : World} {R b : Nat} {a b' c : Value} (h : Gb w R X) (hb : w.heap.size ≤ b) : Gb w R (((X.setCell ⟨b, 0, none⟩ a).setCell ⟨b, 1, none⟩ b').setCell ⟨b, 2, none⟩ c) := ((h.setNew hb).setNew hb).setNew hb
def vlV (s : Sx) : Vl := if smV s = 1 then ⟨1, sgZ (lnV 9 0 0 (smS s)), ⟨#[]⟩⟩ else if smV s = 2 then ⟨2, 0, txV (smS s)⟩ else ⟨smV s, 0, ⟨#[]⟩⟩
def vlS (s : Sx) : Sx := if smV s = 1 then lnS 9 0 0 (smS s) else if smV s = 2 then txS (smS s) else rfx (smS s) 4
end Go.Proofs.Ytepgkemnpcadiac
