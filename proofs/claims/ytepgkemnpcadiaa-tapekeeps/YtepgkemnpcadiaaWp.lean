/-
  A reader of bytes: what its block holds; refuse, small.
-/
import Derived.Test.YtepgkemnpcadiaaWj
namespace Go.Proofs.Ytepgkemnpcadiaa
open Go.ChangeShapes Go.WideShapes Go.ChangeAt Go.RowKit Go.Maps
set_option linter.unusedVariables false
set_option linter.unusedSimpArgs false
set_option maxRecDepth 20000
/-- What is left, and what was wrong first. -/
structure Sx where
  l : List UInt8
  e : Int
def rfx (s : Sx) (x : Int) : Sx := if s.e = 0 then ⟨s.l, x⟩ else s
def smV (s : Sx) : Nat := match s.l with | [] => 0 | c :: _ => c.toNat
def smS (s : Sx) : Sx := match s.l with | [] => rfx s 5 | _ :: r => ⟨r, s.e⟩
theorem smV_lt (s : Sx) : smV s < 256 := by
  unfold smV
  split
  · omega
  · rename_i c _ _
    exact c.toNat_lt
theorem heap_set {W : World} {g i : Nat} {cur : Array Value} {e : TypeId} {fr : Nat × Nat} (v : Value) (h : W.heap[g]? = some (.cells cur e fr)) : (W.setCell ⟨g, i, none⟩ v).heap[g]? = some (.cells (cur.setIfInBounds i v) e fr) := by
  simp [World.setCell, Array.getElem?_modify, h]
theorem heap_other {W : World} {g i : Nat} (v : Value) {k : Nat} (h : k ≠ g) : (W.setCell ⟨g, i, none⟩ v).heap[k]? = W.heap[k]? := by
  simp [World.setCell, Array.getElem?_modify, h.symm]
theorem set_size (W : World) (a : Addr) (v : Value) : (W.setCell a v).heap.size = W.heap.size := by simp [World.setCell]
/-- A reader in block R: bytes that lie below it. -/
structure RA (w : World) (R : Nat) (s : Sx) : Prop where
  ex : ∃ p cap, w.heap[R]? = some (.cells #[.slice p s.l.length cap, .int .i64 s.e] 106 (0, 0)) ∧ s.l.length ≤ cap ∧ cap ≤ maxLen ∧ (0 < s.l.length → ∃ g off, p = some ⟨g, off, none⟩ ∧ g < R ∧ ∀ j (hj : j < s.l.length), w.cell? ⟨g, off + j, none⟩ = some (.int .u8 (s.l[j].toNat : Int)))
theorem row_cell {w : World} {R j : Nat} {cs : Array Value} {t : TypeId} {v : Value} (h : w.heap[R]? = some (.cells cs t (0, 0))) (hv : cs[j]? = some v) : w.cell? ⟨R, j, none⟩ = some v := by
  rw [cell_of_row _ _ _ _ t (0, 0) h]
  simpa using hv
theorem row_frozen {w : World} {R j : Nat} {cs : Array Value} {t : TypeId} (h : w.heap[R]? = some (.cells cs t (0, 0))) : w.frozen? ⟨R, j, none⟩ = false := by
  unfold World.frozen?
  rw [h]
  simp
theorem RA.lt {w : World} {R : Nat} {s : Sx} (h : RA w R s) : R < w.heap.size := by
  obtain ⟨p, cap, h1, _⟩ := h.ex
  exact (Array.getElem?_eq_some_iff.1 h1).1
/-- Only the reader's block and new ones are changed. -/
theorem RA.kept {w w' : World} {R : Nat} {s : Sx} (h : RA w R s) (hb : ∀ k, k ≤ R → w'.heap[k]? = w.heap[k]?) : RA w' R s := by
  obtain ⟨p, cap, h1, h2, h3, h4⟩ := h.ex
  refine ⟨p, cap, (hb R (Nat.le_refl _)).trans h1, h2, h3, fun c => ?_⟩
  obtain ⟨g, off, hp, hg, hc⟩ := h4 c
  refine ⟨g, off, hp, hg, fun j hj => ?_⟩
  rw [World.cell?_of_block (w := w) (w' := w') (a := ⟨g, off + j, none⟩) (hb g (by omega))]
  exact hc j hj
theorem RA.below {w w' : World} {R B : Nat} {s : Sx} (h : RA w R s) (b : Below B w w') (hB : R < B) : RA w' R s := h.kept (fun k hk => b.block k (by omega))
def Gb (w : World) (R : Nat) (w' : World) : Prop := w.grownBy w' (some R)
theorem Gb.refl (w : World) (R : Nat) : Gb w R w := ⟨rfl, rfl, rfl, Nat.le_refl _, fun _ _ _ => rfl⟩
theorem Gb.trans {w w1 w2 : World} {R : Nat} (h : Gb w R w1) (h2 : Gb w1 R w2) : Gb w R w2 :=
  ⟨h2.os.trans h.os, h2.tape.trans h.tape, h2.output.trans h.output, Nat.le_trans h.size h2.size, fun k hk hne => (h2.block k (Nat.lt_of_lt_of_le hk h.size) hne).trans (h.block k hk hne)⟩
theorem Gb.set (w : World) (R i : Nat) (v : Value) : Gb w R (w.setCell ⟨R, i, none⟩ v) :=
  ⟨rfl, rfl, rfl, by rw [set_size]; exact Nat.le_refl _, fun k hk hne => heap_other v (fun e => hne (by rw [e]))⟩
theorem Gb.of_below {w w' : World} {R : Nat} (b : Below w.heap.size w w') : Gb w R w' := ⟨b.os, b.tape, b.output, b.size, fun k hk _ => b.block k hk⟩
theorem Gb.below {w w' : World} {R B : Nat} (h : Gb w R w') (hB : B ≤ R) (hw : B ≤ w.heap.size) : Below B w w' := ⟨h.os, h.tape, h.output, h.size, fun k hk => h.block k (by omega) (by simp; omega)⟩
theorem Gb.cell {w w' : World} {R g j : Nat} {x : Value} (h : Gb w R w') (hc : w.cell? ⟨g, j, none⟩ = some x) (hg : g ≠ R) : w'.cell? ⟨g, j, none⟩ = some x := World.grownBy.cell h hc (by simpa using hg)
/-- What is wrong is set. -/
theorem RA.wrong {w : World} {R : Nat} {s : Sx} (h : RA w R s) (x : Int) : RA (w.setCell ⟨R, 1, none⟩ (.int .i64 x)) R ⟨s.l, x⟩ := by
  obtain ⟨p, cap, h1, h2, h3, h4⟩ := h.ex
  refine ⟨p, cap, by rw [heap_set _ h1]; rfl, h2, h3, fun c => ?_⟩
  obtain ⟨g, off, hp, hg, hc⟩ := h4 c
  refine ⟨g, off, hp, hg, fun j hj => ?_⟩
  rw [World.cell?_of_block (w := w) (a := ⟨g, off + j, none⟩) (heap_other _ (by show g ≠ R; omega))]
  exact hc j hj
/-- Bytes are read: k of them. -/
theorem RA.read {w : World} {R g off cap k : Nat} {s : Sx} (h : RA w R s) (hr : w.heap[R]? = some (.cells #[.slice (some ⟨g, off, none⟩) s.l.length cap, .int .i64 s.e] 106 (0, 0))) (hk : k ≤ s.l.length) (u : Value) (hu : ∃ q, u = .slice q (s.l.length - k) (cap - k) ∧ (k < s.l.length → q = some ⟨g, off + k, none⟩)) :
    RA (w.setCell ⟨R, 0, none⟩ u) R ⟨s.l.drop k, s.e⟩ := by
  obtain ⟨q, rfl, hq⟩ := hu
  obtain ⟨p, cap', h1, h2, h3, h4⟩ := h.ex
  rw [hr] at h1
  simp only [Option.some.injEq, Obj.cells.injEq, and_true] at h1
  have h1' := congrArg (fun a => a[0]?) h1
  simp at h1'
  obtain ⟨rfl, rfl⟩ := h1'
  refine ⟨q, cap - k, ?_, by simp; omega, by omega, fun c => ?_⟩
  · rw [heap_set _ hr]
    simp
  · have c' : k < s.l.length := by simp at c; omega
    obtain ⟨g', off', hp, hg, hc⟩ := h4 (by omega)
    simp only [Option.some.injEq, Addr.mk.injEq, and_true] at hp
    obtain ⟨rfl, rfl⟩ := hp
    refine ⟨g, off + k, hq c', hg, fun j hj => ?_⟩
    rw [World.cell?_of_block (w := w) (a := ⟨g, off + k + j, none⟩) (heap_other _ (by show g ≠ R; omega))]
    have hj' : k + j < s.l.length := by simp at hj; omega
    have := hc (k + j) hj'
    rw [Nat.add_assoc, this]
    simp
end Go.Proofs.Ytepgkemnpcadiaa
