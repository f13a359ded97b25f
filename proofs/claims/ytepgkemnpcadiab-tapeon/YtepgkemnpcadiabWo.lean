/-
  An operation that came in, with its values.
-/
import Derived.Test.YtepgkemnpcadiabWb
import Derived.Test.YtepgkemnpcadiabFr
import Derived.Deep.Slices
import Derived.Lib.SmallJoins
namespace Go.Proofs.Ytepgkemnpcadiab
open Go.Deep Go.ChangeShapes Go.WideShapes Go.ChangeAt Go.RowKit Go.Joins
set_option linter.unusedVariables false
set_option linter.unusedSimpArgs false
set_option maxRecDepth 20000
section
variable {H : Type} {enc : TypeId × Value → H} {W : World} {base b0 : Nat} {r : Reach} {spare : Nat → Bool} {held : Bool} {v : Value} {d : DataW H} {p : List MemPlace}
def Tr (enc : TypeId × Value → H) (W : World) (base : Nat) (spare : Nat → Bool) (held : Bool) (n : Nat) (t : TypeId) (cs : List Value) : Prop := ∃ x, DataW.trod enc Try.prog W base spare held n t cs = some x
theorem tr_int {n : Nat} {cs : List Value} (h : Tr enc W base spare held n 3 cs) : ∃ a, cs = [.int .i64 a] := by
  obtain ⟨x, h⟩ := h
  obtain ⟨a, e, _⟩ := DataW.trod_int Try.underlying3 h
  exact ⟨a, e⟩
theorem tr_str {n : Nat} {cs : List Value} (h : Tr enc W base spare held n 9 cs) : ∃ s : ByteArray, cs = [.string s] ∧ s.size ≤ maxLen := by
  obtain ⟨x, h⟩ := h
  obtain ⟨a, e, _, h2⟩ := DataW.trod_string Try.underlying9 h
  exact ⟨a, e, h2⟩
theorem tr_fld {n : Nat} {t : TypeId} {fs : Array Field} {cs : List Value} (ht : Try.prog.underlying t = some (.struct fs)) (h : Tr enc W base spare held n t cs) : ∃ m, n = m + 1 ∧ cs.length = Try.prog.cellsOf t ∧ ∀ (i : Nat) (f : Field), fs[i]? = some f → Tr enc W base spare held m f.type ((cs.drop f.offset).take (Try.prog.cellsOf f.type)) := by
  obtain ⟨x, h⟩ := h
  obtain ⟨xs, m, e, _, hl, hlen, hf⟩ := DataW.trod_struct ht h
  refine ⟨m, e, hl, fun i f hfi => ?_⟩
  have h1 := hf i f hfi
  have hi : i < xs.length := by rw [hlen]; exact (Array.getElem?_eq_some_iff.1 hfi).1
  rw [List.getElem?_eq_getElem hi] at h1
  exact ⟨_, h1⟩
theorem tr_bool {n : Nat} {cs : List Value} (h : Tr enc W base spare held n 4 cs) : ∃ b, cs = [.bool b] := by
  obtain ⟨x, h⟩ := h
  obtain ⟨b, e, _⟩ := DataW.trod_bool Try.underlying4 h
  exact ⟨b, e⟩
theorem k3 : Try.prog.cellsOf 3 = 1 := by kernel_rfl
theorem k4 : Try.prog.cellsOf 4 = 1 := by kernel_rfl
theorem k9 : Try.prog.cellsOf 9 = 1 := by kernel_rfl
theorem kS : Try.prog.cellsOf 41 = 2 := by kernel_rfl
theorem kL : Try.prog.cellsOf 42 = 1 := by kernel_rfl
theorem kOp : Try.prog.cellsOf 44 = 7 := by kernel_rfl
theorem tr_slice {n : Nat} {t e : TypeId} {cs : List Value} (hu : Try.prog.underlying t = some (.slice e)) (h : Tr enc W base spare held n t cs) : ∃ q len cap, cs = [.slice q len cap] := by
  obtain ⟨x, h⟩ := h
  rcases DataW.trod_slice hu h with ⟨rfl, _⟩ | ⟨a, len, cap, elems, rest, m, hm, rfl, _⟩
  · exact ⟨_, _, _, rfl⟩
  · exact ⟨_, _, _, rfl⟩
theorem tr_span {n : Nat} {cs : List Value} (h : Tr enc W base spare held n 41 cs) : ∃ a b, cs = [.int .i64 a, .int .i64 b] := by
  obtain ⟨m, hm, hl, hf⟩ := tr_fld Try.underlying41 h
  rw [kS] at hl
  have h0 : Tr enc W base spare held m 3 ((cs.drop 0).take (Try.prog.cellsOf 3)) := hf 0 _ rfl
  have h1 : Tr enc W base spare held m 3 ((cs.drop 1).take (Try.prog.cellsOf 3)) := hf 1 _ rfl
  rw [k3] at h0 h1
  obtain ⟨a, e0⟩ := tr_int h0
  obtain ⟨b, e1⟩ := tr_int h1
  match cs, hl with
  | [x0, x1], _ =>
    simp at e0 e1
    exact ⟨a, b, by rw [e0, e1]⟩
theorem open_opn (hv : Value.okWide Try.prog W r b0 44 v) (h : DataW.Trod enc Try.prog W base spare held 44 v d p) : ∃ (o : Opn) (u : Value), v = opv o u ∧ ValsAt W u o.l ∧ (∀ y, y ∈ o.l → wfV y) ∧ o.s.size ≤ maxLen := by
  obtain ⟨cs, rfl, hsz⟩ := okWide_struct Try.underlying44 hv
  obtain ⟨fuel, hf⟩ := h
  have h : Tr enc W base spare held fuel 44 cs.toList := ⟨_, by simpa [Value.cells] using hf⟩
  clear hf
  obtain ⟨m, hm, hl, hf⟩ := tr_fld Try.underlying44 h
  rw [kOp] at hl
  have h0 : Tr enc W base spare held m 3 ((cs.toList.drop 0).take (Try.prog.cellsOf 3)) := hf 0 _ rfl
  have h1 : Tr enc W base spare held m 9 ((cs.toList.drop 1).take (Try.prog.cellsOf 9)) := hf 1 _ rfl
  have h2 : Tr enc W base spare held m 41 ((cs.toList.drop 2).take (Try.prog.cellsOf 41)) := hf 2 _ rfl
  have h3 : Tr enc W base spare held m 42 ((cs.toList.drop 4).take (Try.prog.cellsOf 42)) := hf 3 _ rfl
  have h4 : Tr enc W base spare held m 3 ((cs.toList.drop 5).take (Try.prog.cellsOf 3)) := hf 4 _ rfl
  have h5 : Tr enc W base spare held m 4 ((cs.toList.drop 6).take (Try.prog.cellsOf 4)) := hf 5 _ rfl
  rw [k3] at h0 h4
  rw [k9] at h1
  rw [kS] at h2
  rw [kL] at h3
  rw [k4] at h5
  obtain ⟨a0, e0⟩ := tr_int h0
  obtain ⟨a1, e1, hs1⟩ := tr_str h1
  obtain ⟨a2, a2', e2⟩ := tr_span h2
  obtain ⟨a4, e4⟩ := tr_int h4
  obtain ⟨a5, e5⟩ := tr_bool h5
  obtain ⟨l⟩ := cs
  match l, hl with
  | [x0, x1, x2, x3, x4, x5, x6], _ =>
    simp at e0 e1 e2 e4 e5
    obtain ⟨e2, e2'⟩ := e2
    obtain ⟨x, hx⟩ := h3
    obtain ⟨L, hL, hw⟩ := trod_vals (v := x4) hx
    refine ⟨⟨a0, a1, a2, a2', L, a4, a5⟩, x4, ?_, hL, hw, hs1⟩
    unfold opv
    rw [e0, e1, e2, e2', e4, e5]
end
end Go.Proofs.Ytepgkemnpcadiab
