/-
  Acts and tapes that came in; the first law of tape.
-/
import Derived.Test.YtepgkemnpcadiabTb
namespace Go.Proofs.Ytepgkemnpcadiab
open Go.Deep Go.ChangeShapes Go.WideShapes Go.ChangeAt Go.RowKit Go.Joins
set_option linter.unusedVariables false
set_option linter.unusedSimpArgs false
set_option maxRecDepth 20000
section
variable {H : Type} {enc : TypeId × Value → H} {W : World} {base b0 : Nat} {r : Reach} {spare : Nat → Bool} {held : Bool} {v : Value} {d : DataW H} {p : List MemPlace}
theorem opn_of {n : Nat} {cs : List Value} (h : Tr enc W base spare held n 44 cs) : ∃ (o : Opn) (u : Value), cs = [.int .i64 o.k, .string o.s, .int .i64 o.a, .int .i64 o.b, u, .int .i64 o.d, .bool o.c] ∧ ValsAt W u o.l ∧ (∀ y, y ∈ o.l → wfV y) ∧ o.s.size ≤ maxLen := by
  obtain ⟨m, hm, hl, hf⟩ := tr_fld Try.underlying44 h
  rw [kOp] at hl
  have h0 : Tr enc W base spare held m 3 ((cs.drop 0).take (Try.prog.cellsOf 3)) := hf 0 _ rfl
  have h1 : Tr enc W base spare held m 9 ((cs.drop 1).take (Try.prog.cellsOf 9)) := hf 1 _ rfl
  have h2 : Tr enc W base spare held m 41 ((cs.drop 2).take (Try.prog.cellsOf 41)) := hf 2 _ rfl
  have h3 : Tr enc W base spare held m 42 ((cs.drop 4).take (Try.prog.cellsOf 42)) := hf 3 _ rfl
  have h4 : Tr enc W base spare held m 3 ((cs.drop 5).take (Try.prog.cellsOf 3)) := hf 4 _ rfl
  have h5 : Tr enc W base spare held m 4 ((cs.drop 6).take (Try.prog.cellsOf 4)) := hf 5 _ rfl
  rw [k3] at h0 h4
  rw [k9] at h1
  rw [kS] at h2
  rw [kL] at h3
  rw [k4] at h5
  obtain ⟨a0, e0⟩ := tr_int h0
  obtain ⟨a1, e1, hs1⟩ := tr_str h1
  obtain ⟨a2, a2', e2⟩ := tr_span h2
  obtain ⟨a4, e4⟩ := tr_int h4
  obtain ⟨a5, e5⟩ := tr_bool h5
  match cs, hl with
  | [x0, x1, x2, x3, x4, x5, x6], _ =>
    simp at e0 e1 e2 e4 e5
    obtain ⟨e2, e2'⟩ := e2
    obtain ⟨x, hx⟩ := h3
    obtain ⟨L, hL, hw⟩ := trod_vals (v := x4) hx
    refine ⟨⟨a0, a1, a2, a2', L, a4, a5⟩, x4, ?_, hL, hw, hs1⟩
    rw [e0, e1, e2, e2', e4, e5]
theorem kAc : Try.prog.cellsOf 46 = 10 := by kernel_rfl
theorem open_act (hv : Value.okWide Try.prog W r b0 46 v) (h : DataW.Trod enc Try.prog W base spare held 46 v d p) : ∃ (a : Ac) (u : Value), v = acv a u ∧ ValsAt W u a.o.l ∧ a.s.size ≤ maxLen := by
  obtain ⟨cs, rfl, hsz⟩ := okWide_struct Try.underlying46 hv
  obtain ⟨fuel, hf⟩ := h
  have h : Tr enc W base spare held fuel 46 cs.toList := ⟨_, by simpa [Value.cells] using hf⟩
  clear hf
  obtain ⟨m, hm, hl, hf⟩ := tr_fld Try.underlying46 h
  rw [kAc] at hl
  have h0 : Tr enc W base spare held m 3 ((cs.toList.drop 0).take (Try.prog.cellsOf 3)) := hf 0 _ rfl
  have h1 : Tr enc W base spare held m 44 ((cs.toList.drop 1).take (Try.prog.cellsOf 44)) := hf 1 _ rfl
  have h2 : Tr enc W base spare held m 3 ((cs.toList.drop 8).take (Try.prog.cellsOf 3)) := hf 2 _ rfl
  have h3 : Tr enc W base spare held m 9 ((cs.toList.drop 9).take (Try.prog.cellsOf 9)) := hf 3 _ rfl
  rw [k3] at h0 h2
  rw [k9] at h3
  rw [kOp] at h1
  obtain ⟨a0, e0⟩ := tr_int h0
  obtain ⟨o, u, e1, hV, _, _⟩ := opn_of h1
  obtain ⟨a2, e2⟩ := tr_int h2
  obtain ⟨a3, e3, hs3⟩ := tr_str h3
  obtain ⟨l⟩ := cs
  match l, hl with
  | [x0, x1, x2, x3, x4, x5, x6, x7, x8, x9], _ =>
    simp at e0 e1 e2 e3
    obtain ⟨q1, q2, q3, q4, q5, q6, q7⟩ := e1
    refine ⟨⟨a0, o, a2, a3⟩, u, ?_, hV, hs3⟩
    unfold acv
    simp only
    rw [e0, q1, q2, q3, q4, q5, q6, q7, e2, e3]
theorem kTp : Try.prog.cellsOf 27 = 2 := by kernel_rfl
theorem kBy : Try.prog.cellsOf 25 = 1 := by kernel_rfl
theorem tr_intZ {n : Nat} {cs : List Value} (h : Tr enc W base spare held n 3 cs) : ∃ a, cs = [.int .i64 a] ∧ wfI a := by
  obtain ⟨x, h⟩ := h
  obtain ⟨a, e, _, w⟩ := DataW.trod_int Try.underlying3 h
  exact ⟨a, e, bounds64 w⟩
theorem open_tape (hv : Value.okWide Try.prog W r b0 27 v) (h : DataW.Trod enc Try.prog W base spare held 27 v d p) : ∃ (l : List UInt8) (u : Value) (s : Int), v = tpv u s ∧ BA W u l ∧ wfI s := by
  obtain ⟨cs, rfl, hsz⟩ := okWide_struct Try.underlying27 hv
  obtain ⟨fuel, hf⟩ := h
  have h : Tr enc W base spare held fuel 27 cs.toList := ⟨_, by simpa [Value.cells] using hf⟩
  clear hf
  obtain ⟨m, hm, hl, hf⟩ := tr_fld Try.underlying27 h
  rw [kTp] at hl
  have h0 : Tr enc W base spare held m 25 ((cs.toList.drop 0).take (Try.prog.cellsOf 25)) := hf 0 _ rfl
  have h1 : Tr enc W base spare held m 3 ((cs.toList.drop 1).take (Try.prog.cellsOf 3)) := hf 1 _ rfl
  rw [k3] at h1
  rw [kBy] at h0
  obtain ⟨a1, e1, w1⟩ := tr_intZ h1
  obtain ⟨l⟩ := cs
  match l, hl with
  | [x0, x1], _ =>
    simp at e1
    subst e1
    obtain ⟨x, hx⟩ := h0
    obtain ⟨l, hl⟩ := trod_bytes (v := x0) hx
    exact ⟨l, x0, a1, rfl, hl, w1⟩
end
end Go.Proofs.Ytepgkemnpcadiab
