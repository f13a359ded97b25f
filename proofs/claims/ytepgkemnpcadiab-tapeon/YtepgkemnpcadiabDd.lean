/-
  Raw things that came in.
-/
import Derived.Test.YtepgkemnpcadiabWo
namespace Go.Proofs.Ytepgkemnpcadiab
open Go.Deep Go.ChangeShapes Go.WideShapes Go.ChangeAt Go.RowKit Go.Joins
set_option linter.unusedVariables false
set_option linter.unusedSimpArgs false
set_option maxRecDepth 20000
theorem byte_of {n : Int} (h : (Lit.int .u8 n).wf = true) : ∃ c : UInt8, n = (c.toNat : Int) := by
  have hb : 0 ≤ n ∧ n ≤ 255 := by simpa [Lit.wf, IntKind.min, IntKind.max, IntKind.signed, IntKind.bits] using h
  refine ⟨UInt8.ofNat n.toNat, ?_⟩
  have : (UInt8.ofNat n.toNat).toNat = n.toNat := by
    rw [UInt8.toNat_ofNat']
    omega
  omega
section
variable {H : Type} {enc : TypeId × Value → H} {W : World} {base b0 : Nat} {r : Reach} {spare : Nat → Bool} {held : Bool} {v : Value} {d : DataW H} {p : List MemPlace}
theorem tr_intW {n : Nat} {cs : List Value} (h : Tr enc W base spare held n 3 cs) : ∃ a, cs = [.int .i64 a] ∧ wfI a := by
  obtain ⟨x, h⟩ := h
  obtain ⟨a, e, _, w⟩ := DataW.trod_int Try.underlying3 h
  exact ⟨a, e, bounds64 w⟩
theorem kDe : Try.prog.cellsOf 37 = 7 := by kernel_rfl
theorem deed_of {n : Nat} {cs : List Value} (h : Tr enc W base spare held n 37 cs) : ∃ (a0 a1 a2 a3 a4 : Int) (a5 : ByteArray) (a6 : Bool), cs = [.int .i64 a0, .int .i64 a1, .int .i64 a2, .int .i64 a3, .int .i64 a4, .string a5, .bool a6] ∧ wfI a0 ∧ wfI a1 ∧ wfI a2 ∧ wfI a3 ∧ wfI a4 ∧ a5.size ≤ maxLen := by
  obtain ⟨m, hm, hl, hf⟩ := tr_fld Try.underlying37 h
  rw [kDe] at hl
  have h0 : Tr enc W base spare held m 3 ((cs.drop 0).take (Try.prog.cellsOf 3)) := hf 0 _ rfl
  have h1 : Tr enc W base spare held m 3 ((cs.drop 1).take (Try.prog.cellsOf 3)) := hf 1 _ rfl
  have h2 : Tr enc W base spare held m 3 ((cs.drop 2).take (Try.prog.cellsOf 3)) := hf 2 _ rfl
  have h3 : Tr enc W base spare held m 3 ((cs.drop 3).take (Try.prog.cellsOf 3)) := hf 3 _ rfl
  have h4 : Tr enc W base spare held m 3 ((cs.drop 4).take (Try.prog.cellsOf 3)) := hf 4 _ rfl
  have h5 : Tr enc W base spare held m 9 ((cs.drop 5).take (Try.prog.cellsOf 9)) := hf 5 _ rfl
  have h6 : Tr enc W base spare held m 4 ((cs.drop 6).take (Try.prog.cellsOf 4)) := hf 6 _ rfl
  rw [k3] at h0 h1 h2 h3 h4
  rw [k9] at h5
  rw [k4] at h6
  obtain ⟨a0, e0, u0⟩ := tr_intW h0
  obtain ⟨a1, e1, u1⟩ := tr_intW h1
  obtain ⟨a2, e2, u2⟩ := tr_intW h2
  obtain ⟨a3, e3, u3⟩ := tr_intW h3
  obtain ⟨a4, e4, u4⟩ := tr_intW h4
  obtain ⟨a5, e5, u5⟩ := tr_str h5
  obtain ⟨a6, e6⟩ := tr_bool h6
  refine ⟨a0, a1, a2, a3, a4, a5, a6, ?_, u0, u1, u2, u3, u4, u5⟩
  match cs, hl with
  | [x0, x1, x2, x3, x4, x5, x6], _ =>
    simp at e0 e1 e2 e3 e4 e5 e6
    rw [e0, e1, e2, e3, e4, e5, e6]
theorem open_deed (hv : Value.okWide Try.prog W r b0 37 v) (h : DataW.Trod enc Try.prog W base spare held 37 v d p) : ∃ (a0 a1 a2 a3 a4 : Int) (a5 : ByteArray) (a6 : Bool), v = .agg #[.int .i64 a0, .int .i64 a1, .int .i64 a2, .int .i64 a3, .int .i64 a4, .string a5, .bool a6] ∧ wfI a0 ∧ wfI a1 ∧ wfI a2 ∧ wfI a3 ∧ wfI a4 ∧ a5.size ≤ maxLen := by
  obtain ⟨cs, rfl, hsz⟩ := okWide_struct Try.underlying37 hv
  obtain ⟨fuel, hf⟩ := h
  obtain ⟨a0, a1, a2, a3, a4, a5, a6, e, u⟩ := deed_of (n := fuel) (enc := enc) (base := base) (spare := spare) (held := held) (W := W) (cs := cs.toList) ⟨_, by simpa [Value.cells] using hf⟩
  obtain ⟨l⟩ := cs
  simp at e
  subst e
  exact ⟨a0, a1, a2, a3, a4, a5, a6, rfl, u⟩
end
end Go.Proofs.Ytepgkemnpcadiab
