/-
  Acts and tapes that came in; the first law of tape.
-/
import Derived.Test.YtepgkemnpcadiaaTb
namespace Go.Proofs.Ytepgkemnpcadiaa
open Go.Deep Go.ChangeShapes Go.WideShapes Go.ChangeAt Go.RowKit Go.Joins
set_option linter.unusedVariables false
set_option linter.unusedSimpArgs false
set_option maxRecDepth 20000
section
variable {H : Type} {enc : TypeId × Value → H} {W : World} {base b0 : Nat} {r : Reach} {spare : Nat → Bool} {held : Bool} {v : Value} {d : DataW H} {p : List MemPlace}
theorem opn_of {n : Nat} {cs : List Value} (h : Tr enc W base spare held n 26 cs) : ∃ (o : Opn) (u : Value), cs = [.int .i64 o.k, .string o.s, .int .i64 o.a, .int .i64 o.b, u, .int .i64 o.d, .bool o.c] ∧ ValsAt W u o.l ∧ (∀ y, y ∈ o.l → wfV y) ∧ o.s.size ≤ maxLen := by
  obtain ⟨m, hm, hl, hf⟩ := tr_fld Try.underlying26 h
  rw [kOp] at hl
  have h0 : Tr enc W base spare held m 3 ((cs.drop 0).take (Try.prog.cellsOf 3)) := hf 0 _ rfl
  have h1 : Tr enc W base spare held m 9 ((cs.drop 1).take (Try.prog.cellsOf 9)) := hf 1 _ rfl
  have h2 : Tr enc W base spare held m 23 ((cs.drop 2).take (Try.prog.cellsOf 23)) := hf 2 _ rfl
  have h3 : Tr enc W base spare held m 24 ((cs.drop 4).take (Try.prog.cellsOf 24)) := hf 3 _ rfl
  have h4 : Tr enc W base spare held m 3 ((cs.drop 5).take (Try.prog.cellsOf 3)) := hf 4 _ rfl
  have h5 : Tr enc W base spare held m 4 ((cs.drop 6).take (Try.prog.cellsOf 4)) := hf 5 _ rfl
  rw [k3] at h0 h4
  rw [k9] at h1
  rw [kS] at h2
  rw [kL] at h3
  rw [k4] at h5
  obtain ⟨a0, e0⟩ := tr_int h0
  obtain ⟨a1, e1, hs1⟩ := tr_str h1
  obtain ⟨a2, a2', e2⟩ := tr_span h2
  obtain ⟨a4, e4⟩ := tr_int h4
  obtain ⟨a5, e5⟩ := tr_bool h5
  match cs, hl with
  | [x0, x1, x2, x3, x4, x5, x6], _ =>
    simp at e0 e1 e2 e4 e5
    obtain ⟨e2, e2'⟩ := e2
    obtain ⟨x, hx⟩ := h3
    obtain ⟨L, hL, hw⟩ := trod_vals (v := x4) hx
    refine ⟨⟨a0, a1, a2, a2', L, a4, a5⟩, x4, ?_, hL, hw, hs1⟩
    rw [e0, e1, e2, e2', e4, e5]
theorem kAc : Try.prog.cellsOf 28 = 10 := by kernel_rfl
theorem open_act (hv : Value.okWide Try.prog W r b0 28 v) (h : DataW.Trod enc Try.prog W base spare held 28 v d p) : ∃ (a : Ac) (u : Value), v = acv a u ∧ ValsAt W u a.o.l ∧ a.s.size ≤ maxLen := by
  obtain ⟨cs, rfl, hsz⟩ := okWide_struct Try.underlying28 hv
  obtain ⟨fuel, hf⟩ := h
  have h : Tr enc W base spare held fuel 28 cs.toList := ⟨_, by simpa [Value.cells] using hf⟩
  clear hf
  obtain ⟨m, hm, hl, hf⟩ := tr_fld Try.underlying28 h
  rw [kAc] at hl
  have h0 : Tr enc W base spare held m 3 ((cs.toList.drop 0).take (Try.prog.cellsOf 3)) := hf 0 _ rfl
  have h1 : Tr enc W base spare held m 26 ((cs.toList.drop 1).take (Try.prog.cellsOf 26)) := hf 1 _ rfl
  have h2 : Tr enc W base spare held m 3 ((cs.toList.drop 8).take (Try.prog.cellsOf 3)) := hf 2 _ rfl
  have h3 : Tr enc W base spare held m 9 ((cs.toList.drop 9).take (Try.prog.cellsOf 9)) := hf 3 _ rfl
  rw [k3] at h0 h2
  rw [k9] at h3
  rw [kOp] at h1
  obtain ⟨a0, e0⟩ := tr_int h0
  obtain ⟨o, u, e1, hV, _, _⟩ := opn_of h1
  obtain ⟨a2, e2⟩ := tr_int h2
  obtain ⟨a3, e3, hs3⟩ := tr_str h3
  obtain ⟨l⟩ := cs
  match l, hl with
  | [x0, x1, x2, x3, x4, x5, x6, x7, x8, x9], _ =>
    simp at e0 e1 e2 e3
    obtain ⟨q1, q2, q3, q4, q5, q6, q7⟩ := e1
    refine ⟨⟨a0, o, a2, a3⟩, u, ?_, hV, hs3⟩
    unfold acv
    simp only
    rw [e0, q1, q2, q3, q4, q5, q6, q7, e2, e3]
theorem kTp : Try.prog.cellsOf 34 = 2 := by kernel_rfl
theorem kBy : Try.prog.cellsOf 32 = 1 := by kernel_rfl
theorem tr_intZ {n : Nat} {cs : List Value} (h : Tr enc W base spare held n 3 cs) : ∃ a, cs = [.int .i64 a] ∧ wfI a := by
  obtain ⟨x, h⟩ := h
  obtain ⟨a, e, _, w⟩ := DataW.trod_int Try.underlying3 h
  exact ⟨a, e, bounds64 w⟩
theorem open_tape (hv : Value.okWide Try.prog W r b0 34 v) (h : DataW.Trod enc Try.prog W base spare held 34 v d p) : ∃ (l : List UInt8) (u : Value) (s : Int), v = tpv u s ∧ BA W u l ∧ wfI s := by
  obtain ⟨cs, rfl, hsz⟩ := okWide_struct Try.underlying34 hv
  obtain ⟨fuel, hf⟩ := h
  have h : Tr enc W base spare held fuel 34 cs.toList := ⟨_, by simpa [Value.cells] using hf⟩
  clear hf
  obtain ⟨m, hm, hl, hf⟩ := tr_fld Try.underlying34 h
  rw [kTp] at hl
  have h0 : Tr enc W base spare held m 32 ((cs.toList.drop 0).take (Try.prog.cellsOf 32)) := hf 0 _ rfl
  have h1 : Tr enc W base spare held m 3 ((cs.toList.drop 1).take (Try.prog.cellsOf 3)) := hf 1 _ rfl
  rw [k3] at h1
  rw [kBy] at h0
  obtain ⟨a1, e1, w1⟩ := tr_intZ h1
  obtain ⟨l⟩ := cs
  match l, hl with
  | [x0, x1], _ =>
    simp at e1
    subst e1
    obtain ⟨x, hx⟩ := h0
    obtain ⟨l, hl⟩ := trod_bytes (v := x0) hx
    exact ⟨l, x0, a1, rfl, hl, w1⟩
end
set_option maxHeartbeats 4000000 in
theorem tapeChecks_walk (a : Ac) (u : Value) (w : World) (hv : ValsAt w u a.o.l) :
    Calls Try.prog 3 #[acv a u] w fun e w' => e = .returned (.bool true) ∧ Below w.heap.size w w' := by
  have HV := hid hv
  have HC := hid (fun W (h : ValsAt W u a.o.l) => tcheck_any a u W h)
  have HF := hid (fun W (h : ValsAt W u a.o.l) => noteFault_any a u W h)
  obtain ⟨q, cap, hu, hmx⟩ := hv.shape'
  subst hu
  obtain ⟨z, hz⟩ : ∃ z, ach a = z := ⟨_, rfl⟩
  rw [hz] at HC HF
  obtain ⟨k, ⟨ok, os, oa, ob, ol, od, oc⟩, p, y⟩ := a
  unfold acv at HC HF ⊢
  simp only at HC HF HV ⊢
  clear hv hz hmx
  obtain ⟨n, hn⟩ : ∃ n, ol.length = n := ⟨_, rfl⟩
  rw [hn] at HC HF HV ⊢
  clear hn
  have HB0 : Hid (Below w.heap.size w (w.alloc (.cells #[.int .i64 k, .int .i64 ok, .string os, .int .i64 oa, .int .i64 ob, .slice q n cap, .int .i64 od, .bool oc, .int .i64 p, .string y] 28))) := (Below.refl _ _).alloc (Nat.le_refl _) _
  go_enter Try.func3, Try.ntmps3
  go_wp2_with fail
  refine (HC.out _ (HV.out.below HB0.out)).mono ?_
  rintro e w2 ⟨rfl, hb⟩
  have HB2 := hid (below_trans HB0.out hb (by simp))
  have x0 := (hb.cell (p := ⟨w.heap.size, 0, none⟩) (by simp)).trans (cell_new rfl rfl)
  have x1 := (hb.cell (p := ⟨w.heap.size, 1, none⟩) (by simp)).trans (cell_new rfl rfl)
  have x2 := (hb.cell (p := ⟨w.heap.size, 2, none⟩) (by simp)).trans (cell_new rfl rfl)
  have x3 := (hb.cell (p := ⟨w.heap.size, 3, none⟩) (by simp)).trans (cell_new rfl rfl)
  have x4 := (hb.cell (p := ⟨w.heap.size, 4, none⟩) (by simp)).trans (cell_new rfl rfl)
  have x5 := (hb.cell (p := ⟨w.heap.size, 5, none⟩) (by simp)).trans (cell_new rfl rfl)
  have x6 := (hb.cell (p := ⟨w.heap.size, 6, none⟩) (by simp)).trans (cell_new rfl rfl)
  have x7 := (hb.cell (p := ⟨w.heap.size, 7, none⟩) (by simp)).trans (cell_new rfl rfl)
  have x8 := (hb.cell (p := ⟨w.heap.size, 8, none⟩) (by simp)).trans (cell_new rfl rfl)
  have x9 := (hb.cell (p := ⟨w.heap.size, 9, none⟩) (by simp)).trans (cell_new rfl rfl)
  clear hb
  go_wp2_with fail
  refine (HF.out _ (HV.out.below HB2.out)).mono ?_
  rintro e w3 ⟨rfl, hb⟩
  have HB3 := hid (below_trans HB2.out hb HB2.out.size)
  clear hb x0 x1 x2 x3 x4 x5 x6 x7 x8 x9
  go_wp2
  go_ret
  exact ⟨ret_bool (by simp), HB3.out⟩
end Go.Proofs.Ytepgkemnpcadiaa
