/-
  A reader of bytes: a value.
-/
import Derived.Test.YtepgkemnpcadiabWr
namespace Go.Proofs.Ytepgkemnpcadiab
open Go.ChangeShapes Go.WideShapes Go.ChangeAt Go.RowKit Go.Maps
set_option linter.unusedVariables false
set_option linter.unusedSimpArgs false
set_option maxRecDepth 20000
theorem sizeV : (Try.prog.info? 73).map (·.size) = some 3 := by kernel_rfl
theorem retV {fn : Func} {R : Ending → World → Prop} {a : Act} {w : World} {b : Nat} {v : Vl} (p : Tmp) (h : fn.results = #[.cell p 73]) (hp : a.tmps.getD p undef = .pointer (some ⟨b, 0, none⟩)) (hr : w.heap[b]? = some (.cells #[.int .i64 v.k, .int .i64 v.n, .string v.s] 73 (0, 0))) (hd : a.defers = []) (hR : R (.returned (vV v)) w) : bodyPost Try.prog fn R .ret a w :=
  bodyPost_ret (results_cell_row h a.tmps w b 73 _ (0, 0) _ hp hr Try.underlying73 rfl sizeV) hd hR
theorem Gb.setNew {w w' : World} {R b i : Nat} {v : Value} (h : Gb w R w') (hb : w.heap.size ≤ b) : Gb w R (w'.setCell ⟨b, i, none⟩ v) :=
  ⟨h.os, h.tape, h.output, by rw [set_size]; exact h.size, fun k hk hne => (heap_other v (by omega)).trans (h.block k hk hne)⟩
theorem Gb.alloc {w w' : World} {R : Nat} (h : Gb w R w') (o : Obj) : Gb w R (w'.alloc o) := h.trans (Gb.of_below ((Below.refl _ _).alloc (Nat.le_refl _) o))
theorem RA.setOther {w : World} {R b i : Nat} {s : Sx} {v : Value} (h : RA w R s) (hb : R < b) : RA (w.setCell ⟨b, i, none⟩ v) R s := h.kept (fun k hk => heap_other v (by omega))
theorem RA.alloc {w : World} {R : Nat} {s : Sx} (h : RA w R s) (o : Obj) : RA (w.alloc o) R s := h.below ((Below.refl _ w).alloc (Nat.le_refl _) o) h.lt
theorem row_new (w : World) (o : Obj) : (w.alloc o).heap[w.heap.size]? = some o := by first | exact heap_alloc_new w _ | exact _root_.Go.heap_alloc_new w _
theorem set3_row {X : World} {b : Nat} {x y z a b' c : Value} {t : TypeId} (h : X.heap[b]? = some (.cells #[x, y, z] t (0, 0))) : (((X.setCell ⟨b, 0, none⟩ a).setCell ⟨b, 1, none⟩ b').setCell ⟨b, 2, none⟩ c).heap[b]? = some (.cells #[a, b', c] t (0, 0)) := by
  rw [heap_set _ (heap_set _ (heap_set _ h))]; rfl
theorem Gb.set3 {w X : World} {R b : Nat} {a b' c : Value} (h : Gb w R X) (hb : w.heap.size ≤ b) : Gb w R (((X.setCell ⟨b, 0, none⟩ a).setCell ⟨b, 1, none⟩ b').setCell ⟨b, 2, none⟩ c) := ((h.setNew hb).setNew hb).setNew hb
theorem RA.set3 {X : World} {R b : Nat} {s : Sx} {a b' c : Value} (h : RA X R s) (hb : R < b) : RA (((X.setCell ⟨b, 0, none⟩ a).setCell ⟨b, 1, none⟩ b').setCell ⟨b, 2, none⟩ c) R s := ((h.setOther hb).setOther hb).setOther hb
def vlV (s : Sx) : Vl := if smV s = 1 then ⟨1, sgZ (lnV 9 0 0 (smS s)), ⟨#[]⟩⟩ else if smV s = 2 then ⟨2, 0, txV (smS s)⟩ else ⟨smV s, 0, ⟨#[]⟩⟩
def vlS (s : Sx) : Sx := if smV s = 1 then lnS 9 0 0 (smS s) else if smV s = 2 then txS (smS s) else rfx (smS s) 4
set_option maxHeartbeats 8000000 in
theorem value_any (R : Nat) (s : Sx) (w : World) (h : RA w R s) :
    Calls Try.prog 56 #[.pointer (some ⟨R, 0, none⟩)] w fun e w' => e = .returned (vV (vlV s)) ∧ RA w' R (vlS s) ∧ Gb w R w' := by
  have HC := hid (small_any R s _ (h.alloc (.cells #[.int .i64 0, .int .i64 0, .string ⟨#[]⟩] 73)))
  have HLT := hid h.lt
  obtain ⟨c, hc⟩ : ∃ c, smV s = c := ⟨_, rfl⟩
  obtain ⟨t, ht⟩ : ∃ t, smS s = t := ⟨_, rfl⟩
  have HV : Hid (vlV s = if c = 1 then ⟨1, sgZ (lnV 9 0 0 t), ⟨#[]⟩⟩ else if c = 2 then ⟨2, 0, txV t⟩ else ⟨c, 0, ⟨#[]⟩⟩) := by rw [← hc, ← ht]; rfl
  have HS : Hid (vlS s = if c = 1 then lnS 9 0 0 t else if c = 2 then txS t else rfx t 4) := by rw [← hc, ← ht]; rfl
  rw [hc, ht] at HC
  have hc256 : c < 256 := by rw [← hc]; exact smV_lt s
  clear h hc ht
  go_enter Try.func56, Try.ntmps56
  go_wp2_with fail
  refine HC.out.mono ?_
  rintro e2 w2 ⟨rfl, hr, hg⟩
  have HG : Hid (Gb w R w2) := ((Gb.refl w R).alloc _).trans hg
  have HB0 : Hid (w2.heap[w.heap.size]? = some (.cells #[.int .i64 0, .int .i64 0, .string ⟨#[]⟩] 73 (0, 0))) := (hg.block w.heap.size (by simp) (by have := HLT.out; simp; omega)).trans (row_new w _)
  have HLS : Hid (w.heap.size < w2.heap.size) := by have := hg.size; show _ < _; simp at this; omega
  have HR := hid hr
  clear hr hg HC
  obtain ⟨cv, hcv⟩ : ∃ cv : Int, cv = c := ⟨_, rfl⟩
  have HCV := hid hcv
  rcases (by omega : c = 1 ∨ c = 2 ∨ (c ≠ 1 ∧ c ≠ 2)) with h1 | h1 | ⟨h1, h2⟩
  · subst h1
    have HV1 : Hid (vlV s = ⟨1, sgZ (lnV 9 0 0 t), ⟨#[]⟩⟩) := HV.out
    have HS1 : Hid (vlS s = lnS 9 0 0 t) := HS.out
    clear hcv cv HCV hc256 HV HS
    go_wp2_with fail
    refine (signed_any R t _ (HR.out.alloc _)).mono ?_
    rintro e3 w3 ⟨rfl, hr3, hg3⟩
    have r0 : w3.heap[w.heap.size]? = some (.cells #[.int .i64 0, .int .i64 0, .string ⟨#[]⟩] 73 (0, 0)) := (hg3.block w.heap.size (by have := HLS.out; simp; omega) (by have := HLT.out; simp; omega)).trans ((Below.heap_alloc _ _ _ HLS.out).trans HB0.out)
    have r1 : w3.heap[w2.heap.size]? = some (.cells #[.int .i64 1, .int .i64 0, .string ⟨#[]⟩] 73 (0, 0)) := (hg3.block w2.heap.size (by simp) (by have := HLT.out; have := HLS.out; simp; omega)).trans (row_new w2 _)
    have HR3 := hid hr3
    have HG3 := hid ((HG.out.alloc (.cells #[.int .i64 1, .int .i64 0, .string ⟨#[]⟩] 73)).trans hg3)
    have R0 := hid r0
    have d0 := row_cell (j := 0) r0 rfl
    have d1 := row_cell (j := 1) r0 rfl
    have d2 := row_cell (j := 2) r0 rfl
    have e0 := row_cell (j := 0) r1 rfl
    have e1 := row_cell (j := 1) r1 rfl
    have e2 := row_cell (j := 2) r1 rfl
    have f0 := fun j => row_frozen (j := j) r0
    have f1 := fun j => row_frozen (j := j) r1
    have hne : w2.heap.size ≠ w.heap.size := by have := HLS.out; omega
    clear hr3 hg3 r0 r1
    go_wp2
    refine retV (b := w.heap.size) (v := ⟨1, sgZ (lnV 9 0 0 t), ⟨#[]⟩⟩) 2 Try.results56 (by rfl) (set3_row ((heap_other _ (by have := HLS.out; omega)).trans R0.out)) (by rfl) ⟨?_, ?_, (HG3.out.setNew (Nat.le_of_lt HLS.out)).set3 (Nat.le_refl _)⟩
    · rw [HV1.out]
    · rw [HS1.out]; exact (HR3.out.setOther (show R < w2.heap.size by have := HLT.out; have := HLS.out; omega)).set3 HLT.out
  · subst h1
    have HV1 : Hid (vlV s = ⟨2, 0, txV t⟩) := HV.out
    have HS1 : Hid (vlS s = txS t) := HS.out
    clear hcv cv HCV hc256 HV HS
    go_wp2_with fail
    refine (text_any R t _ (HR.out.alloc _)).mono ?_
    rintro e3 w3 ⟨rfl, hr3, hg3⟩
    have r0 : w3.heap[w.heap.size]? = some (.cells #[.int .i64 0, .int .i64 0, .string ⟨#[]⟩] 73 (0, 0)) := (hg3.block w.heap.size (by have := HLS.out; simp; omega) (by have := HLT.out; simp; omega)).trans ((Below.heap_alloc _ _ _ HLS.out).trans HB0.out)
    have r1 : w3.heap[w2.heap.size]? = some (.cells #[.int .i64 2, .int .i64 0, .string ⟨#[]⟩] 73 (0, 0)) := (hg3.block w2.heap.size (by simp) (by have := HLT.out; have := HLS.out; simp; omega)).trans (row_new w2 _)
    have HR3 := hid hr3
    have HG3 := hid ((HG.out.alloc (.cells #[.int .i64 2, .int .i64 0, .string ⟨#[]⟩] 73)).trans hg3)
    have R0 := hid r0
    have d0 := row_cell (j := 0) r0 rfl
    have d1 := row_cell (j := 1) r0 rfl
    have d2 := row_cell (j := 2) r0 rfl
    have e0 := row_cell (j := 0) r1 rfl
    have e1 := row_cell (j := 1) r1 rfl
    have e2 := row_cell (j := 2) r1 rfl
    have f0 := fun j => row_frozen (j := j) r0
    have f1 := fun j => row_frozen (j := j) r1
    have hne : w2.heap.size ≠ w.heap.size := by have := HLS.out; omega
    clear hr3 hg3 r0 r1
    go_wp2
    refine retV (b := w.heap.size) (v := ⟨2, 0, txV t⟩) 2 Try.results56 (by rfl) (set3_row ((heap_other _ (by have := HLS.out; omega)).trans R0.out)) (by rfl) ⟨?_, ?_, (HG3.out.setNew (Nat.le_of_lt HLS.out)).set3 (Nat.le_refl _)⟩
    · rw [HV1.out]
    · rw [HS1.out]; exact (HR3.out.setOther (show R < w2.heap.size by have := HLT.out; have := HLS.out; omega)).set3 HLT.out
  · have HV1 : Hid (vlV s = ⟨(c : Int), 0, ⟨#[]⟩⟩) := by show _ = _; rw [HV.out, if_neg h1, if_neg h2]
    have HS1 : Hid (vlS s = rfx t 4) := by show _ = _; rw [HS.out, if_neg h1, if_neg h2]
    have hb1 : ((c : Int) == 1) = false := by simp; omega
    have hb2 : ((c : Int) == 2) = false := by simp; omega
    clear hcv cv HCV hc256 HV HS
    go_wp2_with fail
    refine (refuse_any R t 4 _ (HR.out.alloc _)).mono ?_
    rintro e3 w3 ⟨rfl, hr3, hg3⟩
    have r0 : w3.heap[w.heap.size]? = some (.cells #[.int .i64 0, .int .i64 0, .string ⟨#[]⟩] 73 (0, 0)) := (hg3.block w.heap.size (by have := HLS.out; simp; omega) (by have := HLT.out; simp; omega)).trans ((Below.heap_alloc _ _ _ HLS.out).trans HB0.out)
    have r1 : w3.heap[w2.heap.size]? = some (.cells #[.int .i64 c, .int .i64 0, .string ⟨#[]⟩] 73 (0, 0)) := (hg3.block w2.heap.size (by simp) (by have := HLT.out; have := HLS.out; simp; omega)).trans (row_new w2 _)
    have HR3 := hid hr3
    have HG3 := hid ((HG.out.alloc (.cells #[.int .i64 c, .int .i64 0, .string ⟨#[]⟩] 73)).trans hg3)
    have R0 := hid r0
    have d0 := row_cell (j := 0) r0 rfl
    have d1 := row_cell (j := 1) r0 rfl
    have d2 := row_cell (j := 2) r0 rfl
    have e0 := row_cell (j := 0) r1 rfl
    have e1 := row_cell (j := 1) r1 rfl
    have e2 := row_cell (j := 2) r1 rfl
    have f0 := fun j => row_frozen (j := j) r0
    have f1 := fun j => row_frozen (j := j) r1
    have hne : w2.heap.size ≠ w.heap.size := by have := HLS.out; omega
    clear hr3 hg3 r0 r1
    go_wp2
    refine retV (b := w.heap.size) (v := ⟨(c : Int), 0, ⟨#[]⟩⟩) 2 Try.results56 (by rfl) (set3_row R0.out) (by rfl) ⟨?_, ?_, HG3.out.set3 (Nat.le_refl _)⟩
    · rw [HV1.out]
    · rw [HS1.out]; exact HR3.out.set3 HLT.out
end Go.Proofs.Ytepgkemnpcadiab
