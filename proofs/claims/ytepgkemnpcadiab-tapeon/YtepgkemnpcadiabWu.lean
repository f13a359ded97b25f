/-
  A reader of bytes: an operation.
-/
import Derived.Test.YtepgkemnpcadiabWt
namespace Go.Proofs.Ytepgkemnpcadiab
open Go.ChangeShapes Go.WideShapes Go.ChangeAt Go.RowKit Go.Maps
set_option linter.unusedVariables false
set_option linter.unusedSimpArgs false
set_option maxRecDepth 20000
theorem row_lt {w : World} {b : Nat} {o : Obj} (h : w.heap[b]? = some o) : b < w.heap.size := (Array.getElem?_eq_some_iff.1 h).1
theorem sizeO : (Try.prog.info? 44).map (·.size) = some 7 := by kernel_rfl
theorem retO {fn : Func} {R : Ending → World → Prop} {a : Act} {w : World} {b : Nat} {o : Opn} {u : Value} (p : Tmp) (h : fn.results = #[.cell p 44]) (hp : a.tmps.getD p undef = .pointer (some ⟨b, 0, none⟩)) (hr : w.heap[b]? = some (.cells #[.int .i64 o.k, .string o.s, .int .i64 o.a, .int .i64 o.b, u, .int .i64 o.d, .bool o.c] 44 (0, 0))) (hd : a.defers = []) (hR : R (.returned (opv o u)) w) : bodyPost Try.prog fn R .ret a w :=
  bodyPost_ret (results_cell_row h a.tmps w b 44 _ (0, 0) _ hp hr Try.underlying44 rfl sizeO) hd hR
theorem set7_row {X : World} {b : Nat} {x0 x1 x2 x3 x4 x5 x6 a0 a1 a2 a3 a4 a5 a6 : Value} {t : TypeId} (h : X.heap[b]? = some (.cells #[x0, x1, x2, x3, x4, x5, x6] t (0, 0))) : (((((((X.setCell ⟨b, 0, none⟩ a0).setCell ⟨b, 1, none⟩ a1).setCell ⟨b, 2, none⟩ a2).setCell ⟨b, 3, none⟩ a3).setCell ⟨b, 4, none⟩ a4).setCell ⟨b, 5, none⟩ a5).setCell ⟨b, 6, none⟩ a6).heap[b]? = some (.cells #[a0, a1, a2, a3, a4, a5, a6] t (0, 0)) := by
  rw [heap_set _ (heap_set _ (heap_set _ (heap_set _ (heap_set _ (heap_set _ (heap_set _ h))))))]; rfl
theorem Gb.set7 {w X : World} {R b : Nat} {a0 a1 a2 a3 a4 a5 a6 : Value} (h : Gb w R X) (hb : w.heap.size ≤ b) : Gb w R (((((((X.setCell ⟨b, 0, none⟩ a0).setCell ⟨b, 1, none⟩ a1).setCell ⟨b, 2, none⟩ a2).setCell ⟨b, 3, none⟩ a3).setCell ⟨b, 4, none⟩ a4).setCell ⟨b, 5, none⟩ a5).setCell ⟨b, 6, none⟩ a6) := ((((((h.setNew hb).setNew hb).setNew hb).setNew hb).setNew hb).setNew hb).setNew hb
theorem RA.set7 {X : World} {R b : Nat} {s : Sx} {a0 a1 a2 a3 a4 a5 a6 : Value} (h : RA X R s) (hb : R < b) : RA (((((((X.setCell ⟨b, 0, none⟩ a0).setCell ⟨b, 1, none⟩ a1).setCell ⟨b, 2, none⟩ a2).setCell ⟨b, 3, none⟩ a3).setCell ⟨b, 4, none⟩ a4).setCell ⟨b, 5, none⟩ a5).setCell ⟨b, 6, none⟩ a6) R s := ((((((h.setOther hb).setOther hb).setOther hb).setOther hb).setOther hb).setOther hb).setOther hb
theorem VO.set7 {X : World} {B b : Nat} {v : Value} {l : List Vl} {a0 a1 a2 a3 a4 a5 a6 : Value} (h : VO X B v l) (hb : b < B) : VO (((((((X.setCell ⟨b, 0, none⟩ a0).setCell ⟨b, 1, none⟩ a1).setCell ⟨b, 2, none⟩ a2).setCell ⟨b, 3, none⟩ a3).setCell ⟨b, 4, none⟩ a4).setCell ⟨b, 5, none⟩ a5).setCell ⟨b, 6, none⟩ a6) B v l := ((((((h.set hb).set hb).set hb).set hb).set hb).set hb).set hb
def opV (s : Sx) : Opn :=
  if smV s = 1 then ⟨1, txV (smS s), (lnV 9 0 0 (txS (smS s)) : Nat), (lnV 9 0 0 (lnS 9 0 0 (txS (smS s))) : Nat), (vsR (lnS 9 0 0 (lnS 9 0 0 (txS (smS s))))).1, 0, false⟩
  else if smV s = 2 then ⟨2, ⟨#[]⟩, 0, 0, [], (lnV 9 0 0 (smS s) : Nat), decide (smV (lnS 9 0 0 (smS s)) = 1)⟩
  else if smV s = 3 then ⟨3, txV (smS s), 0, 0, [], 0, false⟩ else ⟨(smV s : Nat), ⟨#[]⟩, 0, 0, [], 0, false⟩
def opS (s : Sx) : Sx :=
  if smV s = 1 then (vsR (lnS 9 0 0 (lnS 9 0 0 (txS (smS s))))).2
  else if smV s = 2 then flS (lnS 9 0 0 (smS s)) else if smV s = 3 then txS (smS s) else rfx (smS s) 3
set_option maxHeartbeats 16000000 in
theorem operation_any (R : Nat) (s : Sx) (w : World) (h : RA w R s) :
    Calls Try.prog 35 #[.pointer (some ⟨R, 0, none⟩)] w fun e w' => ∃ u, e = .returned (opv (opV s) u) ∧ VO w' w.heap.size u (opV s).l ∧ RA w' R (opS s) ∧ Gb w R w' := by
  have HC := hid (small_any R s _ (h.alloc (.cells #[.int .i64 0, .string ⟨#[]⟩, .int .i64 0, .int .i64 0, (.slice none 0 0), .int .i64 0, .bool false] 44)))
  have HLT := hid h.lt
  obtain ⟨c, hc⟩ : ∃ c, smV s = c := ⟨_, rfl⟩
  obtain ⟨t, ht⟩ : ∃ t, smS s = t := ⟨_, rfl⟩
  have HV : Hid (opV s = if c = 1 then ⟨1, txV t, (lnV 9 0 0 (txS t) : Nat), (lnV 9 0 0 (lnS 9 0 0 (txS t)) : Nat), (vsR (lnS 9 0 0 (lnS 9 0 0 (txS t)))).1, 0, false⟩ else if c = 2 then ⟨2, ⟨#[]⟩, 0, 0, [], (lnV 9 0 0 t : Nat), decide (smV (lnS 9 0 0 t) = 1)⟩ else if c = 3 then ⟨3, txV t, 0, 0, [], 0, false⟩ else ⟨(c : Int), ⟨#[]⟩, 0, 0, [], 0, false⟩) := by rw [← hc, ← ht]; rfl
  have HS : Hid (opS s = if c = 1 then (vsR (lnS 9 0 0 (lnS 9 0 0 (txS t)))).2 else if c = 2 then flS (lnS 9 0 0 t) else if c = 3 then txS t else rfx t 3) := by rw [← hc, ← ht]; rfl
  rw [hc, ht] at HC
  have hc256 : c < 256 := by rw [← hc]; exact smV_lt s
  clear h hc ht
  go_enter Try.func35, Try.ntmps35
  go_wp2_with fail
  refine HC.out.mono ?_
  rintro e2 w2 ⟨rfl, hr, hg⟩
  have HG2 : Hid (Gb w R w2) := ((Gb.refl w R).alloc _).trans hg
  have R02 : Hid (w2.heap[w.heap.size]? = some (.cells #[.int .i64 0, .string ⟨#[]⟩, .int .i64 0, .int .i64 0, (.slice none 0 0), .int .i64 0, .bool false] 44 (0, 0))) := (hg.block w.heap.size (by simp) (by have := HLT.out; simp; omega)).trans (row_new w _)
  have HLS : Hid (w.heap.size < w2.heap.size) := by have := hg.size; show _ < _; simp at this; omega
  have HBR : Hid (R < w2.heap.size) := by have := HLT.out; have := HLS.out; show R < _; omega
  have HNE : Hid (w.heap.size ≠ w2.heap.size) := by have := HLS.out; show _ ≠ _; omega
  have hne1 : w2.heap.size ≠ w.heap.size := by have := HLS.out; omega
  have hne2 : w.heap.size ≠ w2.heap.size := by have := HLS.out; omega
  have HR2 := hid hr
  clear hr hg HC
  rcases (by omega : c = 1 ∨ c = 2 ∨ c = 3 ∨ (c ≠ 1 ∧ c ≠ 2 ∧ c ≠ 3)) with h1 | h1 | h1 | ⟨h1, h2, h3⟩
  · subst h1
    have HV1 : Hid (opV s = ⟨1, txV t, (lnV 9 0 0 (txS t) : Nat), (lnV 9 0 0 (lnS 9 0 0 (txS t)) : Nat), (vsR (lnS 9 0 0 (lnS 9 0 0 (txS t)))).1, 0, false⟩) := HV.out
    have HS1 : Hid (opS s = (vsR (lnS 9 0 0 (lnS 9 0 0 (txS t)))).2) := HS.out
    clear hc256 HV HS
    go_wp2_with fail
    refine (text_any R t _ (HR2.out.alloc _)).mono ?_
    rintro ex w3 ⟨rfl, hrx, hgx⟩
    have R03 : Hid (w3.heap[w.heap.size]? = some (.cells #[.int .i64 0, .string ⟨#[]⟩, .int .i64 0, .int .i64 0, (.slice none 0 0), .int .i64 0, .bool false] 44 (0, 0))) := (hgx.block w.heap.size (by have := HLS.out; simp; omega) (by have := HLT.out; simp; omega)).trans ((Below.heap_alloc _ _ _ HLS.out).trans R02.out)
    have R13 : Hid (w3.heap[w2.heap.size]? = some (.cells #[.int .i64 1, .string ⟨#[]⟩, .int .i64 0, .int .i64 0, (.slice none 0 0), .int .i64 0, .bool false] 44 (0, 0))) := (hgx.block w2.heap.size (by simp) (by have := HBR.out; simp; omega)).trans (row_new w2 _)
    have HR3 := hid hrx
    have HG3 := hid ((HG2.out.alloc (.cells #[.int .i64 1, .string ⟨#[]⟩, .int .i64 0, .int .i64 0, (.slice none 0 0), .int .i64 0, .bool false] 44)).trans hgx)
    clear hrx hgx
    have d0 := row_cell (j := 0) R03.out rfl
    have d1 := row_cell (j := 1) R03.out rfl
    have d2 := row_cell (j := 2) R03.out rfl
    have d3 := row_cell (j := 3) R03.out rfl
    have d4 := row_cell (j := 4) R03.out rfl
    have d5 := row_cell (j := 5) R03.out rfl
    have d6 := row_cell (j := 6) R03.out rfl
    have e0 := row_cell (j := 0) R13.out rfl
    have e1 := row_cell (j := 1) R13.out rfl
    have e2 := row_cell (j := 2) R13.out rfl
    have e3 := row_cell (j := 3) R13.out rfl
    have e4 := row_cell (j := 4) R13.out rfl
    have e5 := row_cell (j := 5) R13.out rfl
    have e6 := row_cell (j := 6) R13.out rfl
    have f0 := fun j => row_frozen (j := j) R03.out
    have f1 := fun j => row_frozen (j := j) R13.out
    go_wp2_with fail
    refine (long_any R _ _ (HR3.out.setOther HBR.out)).mono ?_
    rintro ex w4 ⟨rfl, hrx, hgx⟩
    have R04 : Hid (w4.heap[w.heap.size]? = some (.cells #[.int .i64 0, .string ⟨#[]⟩, .int .i64 0, .int .i64 0, (.slice none 0 0), .int .i64 0, .bool false] 44 (0, 0))) := (hgx.block w.heap.size (by rw [set_size]; exact row_lt R03.out) (by have := HLT.out; simp; omega)).trans ((heap_other _ HNE.out).trans R03.out)
    have R14 : Hid (w4.heap[w2.heap.size]? = some (.cells #[.int .i64 1, .string (txV t), .int .i64 0, .int .i64 0, (.slice none 0 0), .int .i64 0, .bool false] 44 (0, 0))) := (hgx.block w2.heap.size (by rw [set_size]; exact row_lt R13.out) (by have := HBR.out; simp; omega)).trans (heap_set _ R13.out)
    have HR4 := hid hrx
    have HG4 := hid ((HG3.out.setNew (Nat.le_of_lt HLS.out)).trans hgx)
    clear d0 d1 d2 d3 d4 d5 d6 e0 e1 e2 e3 e4 e5 e6 f0 f1
    clear hrx hgx
    have d0 := row_cell (j := 0) R04.out rfl
    have d1 := row_cell (j := 1) R04.out rfl
    have d2 := row_cell (j := 2) R04.out rfl
    have d3 := row_cell (j := 3) R04.out rfl
    have d4 := row_cell (j := 4) R04.out rfl
    have d5 := row_cell (j := 5) R04.out rfl
    have d6 := row_cell (j := 6) R04.out rfl
    have e0 := row_cell (j := 0) R14.out rfl
    have e1 := row_cell (j := 1) R14.out rfl
    have e2 := row_cell (j := 2) R14.out rfl
    have e3 := row_cell (j := 3) R14.out rfl
    have e4 := row_cell (j := 4) R14.out rfl
    have e5 := row_cell (j := 5) R14.out rfl
    have e6 := row_cell (j := 6) R14.out rfl
    have f0 := fun j => row_frozen (j := j) R04.out
    have f1 := fun j => row_frozen (j := j) R14.out
    go_wp2_with fail
    refine (long_any R _ _ (HR4.out.setOther HBR.out)).mono ?_
    rintro ex w5 ⟨rfl, hrx, hgx⟩
    have R05 : Hid (w5.heap[w.heap.size]? = some (.cells #[.int .i64 0, .string ⟨#[]⟩, .int .i64 0, .int .i64 0, (.slice none 0 0), .int .i64 0, .bool false] 44 (0, 0))) := (hgx.block w.heap.size (by rw [set_size]; exact row_lt R04.out) (by have := HLT.out; simp; omega)).trans ((heap_other _ HNE.out).trans R04.out)
    have R15 : Hid (w5.heap[w2.heap.size]? = some (.cells #[.int .i64 1, .string (txV t), .int .i64 ((lnV 9 0 0 (txS t) : Nat) : Int), .int .i64 0, (.slice none 0 0), .int .i64 0, .bool false] 44 (0, 0))) := (hgx.block w2.heap.size (by rw [set_size]; exact row_lt R14.out) (by have := HBR.out; simp; omega)).trans (heap_set _ R14.out)
    have HR5 := hid hrx
    have HG5 := hid ((HG4.out.setNew (Nat.le_of_lt HLS.out)).trans hgx)
    clear d0 d1 d2 d3 d4 d5 d6 e0 e1 e2 e3 e4 e5 e6 f0 f1
    clear hrx hgx
    have d0 := row_cell (j := 0) R05.out rfl
    have d1 := row_cell (j := 1) R05.out rfl
    have d2 := row_cell (j := 2) R05.out rfl
    have d3 := row_cell (j := 3) R05.out rfl
    have d4 := row_cell (j := 4) R05.out rfl
    have d5 := row_cell (j := 5) R05.out rfl
    have d6 := row_cell (j := 6) R05.out rfl
    have e0 := row_cell (j := 0) R15.out rfl
    have e1 := row_cell (j := 1) R15.out rfl
    have e2 := row_cell (j := 2) R15.out rfl
    have e3 := row_cell (j := 3) R15.out rfl
    have e4 := row_cell (j := 4) R15.out rfl
    have e5 := row_cell (j := 5) R15.out rfl
    have e6 := row_cell (j := 6) R15.out rfl
    have f0 := fun j => row_frozen (j := j) R05.out
    have f1 := fun j => row_frozen (j := j) R15.out
    go_wp2_with fail
    refine (values_any R _ _ (HR5.out.setOther HBR.out)).mono ?_
    rintro ex w6 ⟨ux, rfl, hvx, hrx, hgx⟩
    have R06 : Hid (w6.heap[w.heap.size]? = some (.cells #[.int .i64 0, .string ⟨#[]⟩, .int .i64 0, .int .i64 0, (.slice none 0 0), .int .i64 0, .bool false] 44 (0, 0))) := (hgx.block w.heap.size (by rw [set_size]; exact row_lt R05.out) (by have := HLT.out; simp; omega)).trans ((heap_other _ HNE.out).trans R05.out)
    have R16 : Hid (w6.heap[w2.heap.size]? = some (.cells #[.int .i64 1, .string (txV t), .int .i64 ((lnV 9 0 0 (txS t) : Nat) : Int), .int .i64 ((lnV 9 0 0 (lnS 9 0 0 (txS t)) : Nat) : Int), (.slice none 0 0), .int .i64 0, .bool false] 44 (0, 0))) := (hgx.block w2.heap.size (by rw [set_size]; exact row_lt R15.out) (by have := HBR.out; simp; omega)).trans (heap_set _ R15.out)
    have HR6 := hid hrx
    have HG6 := hid ((HG5.out.setNew (Nat.le_of_lt HLS.out)).trans hgx)
    obtain ⟨pu, nu, cu, hsh⟩ := hvx.shape3
    subst hsh
    have HV6 := hid (hvx.weak (show w2.heap.size + 1 ≤ _ by rw [set_size]; exact row_lt R15.out))
    clear hvx
    clear d0 d1 d2 d3 d4 d5 d6 e0 e1 e2 e3 e4 e5 e6 f0 f1
    clear hrx hgx
    have d0 := row_cell (j := 0) R06.out rfl
    have d1 := row_cell (j := 1) R06.out rfl
    have d2 := row_cell (j := 2) R06.out rfl
    have d3 := row_cell (j := 3) R06.out rfl
    have d4 := row_cell (j := 4) R06.out rfl
    have d5 := row_cell (j := 5) R06.out rfl
    have d6 := row_cell (j := 6) R06.out rfl
    have e0 := row_cell (j := 0) R16.out rfl
    have e1 := row_cell (j := 1) R16.out rfl
    have e2 := row_cell (j := 2) R16.out rfl
    have e3 := row_cell (j := 3) R16.out rfl
    have e4 := row_cell (j := 4) R16.out rfl
    have e5 := row_cell (j := 5) R16.out rfl
    have e6 := row_cell (j := 6) R16.out rfl
    have f0 := fun j => row_frozen (j := j) R06.out
    have f1 := fun j => row_frozen (j := j) R16.out
    go_wp2
    refine retO (b := w.heap.size) (o := ⟨1, txV t, (lnV 9 0 0 (txS t) : Nat), (lnV 9 0 0 (lnS 9 0 0 (txS t)) : Nat), (vsR (lnS 9 0 0 (lnS 9 0 0 (txS t)))).1, 0, false⟩) (u := (.slice pu nu cu)) 2 Try.results35 (by rfl) (set7_row ((heap_other _ HNE.out).trans R06.out)) (by rfl) ⟨(.slice pu nu cu), ?_, ?_, ?_, (HG6.out.setNew (Nat.le_of_lt HLS.out)).set7 (Nat.le_refl _)⟩
    · rw [HV1.out]
    · rw [HV1.out]; exact (((HV6.out.set (Nat.lt_succ_self _)).set7 (by have := HLS.out; omega)).weak (by have := HLS.out; omega))
    · rw [HS1.out]; exact (HR6.out.setOther HBR.out).set7 HLT.out
  · subst h1
    have HV1 : Hid (opV s = ⟨2, ⟨#[]⟩, 0, 0, [], (lnV 9 0 0 t : Nat), decide (smV (lnS 9 0 0 t) = 1)⟩) := HV.out
    have HS1 : Hid (opS s = flS (lnS 9 0 0 t)) := HS.out
    clear hc256 HV HS
    go_wp2_with fail
    refine (long_any R t _ (HR2.out.alloc _)).mono ?_
    rintro ex w3 ⟨rfl, hrx, hgx⟩
    have R03 : Hid (w3.heap[w.heap.size]? = some (.cells #[.int .i64 0, .string ⟨#[]⟩, .int .i64 0, .int .i64 0, (.slice none 0 0), .int .i64 0, .bool false] 44 (0, 0))) := (hgx.block w.heap.size (by have := HLS.out; simp; omega) (by have := HLT.out; simp; omega)).trans ((Below.heap_alloc _ _ _ HLS.out).trans R02.out)
    have R13 : Hid (w3.heap[w2.heap.size]? = some (.cells #[.int .i64 2, .string ⟨#[]⟩, .int .i64 0, .int .i64 0, (.slice none 0 0), .int .i64 0, .bool false] 44 (0, 0))) := (hgx.block w2.heap.size (by simp) (by have := HBR.out; simp; omega)).trans (row_new w2 _)
    have HR3 := hid hrx
    have HG3 := hid ((HG2.out.alloc (.cells #[.int .i64 2, .string ⟨#[]⟩, .int .i64 0, .int .i64 0, (.slice none 0 0), .int .i64 0, .bool false] 44)).trans hgx)
    clear hrx hgx
    have d0 := row_cell (j := 0) R03.out rfl
    have d1 := row_cell (j := 1) R03.out rfl
    have d2 := row_cell (j := 2) R03.out rfl
    have d3 := row_cell (j := 3) R03.out rfl
    have d4 := row_cell (j := 4) R03.out rfl
    have d5 := row_cell (j := 5) R03.out rfl
    have d6 := row_cell (j := 6) R03.out rfl
    have e0 := row_cell (j := 0) R13.out rfl
    have e1 := row_cell (j := 1) R13.out rfl
    have e2 := row_cell (j := 2) R13.out rfl
    have e3 := row_cell (j := 3) R13.out rfl
    have e4 := row_cell (j := 4) R13.out rfl
    have e5 := row_cell (j := 5) R13.out rfl
    have e6 := row_cell (j := 6) R13.out rfl
    have f0 := fun j => row_frozen (j := j) R03.out
    have f1 := fun j => row_frozen (j := j) R13.out
    go_wp2_with fail
    refine (flag_any R _ _ (HR3.out.setOther HBR.out)).mono ?_
    rintro ex w4 ⟨rfl, hrx, hgx⟩
    have R04 : Hid (w4.heap[w.heap.size]? = some (.cells #[.int .i64 0, .string ⟨#[]⟩, .int .i64 0, .int .i64 0, (.slice none 0 0), .int .i64 0, .bool false] 44 (0, 0))) := (hgx.block w.heap.size (by rw [set_size]; exact row_lt R03.out) (by have := HLT.out; simp; omega)).trans ((heap_other _ HNE.out).trans R03.out)
    have R14 : Hid (w4.heap[w2.heap.size]? = some (.cells #[.int .i64 2, .string ⟨#[]⟩, .int .i64 0, .int .i64 0, (.slice none 0 0), .int .i64 ((lnV 9 0 0 t : Nat) : Int), .bool false] 44 (0, 0))) := (hgx.block w2.heap.size (by rw [set_size]; exact row_lt R13.out) (by have := HBR.out; simp; omega)).trans (heap_set _ R13.out)
    have HR4 := hid hrx
    have HG4 := hid ((HG3.out.setNew (Nat.le_of_lt HLS.out)).trans hgx)
    clear d0 d1 d2 d3 d4 d5 d6 e0 e1 e2 e3 e4 e5 e6 f0 f1
    clear hrx hgx
    have d0 := row_cell (j := 0) R04.out rfl
    have d1 := row_cell (j := 1) R04.out rfl
    have d2 := row_cell (j := 2) R04.out rfl
    have d3 := row_cell (j := 3) R04.out rfl
    have d4 := row_cell (j := 4) R04.out rfl
    have d5 := row_cell (j := 5) R04.out rfl
    have d6 := row_cell (j := 6) R04.out rfl
    have e0 := row_cell (j := 0) R14.out rfl
    have e1 := row_cell (j := 1) R14.out rfl
    have e2 := row_cell (j := 2) R14.out rfl
    have e3 := row_cell (j := 3) R14.out rfl
    have e4 := row_cell (j := 4) R14.out rfl
    have e5 := row_cell (j := 5) R14.out rfl
    have e6 := row_cell (j := 6) R14.out rfl
    have f0 := fun j => row_frozen (j := j) R04.out
    have f1 := fun j => row_frozen (j := j) R14.out
    go_wp2
    refine retO (b := w.heap.size) (o := ⟨2, ⟨#[]⟩, 0, 0, [], (lnV 9 0 0 t : Nat), decide (smV (lnS 9 0 0 t) = 1)⟩) (u := (.slice none 0 0)) 2 Try.results35 (by rfl) (set7_row ((heap_other _ HNE.out).trans R04.out)) (by rfl) ⟨(.slice none 0 0), ?_, ?_, ?_, (HG4.out.setNew (Nat.le_of_lt HLS.out)).set7 (Nat.le_refl _)⟩
    · rw [HV1.out]
    · rw [HV1.out]; exact VO.nil _ _
    · rw [HS1.out]; exact (HR4.out.setOther HBR.out).set7 HLT.out
  · subst h1
    have HV1 : Hid (opV s = ⟨3, txV t, 0, 0, [], 0, false⟩) := HV.out
    have HS1 : Hid (opS s = txS t) := HS.out
    clear hc256 HV HS
    go_wp2_with fail
    refine (text_any R t _ (HR2.out.alloc _)).mono ?_
    rintro ex w3 ⟨rfl, hrx, hgx⟩
    have R03 : Hid (w3.heap[w.heap.size]? = some (.cells #[.int .i64 0, .string ⟨#[]⟩, .int .i64 0, .int .i64 0, (.slice none 0 0), .int .i64 0, .bool false] 44 (0, 0))) := (hgx.block w.heap.size (by have := HLS.out; simp; omega) (by have := HLT.out; simp; omega)).trans ((Below.heap_alloc _ _ _ HLS.out).trans R02.out)
    have R13 : Hid (w3.heap[w2.heap.size]? = some (.cells #[.int .i64 3, .string ⟨#[]⟩, .int .i64 0, .int .i64 0, (.slice none 0 0), .int .i64 0, .bool false] 44 (0, 0))) := (hgx.block w2.heap.size (by simp) (by have := HBR.out; simp; omega)).trans (row_new w2 _)
    have HR3 := hid hrx
    have HG3 := hid ((HG2.out.alloc (.cells #[.int .i64 3, .string ⟨#[]⟩, .int .i64 0, .int .i64 0, (.slice none 0 0), .int .i64 0, .bool false] 44)).trans hgx)
    clear hrx hgx
    have d0 := row_cell (j := 0) R03.out rfl
    have d1 := row_cell (j := 1) R03.out rfl
    have d2 := row_cell (j := 2) R03.out rfl
    have d3 := row_cell (j := 3) R03.out rfl
    have d4 := row_cell (j := 4) R03.out rfl
    have d5 := row_cell (j := 5) R03.out rfl
    have d6 := row_cell (j := 6) R03.out rfl
    have e0 := row_cell (j := 0) R13.out rfl
    have e1 := row_cell (j := 1) R13.out rfl
    have e2 := row_cell (j := 2) R13.out rfl
    have e3 := row_cell (j := 3) R13.out rfl
    have e4 := row_cell (j := 4) R13.out rfl
    have e5 := row_cell (j := 5) R13.out rfl
    have e6 := row_cell (j := 6) R13.out rfl
    have f0 := fun j => row_frozen (j := j) R03.out
    have f1 := fun j => row_frozen (j := j) R13.out
    go_wp2
    refine retO (b := w.heap.size) (o := ⟨3, txV t, 0, 0, [], 0, false⟩) (u := (.slice none 0 0)) 2 Try.results35 (by rfl) (set7_row ((heap_other _ HNE.out).trans R03.out)) (by rfl) ⟨(.slice none 0 0), ?_, ?_, ?_, (HG3.out.setNew (Nat.le_of_lt HLS.out)).set7 (Nat.le_refl _)⟩
    · rw [HV1.out]
    · rw [HV1.out]; exact VO.nil _ _
    · rw [HS1.out]; exact (HR3.out.setOther HBR.out).set7 HLT.out
  · have HV1 : Hid (opV s = ⟨(c : Int), ⟨#[]⟩, 0, 0, [], 0, false⟩) := by show _ = _; rw [HV.out, if_neg h1, if_neg h2, if_neg h3]
    have HS1 : Hid (opS s = rfx t 3) := by show _ = _; rw [HS.out, if_neg h1, if_neg h2, if_neg h3]
    have hb1 : ((c : Int) == 1) = false := by simp; omega
    have hb2 : ((c : Int) == 2) = false := by simp; omega
    have hb3 : ((c : Int) == 3) = false := by simp; omega
    clear hc256 HV HS
    go_wp2_with fail
    refine (refuse_any R t 3 _ (HR2.out.alloc _)).mono ?_
    rintro ex w3 ⟨rfl, hrx, hgx⟩
    have R03 : Hid (w3.heap[w.heap.size]? = some (.cells #[.int .i64 0, .string ⟨#[]⟩, .int .i64 0, .int .i64 0, (.slice none 0 0), .int .i64 0, .bool false] 44 (0, 0))) := (hgx.block w.heap.size (by have := HLS.out; simp; omega) (by have := HLT.out; simp; omega)).trans ((Below.heap_alloc _ _ _ HLS.out).trans R02.out)
    have R13 : Hid (w3.heap[w2.heap.size]? = some (.cells #[.int .i64 (c : Int), .string ⟨#[]⟩, .int .i64 0, .int .i64 0, (.slice none 0 0), .int .i64 0, .bool false] 44 (0, 0))) := (hgx.block w2.heap.size (by simp) (by have := HBR.out; simp; omega)).trans (row_new w2 _)
    have HR3 := hid hrx
    have HG3 := hid ((HG2.out.alloc (.cells #[.int .i64 (c : Int), .string ⟨#[]⟩, .int .i64 0, .int .i64 0, (.slice none 0 0), .int .i64 0, .bool false] 44)).trans hgx)
    clear hrx hgx
    have d0 := row_cell (j := 0) R03.out rfl
    have d1 := row_cell (j := 1) R03.out rfl
    have d2 := row_cell (j := 2) R03.out rfl
    have d3 := row_cell (j := 3) R03.out rfl
    have d4 := row_cell (j := 4) R03.out rfl
    have d5 := row_cell (j := 5) R03.out rfl
    have d6 := row_cell (j := 6) R03.out rfl
    have e0 := row_cell (j := 0) R13.out rfl
    have e1 := row_cell (j := 1) R13.out rfl
    have e2 := row_cell (j := 2) R13.out rfl
    have e3 := row_cell (j := 3) R13.out rfl
    have e4 := row_cell (j := 4) R13.out rfl
    have e5 := row_cell (j := 5) R13.out rfl
    have e6 := row_cell (j := 6) R13.out rfl
    have f0 := fun j => row_frozen (j := j) R03.out
    have f1 := fun j => row_frozen (j := j) R13.out
    go_wp2
    refine retO (b := w.heap.size) (o := ⟨(c : Int), ⟨#[]⟩, 0, 0, [], 0, false⟩) (u := (.slice none 0 0)) 2 Try.results35 (by rfl) (set7_row R03.out) (by rfl) ⟨(.slice none 0 0), ?_, ?_, ?_, HG3.out.set7 (Nat.le_refl _)⟩
    · rw [HV1.out]
    · rw [HV1.out]; exact VO.nil _ _
    · rw [HS1.out]; exact HR3.out.set7 HLT.out
end Go.Proofs.Ytepgkemnpcadiab
