/-
  What look answers.
-/
import Derived.Test.YtchiajedajabnaaB
namespace Go.Proofs.Ytchiajedajabnaa
open Go.ChangeShapes Go.WideShapes Go.ChangeAt Go.RowKit Go.Maps
set_option linter.unusedVariables false
set_option linter.unusedSimpArgs false
def q4V (q : Q4) : Value := .agg #[.int .i64 q.1, .int .i64 q.2.1, .int .i64 q.2.2.1, .int .i64 q.2.2.2]
theorem chk_ok {s : As} {p t : Int} (h : chk s p t = 0) : 0 ≤ p ∧ p < (s.ps.length : Int) := by
  unfold chk at h
  split at h
  · simp at h
  · omega
/-- A block of four numbers. -/
def Res (w : World) (b : Nat) (q : Q4) : Prop := w.heap[b]? = some (.cells #[.int .i64 q.1, .int .i64 q.2.1, .int .i64 q.2.2.1, .int .i64 q.2.2.2] 39 (0, 0))
theorem res_new (w : World) (q : Q4) : Res (w.alloc (.cells #[.int .i64 q.1, .int .i64 q.2.1, .int .i64 q.2.2.1, .int .i64 q.2.2.2] 39)) w.heap.size q := by
  unfold Res
  first | exact heap_alloc_new w _ | exact _root_.Go.heap_alloc_new w _
theorem Res.lt {w : World} {b : Nat} {q : Q4} (h : Res w b q) : b < w.heap.size := (Array.getElem?_eq_some_iff.1 h).1
theorem Res.turn {w w' : World} {b : Nat} {q : Q4} {S : Nat → Prop} (h : Res w b q) (t : Turn S w w') (hb : ¬ S b) : Res w' b q := (t.block b h.lt hb).trans h
theorem Res.below {w w' : World} {b : Nat} {q : Q4} (h : Res w b q) (t : Below w.heap.size w w') : Res w' b q := h.turn (Turn.of_below (S := fun _ => False) t) (fun h => h)
theorem Res.cells {w : World} {b : Nat} {q : Q4} (h : Res w b q) : w.cell? ⟨b, 0, none⟩ = some (.int .i64 q.1) ∧ w.cell? ⟨b, 1, none⟩ = some (.int .i64 q.2.1) ∧ w.cell? ⟨b, 2, none⟩ = some (.int .i64 q.2.2.1) ∧ w.cell? ⟨b, 3, none⟩ = some (.int .i64 q.2.2.2) ∧ ∀ j, w.frozen? ⟨b, j, none⟩ = false := by
  refine ⟨?_, ?_, ?_, ?_, fun j => frozen_of_row _ _ j _ 39 h⟩ <;> rw [cell_of_row _ _ _ _ 39 (0, 0) h] <;> rfl
theorem heap_set {W : World} {g i : Nat} {cur : Array Value} {e : TypeId} {fr : Nat × Nat} (v : Value) (h : W.heap[g]? = some (.cells cur e fr)) : (W.setCell ⟨g, i, none⟩ v).heap[g]? = some (.cells (cur.setIfInBounds i v) e fr) := by
  simp [World.setCell, Array.getElem?_modify, h]
theorem Res.set {w : World} {b : Nat} {q : Q4} (h : Res w b q) (q' : Q4) : Res ((((w.setCell ⟨b, 0, none⟩ (.int .i64 q'.1)).setCell ⟨b, 1, none⟩ (.int .i64 q'.2.1)).setCell ⟨b, 2, none⟩ (.int .i64 q'.2.2.1)).setCell ⟨b, 3, none⟩ (.int .i64 q'.2.2.2)) b q' := by
  have h3 := heap_set (i := 3) (.int .i64 q'.2.2.2) (heap_set (i := 2) (.int .i64 q'.2.2.1) (heap_set (i := 1) (.int .i64 q'.2.1) (heap_set (i := 0) (.int .i64 q'.1) h)))
  simpa [Res] using h3
theorem Res.drew {w : World} {b : Nat} {q : Q4} (h : Res w b q) : Res w.drew b q := h
theorem set4_below {B : Nat} {w W : World} {b : Nat} (h : Below B w W) (hb : B ≤ b) (v0 v1 v2 v3 : Value) : Below B w ((((W.setCell ⟨b, 0, none⟩ v0).setCell ⟨b, 1, none⟩ v1).setCell ⟨b, 2, none⟩ v2).setCell ⟨b, 3, none⟩ v3) :=
  (((h.setCell (p := ⟨b, 0, none⟩) hb _).setCell (p := ⟨b, 1, none⟩) hb _).setCell (p := ⟨b, 2, none⟩) hb _).setCell (p := ⟨b, 3, none⟩) hb _
theorem size39 : (Try.prog.info? 39).map (·.size) = some 4 := by kernel_rfl
theorem ret4 {fn : Func} {R : Ending → World → Prop} {a : Act} {w : World} {b : Nat} {q : Q4} (p : Tmp) (h : fn.results = #[.cell p 39]) (hp : a.tmps.getD p undef = .pointer (some ⟨b, 0, none⟩)) (hr : Res w b q) (hd : a.defers = []) (hR : R (.returned (q4V q)) w) : bodyPost Try.prog fn R .ret a w :=
  bodyPost_ret (results_cell_row h a.tmps w b 39 _ (0, 0) _ hp hr Try.underlying39 rfl size39) hd hR
set_option maxHeartbeats 4000000 in
theorem look_any (B ab : Nat) (V F : Value) (s : As) (p t : Int) (w : World) (h : Am w B ab V F s) (hp : s.ps.length ≤ 5000) :
    Calls Try.prog 16 #[.pointer (some ⟨ab, 0, none⟩), .agg #[.int .i64 p, .int .i64 t]] w fun e w' => e = .returned (q4V (lk s p t)) ∧ Below w.heap.size w w' := by
  obtain ⟨pp, cap, rfl, hg⟩ := h.shapeV
  have hb1 := below_new' w (.cells #[.int .i64 p, .int .i64 t] 35)
  have hb2 := below_new' (w.alloc (.cells #[.int .i64 p, .int .i64 t] 35)) (.cells #[.int .i64 0, .int .i64 0, .int .i64 0, .int .i64 0] 39)
  have hA := (h.below hb1).below hb2
  have HA : Hid (Am ((w.alloc (.cells #[.int .i64 p, .int .i64 t] 35)).alloc (.cells #[.int .i64 0, .int .i64 0, .int .i64 0, .int .i64 0] 39)) B ab (.slice pp s.ps.length cap) F s) := hA
  have HR : Hid (Res ((w.alloc (.cells #[.int .i64 p, .int .i64 t] 35)).alloc (.cells #[.int .i64 0, .int .i64 0, .int .i64 0, .int .i64 0] 39)) (w.alloc (.cells #[.int .i64 p, .int .i64 t] 35)).heap.size (0, 0, 0, 0)) := res_new _ (0, 0, 0, 0)
  have HP : Hid (s.ps.length ≤ 5000) := hp
  have HG : Hid (0 < s.ps.length → ∃ g, pp = some ⟨g, 0, none⟩) := hg
  have HB : Hid (Below w.heap.size w ((w.alloc (.cells #[.int .i64 p, .int .i64 t] 35)).alloc (.cells #[.int .i64 0, .int .i64 0, .int .i64 0, .int .i64 0] 39))) := hb1.trans (hb2.mono (by simp))
  have hab : ab < w.heap.size := by have := h.abB; have := h.BS; omega
  have b0 : ((w.alloc (.cells #[.int .i64 p, .int .i64 t] 35)).alloc (.cells #[.int .i64 0, .int .i64 0, .int .i64 0, .int .i64 0] 39)).cell? ⟨w.heap.size, 0, none⟩ = some (.int .i64 p) := by go_simp
  have HGW : Hid (∀ g, pp = some ⟨g, 0, none⟩ → g < w.heap.size) := fun g hg => by
    subst hg; exact (h.rp.lt g rfl).2
  clear h hg hp hb1 hb2 hA
  unfold lk
  by_cases hc : chk s p t = 0
  · simp only [hc, if_true]
    obtain ⟨p0, p1⟩ := chk_ok hc
    obtain ⟨j, rfl⟩ := Int.eq_ofNat_of_zero_le p0
    obtain ⟨g, rfl⟩ := HG.out (by omega)
    rw [Int.toNat_natCast]
    obtain ⟨k0, _, _⟩ := HA.out.place (j := j) (by omega)
    have hgw : g < w.heap.size := HGW.out g rfl
    have n1 : w.heap.size ≠ g := by omega
    have n2 : w.heap.size + 1 ≠ g := by omega
    have n3 : w.heap.size ≠ ab := by omega
    have n4 : w.heap.size + 1 ≠ ab := by omega
    have HC : Hid (chk s (j : Int) t = 0) := hc
    have i1 : (0 : Int) ≤ (j : Int) := by omega
    obtain ⟨n, hn⟩ : ∃ n, s.num j = n := ⟨_, rfl⟩
    have HN : Hid (s.num j = n) := hn
    rw [hn]
    clear hc HG p0 hn
    go_enter Try.func16, Try.ntmps16
    go_wp2_with fail
    refine (check_any B ab _ F s _ t _ HA.out HP.out).mono ?_
    rw [HC.out]
    rintro e w2 ⟨rfl, hB⟩
    have A2 := HA.out.below hB
    have c0 := A2.c0
    have hR := HR.out.below hB
    rw [show (w.alloc (.cells #[.int .i64 (j : Int), .int .i64 t] 35)).heap.size = w.heap.size + 1 by simp] at hR
    obtain ⟨r0, r1, r2, r3, rf⟩ := hR.cells
    have HR2 : Hid (Res w2 (w.heap.size + 1) (0, 0, 0, 0)) := hR
    clear hR
    have k1 : w2.cell? ⟨g, j * 2, none⟩ = some (.int .i64 n) := by rw [← HN.out]; exact (A2.place (j := j) (by omega)).1
    have b1 : w2.cell? ⟨w.heap.size, 0, none⟩ = some (.int .i64 j) := (hB.cell (p := ⟨w.heap.size, 0, none⟩) (by simp; omega)).trans b0
    have HB2 : Hid (Below w.heap.size w w2) := HB.out.trans (hB.mono (by simp; omega))
    clear hB A2 b0 k0 HC
    generalize s.ps.length = m at *
    go_wp2_with fail
    go_region_held3 (fun w' => w'.cell? ⟨ab, 0, none⟩ = some (.slice (some ⟨g, 0, none⟩) m cap) ∧ w'.cell? ⟨w.heap.size, 0, none⟩ = some (.int .i64 (j : Int)) ∧ w'.cell? ⟨g, j * 2, none⟩ = some (.int .i64 n)) (go_keep) (fail)
    all_goals
      go_wp2
      exact ret4 (b := w.heap.size + 1) (q := (0, n, 0, 0)) 4 Try.results16 (by rfl) (HR2.out.set (0, n, 0, 0)).drew (by rfl) ⟨rfl, (set4_below HB2.out (by omega) _ _ _ _).drew⟩
  · simp only [hc, if_false]
    have HC : Hid (¬ chk s p t = 0) := hc
    obtain ⟨c, hcc⟩ : ∃ c, chk s p t = c := ⟨_, rfl⟩
    have HCC : Hid (chk s p t = c) := hcc
    rw [hcc]
    clear hc HG hcc
    go_enter Try.func16, Try.ntmps16
    go_wp2_with fail
    refine (check_any B ab _ F s _ t _ HA.out HP.out).mono ?_
    rw [HCC.out]
    rintro e w2 ⟨rfl, hB⟩
    have hR := HR.out.below hB
    rw [show (w.alloc (.cells #[.int .i64 p, .int .i64 t] 35)).heap.size = w.heap.size + 1 by simp] at hR
    obtain ⟨r0, r1, r2, r3, rf⟩ := hR.cells
    have HR2 : Hid (Res w2 (w.heap.size + 1) (0, 0, 0, 0)) := hR
    clear hR
    have HB2 : Hid (Below w.heap.size w w2) := HB.out.trans (hB.mono (by simp; omega))
    clear hB b0
    have q : (c != 0) = true := by rw [← HCC.out]; simpa using HC.out
    go_wp2
    exact ret4 (b := w.heap.size + 1) (q := (c, 0, 0, 0)) 4 Try.results16 (by rfl) (HR2.out.set (c, 0, 0, 0)) (by rfl) ⟨rfl, set4_below HB2.out (by omega) _ _ _ _⟩
end Go.Proofs.Ytchiajedajabnaa
