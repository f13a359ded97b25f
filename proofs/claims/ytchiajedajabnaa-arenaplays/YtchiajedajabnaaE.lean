/-
  What lend answers, and what it leaves.
-/
import Derived.Test.YtchiajedajabnaaD
namespace Go.Proofs.Ytchiajedajabnaa
open Go.ChangeShapes Go.WideShapes Go.ChangeAt Go.RowKit Go.Maps
set_option linter.unusedVariables false
set_option linter.unusedSimpArgs false
theorem After.lt {w w' : World} {B ab : Nat} {s' : As} {V F : Value} (h : Am w B ab V F s') {k : Nat} (hk : Own ab V F k) : k < w.heap.size := by
  rcases hk with rfl | c | c
  · exact h.sizeAb
  · exact (h.rp.lt k c).2
  · exact (h.rf.lt k c).2
theorem After.far {w w2 X X4 : World} {B ab b : Nat} {s' : As} {V F : Value} (h : After B ab s' V F w2 X) (hb : Below w.heap.size w w2) (h1 : w.heap.size ≤ b) (h2 : b < w2.heap.size) (hno : ¬ Own ab V F b) (t : Turn (fun k => k = b) X X4) : After B ab s' V F w X4 := by
  obtain ⟨V', F', A', T', O'⟩ := h
  refine ⟨V', F', A'.turn t (fun k hk c => ?_), ((Turn.of_below hb).trans T' (fun _ _ h => h)).trans t (fun k hk e => by omega), fun k hk => (O' k hk).imp id (fun h => Nat.le_trans hb.size h)⟩
  subst hk
  rcases O' k c with d | d
  · exact hno d
  · omega
theorem set4_turn (W : World) (b : Nat) (v0 v1 v2 v3 : Value) : Turn (fun k => k = b) W ((((W.setCell ⟨b, 0, none⟩ v0).setCell ⟨b, 1, none⟩ v1).setCell ⟨b, 2, none⟩ v2).setCell ⟨b, 3, none⟩ v3) :=
  ((((Turn.refl (fun k => k = b) W).setCell (p := ⟨b, 0, none⟩) rfl _).setCell (p := ⟨b, 1, none⟩) rfl _).setCell (p := ⟨b, 2, none⟩) rfl _).setCell (p := ⟨b, 3, none⟩) rfl _
/-- A place is written. -/
theorem place_written {w W : World} {B ab g cap : Nat} {V F F' : Value} {s : As} {j : Nat} {a b : Int} (h : Am W B ab (.slice (some ⟨g, 0, none⟩) s.ps.length cap) F' s) (hj : j < s.ps.length) (t : Turn (Own ab V F) w W) (ho : ∀ k, Own ab (.slice (some ⟨g, 0, none⟩) s.ps.length cap) F' k → Own ab V F k ∨ w.heap.size ≤ k) :
    After B ab ⟨s.ps.set j (a, b), s.fr⟩ V F w ((W.setCell ⟨g, j * 2, none⟩ (.int .i64 a)).setCell ⟨g, j * 2 + 1, none⟩ (.int .i64 b)) := by
  obtain ⟨r1, g1⟩ := h.rp.stored (j * 2) (.int .i64 a)
  obtain ⟨r2, g2⟩ := r1.stored (j * 2 + 1) (.int .i64 b)
  have hl : (s.ps.set j (a, b)).length = s.ps.length := by simp
  have t2 : Turn (fun k => (Value.slice (some ⟨g, 0, none⟩) s.ps.length cap).ownBlock = some k) W ((W.setCell ⟨g, j * 2, none⟩ (.int .i64 a)).setCell ⟨g, j * 2 + 1, none⟩ (.int .i64 b)) :=
    (((Turn.refl _ _).grown g1 (fun k hk _ => hk)).grown g2 (fun k hk _ => hk))
  have A2 := h.put (ps := s.ps.set j (a, b)) t2 (by rw [hl, ← flat2_set s.ps j (a, b) hj]; exact r2)
  refine ⟨_, _, A2, t.trans t2 (fun k hk c => ?_), ho⟩
  rcases ho k (Or.inr (Or.inl c)) with d | d
  · exact d
  · omega
set_option maxHeartbeats 4000000 in
theorem lend_any (B ab : Nat) (V F : Value) (s : As) (n : Int) (w : World) (k : Nat) (h : Am w B ab V F s) (hi : Ai s k) (hk : k ≤ 2000) :
    Calls Try.prog 15 #[.pointer (some ⟨ab, 0, none⟩), .int .i64 n] w fun e w' => e = .returned (q4V (ln s n).1) ∧ After B ab (ln s n).2 V F w w' := by
  have hb := below_new' w (.cells #[.int .i64 0, .int .i64 0, .int .i64 0, .int .i64 0] 39)
  have HA : Hid (Am (w.alloc (.cells #[.int .i64 0, .int .i64 0, .int .i64 0, .int .i64 0] 39)) B ab V F s) := h.below hb
  have HW : Hid (Am w B ab V F s) := h
  have HR : Hid (Res (w.alloc (.cells #[.int .i64 0, .int .i64 0, .int .i64 0, .int .i64 0] 39)) w.heap.size (0, 0, 0, 0)) := res_new w (0, 0, 0, 0)
  have HI : Hid (Ai s k) := hi
  have hp : s.ps.length ≤ 2000 := by have := hi.pl; omega
  have hf : s.fr.length ≤ 2000 := by have := hi.fl; omega
  have HP : Hid (s.ps.length ≤ 5000 ∧ s.fr.length ≤ 5000) := ⟨by omega, by omega⟩
  have hlv : -2000 ≤ s.live ∧ s.live ≤ 2000 := by unfold As.live; omega
  clear h hi hp hf hb
  unfold ln
  rcases (by omega : n < 1 ∨ (¬ n < 1 ∧ 1048576 < n) ∨ (¬ n < 1 ∧ ¬ 1048576 < n ∧ 120 ≤ s.live) ∨ (¬ n < 1 ∧ ¬ 1048576 < n ∧ ¬ 120 ≤ s.live)) with h1 | ⟨h1, h2⟩ | ⟨h1, h2, h3⟩ | ⟨h1, h2, h3⟩
  · simp only [h1, true_or, if_true]
    go_enter Try.func15, Try.ntmps15
    go_wp2
    exact ret4 (b := w.heap.size) (q := (2, 0, 0, 0)) 4 Try.results15 (by rfl) (res_new w (2, 0, 0, 0)) (by rfl) ⟨rfl, After.same HW.out (below_new' _ _)⟩
  · simp only [h1, h2, or_true, if_true]
    go_enter Try.func15, Try.ntmps15
    go_wp2
    exact ret4 (b := w.heap.size) (q := (2, 0, 0, 0)) 4 Try.results15 (by rfl) (res_new w (2, 0, 0, 0)) (by rfl) ⟨rfl, After.same HW.out (below_new' _ _)⟩
  · simp only [h1, h2, h3, or_self, if_true, if_false]
    obtain ⟨L, hL⟩ : ∃ L, s.live = L := ⟨_, rfl⟩
    have HL : Hid (s.live = L) := hL
    rw [hL] at h3
    clear hlv hL
    go_enter Try.func15, Try.ntmps15
    go_wp2_with fail
    refine (live_any B ab V F s _ HA.out HP.out.1 HP.out.2).mono ?_
    rw [HL.out]
    rintro e w2 ⟨rfl, nd, hw2⟩
    obtain ⟨r0, r1, r2, r3, rf⟩ := (show Res w2 w.heap.size (0, 0, 0, 0) by rw [hw2]; exact HR.out).cells
    have HR2 : Hid (Res w2 w.heap.size (0, 0, 0, 0)) := by show Res _ _ _; rw [hw2]; exact HR.out
    have HB2 : Hid (Below w.heap.size w w2) := by show Below _ _ _; rw [hw2]; exact below_drewN (below_new' _ _) _
    clear hw2
    go_wp2
    exact ret4 (b := w.heap.size) (q := (8, 0, 0, 0)) 4 Try.results15 (by rfl) (HR2.out.set (8, 0, 0, 0)) (by rfl) ⟨rfl, After.same HW.out (set4_below HB2.out (by omega) _ _ _ _)⟩
  · simp only [h1, h2, h3, or_self, if_false]
    obtain ⟨L, hL⟩ : ∃ L, s.live = L := ⟨_, rfl⟩
    have HL : Hid (s.live = L) := hL
    rw [hL] at h3
    have h3' : decide (120 ≤ L) = false := decide_eq_false h3
    have hat := tkAt_lt HI.out
    have hut := HI.out.turn_tk
    have hut0 := (HI.out.tk.get (tkAt s)).2.2.1
    have hpl := HI.out.tk.pl
    obtain ⟨j, hj⟩ : ∃ j, tkAt s = j := ⟨_, rfl⟩
    obtain ⟨S, hS⟩ : ∃ S, tk s = S := ⟨_, rfl⟩
    rw [hS, hj] at hat hut hut0
    rw [hS] at hpl
    obtain ⟨u, hu⟩ : ∃ u, S.turn j = u := ⟨_, rfl⟩
    rw [hj, hS, hu]
    rw [hu] at hut hut0
    have HJ : Hid (tkAt s = j ∧ tk s = S ∧ S.turn j = u) := ⟨hj, hS, hu⟩
    have HJL : Hid (j < S.ps.length) := hat
    have i1 : (0 : Int) ≤ (j : Int) := by omega
    have i2 : (j : Int) < (S.ps.length : Int) := by omega
    clear hlv hL hj hS hu h3
    go_enter Try.func15, Try.ntmps15
    go_wp2_with fail
    refine (live_any B ab V F s _ HA.out HP.out.1 HP.out.2).mono ?_
    rw [HL.out]
    rintro e w2 ⟨rfl, nd, hw2⟩
    have HA2 : Hid (Am w2 B ab V F s) := by show Am _ _ _ _ _ _; rw [hw2]; exact HA.out.below (below_drewN (Below.refl _ _) _)
    have HR2 : Hid (Res w2 w.heap.size (0, 0, 0, 0)) := by show Res _ _ _; rw [hw2]; exact HR.out
    have HB2 : Hid (Below w.heap.size w w2) := by show Below _ _ _; rw [hw2]; exact below_drewN (below_new' _ _) _
    clear hw2
    go_wp2_with fail
    refine (take_any B ab V F s _ HA2.out HP.out.1 HP.out.2).mono ?_
    rw [HJ.out.1, HJ.out.2.1]
    rintro e w3 ⟨rfl, hA3⟩
    obtain ⟨V3, F3, A3, T3, O3⟩ := hA3
    have hno : ¬ Own ab V F w.heap.size := fun c => by have := After.lt (w' := w) HW.out c; omega
    have hw2s : w.heap.size < w2.heap.size := HR2.out.lt
    have hR3 := HR2.out.turn T3 hno
    obtain ⟨p3, cap3, rfl, hp3⟩ := A3.shapeV
    obtain ⟨g, rfl⟩ := hp3 (by omega)
    obtain ⟨r0, r1, r2, r3, rf⟩ := hR3.cells
    obtain ⟨k0, k1, kf⟩ := A3.place HJL.out
    rw [HJ.out.2.2] at k1
    have c0 := A3.c0
    have hgo : Own ab (.slice (some ⟨g, 0, none⟩) S.ps.length cap3) F3 g := Or.inr (Or.inl rfl)
    have ng : g ≠ w.heap.size := fun e => by
      rcases O3 g hgo with d | d
      · rw [e] at d; exact hno d
      · omega
    have ng' : w.heap.size ≠ g := Ne.symm ng
    have HR3 : Hid (Res w3 w.heap.size (0, 0, 0, 0)) := hR3
    have HA3 : Hid (Am w3 B ab (.slice (some ⟨g, 0, none⟩) S.ps.length cap3) F3 S) := A3
    have HT3 : Hid (Turn (Own ab V F) w2 w3) := T3
    have HO3 : Hid (∀ k, Own ab (.slice (some ⟨g, 0, none⟩) S.ps.length cap3) F3 k → Own ab V F k ∨ w2.heap.size ≤ k) := O3
    have HS : Hid (w.heap.size < w2.heap.size) := hw2s
    have HNO : Hid (¬ Own ab V F w.heap.size) := hno
    generalize S.num j = y at *
    clear hR3 hgo A3 T3 O3 hp3 hw2s hno hat
    go_wp2
    have hF := place_written (a := n) (b := u + 1) HA3.out HJL.out (HT3.out) (HO3.out)
    have hRR : Res ((w3.setCell ⟨g, j * 2, none⟩ (.int .i64 n)).setCell ⟨g, j * 2 + 1, none⟩ (.int .i64 (u + 1))) w.heap.size (0, 0, 0, 0) := by
      unfold Res
      rw [RowKit.Below.heap_setCell _ _ _ _ ng', RowKit.Below.heap_setCell _ _ _ _ ng']
      exact HR3.out
    exact ret4 (b := w.heap.size) (q := (0, 0, (j : Int), u + 1)) 4 Try.results15 (by rfl) (hRR.set (0, 0, (j : Int), u + 1)) (by rfl) ⟨rfl, hF.far HB2.out (Nat.le_refl _) HS.out HNO.out (set4_turn _ _ _ _ _ _)⟩
end Go.Proofs.Ytchiajedajabnaa
