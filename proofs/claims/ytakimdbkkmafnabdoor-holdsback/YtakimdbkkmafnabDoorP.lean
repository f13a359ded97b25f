/-
  What the document's own OptionFault, Fitting, FitsOf answer, and the walk of the law TickFits.
-/
import Derived.Test.YtakimdbkkmafnabDoorM
import Derived.Handy
import Derived.WalkSmall
import Derived.RegionTactic
import Derived.ChangeAlike
namespace Go.Proofs.YtakimdbkkmafnabDoor
open Go.ChangeShapes Go.WideShapes Go.ChangeAt Go.RowKit
set_option linter.unusedVariables false
set_option linter.unusedSimpArgs false
set_option maxHeartbeats 1000000 in
theorem optref_any (r l h : Int) (w : World) :
    Calls Tryd.prog 17 #[.agg #[.int .i64 r, .int .i64 l, .int .i64 h]] w fun e w' => e = .returned (.int .i64 (optE r l h)) ∧ Below w.heap.size w w' := by
  rcases opt_cases r l h with h0 | ⟨h0, h1⟩ | ⟨h0, h1, h2⟩ | ⟨h0, h1, h2, h3⟩ | ⟨h0, h1, h2, h3, h4⟩ | ⟨h0, h1, h2, h3, h4, h5⟩ | ⟨h0, h1, h2, h3, h4⟩ | ⟨h0, h1, h2, h3, h4, h5, h6⟩ | ⟨h0, h1, h2, h3, h4, h5, h6⟩
  · rw [show optE r l h = 3 from by unfold optE; rw [if_neg (by omega)]]
    go_enter Tryd.func17, Tryd.ntmps17
    go_wp2
    go_ret
    exact ⟨rfl, by go_grown⟩
  · rw [show optE r l h = 3 from by unfold optE; rw [if_neg (by omega)]]
    go_enter Tryd.func17, Tryd.ntmps17
    go_wp2
    go_ret
    exact ⟨rfl, by go_grown⟩
  · rw [show optE r l h = 2 from by unfold optE; rw [if_pos (by omega), if_neg (by omega)]]
    go_enter Tryd.func17, Tryd.ntmps17
    go_wp2
    go_ret
    exact ⟨rfl, by go_grown⟩
  · rw [show optE r l h = 2 from by unfold optE; rw [if_pos (by omega), if_neg (by omega)]]
    go_enter Tryd.func17, Tryd.ntmps17
    go_wp2
    go_ret
    exact ⟨rfl, by go_grown⟩
  · rw [show optE r l h = 2 from by unfold optE; rw [if_pos (by omega), if_neg (by omega)]]
    go_enter Tryd.func17, Tryd.ntmps17
    go_wp2
    go_ret
    exact ⟨rfl, by go_grown⟩
  · rw [show optE r l h = 2 from by unfold optE; rw [if_pos (by omega), if_neg (by omega)]]
    go_enter Tryd.func17, Tryd.ntmps17
    go_wp2
    go_ret
    exact ⟨rfl, by go_grown⟩
  · rw [show optE r l h = 0 from by unfold optE; rw [if_pos (by omega), if_pos (by omega), if_neg (by omega)]]
    subst h4
    go_enter Tryd.func17, Tryd.ntmps17
    go_wp2
    go_ret
    exact ⟨rfl, by go_grown⟩
  · rw [show optE r l h = 0 from by unfold optE; rw [if_pos (by omega), if_pos (by omega), if_neg (by omega)]]
    have hn : (h != -1) = true := by simp; omega
    go_enter Tryd.func17, Tryd.ntmps17
    go_wp2
    go_ret
    exact ⟨rfl, by go_grown⟩
  · rw [show optE r l h = 11 from by unfold optE; rw [if_pos (by omega), if_pos (by omega), if_pos (by omega)]]
    have hn : (h != -1) = true := by simp; omega
    go_enter Tryd.func17, Tryd.ntmps17
    go_wp2
    go_ret
    exact ⟨rfl, by go_grown⟩
set_option maxHeartbeats 4000000 in
theorem Fitting_any (r l h a1 a2 b1 b2 : Int) (w : World) (hr1 : 1 ≤ r) (hr2 : r ≤ 13) (k0 : 0 ≤ a1) (k1 : a1 ≤ a2) (k2 : a2 ≤ 1099511627776) (k3 : 0 ≤ b1) (k4 : b1 ≤ b2) (k5 : b2 ≤ 1099511627776) :
    Calls Tryd.prog 19 #[.agg #[.int .i64 r, .int .i64 l, .int .i64 h], .agg #[.int .i64 a1, .int .i64 a2], .agg #[.int .i64 b1, .int .i64 b2]] w fun e w' => e = .returned (.bool (rel r a1 a2 b1 b2 && (decide (l ≤ gp r a1 a2 b1 b2) && (decide (h = -1) || decide (gp r a1 a2 b1 b2 ≤ h))))) ∧ Below w.heap.size w w' := by
  by_cases g : rel r a1 a2 b1 b2 = true
  · rw [g, Bool.true_and]
    go_enter Tryd.func19, Tryd.ntmps19
    go_wp2_with fail
    refine (related_any _ _ _ _ _ _ hr1 hr2).mono ?_
    rintro e w1 ⟨rfl, hb⟩
    have hb' : Below w.heap.size w w1 := below_on (below_on (below_on (below_new _ _) (below_new _ _)) (below_new _ _)) hb
    have h7 := three_boxes hb
    have c := h7
    obtain ⟨c1, c2, c3, c4, c5, c6, c7, c8⟩ := c
    clear hb
    go_wp2_with fail
    refine (gap_any _ _ _ _ _ _ hr1 hr2 (by omega) (by omega) (by omega) (by omega) (by omega) (by omega) (by omega) (by omega) g).mono ?_
    rintro e w2 ⟨rfl, hb2⟩
    clear c1 c2 c3 c4 c5 c6 c7 c8
    have h8 := seven_on hb2 h7
    have hb3 := below_on hb' hb2
    obtain ⟨c1, c2, c3, c4, c5, c6, c7, c8⟩ := h8
    clear hb2 h7 hb' c4 c5 c6 c7
    go_wp2
    all_goals
      go_ret
      exact ⟨ret_bool (by first | (simp <;> omega) | (rw [Bool.eq_iff_iff]; simp <;> omega)), hb3⟩
  · have g' : rel r a1 a2 b1 b2 = false := by simpa using g
    rw [g', Bool.false_and]
    clear g
    go_enter Tryd.func19, Tryd.ntmps19
    go_wp2_with fail
    refine (related_any _ _ _ _ _ _ hr1 hr2).mono ?_
    rintro e w1 ⟨rfl, hb⟩
    have hb' : Below w.heap.size w w1 := below_on (below_on (below_on (below_new _ _) (below_new _ _)) (below_new _ _)) hb
    clear hb
    go_wp2
    go_ret
    exact ⟨rfl, hb'⟩
set_option maxHeartbeats 4000000 in
theorem FitsOf_any (r l h a1 a2 b1 b2 : Int) (w : World) :
    Calls Tryd.prog 7 #[.agg #[.int .i64 r, .int .i64 l, .int .i64 h], .agg #[.int .i64 a1, .int .i64 a2], .agg #[.int .i64 b1, .int .i64 b2]] w fun e w' => e = .returned (.tuple #[.bool (fV r l h a1 a2 b1 b2), .int .i64 (fE r l h a1 a2 b1 b2)]) ∧ Below w.heap.size w w' := by
  by_cases ho : optE r l h = 0
  · have e1 : fE r l h a1 a2 b1 b2 = bothE a1 a2 b1 b2 := if_pos ho
    obtain ⟨hr1, hr2, hl1, hl2, hh1, hh2, hlh⟩ := opt_ok ho
    by_cases hn : bothE a1 a2 b1 b2 = 0
    · obtain ⟨k0, k1, k2, k3, k4, k5⟩ := both_ok hn
      have e2 : fV r l h a1 a2 b1 b2 = (rel r a1 a2 b1 b2 && (decide (l ≤ gp r a1 a2 b1 b2) && (decide (h = -1) || decide (gp r a1 a2 b1 b2 ≤ h)))) := by unfold fV; rw [e1, hn]; simp
      rw [e1, e2, hn]
      clear e1 e2 hlh
      go_enter Tryd.func7, Tryd.ntmps7
      go_wp2_with fail
      refine (optref_any _ _ _ _).mono ?_
      rintro e w1 ⟨rfl, hb⟩
      have hb' : Below w.heap.size w w1 := below_on (below_on (below_on (below_new _ _) (below_new _ _)) (below_new _ _)) hb
      have h7 := three_boxes hb
      have c := h7
      obtain ⟨c1, c2, c3, c4, c5, c6, c7, c8⟩ := c
      clear hb
      go_wp2_with fail
      refine (twoSpans_any _ _ _ _ _).mono ?_
      rintro e w2 ⟨rfl, hb2⟩
      clear c1 c2 c3 c4 c5 c6 c7 c8
      have h8 := seven_on hb2 h7
      have hb3 := below_on hb' hb2
      obtain ⟨c1, c2, c3, c4, c5, c6, c7, c8⟩ := h8
      clear hb2 h7 hb'
      go_wp2_with fail
      refine (Fitting_any _ _ _ _ _ _ _ _ hr1 hr2 k0 k1 k2 k3 k4 k5).mono ?_
      rintro e w3 ⟨rfl, hb2⟩
      have hb4 := below_on hb3 hb2
      clear c1 c2 c3 c4 c5 c6 c7 c8
      go_wp2
      go_ret2
      exact ⟨rfl, hb4⟩
    · have e2 : fV r l h a1 a2 b1 b2 = false := by unfold fV; rw [e1]; simp [hn]
      rw [e1, e2]
      clear e1 e2 hlh
      have hne : (bothE a1 a2 b1 b2 != 0) = true := by simp [hn]
      go_enter Tryd.func7, Tryd.ntmps7
      go_wp2_with fail
      refine (optref_any _ _ _ _).mono ?_
      rintro e w1 ⟨rfl, hb⟩
      have hb' : Below w.heap.size w w1 := below_on (below_on (below_on (below_new _ _) (below_new _ _)) (below_new _ _)) hb
      obtain ⟨c1, c2, c3, c4, c5, c6, c7, c8⟩ := three_boxes hb
      clear hb
      go_wp2_with fail
      refine (twoSpans_any _ _ _ _ _).mono ?_
      rintro e w2 ⟨rfl, hb2⟩
      have hb3 := below_on hb' hb2
      clear c1 c2 c3 c4 c5 c6 c7 c8
      go_wp2
      go_ret2
      exact ⟨rfl, hb3⟩
  · have e1 : fE r l h a1 a2 b1 b2 = optE r l h := if_neg ho
    have e2 : fV r l h a1 a2 b1 b2 = false := by unfold fV; rw [e1]; simp [ho]
    rw [e1, e2]
    clear e1 e2
    have hne : (optE r l h != 0) = true := by simp [ho]
    have hnf : (optE r l h == 0) = false := by simp [ho]
    go_enter Tryd.func7, Tryd.ntmps7
    go_wp2_with fail
    refine (optref_any _ _ _ _).mono ?_
    rintro e w1 ⟨rfl, hb⟩
    have hb' : Below w.heap.size w w1 := below_on (below_on (below_on (below_new _ _) (below_new _ _)) (below_new _ _)) hb
    clear hb
    go_wp2
    go_ret2
    exact ⟨rfl, hb'⟩
set_option maxHeartbeats 4000000 in
theorem tickFits_walk (r l h a1 a2 b1 b2 : Int) (w : World) (hl : Laid w) :
    Calls Tryd.prog 3 #[.agg #[.int .i64 r, .int .i64 l, .int .i64 h], .agg #[.int .i64 a1, .int .i64 a2], .agg #[.int .i64 b1, .int .i64 b2]] w fun e w' => e = .returned (.bool true) ∧ Below w.heap.size w w' := by
  go_enter Tryd.func3, Tryd.ntmps3
  go_wp2_with fail
  refine (Fits_any _ _ _ _ _ _ _ _ (((hl.alloc _).alloc _).alloc _)).mono ?_
  rintro e w1 ⟨rfl, hb⟩
  have hb' : Below w.heap.size w w1 := below_on (below_on (below_on (below_new _ _) (below_new _ _)) (below_new _ _)) hb
  obtain ⟨c1, c2, c3, c4, c5, c6, c7, c8⟩ := three_boxes hb
  clear hb hl
  go_wp2_with fail
  refine (FitsOf_any _ _ _ _ _ _ _ _).mono ?_
  rintro e w2 ⟨rfl, hb2⟩
  have hb3 := below_on hb' hb2
  clear c1 c2 c3 c4 c5 c6 c7 c8
  go_wp2
  go_ret
  exact ⟨rfl, hb3⟩
end Go.Proofs.YtakimdbkkmafnabDoor
