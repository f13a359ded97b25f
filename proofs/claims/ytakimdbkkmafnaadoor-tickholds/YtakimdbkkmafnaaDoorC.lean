/-
  What the program's Distance, Inverse, Which and the document's own answer; the walks of four laws.
-/
import Derived.Test.YtakimdbkkmafnaaDoorO
import Derived.Handy
import Derived.WalkSmall
import Derived.RegionTactic
import Derived.ChangeAlike
namespace Go.Proofs.YtakimdbkkmafnaaDoor
open Go.ChangeShapes Go.WideShapes Go.ChangeAt Go.RowKit
set_option linter.unusedVariables false
set_option linter.unusedSimpArgs false
set_option maxHeartbeats 2000000 in
theorem Distance_any (r a1 a2 b1 b2 : Int) (w : World) (hl : Laid w) :
    Calls Tryd.prog 11 #[.int .i64 r, .agg #[.int .i64 a1, .int .i64 a2], .agg #[.int .i64 b1, .int .i64 b2]] w fun e w' => e = .returned (.tuple #[.int .i64 (dV r a1 a2 b1 b2), .int .i64 (dE r a1 a2 b1 b2)]) ∧ Below w.heap.size w w' := by
  by_cases h : hE r a1 a2 b1 b2 = 0
  · have hr : 1 ≤ r ∧ r ≤ 13 := by
      unfold hE at h
      split at h
      · assumption
      · cases h
    have hb0 : bothE a1 a2 b1 b2 = 0 := by unfold hE at h; rwa [if_pos hr] at h
    obtain ⟨k0, k1, k2, k3, k4, k5⟩ := both_ok hb0
    have e3 : hV r a1 a2 b1 b2 = rel r a1 a2 b1 b2 := by unfold hV; rw [h]; simp
    obtain ⟨hr1, hr2⟩ := hr
    clear hb0
    by_cases g : rel r a1 a2 b1 b2 = true
    · have e1 : dE r a1 a2 b1 b2 = 0 := by unfold dE; rw [if_pos h, if_pos g]
      have e2 : dV r a1 a2 b1 b2 = gp r a1 a2 b1 b2 := if_pos ⟨h, g⟩
      rw [e1, e2]
      rw [g] at e3
      clear e1 e2
      go_enter Tryd.func11, Tryd.ntmps11
      go_wp2_with fail
      refine (Holds_any _ _ _ _ _ _ ((hl.alloc _).alloc _)).mono ?_
      rintro e w1 ⟨rfl, hb⟩
      have hb' : Below w.heap.size w w1 := below_on (below_on (below_new _ _) (below_new _ _)) hb
      have hl1 := hl.below hb'
      obtain ⟨⟨c0, c1, c2, c3⟩, f0, f1, f2, f3⟩ := two_boxes hb
      clear hb hl
      go_wp2_with fail
      refine (distance_any _ _ _ _ _ _ hl1 hr1 hr2 (by omega) (by omega) (by omega) (by omega) (by omega) (by omega) (by omega) (by omega)).mono ?_
      rintro e w2 ⟨rfl, hb2⟩
      have hb3 := below_on hb' hb2
      go_wp2
      go_ret2
      exact ⟨rfl, hb3⟩
    · have e1 : dE r a1 a2 b1 b2 = 6 := by unfold dE; rw [if_pos h, if_neg g]
      have e2 : dV r a1 a2 b1 b2 = 0 := if_neg (fun x => g x.2)
      rw [e1, e2]
      rw [show rel r a1 a2 b1 b2 = false by simpa using g] at e3
      clear e1 e2 g
      go_enter Tryd.func11, Tryd.ntmps11
      go_wp2_with fail
      refine (Holds_any _ _ _ _ _ _ ((hl.alloc _).alloc _)).mono ?_
      rintro e w1 ⟨rfl, hb⟩
      have hb' : Below w.heap.size w w1 := below_on (below_on (below_new _ _) (below_new _ _)) hb
      clear hb hl
      go_wp2
      go_ret2
      exact ⟨rfl, hb'⟩
  · have e1 : dE r a1 a2 b1 b2 = hE r a1 a2 b1 b2 := by unfold dE; rw [if_neg h]
    have e2 : dV r a1 a2 b1 b2 = 0 := if_neg (fun x => h x.1)
    rw [e1, e2]
    clear e1 e2
    go_enter Tryd.func11, Tryd.ntmps11
    go_wp2_with fail
    refine (Holds_any _ _ _ _ _ _ ((hl.alloc _).alloc _)).mono ?_
    rintro e w1 ⟨rfl, hb⟩
    have hb' : Below w.heap.size w w1 := below_on (below_on (below_new _ _) (below_new _ _)) hb
    clear hb hl
    have hn : (hE r a1 a2 b1 b2 != 0) = true := by simp [h]
    go_wp2
    go_ret2
    exact ⟨rfl, hb'⟩
set_option maxHeartbeats 2000000 in
theorem Inverse_1 (w : World) (hz : 0 < w.heap.size) (hc : w.cell? ⟨0, 1, none⟩ = some (.int .i64 2)) :
    Calls Tryd.prog 7 #[.int .i64 1] w fun e w' => e = .returned (.tuple #[.int .i64 2, .int .i64 0]) ∧ Below w.heap.size w w' := by
  go_enter Tryd.func7, Tryd.ntmps7
  go_wp2
  go_ret2
  exact ⟨rfl, by go_grown⟩
set_option maxHeartbeats 2000000 in
theorem Inverse_2 (w : World) (hz : 0 < w.heap.size) (hc : w.cell? ⟨0, 2, none⟩ = some (.int .i64 1)) :
    Calls Tryd.prog 7 #[.int .i64 2] w fun e w' => e = .returned (.tuple #[.int .i64 1, .int .i64 0]) ∧ Below w.heap.size w w' := by
  go_enter Tryd.func7, Tryd.ntmps7
  go_wp2
  go_ret2
  exact ⟨rfl, by go_grown⟩
set_option maxHeartbeats 2000000 in
theorem Inverse_3 (w : World) (hz : 0 < w.heap.size) (hc : w.cell? ⟨0, 3, none⟩ = some (.int .i64 4)) :
    Calls Tryd.prog 7 #[.int .i64 3] w fun e w' => e = .returned (.tuple #[.int .i64 4, .int .i64 0]) ∧ Below w.heap.size w w' := by
  go_enter Tryd.func7, Tryd.ntmps7
  go_wp2
  go_ret2
  exact ⟨rfl, by go_grown⟩
set_option maxHeartbeats 2000000 in
theorem Inverse_4 (w : World) (hz : 0 < w.heap.size) (hc : w.cell? ⟨0, 4, none⟩ = some (.int .i64 3)) :
    Calls Tryd.prog 7 #[.int .i64 4] w fun e w' => e = .returned (.tuple #[.int .i64 3, .int .i64 0]) ∧ Below w.heap.size w w' := by
  go_enter Tryd.func7, Tryd.ntmps7
  go_wp2
  go_ret2
  exact ⟨rfl, by go_grown⟩
set_option maxHeartbeats 2000000 in
theorem Inverse_5 (w : World) (hz : 0 < w.heap.size) (hc : w.cell? ⟨0, 5, none⟩ = some (.int .i64 6)) :
    Calls Tryd.prog 7 #[.int .i64 5] w fun e w' => e = .returned (.tuple #[.int .i64 6, .int .i64 0]) ∧ Below w.heap.size w w' := by
  go_enter Tryd.func7, Tryd.ntmps7
  go_wp2
  go_ret2
  exact ⟨rfl, by go_grown⟩
set_option maxHeartbeats 2000000 in
theorem Inverse_6 (w : World) (hz : 0 < w.heap.size) (hc : w.cell? ⟨0, 6, none⟩ = some (.int .i64 5)) :
    Calls Tryd.prog 7 #[.int .i64 6] w fun e w' => e = .returned (.tuple #[.int .i64 5, .int .i64 0]) ∧ Below w.heap.size w w' := by
  go_enter Tryd.func7, Tryd.ntmps7
  go_wp2
  go_ret2
  exact ⟨rfl, by go_grown⟩
set_option maxHeartbeats 2000000 in
theorem Inverse_7 (w : World) (hz : 0 < w.heap.size) (hc : w.cell? ⟨0, 7, none⟩ = some (.int .i64 8)) :
    Calls Tryd.prog 7 #[.int .i64 7] w fun e w' => e = .returned (.tuple #[.int .i64 8, .int .i64 0]) ∧ Below w.heap.size w w' := by
  go_enter Tryd.func7, Tryd.ntmps7
  go_wp2
  go_ret2
  exact ⟨rfl, by go_grown⟩
set_option maxHeartbeats 2000000 in
theorem Inverse_8 (w : World) (hz : 0 < w.heap.size) (hc : w.cell? ⟨0, 8, none⟩ = some (.int .i64 7)) :
    Calls Tryd.prog 7 #[.int .i64 8] w fun e w' => e = .returned (.tuple #[.int .i64 7, .int .i64 0]) ∧ Below w.heap.size w w' := by
  go_enter Tryd.func7, Tryd.ntmps7
  go_wp2
  go_ret2
  exact ⟨rfl, by go_grown⟩
set_option maxHeartbeats 2000000 in
theorem Inverse_9 (w : World) (hz : 0 < w.heap.size) (hc : w.cell? ⟨0, 9, none⟩ = some (.int .i64 10)) :
    Calls Tryd.prog 7 #[.int .i64 9] w fun e w' => e = .returned (.tuple #[.int .i64 10, .int .i64 0]) ∧ Below w.heap.size w w' := by
  go_enter Tryd.func7, Tryd.ntmps7
  go_wp2
  go_ret2
  exact ⟨rfl, by go_grown⟩
set_option maxHeartbeats 2000000 in
theorem Inverse_10 (w : World) (hz : 0 < w.heap.size) (hc : w.cell? ⟨0, 10, none⟩ = some (.int .i64 9)) :
    Calls Tryd.prog 7 #[.int .i64 10] w fun e w' => e = .returned (.tuple #[.int .i64 9, .int .i64 0]) ∧ Below w.heap.size w w' := by
  go_enter Tryd.func7, Tryd.ntmps7
  go_wp2
  go_ret2
  exact ⟨rfl, by go_grown⟩
set_option maxHeartbeats 2000000 in
theorem Inverse_11 (w : World) (hz : 0 < w.heap.size) (hc : w.cell? ⟨0, 11, none⟩ = some (.int .i64 12)) :
    Calls Tryd.prog 7 #[.int .i64 11] w fun e w' => e = .returned (.tuple #[.int .i64 12, .int .i64 0]) ∧ Below w.heap.size w w' := by
  go_enter Tryd.func7, Tryd.ntmps7
  go_wp2
  go_ret2
  exact ⟨rfl, by go_grown⟩
set_option maxHeartbeats 2000000 in
theorem Inverse_12 (w : World) (hz : 0 < w.heap.size) (hc : w.cell? ⟨0, 12, none⟩ = some (.int .i64 11)) :
    Calls Tryd.prog 7 #[.int .i64 12] w fun e w' => e = .returned (.tuple #[.int .i64 11, .int .i64 0]) ∧ Below w.heap.size w w' := by
  go_enter Tryd.func7, Tryd.ntmps7
  go_wp2
  go_ret2
  exact ⟨rfl, by go_grown⟩
set_option maxHeartbeats 2000000 in
theorem Inverse_13 (w : World) (hz : 0 < w.heap.size) (hc : w.cell? ⟨0, 13, none⟩ = some (.int .i64 13)) :
    Calls Tryd.prog 7 #[.int .i64 13] w fun e w' => e = .returned (.tuple #[.int .i64 13, .int .i64 0]) ∧ Below w.heap.size w w' := by
  go_enter Tryd.func7, Tryd.ntmps7
  go_wp2
  go_ret2
  exact ⟨rfl, by go_grown⟩
set_option maxHeartbeats 2000000 in
theorem Inverse_any (r : Int) (w : World) (hl : Laid w) :
    Calls Tryd.prog 7 #[.int .i64 r] w fun e w' => e = .returned (.tuple #[.int .i64 (iV r), .int .i64 (iE r)]) ∧ Below w.heap.size w w' := by
  rcases (by omega : ¬ 1 ≤ r ∨ (1 ≤ r ∧ ¬ r ≤ 13) ∨ (1 ≤ r ∧ r ≤ 13)) with h | ⟨h0, h⟩ | ⟨h1, h2⟩
  · rw [show iV r = 0 from if_neg (by omega), show iE r = 3 from if_neg (by omega)]
    go_enter Tryd.func7, Tryd.ntmps7
    go_wp2
    go_ret2
    exact ⟨rfl, by go_grown⟩
  · rw [show iV r = 0 from if_neg (by omega), show iE r = 3 from if_neg (by omega)]
    go_enter Tryd.func7, Tryd.ntmps7
    go_wp2
    go_ret2
    exact ⟨rfl, by go_grown⟩
  · obtain ⟨hz, ht⟩ := hl
    rcases rel_num r h1 h2 with rfl | rfl | rfl | rfl | rfl | rfl | rfl | rfl | rfl | rfl | rfl | rfl | rfl
    · exact Inverse_1 w hz (ht 1 (by omega))
    · exact Inverse_2 w hz (ht 2 (by omega))
    · exact Inverse_3 w hz (ht 3 (by omega))
    · exact Inverse_4 w hz (ht 4 (by omega))
    · exact Inverse_5 w hz (ht 5 (by omega))
    · exact Inverse_6 w hz (ht 6 (by omega))
    · exact Inverse_7 w hz (ht 7 (by omega))
    · exact Inverse_8 w hz (ht 8 (by omega))
    · exact Inverse_9 w hz (ht 9 (by omega))
    · exact Inverse_10 w hz (ht 10 (by omega))
    · exact Inverse_11 w hz (ht 11 (by omega))
    · exact Inverse_12 w hz (ht 12 (by omega))
    · exact Inverse_13 w hz (ht 13 (by omega))
set_option maxHeartbeats 2000000 in
theorem Which_bad (a1 a2 b1 b2 : Int) (w : World) (h : ¬ bothE a1 a2 b1 b2 = 0) :
    Calls Tryd.prog 13 #[.agg #[.int .i64 a1, .int .i64 a2], .agg #[.int .i64 b1, .int .i64 b2]] w fun e w' => e = .returned (.tuple #[.int .i64 0, .int .i64 (bothE a1 a2 b1 b2)]) ∧ Below w.heap.size w w' := by
  go_enter Tryd.func13, Tryd.ntmps13
  go_wp2_with fail
  refine (checkBoth_any _ _ _ _ _).mono ?_
  rintro e w1 ⟨rfl, hb⟩
  have hb' : Below w.heap.size w w1 := below_on (below_on (below_new _ _) (below_new _ _)) hb
  clear hb
  have hn : (bothE a1 a2 b1 b2 != 0) = true := by simp [h]
  go_wp2
  go_ret2
  exact ⟨rfl, hb'⟩
set_option maxHeartbeats 4000000 in
theorem Which_ok (a1 a2 b1 b2 : Int) (w : World) (hl : Laid w) (h : bothE a1 a2 b1 b2 = 0) :
    Calls Tryd.prog 13 #[.agg #[.int .i64 a1, .int .i64 a2], .agg #[.int .i64 b1, .int .i64 b2]] w fun e w' => ∃ k, IsFirst k a1 a2 b1 b2 ∧ e = .returned (.tuple #[.int .i64 k, .int .i64 0]) ∧ Below w.heap.size w w' := by
  obtain ⟨k0, k1, k2, k3, k4, k5⟩ := both_ok h
  go_enter Tryd.func13, Tryd.ntmps13
  go_wp2_with fail
  refine (checkBoth_any _ _ _ _ _).mono ?_
  rintro e w1 ⟨rfl, hb⟩
  have hb' : Below w.heap.size w w1 := below_on (below_on (below_new _ _) (below_new _ _)) hb
  have hl1 := hl.below hb'
  obtain ⟨⟨c0, c1, c2, c3⟩, f0, f1, f2, f3⟩ := two_boxes hb
  have hz1 : w.heap.size + 1 + 1 ≤ w1.heap.size := by have := hb.size; simpa using this
  clear hb hl
  go_wp2_with fail
  go_loopw [7] (fun v wr => ∃ r : Int, 1 ≤ r ∧ r ≤ 13 ∧ v = .int .i64 r ∧ (∀ j, 1 ≤ j → j < r → rel j a1 a2 b1 b2 = false) ∧ Below w1.heap.size w1 wr) (fun v _ => 14 - (intOf v).toNat)
  case atStart => exact ⟨1, by omega, by omega, rfl, fun j _ _ => by omega, Below.refl _ _⟩
  case round =>
    obtain ⟨r, hr1, hr2, rfl, hj, hbr⟩ := hrel
    have d0 := (hbr.cell (p := ⟨w.heap.size, 0, none⟩) (show w.heap.size < _ by omega)).trans c0
    have d1 := (hbr.cell (p := ⟨w.heap.size, 1, none⟩) (show w.heap.size < _ by omega)).trans c1
    have d2 := (hbr.cell (p := ⟨w.heap.size + 1, 0, none⟩) (show w.heap.size + 1 < _ by omega)).trans c2
    have d3 := (hbr.cell (p := ⟨w.heap.size + 1, 1, none⟩) (show w.heap.size + 1 < _ by omega)).trans c3
    have hlr := hl1.below hbr
    have HJ : Hid (∀ j, 1 ≤ j → j < r → rel j a1 a2 b1 b2 = false) := hj
    clear hj c0 c1 c2 c3 f0 f1 f2 f3 hl1
    by_cases h13 : r < 13
    · by_cases g : rel r a1 a2 b1 b2 = true
      · go_wp2_with fail
        refine (holds_any _ _ _ _ _ _ hlr hr1 hr2).mono ?_
        rintro e w2 ⟨rfl, hb2⟩
        have hb3 := below_on hb' (below_on hbr hb2)
        go_wp2
        go_ret2
        exact ⟨r, ⟨hr1, hr2, g, HJ.out⟩, rfl, hb3⟩
      · have g' : rel r a1 a2 b1 b2 = false := by simpa using g
        clear g
        go_wp2_with fail
        refine (holds_any _ _ _ _ _ _ hlr hr1 hr2).mono ?_
        rintro e w2 ⟨rfl, hb2⟩
        have hb3 := below_on hbr hb2
        go_wp2
        go_roundw
        case rel =>
          refine ⟨r + 1, by omega, by omega, by go_num, fun j q1 q2 => ?_, hb3⟩
          by_cases q : j = r
          · rw [q]; exact g'
          · exact HJ.out j q1 (by omega)
        case measure => simp [intOf]; omega
    · have e13 : r = 13 := by omega
      subst e13
      go_wp2
      go_ret2
      exact ⟨13, ⟨hr1, hr2, rel_last k1 k4 HJ.out, HJ.out⟩, rfl, below_on hb' hbr⟩
set_option maxHeartbeats 2000000 in
theorem HoldsOf_any (r a1 a2 b1 b2 : Int) (w : World) :
    Calls Tryd.prog 10 #[.int .i64 r, .agg #[.int .i64 a1, .int .i64 a2], .agg #[.int .i64 b1, .int .i64 b2]] w fun e w' => e = .returned (.tuple #[.bool (hV r a1 a2 b1 b2), .int .i64 (hE r a1 a2 b1 b2)]) ∧ Below w.heap.size w w' := by
  rcases (by omega : ¬ 1 ≤ r ∨ ¬ r ≤ 13 ∨ (1 ≤ r ∧ r ≤ 13)) with h | h | ⟨h1, h2⟩
  · have e1 : hE r a1 a2 b1 b2 = 3 := if_neg (by omega)
    have e2 : hV r a1 a2 b1 b2 = false := by unfold hV; rw [e1]; rfl
    rw [e1, e2]
    clear e1 e2
    go_enter Tryd.func10, Tryd.ntmps10
    go_wp2
    go_ret2
    exact ⟨rfl, by go_grown⟩
  · have e1 : hE r a1 a2 b1 b2 = 3 := if_neg (by omega)
    have e2 : hV r a1 a2 b1 b2 = false := by unfold hV; rw [e1]; rfl
    rw [e1, e2]
    clear e1 e2
    have h0 : 1 ≤ r := by omega
    go_enter Tryd.func10, Tryd.ntmps10
    go_wp2
    go_ret2
    exact ⟨rfl, by go_grown⟩
  · have e1 : hE r a1 a2 b1 b2 = bothE a1 a2 b1 b2 := if_pos ⟨h1, h2⟩
    by_cases h : bothE a1 a2 b1 b2 = 0
    · have e2 : hV r a1 a2 b1 b2 = rel r a1 a2 b1 b2 := by unfold hV; rw [e1, h]; simp
      rw [e1, e2, h]
      clear e1 e2
      go_enter Tryd.func10, Tryd.ntmps10
      go_wp2_with (go_at_call 16; go_in)
      refine (twoSpans_any _ _ _ _ _).mono ?_
      rintro e w1 ⟨rfl, hb⟩
      have hb' : Below w.heap.size w w1 := below_on (below_on (below_new _ _) (below_new _ _)) hb
      obtain ⟨⟨c0, c1, c2, c3⟩, f0, f1, f2, f3⟩ := two_boxes hb
      clear hb
      go_wp2_with fail
      refine (related_any _ _ _ _ _ _ h1 h2).mono ?_
      rintro e w2 ⟨rfl, hb2⟩
      have hb3 := below_on hb' hb2
      go_wp2
      go_ret2
      exact ⟨rfl, hb3⟩
    · have e2 : hV r a1 a2 b1 b2 = false := by unfold hV; rw [e1]; simp [h]
      rw [e1, e2]
      clear e1 e2
      go_enter Tryd.func10, Tryd.ntmps10
      go_wp2_with (go_at_call 16; go_in)
      refine (twoSpans_any _ _ _ _ _).mono ?_
      rintro e w1 ⟨rfl, hb⟩
      have hb' : Below w.heap.size w w1 := below_on (below_on (below_new _ _) (below_new _ _)) hb
      clear hb
      have hn : (bothE a1 a2 b1 b2 != 0) = true := by simp [h]
      go_wp2
      go_ret2
      exact ⟨rfl, hb'⟩
set_option maxHeartbeats 2000000 in
theorem DistanceOf_any (r a1 a2 b1 b2 : Int) (w : World) :
    Calls Tryd.prog 12 #[.int .i64 r, .agg #[.int .i64 a1, .int .i64 a2], .agg #[.int .i64 b1, .int .i64 b2]] w fun e w' => e = .returned (.tuple #[.int .i64 (dV r a1 a2 b1 b2), .int .i64 (dE r a1 a2 b1 b2)]) ∧ Below w.heap.size w w' := by
  by_cases h : hE r a1 a2 b1 b2 = 0
  · have hr : 1 ≤ r ∧ r ≤ 13 := by
      unfold hE at h
      split at h
      · assumption
      · cases h
    have hb0 : bothE a1 a2 b1 b2 = 0 := by unfold hE at h; rwa [if_pos hr] at h
    obtain ⟨k0, k1, k2, k3, k4, k5⟩ := both_ok hb0
    have e3 : hV r a1 a2 b1 b2 = rel r a1 a2 b1 b2 := by unfold hV; rw [h]; simp
    obtain ⟨hr1, hr2⟩ := hr
    clear hb0
    by_cases g : rel r a1 a2 b1 b2 = true
    · have e1 : dE r a1 a2 b1 b2 = 0 := by unfold dE; rw [if_pos h, if_pos g]
      have e2 : dV r a1 a2 b1 b2 = gp r a1 a2 b1 b2 := if_pos ⟨h, g⟩
      rw [e1, e2]
      rw [g] at e3
      clear e1 e2
      go_enter Tryd.func12, Tryd.ntmps12
      go_wp2_with fail
      refine (HoldsOf_any _ _ _ _ _ _).mono ?_
      rintro e w1 ⟨rfl, hb⟩
      have hb' : Below w.heap.size w w1 := below_on (below_on (below_new _ _) (below_new _ _)) hb
      obtain ⟨⟨c0, c1, c2, c3⟩, f0, f1, f2, f3⟩ := two_boxes hb
      clear hb
      go_wp2_with fail
      refine (gap_any _ _ _ _ _ _ hr1 hr2 (by omega) (by omega) (by omega) (by omega) (by omega) (by omega) (by omega) (by omega) g).mono ?_
      rintro e w2 ⟨rfl, hb2⟩
      have hb3 := below_on hb' hb2
      go_wp2
      go_ret2
      exact ⟨rfl, hb3⟩
    · have e1 : dE r a1 a2 b1 b2 = 6 := by unfold dE; rw [if_pos h, if_neg g]
      have e2 : dV r a1 a2 b1 b2 = 0 := if_neg (fun x => g x.2)
      rw [e1, e2]
      rw [show rel r a1 a2 b1 b2 = false by simpa using g] at e3
      clear e1 e2 g
      go_enter Tryd.func12, Tryd.ntmps12
      go_wp2_with fail
      refine (HoldsOf_any _ _ _ _ _ _).mono ?_
      rintro e w1 ⟨rfl, hb⟩
      have hb' : Below w.heap.size w w1 := below_on (below_on (below_new _ _) (below_new _ _)) hb
      clear hb
      go_wp2
      go_ret2
      exact ⟨rfl, hb'⟩
  · have e1 : dE r a1 a2 b1 b2 = hE r a1 a2 b1 b2 := by unfold dE; rw [if_neg h]
    have e2 : dV r a1 a2 b1 b2 = 0 := if_neg (fun x => h x.1)
    rw [e1, e2]
    clear e1 e2
    go_enter Tryd.func12, Tryd.ntmps12
    go_wp2_with fail
    refine (HoldsOf_any _ _ _ _ _ _).mono ?_
    rintro e w1 ⟨rfl, hb⟩
    have hb' : Below w.heap.size w w1 := below_on (below_on (below_new _ _) (below_new _ _)) hb
    clear hb
    have hn : (hE r a1 a2 b1 b2 != 0) = true := by simp [h]
    go_wp2
    go_ret2
    exact ⟨rfl, hb'⟩
set_option maxHeartbeats 2000000 in
theorem WhichOf_bad (a1 a2 b1 b2 : Int) (w : World) (h : ¬ bothE a1 a2 b1 b2 = 0) :
    Calls Tryd.prog 14 #[.agg #[.int .i64 a1, .int .i64 a2], .agg #[.int .i64 b1, .int .i64 b2]] w fun e w' => e = .returned (.tuple #[.int .i64 0, .int .i64 (bothE a1 a2 b1 b2)]) ∧ Below w.heap.size w w' := by
  go_enter Tryd.func14, Tryd.ntmps14
  go_wp2_with fail
  refine (twoSpans_any _ _ _ _ _).mono ?_
  rintro e w1 ⟨rfl, hb⟩
  have hb' : Below w.heap.size w w1 := below_on (below_on (below_new _ _) (below_new _ _)) hb
  clear hb
  have hn : (bothE a1 a2 b1 b2 != 0) = true := by simp [h]
  go_wp2
  go_ret2
  exact ⟨rfl, hb'⟩
set_option maxHeartbeats 4000000 in
theorem WhichOf_ok (a1 a2 b1 b2 : Int) (w : World) (h : bothE a1 a2 b1 b2 = 0) :
    Calls Tryd.prog 14 #[.agg #[.int .i64 a1, .int .i64 a2], .agg #[.int .i64 b1, .int .i64 b2]] w fun e w' => ∃ k, IsFirst k a1 a2 b1 b2 ∧ e = .returned (.tuple #[.int .i64 k, .int .i64 0]) ∧ Below w.heap.size w w' := by
  obtain ⟨k0, k1, k2, k3, k4, k5⟩ := both_ok h
  go_enter Tryd.func14, Tryd.ntmps14
  go_wp2_with fail
  refine (twoSpans_any _ _ _ _ _).mono ?_
  rintro e w1 ⟨rfl, hb⟩
  have hb' : Below w.heap.size w w1 := below_on (below_on (below_new _ _) (below_new _ _)) hb
  obtain ⟨⟨c0, c1, c2, c3⟩, f0, f1, f2, f3⟩ := two_boxes hb
  have hz1 : w.heap.size + 1 + 1 ≤ w1.heap.size := by have := hb.size; simpa using this
  clear hb
  go_wp2_with fail
  go_loopw [7] (fun v wr => ∃ r : Int, 1 ≤ r ∧ r ≤ 13 ∧ v = .int .i64 r ∧ (∀ j, 1 ≤ j → j < r → rel j a1 a2 b1 b2 = false) ∧ Below w1.heap.size w1 wr) (fun v _ => 14 - (intOf v).toNat)
  case atStart => exact ⟨1, by omega, by omega, rfl, fun j _ _ => by omega, Below.refl _ _⟩
  case round =>
    obtain ⟨r, hr1, hr2, rfl, hj, hbr⟩ := hrel
    have d0 := (hbr.cell (p := ⟨w.heap.size, 0, none⟩) (show w.heap.size < _ by omega)).trans c0
    have d1 := (hbr.cell (p := ⟨w.heap.size, 1, none⟩) (show w.heap.size < _ by omega)).trans c1
    have d2 := (hbr.cell (p := ⟨w.heap.size + 1, 0, none⟩) (show w.heap.size + 1 < _ by omega)).trans c2
    have d3 := (hbr.cell (p := ⟨w.heap.size + 1, 1, none⟩) (show w.heap.size + 1 < _ by omega)).trans c3
    have HJ : Hid (∀ j, 1 ≤ j → j < r → rel j a1 a2 b1 b2 = false) := hj
    clear hj c0 c1 c2 c3 f0 f1 f2 f3
    by_cases h13 : r < 13
    · by_cases g : rel r a1 a2 b1 b2 = true
      · go_wp2_with fail
        refine (related_any _ _ _ _ _ _ hr1 hr2).mono ?_
        rintro e w2 ⟨rfl, hb2⟩
        have hb3 := below_on hb' (below_on hbr hb2)
        go_wp2
        go_ret2
        exact ⟨r, ⟨hr1, hr2, g, HJ.out⟩, rfl, hb3⟩
      · have g' : rel r a1 a2 b1 b2 = false := by simpa using g
        clear g
        go_wp2_with fail
        refine (related_any _ _ _ _ _ _ hr1 hr2).mono ?_
        rintro e w2 ⟨rfl, hb2⟩
        have hb3 := below_on hbr hb2
        go_wp2
        go_roundw
        case rel =>
          refine ⟨r + 1, by omega, by omega, by go_num, fun j q1 q2 => ?_, hb3⟩
          by_cases q : j = r
          · rw [q]; exact g'
          · exact HJ.out j q1 (by omega)
        case measure => simp [intOf]; omega
    · have e13 : r = 13 := by omega
      subst e13
      have g := rel_last k1 k4 HJ.out
      go_wp2_with fail
      refine (related_any _ _ _ _ _ _ hr1 hr2).mono ?_
      rintro e w2 ⟨rfl, hb2⟩
      have hb3 := below_on hb' (below_on hbr hb2)
      go_wp2
      go_ret2
      exact ⟨13, ⟨hr1, hr2, g, HJ.out⟩, rfl, hb3⟩
set_option maxHeartbeats 2000000 in
theorem tickInverts_walk (r : Int) (w : World) (hl : Laid w) :
    Calls Tryd.prog 3 #[.int .i64 r] w fun e w' => e = .returned (.bool true) ∧ Below w.heap.size w w' := by
  go_enter Tryd.func3, Tryd.ntmps3
  go_wp2_with fail
  refine (Inverse_any _ _ hl).mono ?_
  rintro e w1 ⟨rfl, hb⟩
  go_wp2_with fail
  refine (InverseOf_any _ _).mono ?_
  rintro e w2 ⟨rfl, hb2⟩
  go_wp2
  go_ret
  exact ⟨rfl, below_on hb hb2⟩
set_option maxHeartbeats 2000000 in
theorem tickHolds_walk (r a1 a2 b1 b2 : Int) (w : World) (hl : Laid w) :
    Calls Tryd.prog 4 #[.int .i64 r, .agg #[.int .i64 a1, .int .i64 a2], .agg #[.int .i64 b1, .int .i64 b2]] w fun e w' => e = .returned (.bool true) ∧ Below w.heap.size w w' := by
  go_enter Tryd.func4, Tryd.ntmps4
  go_wp2_with fail
  refine (Holds_any _ _ _ _ _ _ ((hl.alloc _).alloc _)).mono ?_
  rintro e w1 ⟨rfl, hb⟩
  have hb' : Below w.heap.size w w1 := below_on (below_on (below_new _ _) (below_new _ _)) hb
  obtain ⟨⟨c0, c1, c2, c3⟩, f0, f1, f2, f3⟩ := two_boxes hb
  clear hb hl
  go_wp2_with fail
  refine (HoldsOf_any _ _ _ _ _ _).mono ?_
  rintro e w2 ⟨rfl, hb2⟩
  go_wp2
  go_ret
  exact ⟨rfl, below_on hb' hb2⟩
set_option maxHeartbeats 2000000 in
theorem tickDistances_walk (r a1 a2 b1 b2 : Int) (w : World) (hl : Laid w) :
    Calls Tryd.prog 5 #[.int .i64 r, .agg #[.int .i64 a1, .int .i64 a2], .agg #[.int .i64 b1, .int .i64 b2]] w fun e w' => e = .returned (.bool true) ∧ Below w.heap.size w w' := by
  go_enter Tryd.func5, Tryd.ntmps5
  go_wp2_with fail
  refine (Distance_any _ _ _ _ _ _ ((hl.alloc _).alloc _)).mono ?_
  rintro e w1 ⟨rfl, hb⟩
  have hb' : Below w.heap.size w w1 := below_on (below_on (below_new _ _) (below_new _ _)) hb
  obtain ⟨⟨c0, c1, c2, c3⟩, f0, f1, f2, f3⟩ := two_boxes hb
  clear hb hl
  go_wp2_with fail
  refine (DistanceOf_any _ _ _ _ _ _).mono ?_
  rintro e w2 ⟨rfl, hb2⟩
  go_wp2
  go_ret
  exact ⟨rfl, below_on hb' hb2⟩
set_option maxHeartbeats 2000000 in
theorem tickWhich_walk (a1 a2 b1 b2 : Int) (w : World) (hl : Laid w) :
    Calls Tryd.prog 6 #[.agg #[.int .i64 a1, .int .i64 a2], .agg #[.int .i64 b1, .int .i64 b2]] w fun e w' => e = .returned (.bool true) ∧ Below w.heap.size w w' := by
  by_cases h : bothE a1 a2 b1 b2 = 0
  · go_enter Tryd.func6, Tryd.ntmps6
    go_wp2_with fail
    refine (Which_ok _ _ _ _ _ ((hl.alloc _).alloc _) h).mono ?_
    rintro e w1 ⟨k, hk, rfl, hb⟩
    have hb' : Below w.heap.size w w1 := below_on (below_on (below_new _ _) (below_new _ _)) hb
    obtain ⟨⟨c0, c1, c2, c3⟩, f0, f1, f2, f3⟩ := two_boxes hb
    clear hb hl
    go_wp2_with fail
    refine (WhichOf_ok _ _ _ _ _ h).mono ?_
    rintro e w2 ⟨j, hj, rfl, hb2⟩
    obtain rfl := hk.one hj
    clear hk hj
    go_wp2
    go_ret
    exact ⟨rfl, below_on hb' hb2⟩
  · go_enter Tryd.func6, Tryd.ntmps6
    go_wp2_with fail
    refine (Which_bad _ _ _ _ _ h).mono ?_
    rintro e w1 ⟨rfl, hb⟩
    have hb' : Below w.heap.size w w1 := below_on (below_on (below_new _ _) (below_new _ _)) hb
    obtain ⟨⟨c0, c1, c2, c3⟩, f0, f1, f2, f3⟩ := two_boxes hb
    clear hb hl
    go_wp2_with fail
    refine (WhichOf_bad _ _ _ _ _ h).mono ?_
    rintro e w2 ⟨rfl, hb2⟩
    go_wp2
    go_ret
    exact ⟨rfl, below_on hb' hb2⟩
end Go.Proofs.YtakimdbkkmafnaaDoor
