/-
  What the program's inner functions holds and distance answer.
-/
import Derived.Test.YtgikaheojcpmpabDoorTB
import Derived.Handy
import Derived.WalkSmall
import Derived.RegionTactic
import Derived.ChangeAlike
namespace Go.Proofs.YtgikaheojcpmpabDoor.T1
open Go.ChangeShapes Go.WideShapes Go.ChangeAt Go.RowKit
set_option linter.unusedVariables false
set_option linter.unusedSimpArgs false
set_option maxHeartbeats 4000000 in
theorem holds_1 (a1 a2 b1 b2 : Int) (w : World) (hl : Laid w) :
    Calls Tryd.prog 17 #[.int .i64 1, .agg #[.int .i64 a1, .int .i64 a2], .agg #[.int .i64 b1, .int .i64 b2]] w fun e w' => e = .returned (.bool (rel 1 a1 a2 b1 b2)) ∧ Below w.heap.size w w' := by
  have hl2 := (hl.alloc (.cells #[.int .i64 a1, .int .i64 a2] 32)).alloc (.cells #[.int .i64 b1, .int .i64 b2] 32)
  go_enter Tryd.func17, Tryd.ntmps17
  go_wp2_with fail
  refine (upright_1 _ _ _ _ _).mono ?_
  rintro e w1 ⟨rfl, hb⟩
  have hb' : Below w.heap.size w w1 := below_on (below_on (below_new _ _) (below_new _ _)) hb
  obtain ⟨⟨c0, c1, c2, c3⟩, f0, f1, f2, f3⟩ := two_boxes hb
  clear hl hl2 hb
  go_wp2
  all_goals
    go_ret
    exact ⟨ret_bool (by first | (unfold rel; simp <;> omega) | (unfold rel; rw [Bool.eq_iff_iff]; simp <;> omega)), by go_grown⟩
set_option maxHeartbeats 4000000 in
theorem holds_2 (a1 a2 b1 b2 : Int) (w : World) (hl : Laid w) :
    Calls Tryd.prog 17 #[.int .i64 2, .agg #[.int .i64 a1, .int .i64 a2], .agg #[.int .i64 b1, .int .i64 b2]] w fun e w' => e = .returned (.bool (rel 2 a1 a2 b1 b2)) ∧ Below w.heap.size w w' := by
  have hl2 := (hl.alloc (.cells #[.int .i64 a1, .int .i64 a2] 32)).alloc (.cells #[.int .i64 b1, .int .i64 b2] 32)
  go_enter Tryd.func17, Tryd.ntmps17
  go_wp2_with fail
  refine (upright_2 _ _ _ _ _ (Nat.lt_of_lt_of_le hl.1 (by simp; omega)) (by rw [hl2.2 2 (by omega)]; rfl)).mono ?_
  rintro e w1 ⟨rfl, hb⟩
  have hb' : Below w.heap.size w w1 := below_on (below_on (below_new _ _) (below_new _ _)) hb
  obtain ⟨⟨c0, c1, c2, c3⟩, f0, f1, f2, f3⟩ := two_boxes hb
  clear hl hl2 hb
  go_wp2
  all_goals
    go_ret
    exact ⟨ret_bool (by first | (unfold rel; simp <;> omega) | (unfold rel; rw [Bool.eq_iff_iff]; simp <;> omega)), by go_grown⟩
set_option maxHeartbeats 4000000 in
theorem holds_3 (a1 a2 b1 b2 : Int) (w : World) (hl : Laid w) :
    Calls Tryd.prog 17 #[.int .i64 3, .agg #[.int .i64 a1, .int .i64 a2], .agg #[.int .i64 b1, .int .i64 b2]] w fun e w' => e = .returned (.bool (rel 3 a1 a2 b1 b2)) ∧ Below w.heap.size w w' := by
  have hl2 := (hl.alloc (.cells #[.int .i64 a1, .int .i64 a2] 32)).alloc (.cells #[.int .i64 b1, .int .i64 b2] 32)
  go_enter Tryd.func17, Tryd.ntmps17
  go_wp2_with fail
  refine (upright_3 _ _ _ _ _).mono ?_
  rintro e w1 ⟨rfl, hb⟩
  have hb' : Below w.heap.size w w1 := below_on (below_on (below_new _ _) (below_new _ _)) hb
  obtain ⟨⟨c0, c1, c2, c3⟩, f0, f1, f2, f3⟩ := two_boxes hb
  clear hl hl2 hb
  go_wp2
  all_goals
    go_ret
    exact ⟨ret_bool (by first | (unfold rel; simp <;> omega) | (unfold rel; rw [Bool.eq_iff_iff]; simp <;> omega)), by go_grown⟩
set_option maxHeartbeats 4000000 in
theorem holds_4 (a1 a2 b1 b2 : Int) (w : World) (hl : Laid w) :
    Calls Tryd.prog 17 #[.int .i64 4, .agg #[.int .i64 a1, .int .i64 a2], .agg #[.int .i64 b1, .int .i64 b2]] w fun e w' => e = .returned (.bool (rel 4 a1 a2 b1 b2)) ∧ Below w.heap.size w w' := by
  have hl2 := (hl.alloc (.cells #[.int .i64 a1, .int .i64 a2] 32)).alloc (.cells #[.int .i64 b1, .int .i64 b2] 32)
  go_enter Tryd.func17, Tryd.ntmps17
  go_wp2_with fail
  refine (upright_4 _ _ _ _ _ (Nat.lt_of_lt_of_le hl.1 (by simp; omega)) (by rw [hl2.2 4 (by omega)]; rfl)).mono ?_
  rintro e w1 ⟨rfl, hb⟩
  have hb' : Below w.heap.size w w1 := below_on (below_on (below_new _ _) (below_new _ _)) hb
  obtain ⟨⟨c0, c1, c2, c3⟩, f0, f1, f2, f3⟩ := two_boxes hb
  clear hl hl2 hb
  go_wp2
  all_goals
    go_ret
    exact ⟨ret_bool (by first | (unfold rel; simp <;> omega) | (unfold rel; rw [Bool.eq_iff_iff]; simp <;> omega)), by go_grown⟩
set_option maxHeartbeats 4000000 in
theorem holds_5 (a1 a2 b1 b2 : Int) (w : World) (hl : Laid w) :
    Calls Tryd.prog 17 #[.int .i64 5, .agg #[.int .i64 a1, .int .i64 a2], .agg #[.int .i64 b1, .int .i64 b2]] w fun e w' => e = .returned (.bool (rel 5 a1 a2 b1 b2)) ∧ Below w.heap.size w w' := by
  have hl2 := (hl.alloc (.cells #[.int .i64 a1, .int .i64 a2] 32)).alloc (.cells #[.int .i64 b1, .int .i64 b2] 32)
  go_enter Tryd.func17, Tryd.ntmps17
  go_wp2_with fail
  refine (upright_5 _ _ _ _ _).mono ?_
  rintro e w1 ⟨rfl, hb⟩
  have hb' : Below w.heap.size w w1 := below_on (below_on (below_new _ _) (below_new _ _)) hb
  obtain ⟨⟨c0, c1, c2, c3⟩, f0, f1, f2, f3⟩ := two_boxes hb
  clear hl hl2 hb
  go_wp2
  all_goals
    go_ret
    exact ⟨ret_bool (by first | (unfold rel; simp <;> omega) | (unfold rel; rw [Bool.eq_iff_iff]; simp <;> omega)), by go_grown⟩
set_option maxHeartbeats 4000000 in
theorem holds_6 (a1 a2 b1 b2 : Int) (w : World) (hl : Laid w) :
    Calls Tryd.prog 17 #[.int .i64 6, .agg #[.int .i64 a1, .int .i64 a2], .agg #[.int .i64 b1, .int .i64 b2]] w fun e w' => e = .returned (.bool (rel 6 a1 a2 b1 b2)) ∧ Below w.heap.size w w' := by
  have hl2 := (hl.alloc (.cells #[.int .i64 a1, .int .i64 a2] 32)).alloc (.cells #[.int .i64 b1, .int .i64 b2] 32)
  go_enter Tryd.func17, Tryd.ntmps17
  go_wp2_with fail
  refine (upright_6 _ _ _ _ _ (Nat.lt_of_lt_of_le hl.1 (by simp; omega)) (by rw [hl2.2 6 (by omega)]; rfl)).mono ?_
  rintro e w1 ⟨rfl, hb⟩
  have hb' : Below w.heap.size w w1 := below_on (below_on (below_new _ _) (below_new _ _)) hb
  obtain ⟨⟨c0, c1, c2, c3⟩, f0, f1, f2, f3⟩ := two_boxes hb
  clear hl hl2 hb
  go_wp2
  all_goals
    go_ret
    exact ⟨ret_bool (by first | (unfold rel; simp <;> omega) | (unfold rel; rw [Bool.eq_iff_iff]; simp <;> omega)), by go_grown⟩
set_option maxHeartbeats 4000000 in
theorem holds_7 (a1 a2 b1 b2 : Int) (w : World) (hl : Laid w) :
    Calls Tryd.prog 17 #[.int .i64 7, .agg #[.int .i64 a1, .int .i64 a2], .agg #[.int .i64 b1, .int .i64 b2]] w fun e w' => e = .returned (.bool (rel 7 a1 a2 b1 b2)) ∧ Below w.heap.size w w' := by
  have hl2 := (hl.alloc (.cells #[.int .i64 a1, .int .i64 a2] 32)).alloc (.cells #[.int .i64 b1, .int .i64 b2] 32)
  go_enter Tryd.func17, Tryd.ntmps17
  go_wp2_with fail
  refine (upright_7 _ _ _ _ _).mono ?_
  rintro e w1 ⟨rfl, hb⟩
  have hb' : Below w.heap.size w w1 := below_on (below_on (below_new _ _) (below_new _ _)) hb
  obtain ⟨⟨c0, c1, c2, c3⟩, f0, f1, f2, f3⟩ := two_boxes hb
  clear hl hl2 hb
  go_wp2
  all_goals
    go_ret
    exact ⟨ret_bool (by first | (unfold rel; simp <;> omega) | (unfold rel; rw [Bool.eq_iff_iff]; simp <;> omega)), by go_grown⟩
set_option maxHeartbeats 4000000 in
theorem holds_8 (a1 a2 b1 b2 : Int) (w : World) (hl : Laid w) :
    Calls Tryd.prog 17 #[.int .i64 8, .agg #[.int .i64 a1, .int .i64 a2], .agg #[.int .i64 b1, .int .i64 b2]] w fun e w' => e = .returned (.bool (rel 8 a1 a2 b1 b2)) ∧ Below w.heap.size w w' := by
  have hl2 := (hl.alloc (.cells #[.int .i64 a1, .int .i64 a2] 32)).alloc (.cells #[.int .i64 b1, .int .i64 b2] 32)
  go_enter Tryd.func17, Tryd.ntmps17
  go_wp2_with fail
  refine (upright_8 _ _ _ _ _ (Nat.lt_of_lt_of_le hl.1 (by simp; omega)) (by rw [hl2.2 8 (by omega)]; rfl)).mono ?_
  rintro e w1 ⟨rfl, hb⟩
  have hb' : Below w.heap.size w w1 := below_on (below_on (below_new _ _) (below_new _ _)) hb
  obtain ⟨⟨c0, c1, c2, c3⟩, f0, f1, f2, f3⟩ := two_boxes hb
  clear hl hl2 hb
  go_wp2
  all_goals
    go_ret
    exact ⟨ret_bool (by first | (unfold rel; simp <;> omega) | (unfold rel; rw [Bool.eq_iff_iff]; simp <;> omega)), by go_grown⟩
set_option maxHeartbeats 4000000 in
theorem holds_9 (a1 a2 b1 b2 : Int) (w : World) (hl : Laid w) :
    Calls Tryd.prog 17 #[.int .i64 9, .agg #[.int .i64 a1, .int .i64 a2], .agg #[.int .i64 b1, .int .i64 b2]] w fun e w' => e = .returned (.bool (rel 9 a1 a2 b1 b2)) ∧ Below w.heap.size w w' := by
  have hl2 := (hl.alloc (.cells #[.int .i64 a1, .int .i64 a2] 32)).alloc (.cells #[.int .i64 b1, .int .i64 b2] 32)
  go_enter Tryd.func17, Tryd.ntmps17
  go_wp2_with fail
  refine (upright_9 _ _ _ _ _).mono ?_
  rintro e w1 ⟨rfl, hb⟩
  have hb' : Below w.heap.size w w1 := below_on (below_on (below_new _ _) (below_new _ _)) hb
  obtain ⟨⟨c0, c1, c2, c3⟩, f0, f1, f2, f3⟩ := two_boxes hb
  clear hl hl2 hb
  go_wp2
  all_goals
    go_ret
    exact ⟨ret_bool (by first | (unfold rel; simp <;> omega) | (unfold rel; rw [Bool.eq_iff_iff]; simp <;> omega)), by go_grown⟩
set_option maxHeartbeats 4000000 in
theorem holds_10 (a1 a2 b1 b2 : Int) (w : World) (hl : Laid w) :
    Calls Tryd.prog 17 #[.int .i64 10, .agg #[.int .i64 a1, .int .i64 a2], .agg #[.int .i64 b1, .int .i64 b2]] w fun e w' => e = .returned (.bool (rel 10 a1 a2 b1 b2)) ∧ Below w.heap.size w w' := by
  have hl2 := (hl.alloc (.cells #[.int .i64 a1, .int .i64 a2] 32)).alloc (.cells #[.int .i64 b1, .int .i64 b2] 32)
  go_enter Tryd.func17, Tryd.ntmps17
  go_wp2_with fail
  refine (upright_10 _ _ _ _ _ (Nat.lt_of_lt_of_le hl.1 (by simp; omega)) (by rw [hl2.2 10 (by omega)]; rfl)).mono ?_
  rintro e w1 ⟨rfl, hb⟩
  have hb' : Below w.heap.size w w1 := below_on (below_on (below_new _ _) (below_new _ _)) hb
  obtain ⟨⟨c0, c1, c2, c3⟩, f0, f1, f2, f3⟩ := two_boxes hb
  clear hl hl2 hb
  go_wp2
  all_goals
    go_ret
    exact ⟨ret_bool (by first | (unfold rel; simp <;> omega) | (unfold rel; rw [Bool.eq_iff_iff]; simp <;> omega)), by go_grown⟩
set_option maxHeartbeats 4000000 in
theorem holds_11 (a1 a2 b1 b2 : Int) (w : World) (hl : Laid w) :
    Calls Tryd.prog 17 #[.int .i64 11, .agg #[.int .i64 a1, .int .i64 a2], .agg #[.int .i64 b1, .int .i64 b2]] w fun e w' => e = .returned (.bool (rel 11 a1 a2 b1 b2)) ∧ Below w.heap.size w w' := by
  have hl2 := (hl.alloc (.cells #[.int .i64 a1, .int .i64 a2] 32)).alloc (.cells #[.int .i64 b1, .int .i64 b2] 32)
  go_enter Tryd.func17, Tryd.ntmps17
  go_wp2_with fail
  refine (upright_11 _ _ _ _ _).mono ?_
  rintro e w1 ⟨rfl, hb⟩
  have hb' : Below w.heap.size w w1 := below_on (below_on (below_new _ _) (below_new _ _)) hb
  obtain ⟨⟨c0, c1, c2, c3⟩, f0, f1, f2, f3⟩ := two_boxes hb
  clear hl hl2 hb
  go_wp2
  all_goals
    go_ret
    exact ⟨ret_bool (by first | (unfold rel; simp <;> omega) | (unfold rel; rw [Bool.eq_iff_iff]; simp <;> omega)), by go_grown⟩
set_option maxHeartbeats 4000000 in
theorem holds_12 (a1 a2 b1 b2 : Int) (w : World) (hl : Laid w) :
    Calls Tryd.prog 17 #[.int .i64 12, .agg #[.int .i64 a1, .int .i64 a2], .agg #[.int .i64 b1, .int .i64 b2]] w fun e w' => e = .returned (.bool (rel 12 a1 a2 b1 b2)) ∧ Below w.heap.size w w' := by
  have hl2 := (hl.alloc (.cells #[.int .i64 a1, .int .i64 a2] 32)).alloc (.cells #[.int .i64 b1, .int .i64 b2] 32)
  go_enter Tryd.func17, Tryd.ntmps17
  go_wp2_with fail
  refine (upright_12 _ _ _ _ _ (Nat.lt_of_lt_of_le hl.1 (by simp; omega)) (by rw [hl2.2 12 (by omega)]; rfl)).mono ?_
  rintro e w1 ⟨rfl, hb⟩
  have hb' : Below w.heap.size w w1 := below_on (below_on (below_new _ _) (below_new _ _)) hb
  obtain ⟨⟨c0, c1, c2, c3⟩, f0, f1, f2, f3⟩ := two_boxes hb
  clear hl hl2 hb
  go_wp2
  all_goals
    go_ret
    exact ⟨ret_bool (by first | (unfold rel; simp <;> omega) | (unfold rel; rw [Bool.eq_iff_iff]; simp <;> omega)), by go_grown⟩
set_option maxHeartbeats 4000000 in
theorem holds_13 (a1 a2 b1 b2 : Int) (w : World) (hl : Laid w) :
    Calls Tryd.prog 17 #[.int .i64 13, .agg #[.int .i64 a1, .int .i64 a2], .agg #[.int .i64 b1, .int .i64 b2]] w fun e w' => e = .returned (.bool (rel 13 a1 a2 b1 b2)) ∧ Below w.heap.size w w' := by
  have hl2 := (hl.alloc (.cells #[.int .i64 a1, .int .i64 a2] 32)).alloc (.cells #[.int .i64 b1, .int .i64 b2] 32)
  go_enter Tryd.func17, Tryd.ntmps17
  go_wp2_with fail
  refine (upright_13 _ _ _ _ _).mono ?_
  rintro e w1 ⟨rfl, hb⟩
  have hb' : Below w.heap.size w w1 := below_on (below_on (below_new _ _) (below_new _ _)) hb
  obtain ⟨⟨c0, c1, c2, c3⟩, f0, f1, f2, f3⟩ := two_boxes hb
  clear hl hl2 hb
  go_wp2
  all_goals
    go_ret
    exact ⟨ret_bool (by first | (unfold rel; simp <;> omega) | (unfold rel; rw [Bool.eq_iff_iff]; simp <;> omega)), by go_grown⟩
theorem holds_any (r a1 a2 b1 b2 : Int) (w : World) (hl : Laid w) (hr1 : 1 ≤ r) (hr2 : r ≤ 13) :
    Calls Tryd.prog 17 #[.int .i64 r, .agg #[.int .i64 a1, .int .i64 a2], .agg #[.int .i64 b1, .int .i64 b2]] w fun e w' => e = .returned (.bool (rel r a1 a2 b1 b2)) ∧ Below w.heap.size w w' := by
  rcases rel_num r hr1 hr2 with rfl | rfl | rfl | rfl | rfl | rfl | rfl | rfl | rfl | rfl | rfl | rfl | rfl
  · exact holds_1 a1 a2 b1 b2 w hl
  · exact holds_2 a1 a2 b1 b2 w hl
  · exact holds_3 a1 a2 b1 b2 w hl
  · exact holds_4 a1 a2 b1 b2 w hl
  · exact holds_5 a1 a2 b1 b2 w hl
  · exact holds_6 a1 a2 b1 b2 w hl
  · exact holds_7 a1 a2 b1 b2 w hl
  · exact holds_8 a1 a2 b1 b2 w hl
  · exact holds_9 a1 a2 b1 b2 w hl
  · exact holds_10 a1 a2 b1 b2 w hl
  · exact holds_11 a1 a2 b1 b2 w hl
  · exact holds_12 a1 a2 b1 b2 w hl
  · exact holds_13 a1 a2 b1 b2 w hl
set_option maxHeartbeats 4000000 in
theorem distance_1 (a1 a2 b1 b2 : Int) (w : World) (hl : Laid w) (ha0 : 0 ≤ a1) (ha1 : a1 ≤ 1099511627776) (ha2 : 0 ≤ a2) (ha3 : a2 ≤ 1099511627776) (hb0 : 0 ≤ b1) (hb1 : b1 ≤ 1099511627776) (hb2 : 0 ≤ b2) (hb3 : b2 ≤ 1099511627776) :
    Calls Tryd.prog 18 #[.int .i64 1, .agg #[.int .i64 a1, .int .i64 a2], .agg #[.int .i64 b1, .int .i64 b2]] w fun e w' => e = .returned (.int .i64 (gp 1 a1 a2 b1 b2)) ∧ Below w.heap.size w w' := by
  have hl2 := (hl.alloc (.cells #[.int .i64 a1, .int .i64 a2] 32)).alloc (.cells #[.int .i64 b1, .int .i64 b2] 32)
  go_enter Tryd.func18, Tryd.ntmps18
  go_wp2_with fail
  refine (upright_1 _ _ _ _ _).mono ?_
  rintro e w1 ⟨rfl, hb⟩
  have hb' : Below w.heap.size w w1 := below_on (below_on (below_new _ _) (below_new _ _)) hb
  obtain ⟨⟨c0, c1, c2, c3⟩, f0, f1, f2, f3⟩ := two_boxes hb
  clear hl hl2 hb
  go_wp2
  all_goals
    go_ret
    exact ⟨rfl, by go_grown⟩
set_option maxHeartbeats 4000000 in
theorem distance_2 (a1 a2 b1 b2 : Int) (w : World) (hl : Laid w) (ha0 : 0 ≤ a1) (ha1 : a1 ≤ 1099511627776) (ha2 : 0 ≤ a2) (ha3 : a2 ≤ 1099511627776) (hb0 : 0 ≤ b1) (hb1 : b1 ≤ 1099511627776) (hb2 : 0 ≤ b2) (hb3 : b2 ≤ 1099511627776) :
    Calls Tryd.prog 18 #[.int .i64 2, .agg #[.int .i64 a1, .int .i64 a2], .agg #[.int .i64 b1, .int .i64 b2]] w fun e w' => e = .returned (.int .i64 (gp 2 a1 a2 b1 b2)) ∧ Below w.heap.size w w' := by
  have hl2 := (hl.alloc (.cells #[.int .i64 a1, .int .i64 a2] 32)).alloc (.cells #[.int .i64 b1, .int .i64 b2] 32)
  go_enter Tryd.func18, Tryd.ntmps18
  go_wp2_with fail
  refine (upright_2 _ _ _ _ _ (Nat.lt_of_lt_of_le hl.1 (by simp; omega)) (by rw [hl2.2 2 (by omega)]; rfl)).mono ?_
  rintro e w1 ⟨rfl, hb⟩
  have hb' : Below w.heap.size w w1 := below_on (below_on (below_new _ _) (below_new _ _)) hb
  obtain ⟨⟨c0, c1, c2, c3⟩, f0, f1, f2, f3⟩ := two_boxes hb
  clear hl hl2 hb
  go_wp2
  all_goals
    go_ret
    exact ⟨rfl, by go_grown⟩
set_option maxHeartbeats 4000000 in
theorem distance_3 (a1 a2 b1 b2 : Int) (w : World) (hl : Laid w) (ha0 : 0 ≤ a1) (ha1 : a1 ≤ 1099511627776) (ha2 : 0 ≤ a2) (ha3 : a2 ≤ 1099511627776) (hb0 : 0 ≤ b1) (hb1 : b1 ≤ 1099511627776) (hb2 : 0 ≤ b2) (hb3 : b2 ≤ 1099511627776) :
    Calls Tryd.prog 18 #[.int .i64 3, .agg #[.int .i64 a1, .int .i64 a2], .agg #[.int .i64 b1, .int .i64 b2]] w fun e w' => e = .returned (.int .i64 (gp 3 a1 a2 b1 b2)) ∧ Below w.heap.size w w' := by
  have hl2 := (hl.alloc (.cells #[.int .i64 a1, .int .i64 a2] 32)).alloc (.cells #[.int .i64 b1, .int .i64 b2] 32)
  go_enter Tryd.func18, Tryd.ntmps18
  go_wp2_with fail
  refine (upright_3 _ _ _ _ _).mono ?_
  rintro e w1 ⟨rfl, hb⟩
  have hb' : Below w.heap.size w w1 := below_on (below_on (below_new _ _) (below_new _ _)) hb
  obtain ⟨⟨c0, c1, c2, c3⟩, f0, f1, f2, f3⟩ := two_boxes hb
  clear hl hl2 hb
  go_wp2
  all_goals
    go_ret
    exact ⟨rfl, by go_grown⟩
set_option maxHeartbeats 4000000 in
theorem distance_4 (a1 a2 b1 b2 : Int) (w : World) (hl : Laid w) (ha0 : 0 ≤ a1) (ha1 : a1 ≤ 1099511627776) (ha2 : 0 ≤ a2) (ha3 : a2 ≤ 1099511627776) (hb0 : 0 ≤ b1) (hb1 : b1 ≤ 1099511627776) (hb2 : 0 ≤ b2) (hb3 : b2 ≤ 1099511627776) :
    Calls Tryd.prog 18 #[.int .i64 4, .agg #[.int .i64 a1, .int .i64 a2], .agg #[.int .i64 b1, .int .i64 b2]] w fun e w' => e = .returned (.int .i64 (gp 4 a1 a2 b1 b2)) ∧ Below w.heap.size w w' := by
  have hl2 := (hl.alloc (.cells #[.int .i64 a1, .int .i64 a2] 32)).alloc (.cells #[.int .i64 b1, .int .i64 b2] 32)
  go_enter Tryd.func18, Tryd.ntmps18
  go_wp2_with fail
  refine (upright_4 _ _ _ _ _ (Nat.lt_of_lt_of_le hl.1 (by simp; omega)) (by rw [hl2.2 4 (by omega)]; rfl)).mono ?_
  rintro e w1 ⟨rfl, hb⟩
  have hb' : Below w.heap.size w w1 := below_on (below_on (below_new _ _) (below_new _ _)) hb
  obtain ⟨⟨c0, c1, c2, c3⟩, f0, f1, f2, f3⟩ := two_boxes hb
  clear hl hl2 hb
  go_wp2
  all_goals
    go_ret
    exact ⟨rfl, by go_grown⟩
set_option maxHeartbeats 4000000 in
theorem distance_5 (a1 a2 b1 b2 : Int) (w : World) (hl : Laid w) (ha0 : 0 ≤ a1) (ha1 : a1 ≤ 1099511627776) (ha2 : 0 ≤ a2) (ha3 : a2 ≤ 1099511627776) (hb0 : 0 ≤ b1) (hb1 : b1 ≤ 1099511627776) (hb2 : 0 ≤ b2) (hb3 : b2 ≤ 1099511627776) :
    Calls Tryd.prog 18 #[.int .i64 5, .agg #[.int .i64 a1, .int .i64 a2], .agg #[.int .i64 b1, .int .i64 b2]] w fun e w' => e = .returned (.int .i64 (gp 5 a1 a2 b1 b2)) ∧ Below w.heap.size w w' := by
  have hl2 := (hl.alloc (.cells #[.int .i64 a1, .int .i64 a2] 32)).alloc (.cells #[.int .i64 b1, .int .i64 b2] 32)
  go_enter Tryd.func18, Tryd.ntmps18
  go_wp2_with fail
  refine (upright_5 _ _ _ _ _).mono ?_
  rintro e w1 ⟨rfl, hb⟩
  have hb' : Below w.heap.size w w1 := below_on (below_on (below_new _ _) (below_new _ _)) hb
  obtain ⟨⟨c0, c1, c2, c3⟩, f0, f1, f2, f3⟩ := two_boxes hb
  clear hl hl2 hb
  go_wp2
  all_goals
    go_ret
    exact ⟨rfl, by go_grown⟩
set_option maxHeartbeats 4000000 in
theorem distance_6 (a1 a2 b1 b2 : Int) (w : World) (hl : Laid w) (ha0 : 0 ≤ a1) (ha1 : a1 ≤ 1099511627776) (ha2 : 0 ≤ a2) (ha3 : a2 ≤ 1099511627776) (hb0 : 0 ≤ b1) (hb1 : b1 ≤ 1099511627776) (hb2 : 0 ≤ b2) (hb3 : b2 ≤ 1099511627776) :
    Calls Tryd.prog 18 #[.int .i64 6, .agg #[.int .i64 a1, .int .i64 a2], .agg #[.int .i64 b1, .int .i64 b2]] w fun e w' => e = .returned (.int .i64 (gp 6 a1 a2 b1 b2)) ∧ Below w.heap.size w w' := by
  have hl2 := (hl.alloc (.cells #[.int .i64 a1, .int .i64 a2] 32)).alloc (.cells #[.int .i64 b1, .int .i64 b2] 32)
  go_enter Tryd.func18, Tryd.ntmps18
  go_wp2_with fail
  refine (upright_6 _ _ _ _ _ (Nat.lt_of_lt_of_le hl.1 (by simp; omega)) (by rw [hl2.2 6 (by omega)]; rfl)).mono ?_
  rintro e w1 ⟨rfl, hb⟩
  have hb' : Below w.heap.size w w1 := below_on (below_on (below_new _ _) (below_new _ _)) hb
  obtain ⟨⟨c0, c1, c2, c3⟩, f0, f1, f2, f3⟩ := two_boxes hb
  clear hl hl2 hb
  go_wp2
  all_goals
    go_ret
    exact ⟨rfl, by go_grown⟩
set_option maxHeartbeats 4000000 in
theorem distance_7 (a1 a2 b1 b2 : Int) (w : World) (hl : Laid w) (ha0 : 0 ≤ a1) (ha1 : a1 ≤ 1099511627776) (ha2 : 0 ≤ a2) (ha3 : a2 ≤ 1099511627776) (hb0 : 0 ≤ b1) (hb1 : b1 ≤ 1099511627776) (hb2 : 0 ≤ b2) (hb3 : b2 ≤ 1099511627776) :
    Calls Tryd.prog 18 #[.int .i64 7, .agg #[.int .i64 a1, .int .i64 a2], .agg #[.int .i64 b1, .int .i64 b2]] w fun e w' => e = .returned (.int .i64 (gp 7 a1 a2 b1 b2)) ∧ Below w.heap.size w w' := by
  have hl2 := (hl.alloc (.cells #[.int .i64 a1, .int .i64 a2] 32)).alloc (.cells #[.int .i64 b1, .int .i64 b2] 32)
  go_enter Tryd.func18, Tryd.ntmps18
  go_wp2_with fail
  refine (upright_7 _ _ _ _ _).mono ?_
  rintro e w1 ⟨rfl, hb⟩
  have hb' : Below w.heap.size w w1 := below_on (below_on (below_new _ _) (below_new _ _)) hb
  obtain ⟨⟨c0, c1, c2, c3⟩, f0, f1, f2, f3⟩ := two_boxes hb
  clear hl hl2 hb
  go_wp2
  all_goals
    go_ret
    exact ⟨rfl, by go_grown⟩
set_option maxHeartbeats 4000000 in
theorem distance_8 (a1 a2 b1 b2 : Int) (w : World) (hl : Laid w) (ha0 : 0 ≤ a1) (ha1 : a1 ≤ 1099511627776) (ha2 : 0 ≤ a2) (ha3 : a2 ≤ 1099511627776) (hb0 : 0 ≤ b1) (hb1 : b1 ≤ 1099511627776) (hb2 : 0 ≤ b2) (hb3 : b2 ≤ 1099511627776) :
    Calls Tryd.prog 18 #[.int .i64 8, .agg #[.int .i64 a1, .int .i64 a2], .agg #[.int .i64 b1, .int .i64 b2]] w fun e w' => e = .returned (.int .i64 (gp 8 a1 a2 b1 b2)) ∧ Below w.heap.size w w' := by
  have hl2 := (hl.alloc (.cells #[.int .i64 a1, .int .i64 a2] 32)).alloc (.cells #[.int .i64 b1, .int .i64 b2] 32)
  go_enter Tryd.func18, Tryd.ntmps18
  go_wp2_with fail
  refine (upright_8 _ _ _ _ _ (Nat.lt_of_lt_of_le hl.1 (by simp; omega)) (by rw [hl2.2 8 (by omega)]; rfl)).mono ?_
  rintro e w1 ⟨rfl, hb⟩
  have hb' : Below w.heap.size w w1 := below_on (below_on (below_new _ _) (below_new _ _)) hb
  obtain ⟨⟨c0, c1, c2, c3⟩, f0, f1, f2, f3⟩ := two_boxes hb
  clear hl hl2 hb
  go_wp2
  all_goals
    go_ret
    exact ⟨rfl, by go_grown⟩
set_option maxHeartbeats 4000000 in
theorem distance_9 (a1 a2 b1 b2 : Int) (w : World) (hl : Laid w) (ha0 : 0 ≤ a1) (ha1 : a1 ≤ 1099511627776) (ha2 : 0 ≤ a2) (ha3 : a2 ≤ 1099511627776) (hb0 : 0 ≤ b1) (hb1 : b1 ≤ 1099511627776) (hb2 : 0 ≤ b2) (hb3 : b2 ≤ 1099511627776) :
    Calls Tryd.prog 18 #[.int .i64 9, .agg #[.int .i64 a1, .int .i64 a2], .agg #[.int .i64 b1, .int .i64 b2]] w fun e w' => e = .returned (.int .i64 (gp 9 a1 a2 b1 b2)) ∧ Below w.heap.size w w' := by
  have hl2 := (hl.alloc (.cells #[.int .i64 a1, .int .i64 a2] 32)).alloc (.cells #[.int .i64 b1, .int .i64 b2] 32)
  go_enter Tryd.func18, Tryd.ntmps18
  go_wp2_with fail
  refine (upright_9 _ _ _ _ _).mono ?_
  rintro e w1 ⟨rfl, hb⟩
  have hb' : Below w.heap.size w w1 := below_on (below_on (below_new _ _) (below_new _ _)) hb
  obtain ⟨⟨c0, c1, c2, c3⟩, f0, f1, f2, f3⟩ := two_boxes hb
  clear hl hl2 hb
  go_wp2
  all_goals
    go_ret
    exact ⟨rfl, by go_grown⟩
set_option maxHeartbeats 4000000 in
theorem distance_10 (a1 a2 b1 b2 : Int) (w : World) (hl : Laid w) (ha0 : 0 ≤ a1) (ha1 : a1 ≤ 1099511627776) (ha2 : 0 ≤ a2) (ha3 : a2 ≤ 1099511627776) (hb0 : 0 ≤ b1) (hb1 : b1 ≤ 1099511627776) (hb2 : 0 ≤ b2) (hb3 : b2 ≤ 1099511627776) :
    Calls Tryd.prog 18 #[.int .i64 10, .agg #[.int .i64 a1, .int .i64 a2], .agg #[.int .i64 b1, .int .i64 b2]] w fun e w' => e = .returned (.int .i64 (gp 10 a1 a2 b1 b2)) ∧ Below w.heap.size w w' := by
  have hl2 := (hl.alloc (.cells #[.int .i64 a1, .int .i64 a2] 32)).alloc (.cells #[.int .i64 b1, .int .i64 b2] 32)
  go_enter Tryd.func18, Tryd.ntmps18
  go_wp2_with fail
  refine (upright_10 _ _ _ _ _ (Nat.lt_of_lt_of_le hl.1 (by simp; omega)) (by rw [hl2.2 10 (by omega)]; rfl)).mono ?_
  rintro e w1 ⟨rfl, hb⟩
  have hb' : Below w.heap.size w w1 := below_on (below_on (below_new _ _) (below_new _ _)) hb
  obtain ⟨⟨c0, c1, c2, c3⟩, f0, f1, f2, f3⟩ := two_boxes hb
  clear hl hl2 hb
  go_wp2
  all_goals
    go_ret
    exact ⟨rfl, by go_grown⟩
set_option maxHeartbeats 4000000 in
theorem distance_11 (a1 a2 b1 b2 : Int) (w : World) (hl : Laid w) (ha0 : 0 ≤ a1) (ha1 : a1 ≤ 1099511627776) (ha2 : 0 ≤ a2) (ha3 : a2 ≤ 1099511627776) (hb0 : 0 ≤ b1) (hb1 : b1 ≤ 1099511627776) (hb2 : 0 ≤ b2) (hb3 : b2 ≤ 1099511627776) :
    Calls Tryd.prog 18 #[.int .i64 11, .agg #[.int .i64 a1, .int .i64 a2], .agg #[.int .i64 b1, .int .i64 b2]] w fun e w' => e = .returned (.int .i64 (gp 11 a1 a2 b1 b2)) ∧ Below w.heap.size w w' := by
  have hl2 := (hl.alloc (.cells #[.int .i64 a1, .int .i64 a2] 32)).alloc (.cells #[.int .i64 b1, .int .i64 b2] 32)
  go_enter Tryd.func18, Tryd.ntmps18
  go_wp2_with fail
  refine (upright_11 _ _ _ _ _).mono ?_
  rintro e w1 ⟨rfl, hb⟩
  have hb' : Below w.heap.size w w1 := below_on (below_on (below_new _ _) (below_new _ _)) hb
  obtain ⟨⟨c0, c1, c2, c3⟩, f0, f1, f2, f3⟩ := two_boxes hb
  clear hl hl2 hb
  go_wp2
  all_goals
    go_ret
    exact ⟨rfl, by go_grown⟩
set_option maxHeartbeats 4000000 in
theorem distance_12 (a1 a2 b1 b2 : Int) (w : World) (hl : Laid w) (ha0 : 0 ≤ a1) (ha1 : a1 ≤ 1099511627776) (ha2 : 0 ≤ a2) (ha3 : a2 ≤ 1099511627776) (hb0 : 0 ≤ b1) (hb1 : b1 ≤ 1099511627776) (hb2 : 0 ≤ b2) (hb3 : b2 ≤ 1099511627776) :
    Calls Tryd.prog 18 #[.int .i64 12, .agg #[.int .i64 a1, .int .i64 a2], .agg #[.int .i64 b1, .int .i64 b2]] w fun e w' => e = .returned (.int .i64 (gp 12 a1 a2 b1 b2)) ∧ Below w.heap.size w w' := by
  have hl2 := (hl.alloc (.cells #[.int .i64 a1, .int .i64 a2] 32)).alloc (.cells #[.int .i64 b1, .int .i64 b2] 32)
  go_enter Tryd.func18, Tryd.ntmps18
  go_wp2_with fail
  refine (upright_12 _ _ _ _ _ (Nat.lt_of_lt_of_le hl.1 (by simp; omega)) (by rw [hl2.2 12 (by omega)]; rfl)).mono ?_
  rintro e w1 ⟨rfl, hb⟩
  have hb' : Below w.heap.size w w1 := below_on (below_on (below_new _ _) (below_new _ _)) hb
  obtain ⟨⟨c0, c1, c2, c3⟩, f0, f1, f2, f3⟩ := two_boxes hb
  clear hl hl2 hb
  go_wp2
  all_goals
    go_ret
    exact ⟨rfl, by go_grown⟩
set_option maxHeartbeats 4000000 in
theorem distance_13 (a1 a2 b1 b2 : Int) (w : World) (hl : Laid w) (ha0 : 0 ≤ a1) (ha1 : a1 ≤ 1099511627776) (ha2 : 0 ≤ a2) (ha3 : a2 ≤ 1099511627776) (hb0 : 0 ≤ b1) (hb1 : b1 ≤ 1099511627776) (hb2 : 0 ≤ b2) (hb3 : b2 ≤ 1099511627776) :
    Calls Tryd.prog 18 #[.int .i64 13, .agg #[.int .i64 a1, .int .i64 a2], .agg #[.int .i64 b1, .int .i64 b2]] w fun e w' => e = .returned (.int .i64 (gp 13 a1 a2 b1 b2)) ∧ Below w.heap.size w w' := by
  have hl2 := (hl.alloc (.cells #[.int .i64 a1, .int .i64 a2] 32)).alloc (.cells #[.int .i64 b1, .int .i64 b2] 32)
  go_enter Tryd.func18, Tryd.ntmps18
  go_wp2_with fail
  refine (upright_13 _ _ _ _ _).mono ?_
  rintro e w1 ⟨rfl, hb⟩
  have hb' : Below w.heap.size w w1 := below_on (below_on (below_new _ _) (below_new _ _)) hb
  obtain ⟨⟨c0, c1, c2, c3⟩, f0, f1, f2, f3⟩ := two_boxes hb
  clear hl hl2 hb
  go_wp2
  all_goals
    go_ret
    exact ⟨rfl, by go_grown⟩
theorem distance_any (r a1 a2 b1 b2 : Int) (w : World) (hl : Laid w) (hr1 : 1 ≤ r) (hr2 : r ≤ 13) (ha0 : 0 ≤ a1) (ha1 : a1 ≤ 1099511627776) (ha2 : 0 ≤ a2) (ha3 : a2 ≤ 1099511627776) (hb0 : 0 ≤ b1) (hb1 : b1 ≤ 1099511627776) (hb2 : 0 ≤ b2) (hb3 : b2 ≤ 1099511627776) :
    Calls Tryd.prog 18 #[.int .i64 r, .agg #[.int .i64 a1, .int .i64 a2], .agg #[.int .i64 b1, .int .i64 b2]] w fun e w' => e = .returned (.int .i64 (gp r a1 a2 b1 b2)) ∧ Below w.heap.size w w' := by
  rcases rel_num r hr1 hr2 with rfl | rfl | rfl | rfl | rfl | rfl | rfl | rfl | rfl | rfl | rfl | rfl | rfl
  · exact distance_1 a1 a2 b1 b2 w hl ha0 ha1 ha2 ha3 hb0 hb1 hb2 hb3
  · exact distance_2 a1 a2 b1 b2 w hl ha0 ha1 ha2 ha3 hb0 hb1 hb2 hb3
  · exact distance_3 a1 a2 b1 b2 w hl ha0 ha1 ha2 ha3 hb0 hb1 hb2 hb3
  · exact distance_4 a1 a2 b1 b2 w hl ha0 ha1 ha2 ha3 hb0 hb1 hb2 hb3
  · exact distance_5 a1 a2 b1 b2 w hl ha0 ha1 ha2 ha3 hb0 hb1 hb2 hb3
  · exact distance_6 a1 a2 b1 b2 w hl ha0 ha1 ha2 ha3 hb0 hb1 hb2 hb3
  · exact distance_7 a1 a2 b1 b2 w hl ha0 ha1 ha2 ha3 hb0 hb1 hb2 hb3
  · exact distance_8 a1 a2 b1 b2 w hl ha0 ha1 ha2 ha3 hb0 hb1 hb2 hb3
  · exact distance_9 a1 a2 b1 b2 w hl ha0 ha1 ha2 ha3 hb0 hb1 hb2 hb3
  · exact distance_10 a1 a2 b1 b2 w hl ha0 ha1 ha2 ha3 hb0 hb1 hb2 hb3
  · exact distance_11 a1 a2 b1 b2 w hl ha0 ha1 ha2 ha3 hb0 hb1 hb2 hb3
  · exact distance_12 a1 a2 b1 b2 w hl ha0 ha1 ha2 ha3 hb0 hb1 hb2 hb3
  · exact distance_13 a1 a2 b1 b2 w hl ha0 ha1 ha2 ha3 hb0 hb1 hb2 hb3
end Go.Proofs.YtgikaheojcpmpabDoor.T1
