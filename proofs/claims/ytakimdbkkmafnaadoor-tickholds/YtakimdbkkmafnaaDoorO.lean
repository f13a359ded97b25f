/-
  What the document's own Related, gap and InverseOf answer.
-/
import Derived.Test.YtakimdbkkmafnaaDoorM
import Derived.Handy
import Derived.WalkSmall
import Derived.Deep.QuietTactic
import Derived.BigQuiet
namespace Go.Proofs.YtakimdbkkmafnaaDoor
open Go.ChangeShapes Go.WideShapes Go.ChangeAt Go.RowKit
set_option linter.unusedVariables false
set_option linter.unusedSimpArgs false
set_option maxHeartbeats 4000000 in
theorem related_1 (a1 a2 b1 b2 : Int) (w : World) :
    Calls Tryd.prog 20 #[.int .i64 1, .agg #[.int .i64 a1, .int .i64 a2], .agg #[.int .i64 b1, .int .i64 b2]] w fun e w' => e = .returned (.bool (rel 1 a1 a2 b1 b2)) ∧ Below w.heap.size w w' := by
  go_enter Tryd.func20, Tryd.ntmps20
  go_wp2_with fail
  refine (lies_any _ _ _ _ _).mono ?_
  rintro e w1 ⟨rfl, hb⟩
  have hb' : Below w.heap.size w w1 := below_on (below_on (below_new _ _) (below_new _ _)) hb
  clear hb
  go_wp2
  all_goals
    go_ret
    have s1 := sg_spec a1 b1
    have s2 := sg_spec a2 b2
    have s3 := sg_spec a2 b1
    have s4 := sg_spec a1 b2
    exact ⟨ret_bool (by first | (unfold rel; simp <;> omega) | (unfold rel; rw [Bool.eq_iff_iff]; simp <;> omega)), hb'⟩
set_option maxHeartbeats 4000000 in
theorem related_2 (a1 a2 b1 b2 : Int) (w : World) :
    Calls Tryd.prog 20 #[.int .i64 2, .agg #[.int .i64 a1, .int .i64 a2], .agg #[.int .i64 b1, .int .i64 b2]] w fun e w' => e = .returned (.bool (rel 2 a1 a2 b1 b2)) ∧ Below w.heap.size w w' := by
  go_enter Tryd.func20, Tryd.ntmps20
  go_wp2_with fail
  refine (lies_any _ _ _ _ _).mono ?_
  rintro e w1 ⟨rfl, hb⟩
  have hb' : Below w.heap.size w w1 := below_on (below_on (below_new _ _) (below_new _ _)) hb
  clear hb
  go_wp2
  all_goals
    go_ret
    have s1 := sg_spec a1 b1
    have s2 := sg_spec a2 b2
    have s3 := sg_spec a2 b1
    have s4 := sg_spec a1 b2
    exact ⟨ret_bool (by first | (unfold rel; simp <;> omega) | (unfold rel; rw [Bool.eq_iff_iff]; simp <;> omega)), hb'⟩
set_option maxHeartbeats 4000000 in
theorem related_3 (a1 a2 b1 b2 : Int) (w : World) :
    Calls Tryd.prog 20 #[.int .i64 3, .agg #[.int .i64 a1, .int .i64 a2], .agg #[.int .i64 b1, .int .i64 b2]] w fun e w' => e = .returned (.bool (rel 3 a1 a2 b1 b2)) ∧ Below w.heap.size w w' := by
  go_enter Tryd.func20, Tryd.ntmps20
  go_wp2_with fail
  refine (lies_any _ _ _ _ _).mono ?_
  rintro e w1 ⟨rfl, hb⟩
  have hb' : Below w.heap.size w w1 := below_on (below_on (below_new _ _) (below_new _ _)) hb
  clear hb
  go_wp2
  all_goals
    go_ret
    have s1 := sg_spec a1 b1
    have s2 := sg_spec a2 b2
    have s3 := sg_spec a2 b1
    have s4 := sg_spec a1 b2
    exact ⟨ret_bool (by first | (unfold rel; simp <;> omega) | (unfold rel; rw [Bool.eq_iff_iff]; simp <;> omega)), hb'⟩
set_option maxHeartbeats 4000000 in
theorem related_4 (a1 a2 b1 b2 : Int) (w : World) :
    Calls Tryd.prog 20 #[.int .i64 4, .agg #[.int .i64 a1, .int .i64 a2], .agg #[.int .i64 b1, .int .i64 b2]] w fun e w' => e = .returned (.bool (rel 4 a1 a2 b1 b2)) ∧ Below w.heap.size w w' := by
  go_enter Tryd.func20, Tryd.ntmps20
  go_wp2_with fail
  refine (lies_any _ _ _ _ _).mono ?_
  rintro e w1 ⟨rfl, hb⟩
  have hb' : Below w.heap.size w w1 := below_on (below_on (below_new _ _) (below_new _ _)) hb
  clear hb
  go_wp2
  all_goals
    go_ret
    have s1 := sg_spec a1 b1
    have s2 := sg_spec a2 b2
    have s3 := sg_spec a2 b1
    have s4 := sg_spec a1 b2
    exact ⟨ret_bool (by first | (unfold rel; simp <;> omega) | (unfold rel; rw [Bool.eq_iff_iff]; simp <;> omega)), hb'⟩
set_option maxHeartbeats 4000000 in
theorem related_5 (a1 a2 b1 b2 : Int) (w : World) :
    Calls Tryd.prog 20 #[.int .i64 5, .agg #[.int .i64 a1, .int .i64 a2], .agg #[.int .i64 b1, .int .i64 b2]] w fun e w' => e = .returned (.bool (rel 5 a1 a2 b1 b2)) ∧ Below w.heap.size w w' := by
  go_enter Tryd.func20, Tryd.ntmps20
  go_wp2_with fail
  refine (lies_any _ _ _ _ _).mono ?_
  rintro e w1 ⟨rfl, hb⟩
  have hb' : Below w.heap.size w w1 := below_on (below_on (below_new _ _) (below_new _ _)) hb
  clear hb
  go_wp2
  all_goals
    go_ret
    have s1 := sg_spec a1 b1
    have s2 := sg_spec a2 b2
    have s3 := sg_spec a2 b1
    have s4 := sg_spec a1 b2
    exact ⟨ret_bool (by first | (unfold rel; simp <;> omega) | (unfold rel; rw [Bool.eq_iff_iff]; simp <;> omega)), hb'⟩
set_option maxHeartbeats 4000000 in
theorem related_6 (a1 a2 b1 b2 : Int) (w : World) :
    Calls Tryd.prog 20 #[.int .i64 6, .agg #[.int .i64 a1, .int .i64 a2], .agg #[.int .i64 b1, .int .i64 b2]] w fun e w' => e = .returned (.bool (rel 6 a1 a2 b1 b2)) ∧ Below w.heap.size w w' := by
  go_enter Tryd.func20, Tryd.ntmps20
  go_wp2_with fail
  refine (lies_any _ _ _ _ _).mono ?_
  rintro e w1 ⟨rfl, hb⟩
  have hb' : Below w.heap.size w w1 := below_on (below_on (below_new _ _) (below_new _ _)) hb
  clear hb
  go_wp2
  all_goals
    go_ret
    have s1 := sg_spec a1 b1
    have s2 := sg_spec a2 b2
    have s3 := sg_spec a2 b1
    have s4 := sg_spec a1 b2
    exact ⟨ret_bool (by first | (unfold rel; simp <;> omega) | (unfold rel; rw [Bool.eq_iff_iff]; simp <;> omega)), hb'⟩
set_option maxHeartbeats 4000000 in
theorem related_7 (a1 a2 b1 b2 : Int) (w : World) :
    Calls Tryd.prog 20 #[.int .i64 7, .agg #[.int .i64 a1, .int .i64 a2], .agg #[.int .i64 b1, .int .i64 b2]] w fun e w' => e = .returned (.bool (rel 7 a1 a2 b1 b2)) ∧ Below w.heap.size w w' := by
  go_enter Tryd.func20, Tryd.ntmps20
  go_wp2_with fail
  refine (lies_any _ _ _ _ _).mono ?_
  rintro e w1 ⟨rfl, hb⟩
  have hb' : Below w.heap.size w w1 := below_on (below_on (below_new _ _) (below_new _ _)) hb
  clear hb
  go_wp2
  all_goals
    go_ret
    have s1 := sg_spec a1 b1
    have s2 := sg_spec a2 b2
    have s3 := sg_spec a2 b1
    have s4 := sg_spec a1 b2
    exact ⟨ret_bool (by first | (unfold rel; simp <;> omega) | (unfold rel; rw [Bool.eq_iff_iff]; simp <;> omega)), hb'⟩
set_option maxHeartbeats 4000000 in
theorem related_8 (a1 a2 b1 b2 : Int) (w : World) :
    Calls Tryd.prog 20 #[.int .i64 8, .agg #[.int .i64 a1, .int .i64 a2], .agg #[.int .i64 b1, .int .i64 b2]] w fun e w' => e = .returned (.bool (rel 8 a1 a2 b1 b2)) ∧ Below w.heap.size w w' := by
  go_enter Tryd.func20, Tryd.ntmps20
  go_wp2_with fail
  refine (lies_any _ _ _ _ _).mono ?_
  rintro e w1 ⟨rfl, hb⟩
  have hb' : Below w.heap.size w w1 := below_on (below_on (below_new _ _) (below_new _ _)) hb
  clear hb
  go_wp2
  all_goals
    go_ret
    have s1 := sg_spec a1 b1
    have s2 := sg_spec a2 b2
    have s3 := sg_spec a2 b1
    have s4 := sg_spec a1 b2
    exact ⟨ret_bool (by first | (unfold rel; simp <;> omega) | (unfold rel; rw [Bool.eq_iff_iff]; simp <;> omega)), hb'⟩
set_option maxHeartbeats 4000000 in
theorem related_9 (a1 a2 b1 b2 : Int) (w : World) :
    Calls Tryd.prog 20 #[.int .i64 9, .agg #[.int .i64 a1, .int .i64 a2], .agg #[.int .i64 b1, .int .i64 b2]] w fun e w' => e = .returned (.bool (rel 9 a1 a2 b1 b2)) ∧ Below w.heap.size w w' := by
  go_enter Tryd.func20, Tryd.ntmps20
  go_wp2_with fail
  refine (lies_any _ _ _ _ _).mono ?_
  rintro e w1 ⟨rfl, hb⟩
  have hb' : Below w.heap.size w w1 := below_on (below_on (below_new _ _) (below_new _ _)) hb
  clear hb
  go_wp2
  all_goals
    go_ret
    have s1 := sg_spec a1 b1
    have s2 := sg_spec a2 b2
    have s3 := sg_spec a2 b1
    have s4 := sg_spec a1 b2
    exact ⟨ret_bool (by first | (unfold rel; simp <;> omega) | (unfold rel; rw [Bool.eq_iff_iff]; simp <;> omega)), hb'⟩
set_option maxHeartbeats 4000000 in
theorem related_10 (a1 a2 b1 b2 : Int) (w : World) :
    Calls Tryd.prog 20 #[.int .i64 10, .agg #[.int .i64 a1, .int .i64 a2], .agg #[.int .i64 b1, .int .i64 b2]] w fun e w' => e = .returned (.bool (rel 10 a1 a2 b1 b2)) ∧ Below w.heap.size w w' := by
  go_enter Tryd.func20, Tryd.ntmps20
  go_wp2_with fail
  refine (lies_any _ _ _ _ _).mono ?_
  rintro e w1 ⟨rfl, hb⟩
  have hb' : Below w.heap.size w w1 := below_on (below_on (below_new _ _) (below_new _ _)) hb
  clear hb
  go_wp2
  all_goals
    go_ret
    have s1 := sg_spec a1 b1
    have s2 := sg_spec a2 b2
    have s3 := sg_spec a2 b1
    have s4 := sg_spec a1 b2
    exact ⟨ret_bool (by first | (unfold rel; simp <;> omega) | (unfold rel; rw [Bool.eq_iff_iff]; simp <;> omega)), hb'⟩
set_option maxHeartbeats 4000000 in
theorem related_11 (a1 a2 b1 b2 : Int) (w : World) :
    Calls Tryd.prog 20 #[.int .i64 11, .agg #[.int .i64 a1, .int .i64 a2], .agg #[.int .i64 b1, .int .i64 b2]] w fun e w' => e = .returned (.bool (rel 11 a1 a2 b1 b2)) ∧ Below w.heap.size w w' := by
  go_enter Tryd.func20, Tryd.ntmps20
  go_wp2_with fail
  refine (lies_any _ _ _ _ _).mono ?_
  rintro e w1 ⟨rfl, hb⟩
  have hb' : Below w.heap.size w w1 := below_on (below_on (below_new _ _) (below_new _ _)) hb
  clear hb
  go_wp2
  all_goals
    go_ret
    have s1 := sg_spec a1 b1
    have s2 := sg_spec a2 b2
    have s3 := sg_spec a2 b1
    have s4 := sg_spec a1 b2
    exact ⟨ret_bool (by first | (unfold rel; simp <;> omega) | (unfold rel; rw [Bool.eq_iff_iff]; simp <;> omega)), hb'⟩
set_option maxHeartbeats 4000000 in
theorem related_12 (a1 a2 b1 b2 : Int) (w : World) :
    Calls Tryd.prog 20 #[.int .i64 12, .agg #[.int .i64 a1, .int .i64 a2], .agg #[.int .i64 b1, .int .i64 b2]] w fun e w' => e = .returned (.bool (rel 12 a1 a2 b1 b2)) ∧ Below w.heap.size w w' := by
  go_enter Tryd.func20, Tryd.ntmps20
  go_wp2_with fail
  refine (lies_any _ _ _ _ _).mono ?_
  rintro e w1 ⟨rfl, hb⟩
  have hb' : Below w.heap.size w w1 := below_on (below_on (below_new _ _) (below_new _ _)) hb
  clear hb
  go_wp2
  all_goals
    go_ret
    have s1 := sg_spec a1 b1
    have s2 := sg_spec a2 b2
    have s3 := sg_spec a2 b1
    have s4 := sg_spec a1 b2
    exact ⟨ret_bool (by first | (unfold rel; simp <;> omega) | (unfold rel; rw [Bool.eq_iff_iff]; simp <;> omega)), hb'⟩
set_option maxHeartbeats 4000000 in
theorem related_13 (a1 a2 b1 b2 : Int) (w : World) :
    Calls Tryd.prog 20 #[.int .i64 13, .agg #[.int .i64 a1, .int .i64 a2], .agg #[.int .i64 b1, .int .i64 b2]] w fun e w' => e = .returned (.bool (rel 13 a1 a2 b1 b2)) ∧ Below w.heap.size w w' := by
  go_enter Tryd.func20, Tryd.ntmps20
  go_wp2_with fail
  refine (lies_any _ _ _ _ _).mono ?_
  rintro e w1 ⟨rfl, hb⟩
  have hb' : Below w.heap.size w w1 := below_on (below_on (below_new _ _) (below_new _ _)) hb
  clear hb
  go_wp2
  all_goals
    go_ret
    have s1 := sg_spec a1 b1
    have s2 := sg_spec a2 b2
    have s3 := sg_spec a2 b1
    have s4 := sg_spec a1 b2
    exact ⟨ret_bool (by first | (unfold rel; simp <;> omega) | (unfold rel; rw [Bool.eq_iff_iff]; simp <;> omega)), hb'⟩
theorem related_any (r a1 a2 b1 b2 : Int) (w : World) (hr1 : 1 ≤ r) (hr2 : r ≤ 13) :
    Calls Tryd.prog 20 #[.int .i64 r, .agg #[.int .i64 a1, .int .i64 a2], .agg #[.int .i64 b1, .int .i64 b2]] w fun e w' => e = .returned (.bool (rel r a1 a2 b1 b2)) ∧ Below w.heap.size w w' := by
  rcases rel_num r hr1 hr2 with rfl | rfl | rfl | rfl | rfl | rfl | rfl | rfl | rfl | rfl | rfl | rfl | rfl
  · exact related_1 a1 a2 b1 b2 w
  · exact related_2 a1 a2 b1 b2 w
  · exact related_3 a1 a2 b1 b2 w
  · exact related_4 a1 a2 b1 b2 w
  · exact related_5 a1 a2 b1 b2 w
  · exact related_6 a1 a2 b1 b2 w
  · exact related_7 a1 a2 b1 b2 w
  · exact related_8 a1 a2 b1 b2 w
  · exact related_9 a1 a2 b1 b2 w
  · exact related_10 a1 a2 b1 b2 w
  · exact related_11 a1 a2 b1 b2 w
  · exact related_12 a1 a2 b1 b2 w
  · exact related_13 a1 a2 b1 b2 w
set_option maxHeartbeats 4000000 in
theorem gap_1 (a1 a2 b1 b2 : Int) (w : World) (ha0 : 0 ≤ a1) (ha1 : a1 ≤ 1099511627776) (ha2 : 0 ≤ a2) (ha3 : a2 ≤ 1099511627776) (hb0 : 0 ≤ b1) (hb1 : b1 ≤ 1099511627776) (hb2 : 0 ≤ b2) (hb3 : b2 ≤ 1099511627776) (h : rel 1 a1 a2 b1 b2 = true) :
    Calls Tryd.prog 22 #[.int .i64 1, .agg #[.int .i64 a1, .int .i64 a2], .agg #[.int .i64 b1, .int .i64 b2]] w fun e w' => e = .returned (.int .i64 (gp 1 a1 a2 b1 b2)) ∧ Below w.heap.size w w' := by
  simp [rel] at h
  go_enter Tryd.func22, Tryd.ntmps22
  go_wp2
  all_goals
    go_ret
    exact ⟨ret_int (by simp [gp] <;> omega), by go_grown⟩
set_option maxHeartbeats 4000000 in
theorem gap_2 (a1 a2 b1 b2 : Int) (w : World) (ha0 : 0 ≤ a1) (ha1 : a1 ≤ 1099511627776) (ha2 : 0 ≤ a2) (ha3 : a2 ≤ 1099511627776) (hb0 : 0 ≤ b1) (hb1 : b1 ≤ 1099511627776) (hb2 : 0 ≤ b2) (hb3 : b2 ≤ 1099511627776) (h : rel 2 a1 a2 b1 b2 = true) :
    Calls Tryd.prog 22 #[.int .i64 2, .agg #[.int .i64 a1, .int .i64 a2], .agg #[.int .i64 b1, .int .i64 b2]] w fun e w' => e = .returned (.int .i64 (gp 2 a1 a2 b1 b2)) ∧ Below w.heap.size w w' := by
  simp [rel] at h
  go_enter Tryd.func22, Tryd.ntmps22
  go_wp2
  all_goals
    go_ret
    exact ⟨ret_int (by simp [gp] <;> omega), by go_grown⟩
set_option maxHeartbeats 4000000 in
theorem gap_3 (a1 a2 b1 b2 : Int) (w : World) (ha0 : 0 ≤ a1) (ha1 : a1 ≤ 1099511627776) (ha2 : 0 ≤ a2) (ha3 : a2 ≤ 1099511627776) (hb0 : 0 ≤ b1) (hb1 : b1 ≤ 1099511627776) (hb2 : 0 ≤ b2) (hb3 : b2 ≤ 1099511627776) (h : rel 3 a1 a2 b1 b2 = true) :
    Calls Tryd.prog 22 #[.int .i64 3, .agg #[.int .i64 a1, .int .i64 a2], .agg #[.int .i64 b1, .int .i64 b2]] w fun e w' => e = .returned (.int .i64 (gp 3 a1 a2 b1 b2)) ∧ Below w.heap.size w w' := by
  simp [rel] at h
  go_enter Tryd.func22, Tryd.ntmps22
  go_wp2
  all_goals
    go_ret
    exact ⟨ret_int (by simp [gp] <;> omega), by go_grown⟩
set_option maxHeartbeats 4000000 in
theorem gap_4 (a1 a2 b1 b2 : Int) (w : World) (ha0 : 0 ≤ a1) (ha1 : a1 ≤ 1099511627776) (ha2 : 0 ≤ a2) (ha3 : a2 ≤ 1099511627776) (hb0 : 0 ≤ b1) (hb1 : b1 ≤ 1099511627776) (hb2 : 0 ≤ b2) (hb3 : b2 ≤ 1099511627776) (h : rel 4 a1 a2 b1 b2 = true) :
    Calls Tryd.prog 22 #[.int .i64 4, .agg #[.int .i64 a1, .int .i64 a2], .agg #[.int .i64 b1, .int .i64 b2]] w fun e w' => e = .returned (.int .i64 (gp 4 a1 a2 b1 b2)) ∧ Below w.heap.size w w' := by
  simp [rel] at h
  go_enter Tryd.func22, Tryd.ntmps22
  go_wp2
  all_goals
    go_ret
    exact ⟨ret_int (by simp [gp] <;> omega), by go_grown⟩
set_option maxHeartbeats 4000000 in
theorem gap_5 (a1 a2 b1 b2 : Int) (w : World) (ha0 : 0 ≤ a1) (ha1 : a1 ≤ 1099511627776) (ha2 : 0 ≤ a2) (ha3 : a2 ≤ 1099511627776) (hb0 : 0 ≤ b1) (hb1 : b1 ≤ 1099511627776) (hb2 : 0 ≤ b2) (hb3 : b2 ≤ 1099511627776) (h : rel 5 a1 a2 b1 b2 = true) :
    Calls Tryd.prog 22 #[.int .i64 5, .agg #[.int .i64 a1, .int .i64 a2], .agg #[.int .i64 b1, .int .i64 b2]] w fun e w' => e = .returned (.int .i64 (gp 5 a1 a2 b1 b2)) ∧ Below w.heap.size w w' := by
  simp [rel] at h
  go_enter Tryd.func22, Tryd.ntmps22
  go_wp2
  all_goals
    go_ret
    exact ⟨ret_int (by simp [gp] <;> omega), by go_grown⟩
set_option maxHeartbeats 4000000 in
theorem gap_6 (a1 a2 b1 b2 : Int) (w : World) (ha0 : 0 ≤ a1) (ha1 : a1 ≤ 1099511627776) (ha2 : 0 ≤ a2) (ha3 : a2 ≤ 1099511627776) (hb0 : 0 ≤ b1) (hb1 : b1 ≤ 1099511627776) (hb2 : 0 ≤ b2) (hb3 : b2 ≤ 1099511627776) (h : rel 6 a1 a2 b1 b2 = true) :
    Calls Tryd.prog 22 #[.int .i64 6, .agg #[.int .i64 a1, .int .i64 a2], .agg #[.int .i64 b1, .int .i64 b2]] w fun e w' => e = .returned (.int .i64 (gp 6 a1 a2 b1 b2)) ∧ Below w.heap.size w w' := by
  simp [rel] at h
  go_enter Tryd.func22, Tryd.ntmps22
  go_wp2
  all_goals
    go_ret
    exact ⟨ret_int (by simp [gp] <;> omega), by go_grown⟩
set_option maxHeartbeats 4000000 in
theorem gap_7 (a1 a2 b1 b2 : Int) (w : World) (ha0 : 0 ≤ a1) (ha1 : a1 ≤ 1099511627776) (ha2 : 0 ≤ a2) (ha3 : a2 ≤ 1099511627776) (hb0 : 0 ≤ b1) (hb1 : b1 ≤ 1099511627776) (hb2 : 0 ≤ b2) (hb3 : b2 ≤ 1099511627776) (h : rel 7 a1 a2 b1 b2 = true) :
    Calls Tryd.prog 22 #[.int .i64 7, .agg #[.int .i64 a1, .int .i64 a2], .agg #[.int .i64 b1, .int .i64 b2]] w fun e w' => e = .returned (.int .i64 (gp 7 a1 a2 b1 b2)) ∧ Below w.heap.size w w' := by
  simp [rel] at h
  go_enter Tryd.func22, Tryd.ntmps22
  go_wp2
  all_goals
    go_ret
    exact ⟨ret_int (by simp [gp] <;> omega), by go_grown⟩
set_option maxHeartbeats 4000000 in
theorem gap_8 (a1 a2 b1 b2 : Int) (w : World) (ha0 : 0 ≤ a1) (ha1 : a1 ≤ 1099511627776) (ha2 : 0 ≤ a2) (ha3 : a2 ≤ 1099511627776) (hb0 : 0 ≤ b1) (hb1 : b1 ≤ 1099511627776) (hb2 : 0 ≤ b2) (hb3 : b2 ≤ 1099511627776) (h : rel 8 a1 a2 b1 b2 = true) :
    Calls Tryd.prog 22 #[.int .i64 8, .agg #[.int .i64 a1, .int .i64 a2], .agg #[.int .i64 b1, .int .i64 b2]] w fun e w' => e = .returned (.int .i64 (gp 8 a1 a2 b1 b2)) ∧ Below w.heap.size w w' := by
  simp [rel] at h
  go_enter Tryd.func22, Tryd.ntmps22
  go_wp2
  all_goals
    go_ret
    exact ⟨ret_int (by simp [gp] <;> omega), by go_grown⟩
set_option maxHeartbeats 4000000 in
theorem gap_9 (a1 a2 b1 b2 : Int) (w : World) (ha0 : 0 ≤ a1) (ha1 : a1 ≤ 1099511627776) (ha2 : 0 ≤ a2) (ha3 : a2 ≤ 1099511627776) (hb0 : 0 ≤ b1) (hb1 : b1 ≤ 1099511627776) (hb2 : 0 ≤ b2) (hb3 : b2 ≤ 1099511627776) (h : rel 9 a1 a2 b1 b2 = true) :
    Calls Tryd.prog 22 #[.int .i64 9, .agg #[.int .i64 a1, .int .i64 a2], .agg #[.int .i64 b1, .int .i64 b2]] w fun e w' => e = .returned (.int .i64 (gp 9 a1 a2 b1 b2)) ∧ Below w.heap.size w w' := by
  simp [rel] at h
  go_enter Tryd.func22, Tryd.ntmps22
  go_wp2
  all_goals
    go_ret
    exact ⟨ret_int (by simp [gp] <;> omega), by go_grown⟩
set_option maxHeartbeats 4000000 in
theorem gap_10 (a1 a2 b1 b2 : Int) (w : World) (ha0 : 0 ≤ a1) (ha1 : a1 ≤ 1099511627776) (ha2 : 0 ≤ a2) (ha3 : a2 ≤ 1099511627776) (hb0 : 0 ≤ b1) (hb1 : b1 ≤ 1099511627776) (hb2 : 0 ≤ b2) (hb3 : b2 ≤ 1099511627776) (h : rel 10 a1 a2 b1 b2 = true) :
    Calls Tryd.prog 22 #[.int .i64 10, .agg #[.int .i64 a1, .int .i64 a2], .agg #[.int .i64 b1, .int .i64 b2]] w fun e w' => e = .returned (.int .i64 (gp 10 a1 a2 b1 b2)) ∧ Below w.heap.size w w' := by
  simp [rel] at h
  go_enter Tryd.func22, Tryd.ntmps22
  go_wp2
  all_goals
    go_ret
    exact ⟨ret_int (by simp [gp] <;> omega), by go_grown⟩
set_option maxHeartbeats 4000000 in
theorem gap_11 (a1 a2 b1 b2 : Int) (w : World) (ha0 : 0 ≤ a1) (ha1 : a1 ≤ 1099511627776) (ha2 : 0 ≤ a2) (ha3 : a2 ≤ 1099511627776) (hb0 : 0 ≤ b1) (hb1 : b1 ≤ 1099511627776) (hb2 : 0 ≤ b2) (hb3 : b2 ≤ 1099511627776) (h : rel 11 a1 a2 b1 b2 = true) :
    Calls Tryd.prog 22 #[.int .i64 11, .agg #[.int .i64 a1, .int .i64 a2], .agg #[.int .i64 b1, .int .i64 b2]] w fun e w' => e = .returned (.int .i64 (gp 11 a1 a2 b1 b2)) ∧ Below w.heap.size w w' := by
  simp [rel] at h
  go_enter Tryd.func22, Tryd.ntmps22
  go_wp2
  all_goals
    go_ret
    exact ⟨ret_int (by simp [gp] <;> omega), by go_grown⟩
set_option maxHeartbeats 4000000 in
theorem gap_12 (a1 a2 b1 b2 : Int) (w : World) (ha0 : 0 ≤ a1) (ha1 : a1 ≤ 1099511627776) (ha2 : 0 ≤ a2) (ha3 : a2 ≤ 1099511627776) (hb0 : 0 ≤ b1) (hb1 : b1 ≤ 1099511627776) (hb2 : 0 ≤ b2) (hb3 : b2 ≤ 1099511627776) (h : rel 12 a1 a2 b1 b2 = true) :
    Calls Tryd.prog 22 #[.int .i64 12, .agg #[.int .i64 a1, .int .i64 a2], .agg #[.int .i64 b1, .int .i64 b2]] w fun e w' => e = .returned (.int .i64 (gp 12 a1 a2 b1 b2)) ∧ Below w.heap.size w w' := by
  simp [rel] at h
  go_enter Tryd.func22, Tryd.ntmps22
  go_wp2
  all_goals
    go_ret
    exact ⟨ret_int (by simp [gp] <;> omega), by go_grown⟩
set_option maxHeartbeats 4000000 in
theorem gap_13 (a1 a2 b1 b2 : Int) (w : World) (ha0 : 0 ≤ a1) (ha1 : a1 ≤ 1099511627776) (ha2 : 0 ≤ a2) (ha3 : a2 ≤ 1099511627776) (hb0 : 0 ≤ b1) (hb1 : b1 ≤ 1099511627776) (hb2 : 0 ≤ b2) (hb3 : b2 ≤ 1099511627776) (h : rel 13 a1 a2 b1 b2 = true) :
    Calls Tryd.prog 22 #[.int .i64 13, .agg #[.int .i64 a1, .int .i64 a2], .agg #[.int .i64 b1, .int .i64 b2]] w fun e w' => e = .returned (.int .i64 (gp 13 a1 a2 b1 b2)) ∧ Below w.heap.size w w' := by
  simp [rel] at h
  go_enter Tryd.func22, Tryd.ntmps22
  go_wp2
  all_goals
    go_ret
    exact ⟨ret_int (by simp [gp] <;> omega), by go_grown⟩
theorem gap_any (r a1 a2 b1 b2 : Int) (w : World) (hr1 : 1 ≤ r) (hr2 : r ≤ 13) (ha0 : 0 ≤ a1) (ha1 : a1 ≤ 1099511627776) (ha2 : 0 ≤ a2) (ha3 : a2 ≤ 1099511627776) (hb0 : 0 ≤ b1) (hb1 : b1 ≤ 1099511627776) (hb2 : 0 ≤ b2) (hb3 : b2 ≤ 1099511627776) (h : rel r a1 a2 b1 b2 = true) :
    Calls Tryd.prog 22 #[.int .i64 r, .agg #[.int .i64 a1, .int .i64 a2], .agg #[.int .i64 b1, .int .i64 b2]] w fun e w' => e = .returned (.int .i64 (gp r a1 a2 b1 b2)) ∧ Below w.heap.size w w' := by
  rcases rel_num r hr1 hr2 with rfl | rfl | rfl | rfl | rfl | rfl | rfl | rfl | rfl | rfl | rfl | rfl | rfl
  · exact gap_1 a1 a2 b1 b2 w ha0 ha1 ha2 ha3 hb0 hb1 hb2 hb3 h
  · exact gap_2 a1 a2 b1 b2 w ha0 ha1 ha2 ha3 hb0 hb1 hb2 hb3 h
  · exact gap_3 a1 a2 b1 b2 w ha0 ha1 ha2 ha3 hb0 hb1 hb2 hb3 h
  · exact gap_4 a1 a2 b1 b2 w ha0 ha1 ha2 ha3 hb0 hb1 hb2 hb3 h
  · exact gap_5 a1 a2 b1 b2 w ha0 ha1 ha2 ha3 hb0 hb1 hb2 hb3 h
  · exact gap_6 a1 a2 b1 b2 w ha0 ha1 ha2 ha3 hb0 hb1 hb2 hb3 h
  · exact gap_7 a1 a2 b1 b2 w ha0 ha1 ha2 ha3 hb0 hb1 hb2 hb3 h
  · exact gap_8 a1 a2 b1 b2 w ha0 ha1 ha2 ha3 hb0 hb1 hb2 hb3 h
  · exact gap_9 a1 a2 b1 b2 w ha0 ha1 ha2 ha3 hb0 hb1 hb2 hb3 h
  · exact gap_10 a1 a2 b1 b2 w ha0 ha1 ha2 ha3 hb0 hb1 hb2 hb3 h
  · exact gap_11 a1 a2 b1 b2 w ha0 ha1 ha2 ha3 hb0 hb1 hb2 hb3 h
  · exact gap_12 a1 a2 b1 b2 w ha0 ha1 ha2 ha3 hb0 hb1 hb2 hb3 h
  · exact gap_13 a1 a2 b1 b2 w ha0 ha1 ha2 ha3 hb0 hb1 hb2 hb3 h
set_option maxHeartbeats 2000000 in
theorem InverseOf_1 (w : World) :
    Calls Tryd.prog 8 #[.int .i64 1] w fun e w' => e = .returned (.tuple #[.int .i64 2, .int .i64 0]) ∧ Below w.heap.size w w' := by
  go_enter Tryd.func8, Tryd.ntmps8
  go_wp2
  go_ret2
  exact ⟨rfl, by go_grown⟩
set_option maxHeartbeats 2000000 in
theorem InverseOf_2 (w : World) :
    Calls Tryd.prog 8 #[.int .i64 2] w fun e w' => e = .returned (.tuple #[.int .i64 1, .int .i64 0]) ∧ Below w.heap.size w w' := by
  go_enter Tryd.func8, Tryd.ntmps8
  go_wp2
  go_ret2
  exact ⟨rfl, by go_grown⟩
set_option maxHeartbeats 2000000 in
theorem InverseOf_3 (w : World) :
    Calls Tryd.prog 8 #[.int .i64 3] w fun e w' => e = .returned (.tuple #[.int .i64 4, .int .i64 0]) ∧ Below w.heap.size w w' := by
  go_enter Tryd.func8, Tryd.ntmps8
  go_wp2
  go_ret2
  exact ⟨rfl, by go_grown⟩
set_option maxHeartbeats 2000000 in
theorem InverseOf_4 (w : World) :
    Calls Tryd.prog 8 #[.int .i64 4] w fun e w' => e = .returned (.tuple #[.int .i64 3, .int .i64 0]) ∧ Below w.heap.size w w' := by
  go_enter Tryd.func8, Tryd.ntmps8
  go_wp2
  go_ret2
  exact ⟨rfl, by go_grown⟩
set_option maxHeartbeats 2000000 in
theorem InverseOf_5 (w : World) :
    Calls Tryd.prog 8 #[.int .i64 5] w fun e w' => e = .returned (.tuple #[.int .i64 6, .int .i64 0]) ∧ Below w.heap.size w w' := by
  go_enter Tryd.func8, Tryd.ntmps8
  go_wp2
  go_ret2
  exact ⟨rfl, by go_grown⟩
set_option maxHeartbeats 2000000 in
theorem InverseOf_6 (w : World) :
    Calls Tryd.prog 8 #[.int .i64 6] w fun e w' => e = .returned (.tuple #[.int .i64 5, .int .i64 0]) ∧ Below w.heap.size w w' := by
  go_enter Tryd.func8, Tryd.ntmps8
  go_wp2
  go_ret2
  exact ⟨rfl, by go_grown⟩
set_option maxHeartbeats 2000000 in
theorem InverseOf_7 (w : World) :
    Calls Tryd.prog 8 #[.int .i64 7] w fun e w' => e = .returned (.tuple #[.int .i64 8, .int .i64 0]) ∧ Below w.heap.size w w' := by
  go_enter Tryd.func8, Tryd.ntmps8
  go_wp2
  go_ret2
  exact ⟨rfl, by go_grown⟩
set_option maxHeartbeats 2000000 in
theorem InverseOf_8 (w : World) :
    Calls Tryd.prog 8 #[.int .i64 8] w fun e w' => e = .returned (.tuple #[.int .i64 7, .int .i64 0]) ∧ Below w.heap.size w w' := by
  go_enter Tryd.func8, Tryd.ntmps8
  go_wp2
  go_ret2
  exact ⟨rfl, by go_grown⟩
set_option maxHeartbeats 2000000 in
theorem InverseOf_9 (w : World) :
    Calls Tryd.prog 8 #[.int .i64 9] w fun e w' => e = .returned (.tuple #[.int .i64 10, .int .i64 0]) ∧ Below w.heap.size w w' := by
  go_enter Tryd.func8, Tryd.ntmps8
  go_wp2
  go_ret2
  exact ⟨rfl, by go_grown⟩
set_option maxHeartbeats 2000000 in
theorem InverseOf_10 (w : World) :
    Calls Tryd.prog 8 #[.int .i64 10] w fun e w' => e = .returned (.tuple #[.int .i64 9, .int .i64 0]) ∧ Below w.heap.size w w' := by
  go_enter Tryd.func8, Tryd.ntmps8
  go_wp2
  go_ret2
  exact ⟨rfl, by go_grown⟩
set_option maxHeartbeats 2000000 in
theorem InverseOf_11 (w : World) :
    Calls Tryd.prog 8 #[.int .i64 11] w fun e w' => e = .returned (.tuple #[.int .i64 12, .int .i64 0]) ∧ Below w.heap.size w w' := by
  go_enter Tryd.func8, Tryd.ntmps8
  go_wp2
  go_ret2
  exact ⟨rfl, by go_grown⟩
set_option maxHeartbeats 2000000 in
theorem InverseOf_12 (w : World) :
    Calls Tryd.prog 8 #[.int .i64 12] w fun e w' => e = .returned (.tuple #[.int .i64 11, .int .i64 0]) ∧ Below w.heap.size w w' := by
  go_enter Tryd.func8, Tryd.ntmps8
  go_wp2
  go_ret2
  exact ⟨rfl, by go_grown⟩
set_option maxHeartbeats 2000000 in
theorem InverseOf_13 (w : World) :
    Calls Tryd.prog 8 #[.int .i64 13] w fun e w' => e = .returned (.tuple #[.int .i64 13, .int .i64 0]) ∧ Below w.heap.size w w' := by
  go_enter Tryd.func8, Tryd.ntmps8
  go_wp2
  go_ret2
  exact ⟨rfl, by go_grown⟩
set_option maxHeartbeats 2000000 in
theorem InverseOf_any (r : Int) (w : World) :
    Calls Tryd.prog 8 #[.int .i64 r] w fun e w' => e = .returned (.tuple #[.int .i64 (iV r), .int .i64 (iE r)]) ∧ Below w.heap.size w w' := by
  rcases (by omega : ¬ 1 ≤ r ∨ (1 ≤ r ∧ ¬ r ≤ 13) ∨ (1 ≤ r ∧ r ≤ 13)) with h | ⟨h0, h⟩ | ⟨h1, h2⟩
  · rw [show iV r = 0 from if_neg (by omega), show iE r = 3 from if_neg (by omega)]
    go_enter Tryd.func8, Tryd.ntmps8
    go_wp2
    go_ret2
    exact ⟨rfl, by go_grown⟩
  · rw [show iV r = 0 from if_neg (by omega), show iE r = 3 from if_neg (by omega)]
    go_enter Tryd.func8, Tryd.ntmps8
    go_wp2
    go_ret2
    exact ⟨rfl, by go_grown⟩
  · rcases rel_num r h1 h2 with rfl | rfl | rfl | rfl | rfl | rfl | rfl | rfl | rfl | rfl | rfl | rfl | rfl
    · exact InverseOf_1 w
    · exact InverseOf_2 w
    · exact InverseOf_3 w
    · exact InverseOf_4 w
    · exact InverseOf_5 w
    · exact InverseOf_6 w
    · exact InverseOf_7 w
    · exact InverseOf_8 w
    · exact InverseOf_9 w
    · exact InverseOf_10 w
    · exact InverseOf_11 w
    · exact InverseOf_12 w
    · exact InverseOf_13 w
end Go.Proofs.YtakimdbkkmafnaaDoor
