/-
  What the document's own SpanFault, twoSpans, sign, lies, Related, gap answer.
-/
import Derived.Test.YtakimdbkkmafnabDoorF
import Derived.Handy
import Derived.WalkSmall
import Derived.Deep.QuietTactic
import Derived.BigQuiet
namespace Go.Proofs.YtakimdbkkmafnabDoor
open Go.ChangeShapes Go.WideShapes Go.ChangeAt Go.RowKit
set_option linter.unusedVariables false
set_option linter.unusedSimpArgs false
set_option maxHeartbeats 1000000 in
theorem fault_any (s t : Int) (w : World) :
    Calls Tryd.prog 25 #[.agg #[.int .i64 s, .int .i64 t]] w fun e w' => e = .returned (.int .i64 (spanE s t)) ∧ Below w.heap.size w w' := by
  unfold spanE
  rcases span_cases s t with h | ⟨h0, h⟩ | ⟨h0, h1, h⟩ | ⟨h0, h1, h2, h⟩ | ⟨h0, h1, h2, h3, h⟩ | ⟨h0, h1, h2, h3, h⟩
  all_goals
    simp only [*, true_and, false_and, and_true, and_false, if_true, if_false]
    go_enter Tryd.func25, Tryd.ntmps25
    go_wp2
    go_ret
    exact ⟨rfl, by go_grown⟩
set_option maxHeartbeats 2000000 in
theorem twoSpans_any (a1 a2 b1 b2 : Int) (w : World) :
    Calls Tryd.prog 18 #[.agg #[.int .i64 a1, .int .i64 a2], .agg #[.int .i64 b1, .int .i64 b2]] w fun e w' => e = .returned (.int .i64 (bothE a1 a2 b1 b2)) ∧ Below w.heap.size w w' := by
  by_cases h : spanE a1 a2 = 0
  · rw [show bothE a1 a2 b1 b2 = spanE b1 b2 from if_pos h]
    go_enter Tryd.func18, Tryd.ntmps18
    go_wp2_with fail
    refine (fault_any _ _ _).mono ?_
    rintro e w1 ⟨rfl, hb⟩
    have hb' : Below w.heap.size w w1 := below_on (below_on (below_new _ _) (below_new _ _)) hb
    obtain ⟨⟨c0, c1, c2, c3⟩, f0, f1, f2, f3⟩ := two_boxes hb
    clear hb
    go_wp2_with fail
    refine (fault_any _ _ _).mono ?_
    rintro e w2 ⟨rfl, hb2⟩
    have hb3 := below_on hb' hb2
    go_wp2
    go_ret
    exact ⟨rfl, hb3⟩
  · rw [show bothE a1 a2 b1 b2 = spanE a1 a2 from if_neg h]
    go_enter Tryd.func18, Tryd.ntmps18
    go_wp2_with fail
    refine (fault_any _ _ _).mono ?_
    rintro e w1 ⟨rfl, hb⟩
    have hb' : Below w.heap.size w w1 := below_on (below_on (below_new _ _) (below_new _ _)) hb
    clear hb
    have hn : (spanE a1 a2 == 0) = false := by simp [h]
    go_wp2
    go_ret
    exact ⟨rfl, hb'⟩
set_option maxHeartbeats 1000000 in
theorem sign_any (a b : Int) (w : World) :
    Calls Tryd.prog 31 #[.int .i64 a, .int .i64 b] w fun e w' => e = .returned (.int .i64 (sg a b)) ∧ w' = w := by
  rcases sg_spec a b with ⟨h, e⟩ | ⟨h, e⟩ | ⟨h, e⟩
  · rw [e]; clear e
    go_enter Tryd.func31, Tryd.ntmps31
    go_wp2
    go_ret
    exact ⟨rfl, rfl⟩
  · rw [e]; clear e
    have h' : ¬ a < b := by omega
    go_enter Tryd.func31, Tryd.ntmps31
    go_wp2
    go_ret
    exact ⟨rfl, rfl⟩
  · rw [e]; clear e
    subst h
    go_enter Tryd.func31, Tryd.ntmps31
    go_wp2
    go_ret
    exact ⟨rfl, rfl⟩
set_option maxHeartbeats 2000000 in
theorem lies_any (a1 a2 b1 b2 : Int) (w : World) :
    Calls Tryd.prog 30 #[.agg #[.int .i64 a1, .int .i64 a2], .agg #[.int .i64 b1, .int .i64 b2]] w fun e w' => e = .returned (.tuple #[.int .i64 (sg a1 b1), .int .i64 (sg a2 b2), .int .i64 (sg a2 b1), .int .i64 (sg a1 b2)]) ∧ Below w.heap.size w w' := by
  go_enter Tryd.func30, Tryd.ntmps30
  go_wp2
  go_quiet ((go_at_call 31; exact Calls.quiet_of_same (sign_any _ _ _)))
  go_wp2
  go_returns
  exact ⟨rfl, below_drewN (by go_grown) _⟩
set_option maxHeartbeats 4000000 in
theorem related_1 (a1 a2 b1 b2 : Int) (w : World) :
    Calls Tryd.prog 26 #[.int .i64 1, .agg #[.int .i64 a1, .int .i64 a2], .agg #[.int .i64 b1, .int .i64 b2]] w fun e w' => e = .returned (.bool (rel 1 a1 a2 b1 b2)) ∧ Below w.heap.size w w' := by
  go_enter Tryd.func26, Tryd.ntmps26
  go_wp2_with fail
  refine (lies_any _ _ _ _ _).mono ?_
  rintro e w1 ⟨rfl, hb⟩
  have hb' : Below w.heap.size w w1 := below_on (below_on (below_new _ _) (below_new _ _)) hb
  clear hb
  go_wp2
  all_goals
    go_ret
    have s1 := sg_spec a1 b1
    have s2 := sg_spec a2 b2
    have s3 := sg_spec a2 b1
    have s4 := sg_spec a1 b2
    exact ⟨ret_bool (by first | (unfold rel; simp <;> omega) | (unfold rel; rw [Bool.eq_iff_iff]; simp <;> omega)), hb'⟩
set_option maxHeartbeats 4000000 in
theorem related_2 (a1 a2 b1 b2 : Int) (w : World) :
    Calls Tryd.prog 26 #[.int .i64 2, .agg #[.int .i64 a1, .int .i64 a2], .agg #[.int .i64 b1, .int .i64 b2]] w fun e w' => e = .returned (.bool (rel 2 a1 a2 b1 b2)) ∧ Below w.heap.size w w' := by
  go_enter Tryd.func26, Tryd.ntmps26
  go_wp2_with fail
  refine (lies_any _ _ _ _ _).mono ?_
  rintro e w1 ⟨rfl, hb⟩
  have hb' : Below w.heap.size w w1 := below_on (below_on (below_new _ _) (below_new _ _)) hb
  clear hb
  go_wp2
  all_goals
    go_ret
    have s1 := sg_spec a1 b1
    have s2 := sg_spec a2 b2
    have s3 := sg_spec a2 b1
    have s4 := sg_spec a1 b2
    exact ⟨ret_bool (by first | (unfold rel; simp <;> omega) | (unfold rel; rw [Bool.eq_iff_iff]; simp <;> omega)), hb'⟩
set_option maxHeartbeats 4000000 in
theorem related_3 (a1 a2 b1 b2 : Int) (w : World) :
    Calls Tryd.prog 26 #[.int .i64 3, .agg #[.int .i64 a1, .int .i64 a2], .agg #[.int .i64 b1, .int .i64 b2]] w fun e w' => e = .returned (.bool (rel 3 a1 a2 b1 b2)) ∧ Below w.heap.size w w' := by
  go_enter Tryd.func26, Tryd.ntmps26
  go_wp2_with fail
  refine (lies_any _ _ _ _ _).mono ?_
  rintro e w1 ⟨rfl, hb⟩
  have hb' : Below w.heap.size w w1 := below_on (below_on (below_new _ _) (below_new _ _)) hb
  clear hb
  go_wp2
  all_goals
    go_ret
    have s1 := sg_spec a1 b1
    have s2 := sg_spec a2 b2
    have s3 := sg_spec a2 b1
    have s4 := sg_spec a1 b2
    exact ⟨ret_bool (by first | (unfold rel; simp <;> omega) | (unfold rel; rw [Bool.eq_iff_iff]; simp <;> omega)), hb'⟩
set_option maxHeartbeats 4000000 in
theorem related_4 (a1 a2 b1 b2 : Int) (w : World) :
    Calls Tryd.prog 26 #[.int .i64 4, .agg #[.int .i64 a1, .int .i64 a2], .agg #[.int .i64 b1, .int .i64 b2]] w fun e w' => e = .returned (.bool (rel 4 a1 a2 b1 b2)) ∧ Below w.heap.size w w' := by
  go_enter Tryd.func26, Tryd.ntmps26
  go_wp2_with fail
  refine (lies_any _ _ _ _ _).mono ?_
  rintro e w1 ⟨rfl, hb⟩
  have hb' : Below w.heap.size w w1 := below_on (below_on (below_new _ _) (below_new _ _)) hb
  clear hb
  go_wp2
  all_goals
    go_ret
    have s1 := sg_spec a1 b1
    have s2 := sg_spec a2 b2
    have s3 := sg_spec a2 b1
    have s4 := sg_spec a1 b2
    exact ⟨ret_bool (by first | (unfold rel; simp <;> omega) | (unfold rel; rw [Bool.eq_iff_iff]; simp <;> omega)), hb'⟩
set_option maxHeartbeats 4000000 in
theorem related_5 (a1 a2 b1 b2 : Int) (w : World) :
    Calls Tryd.prog 26 #[.int .i64 5, .agg #[.int .i64 a1, .int .i64 a2], .agg #[.int .i64 b1, .int .i64 b2]] w fun e w' => e = .returned (.bool (rel 5 a1 a2 b1 b2)) ∧ Below w.heap.size w w' := by
  go_enter Tryd.func26, Tryd.ntmps26
  go_wp2_with fail
  refine (lies_any _ _ _ _ _).mono ?_
  rintro e w1 ⟨rfl, hb⟩
  have hb' : Below w.heap.size w w1 := below_on (below_on (below_new _ _) (below_new _ _)) hb
  clear hb
  go_wp2
  all_goals
    go_ret
    have s1 := sg_spec a1 b1
    have s2 := sg_spec a2 b2
    have s3 := sg_spec a2 b1
    have s4 := sg_spec a1 b2
    exact ⟨ret_bool (by first | (unfold rel; simp <;> omega) | (unfold rel; rw [Bool.eq_iff_iff]; simp <;> omega)), hb'⟩
set_option maxHeartbeats 4000000 in
theorem related_6 (a1 a2 b1 b2 : Int) (w : World) :
    Calls Tryd.prog 26 #[.int .i64 6, .agg #[.int .i64 a1, .int .i64 a2], .agg #[.int .i64 b1, .int .i64 b2]] w fun e w' => e = .returned (.bool (rel 6 a1 a2 b1 b2)) ∧ Below w.heap.size w w' := by
  go_enter Tryd.func26, Tryd.ntmps26
  go_wp2_with fail
  refine (lies_any _ _ _ _ _).mono ?_
  rintro e w1 ⟨rfl, hb⟩
  have hb' : Below w.heap.size w w1 := below_on (below_on (below_new _ _) (below_new _ _)) hb
  clear hb
  go_wp2
  all_goals
    go_ret
    have s1 := sg_spec a1 b1
    have s2 := sg_spec a2 b2
    have s3 := sg_spec a2 b1
    have s4 := sg_spec a1 b2
    exact ⟨ret_bool (by first | (unfold rel; simp <;> omega) | (unfold rel; rw [Bool.eq_iff_iff]; simp <;> omega)), hb'⟩
set_option maxHeartbeats 4000000 in
theorem related_7 (a1 a2 b1 b2 : Int) (w : World) :
    Calls Tryd.prog 26 #[.int .i64 7, .agg #[.int .i64 a1, .int .i64 a2], .agg #[.int .i64 b1, .int .i64 b2]] w fun e w' => e = .returned (.bool (rel 7 a1 a2 b1 b2)) ∧ Below w.heap.size w w' := by
  go_enter Tryd.func26, Tryd.ntmps26
  go_wp2_with fail
  refine (lies_any _ _ _ _ _).mono ?_
  rintro e w1 ⟨rfl, hb⟩
  have hb' : Below w.heap.size w w1 := below_on (below_on (below_new _ _) (below_new _ _)) hb
  clear hb
  go_wp2
  all_goals
    go_ret
    have s1 := sg_spec a1 b1
    have s2 := sg_spec a2 b2
    have s3 := sg_spec a2 b1
    have s4 := sg_spec a1 b2
    exact ⟨ret_bool (by first | (unfold rel; simp <;> omega) | (unfold rel; rw [Bool.eq_iff_iff]; simp <;> omega)), hb'⟩
set_option maxHeartbeats 4000000 in
theorem related_8 (a1 a2 b1 b2 : Int) (w : World) :
    Calls Tryd.prog 26 #[.int .i64 8, .agg #[.int .i64 a1, .int .i64 a2], .agg #[.int .i64 b1, .int .i64 b2]] w fun e w' => e = .returned (.bool (rel 8 a1 a2 b1 b2)) ∧ Below w.heap.size w w' := by
  go_enter Tryd.func26, Tryd.ntmps26
  go_wp2_with fail
  refine (lies_any _ _ _ _ _).mono ?_
  rintro e w1 ⟨rfl, hb⟩
  have hb' : Below w.heap.size w w1 := below_on (below_on (below_new _ _) (below_new _ _)) hb
  clear hb
  go_wp2
  all_goals
    go_ret
    have s1 := sg_spec a1 b1
    have s2 := sg_spec a2 b2
    have s3 := sg_spec a2 b1
    have s4 := sg_spec a1 b2
    exact ⟨ret_bool (by first | (unfold rel; simp <;> omega) | (unfold rel; rw [Bool.eq_iff_iff]; simp <;> omega)), hb'⟩
set_option maxHeartbeats 4000000 in
theorem related_9 (a1 a2 b1 b2 : Int) (w : World) :
    Calls Tryd.prog 26 #[.int .i64 9, .agg #[.int .i64 a1, .int .i64 a2], .agg #[.int .i64 b1, .int .i64 b2]] w fun e w' => e = .returned (.bool (rel 9 a1 a2 b1 b2)) ∧ Below w.heap.size w w' := by
  go_enter Tryd.func26, Tryd.ntmps26
  go_wp2_with fail
  refine (lies_any _ _ _ _ _).mono ?_
  rintro e w1 ⟨rfl, hb⟩
  have hb' : Below w.heap.size w w1 := below_on (below_on (below_new _ _) (below_new _ _)) hb
  clear hb
  go_wp2
  all_goals
    go_ret
    have s1 := sg_spec a1 b1
    have s2 := sg_spec a2 b2
    have s3 := sg_spec a2 b1
    have s4 := sg_spec a1 b2
    exact ⟨ret_bool (by first | (unfold rel; simp <;> omega) | (unfold rel; rw [Bool.eq_iff_iff]; simp <;> omega)), hb'⟩
set_option maxHeartbeats 4000000 in
theorem related_10 (a1 a2 b1 b2 : Int) (w : World) :
    Calls Tryd.prog 26 #[.int .i64 10, .agg #[.int .i64 a1, .int .i64 a2], .agg #[.int .i64 b1, .int .i64 b2]] w fun e w' => e = .returned (.bool (rel 10 a1 a2 b1 b2)) ∧ Below w.heap.size w w' := by
  go_enter Tryd.func26, Tryd.ntmps26
  go_wp2_with fail
  refine (lies_any _ _ _ _ _).mono ?_
  rintro e w1 ⟨rfl, hb⟩
  have hb' : Below w.heap.size w w1 := below_on (below_on (below_new _ _) (below_new _ _)) hb
  clear hb
  go_wp2
  all_goals
    go_ret
    have s1 := sg_spec a1 b1
    have s2 := sg_spec a2 b2
    have s3 := sg_spec a2 b1
    have s4 := sg_spec a1 b2
    exact ⟨ret_bool (by first | (unfold rel; simp <;> omega) | (unfold rel; rw [Bool.eq_iff_iff]; simp <;> omega)), hb'⟩
set_option maxHeartbeats 4000000 in
theorem related_11 (a1 a2 b1 b2 : Int) (w : World) :
    Calls Tryd.prog 26 #[.int .i64 11, .agg #[.int .i64 a1, .int .i64 a2], .agg #[.int .i64 b1, .int .i64 b2]] w fun e w' => e = .returned (.bool (rel 11 a1 a2 b1 b2)) ∧ Below w.heap.size w w' := by
  go_enter Tryd.func26, Tryd.ntmps26
  go_wp2_with fail
  refine (lies_any _ _ _ _ _).mono ?_
  rintro e w1 ⟨rfl, hb⟩
  have hb' : Below w.heap.size w w1 := below_on (below_on (below_new _ _) (below_new _ _)) hb
  clear hb
  go_wp2
  all_goals
    go_ret
    have s1 := sg_spec a1 b1
    have s2 := sg_spec a2 b2
    have s3 := sg_spec a2 b1
    have s4 := sg_spec a1 b2
    exact ⟨ret_bool (by first | (unfold rel; simp <;> omega) | (unfold rel; rw [Bool.eq_iff_iff]; simp <;> omega)), hb'⟩
set_option maxHeartbeats 4000000 in
theorem related_12 (a1 a2 b1 b2 : Int) (w : World) :
    Calls Tryd.prog 26 #[.int .i64 12, .agg #[.int .i64 a1, .int .i64 a2], .agg #[.int .i64 b1, .int .i64 b2]] w fun e w' => e = .returned (.bool (rel 12 a1 a2 b1 b2)) ∧ Below w.heap.size w w' := by
  go_enter Tryd.func26, Tryd.ntmps26
  go_wp2_with fail
  refine (lies_any _ _ _ _ _).mono ?_
  rintro e w1 ⟨rfl, hb⟩
  have hb' : Below w.heap.size w w1 := below_on (below_on (below_new _ _) (below_new _ _)) hb
  clear hb
  go_wp2
  all_goals
    go_ret
    have s1 := sg_spec a1 b1
    have s2 := sg_spec a2 b2
    have s3 := sg_spec a2 b1
    have s4 := sg_spec a1 b2
    exact ⟨ret_bool (by first | (unfold rel; simp <;> omega) | (unfold rel; rw [Bool.eq_iff_iff]; simp <;> omega)), hb'⟩
set_option maxHeartbeats 4000000 in
theorem related_13 (a1 a2 b1 b2 : Int) (w : World) :
    Calls Tryd.prog 26 #[.int .i64 13, .agg #[.int .i64 a1, .int .i64 a2], .agg #[.int .i64 b1, .int .i64 b2]] w fun e w' => e = .returned (.bool (rel 13 a1 a2 b1 b2)) ∧ Below w.heap.size w w' := by
  go_enter Tryd.func26, Tryd.ntmps26
  go_wp2_with fail
  refine (lies_any _ _ _ _ _).mono ?_
  rintro e w1 ⟨rfl, hb⟩
  have hb' : Below w.heap.size w w1 := below_on (below_on (below_new _ _) (below_new _ _)) hb
  clear hb
  go_wp2
  all_goals
    go_ret
    have s1 := sg_spec a1 b1
    have s2 := sg_spec a2 b2
    have s3 := sg_spec a2 b1
    have s4 := sg_spec a1 b2
    exact ⟨ret_bool (by first | (unfold rel; simp <;> omega) | (unfold rel; rw [Bool.eq_iff_iff]; simp <;> omega)), hb'⟩
theorem related_any (r a1 a2 b1 b2 : Int) (w : World) (hr1 : 1 ≤ r) (hr2 : r ≤ 13) :
    Calls Tryd.prog 26 #[.int .i64 r, .agg #[.int .i64 a1, .int .i64 a2], .agg #[.int .i64 b1, .int .i64 b2]] w fun e w' => e = .returned (.bool (rel r a1 a2 b1 b2)) ∧ Below w.heap.size w w' := by
  rcases rel_num r hr1 hr2 with rfl | rfl | rfl | rfl | rfl | rfl | rfl | rfl | rfl | rfl | rfl | rfl | rfl
  · exact related_1 a1 a2 b1 b2 w
  · exact related_2 a1 a2 b1 b2 w
  · exact related_3 a1 a2 b1 b2 w
  · exact related_4 a1 a2 b1 b2 w
  · exact related_5 a1 a2 b1 b2 w
  · exact related_6 a1 a2 b1 b2 w
  · exact related_7 a1 a2 b1 b2 w
  · exact related_8 a1 a2 b1 b2 w
  · exact related_9 a1 a2 b1 b2 w
  · exact related_10 a1 a2 b1 b2 w
  · exact related_11 a1 a2 b1 b2 w
  · exact related_12 a1 a2 b1 b2 w
  · exact related_13 a1 a2 b1 b2 w
set_option maxHeartbeats 4000000 in
theorem gap_1 (a1 a2 b1 b2 : Int) (w : World) (ha0 : 0 ≤ a1) (ha1 : a1 ≤ 1099511627776) (ha2 : 0 ≤ a2) (ha3 : a2 ≤ 1099511627776) (hb0 : 0 ≤ b1) (hb1 : b1 ≤ 1099511627776) (hb2 : 0 ≤ b2) (hb3 : b2 ≤ 1099511627776) (h : rel 1 a1 a2 b1 b2 = true) :
    Calls Tryd.prog 27 #[.int .i64 1, .agg #[.int .i64 a1, .int .i64 a2], .agg #[.int .i64 b1, .int .i64 b2]] w fun e w' => e = .returned (.int .i64 (gp 1 a1 a2 b1 b2)) ∧ Below w.heap.size w w' := by
  simp [rel] at h
  go_enter Tryd.func27, Tryd.ntmps27
  go_wp2
  all_goals
    go_ret
    exact ⟨ret_int (by simp [gp] <;> omega), by go_grown⟩
set_option maxHeartbeats 4000000 in
theorem gap_2 (a1 a2 b1 b2 : Int) (w : World) (ha0 : 0 ≤ a1) (ha1 : a1 ≤ 1099511627776) (ha2 : 0 ≤ a2) (ha3 : a2 ≤ 1099511627776) (hb0 : 0 ≤ b1) (hb1 : b1 ≤ 1099511627776) (hb2 : 0 ≤ b2) (hb3 : b2 ≤ 1099511627776) (h : rel 2 a1 a2 b1 b2 = true) :
    Calls Tryd.prog 27 #[.int .i64 2, .agg #[.int .i64 a1, .int .i64 a2], .agg #[.int .i64 b1, .int .i64 b2]] w fun e w' => e = .returned (.int .i64 (gp 2 a1 a2 b1 b2)) ∧ Below w.heap.size w w' := by
  simp [rel] at h
  go_enter Tryd.func27, Tryd.ntmps27
  go_wp2
  all_goals
    go_ret
    exact ⟨ret_int (by simp [gp] <;> omega), by go_grown⟩
set_option maxHeartbeats 4000000 in
theorem gap_3 (a1 a2 b1 b2 : Int) (w : World) (ha0 : 0 ≤ a1) (ha1 : a1 ≤ 1099511627776) (ha2 : 0 ≤ a2) (ha3 : a2 ≤ 1099511627776) (hb0 : 0 ≤ b1) (hb1 : b1 ≤ 1099511627776) (hb2 : 0 ≤ b2) (hb3 : b2 ≤ 1099511627776) (h : rel 3 a1 a2 b1 b2 = true) :
    Calls Tryd.prog 27 #[.int .i64 3, .agg #[.int .i64 a1, .int .i64 a2], .agg #[.int .i64 b1, .int .i64 b2]] w fun e w' => e = .returned (.int .i64 (gp 3 a1 a2 b1 b2)) ∧ Below w.heap.size w w' := by
  simp [rel] at h
  go_enter Tryd.func27, Tryd.ntmps27
  go_wp2
  all_goals
    go_ret
    exact ⟨ret_int (by simp [gp] <;> omega), by go_grown⟩
set_option maxHeartbeats 4000000 in
theorem gap_4 (a1 a2 b1 b2 : Int) (w : World) (ha0 : 0 ≤ a1) (ha1 : a1 ≤ 1099511627776) (ha2 : 0 ≤ a2) (ha3 : a2 ≤ 1099511627776) (hb0 : 0 ≤ b1) (hb1 : b1 ≤ 1099511627776) (hb2 : 0 ≤ b2) (hb3 : b2 ≤ 1099511627776) (h : rel 4 a1 a2 b1 b2 = true) :
    Calls Tryd.prog 27 #[.int .i64 4, .agg #[.int .i64 a1, .int .i64 a2], .agg #[.int .i64 b1, .int .i64 b2]] w fun e w' => e = .returned (.int .i64 (gp 4 a1 a2 b1 b2)) ∧ Below w.heap.size w w' := by
  simp [rel] at h
  go_enter Tryd.func27, Tryd.ntmps27
  go_wp2
  all_goals
    go_ret
    exact ⟨ret_int (by simp [gp] <;> omega), by go_grown⟩
set_option maxHeartbeats 4000000 in
theorem gap_5 (a1 a2 b1 b2 : Int) (w : World) (ha0 : 0 ≤ a1) (ha1 : a1 ≤ 1099511627776) (ha2 : 0 ≤ a2) (ha3 : a2 ≤ 1099511627776) (hb0 : 0 ≤ b1) (hb1 : b1 ≤ 1099511627776) (hb2 : 0 ≤ b2) (hb3 : b2 ≤ 1099511627776) (h : rel 5 a1 a2 b1 b2 = true) :
    Calls Tryd.prog 27 #[.int .i64 5, .agg #[.int .i64 a1, .int .i64 a2], .agg #[.int .i64 b1, .int .i64 b2]] w fun e w' => e = .returned (.int .i64 (gp 5 a1 a2 b1 b2)) ∧ Below w.heap.size w w' := by
  simp [rel] at h
  go_enter Tryd.func27, Tryd.ntmps27
  go_wp2
  all_goals
    go_ret
    exact ⟨ret_int (by simp [gp] <;> omega), by go_grown⟩
set_option maxHeartbeats 4000000 in
theorem gap_6 (a1 a2 b1 b2 : Int) (w : World) (ha0 : 0 ≤ a1) (ha1 : a1 ≤ 1099511627776) (ha2 : 0 ≤ a2) (ha3 : a2 ≤ 1099511627776) (hb0 : 0 ≤ b1) (hb1 : b1 ≤ 1099511627776) (hb2 : 0 ≤ b2) (hb3 : b2 ≤ 1099511627776) (h : rel 6 a1 a2 b1 b2 = true) :
    Calls Tryd.prog 27 #[.int .i64 6, .agg #[.int .i64 a1, .int .i64 a2], .agg #[.int .i64 b1, .int .i64 b2]] w fun e w' => e = .returned (.int .i64 (gp 6 a1 a2 b1 b2)) ∧ Below w.heap.size w w' := by
  simp [rel] at h
  go_enter Tryd.func27, Tryd.ntmps27
  go_wp2
  all_goals
    go_ret
    exact ⟨ret_int (by simp [gp] <;> omega), by go_grown⟩
set_option maxHeartbeats 4000000 in
theorem gap_7 (a1 a2 b1 b2 : Int) (w : World) (ha0 : 0 ≤ a1) (ha1 : a1 ≤ 1099511627776) (ha2 : 0 ≤ a2) (ha3 : a2 ≤ 1099511627776) (hb0 : 0 ≤ b1) (hb1 : b1 ≤ 1099511627776) (hb2 : 0 ≤ b2) (hb3 : b2 ≤ 1099511627776) (h : rel 7 a1 a2 b1 b2 = true) :
    Calls Tryd.prog 27 #[.int .i64 7, .agg #[.int .i64 a1, .int .i64 a2], .agg #[.int .i64 b1, .int .i64 b2]] w fun e w' => e = .returned (.int .i64 (gp 7 a1 a2 b1 b2)) ∧ Below w.heap.size w w' := by
  simp [rel] at h
  go_enter Tryd.func27, Tryd.ntmps27
  go_wp2
  all_goals
    go_ret
    exact ⟨ret_int (by simp [gp] <;> omega), by go_grown⟩
set_option maxHeartbeats 4000000 in
theorem gap_8 (a1 a2 b1 b2 : Int) (w : World) (ha0 : 0 ≤ a1) (ha1 : a1 ≤ 1099511627776) (ha2 : 0 ≤ a2) (ha3 : a2 ≤ 1099511627776) (hb0 : 0 ≤ b1) (hb1 : b1 ≤ 1099511627776) (hb2 : 0 ≤ b2) (hb3 : b2 ≤ 1099511627776) (h : rel 8 a1 a2 b1 b2 = true) :
    Calls Tryd.prog 27 #[.int .i64 8, .agg #[.int .i64 a1, .int .i64 a2], .agg #[.int .i64 b1, .int .i64 b2]] w fun e w' => e = .returned (.int .i64 (gp 8 a1 a2 b1 b2)) ∧ Below w.heap.size w w' := by
  simp [rel] at h
  go_enter Tryd.func27, Tryd.ntmps27
  go_wp2
  all_goals
    go_ret
    exact ⟨ret_int (by simp [gp] <;> omega), by go_grown⟩
set_option maxHeartbeats 4000000 in
theorem gap_9 (a1 a2 b1 b2 : Int) (w : World) (ha0 : 0 ≤ a1) (ha1 : a1 ≤ 1099511627776) (ha2 : 0 ≤ a2) (ha3 : a2 ≤ 1099511627776) (hb0 : 0 ≤ b1) (hb1 : b1 ≤ 1099511627776) (hb2 : 0 ≤ b2) (hb3 : b2 ≤ 1099511627776) (h : rel 9 a1 a2 b1 b2 = true) :
    Calls Tryd.prog 27 #[.int .i64 9, .agg #[.int .i64 a1, .int .i64 a2], .agg #[.int .i64 b1, .int .i64 b2]] w fun e w' => e = .returned (.int .i64 (gp 9 a1 a2 b1 b2)) ∧ Below w.heap.size w w' := by
  simp [rel] at h
  go_enter Tryd.func27, Tryd.ntmps27
  go_wp2
  all_goals
    go_ret
    exact ⟨ret_int (by simp [gp] <;> omega), by go_grown⟩
set_option maxHeartbeats 4000000 in
theorem gap_10 (a1 a2 b1 b2 : Int) (w : World) (ha0 : 0 ≤ a1) (ha1 : a1 ≤ 1099511627776) (ha2 : 0 ≤ a2) (ha3 : a2 ≤ 1099511627776) (hb0 : 0 ≤ b1) (hb1 : b1 ≤ 1099511627776) (hb2 : 0 ≤ b2) (hb3 : b2 ≤ 1099511627776) (h : rel 10 a1 a2 b1 b2 = true) :
    Calls Tryd.prog 27 #[.int .i64 10, .agg #[.int .i64 a1, .int .i64 a2], .agg #[.int .i64 b1, .int .i64 b2]] w fun e w' => e = .returned (.int .i64 (gp 10 a1 a2 b1 b2)) ∧ Below w.heap.size w w' := by
  simp [rel] at h
  go_enter Tryd.func27, Tryd.ntmps27
  go_wp2
  all_goals
    go_ret
    exact ⟨ret_int (by simp [gp] <;> omega), by go_grown⟩
set_option maxHeartbeats 4000000 in
theorem gap_11 (a1 a2 b1 b2 : Int) (w : World) (ha0 : 0 ≤ a1) (ha1 : a1 ≤ 1099511627776) (ha2 : 0 ≤ a2) (ha3 : a2 ≤ 1099511627776) (hb0 : 0 ≤ b1) (hb1 : b1 ≤ 1099511627776) (hb2 : 0 ≤ b2) (hb3 : b2 ≤ 1099511627776) (h : rel 11 a1 a2 b1 b2 = true) :
    Calls Tryd.prog 27 #[.int .i64 11, .agg #[.int .i64 a1, .int .i64 a2], .agg #[.int .i64 b1, .int .i64 b2]] w fun e w' => e = .returned (.int .i64 (gp 11 a1 a2 b1 b2)) ∧ Below w.heap.size w w' := by
  simp [rel] at h
  go_enter Tryd.func27, Tryd.ntmps27
  go_wp2
  all_goals
    go_ret
    exact ⟨ret_int (by simp [gp] <;> omega), by go_grown⟩
set_option maxHeartbeats 4000000 in
theorem gap_12 (a1 a2 b1 b2 : Int) (w : World) (ha0 : 0 ≤ a1) (ha1 : a1 ≤ 1099511627776) (ha2 : 0 ≤ a2) (ha3 : a2 ≤ 1099511627776) (hb0 : 0 ≤ b1) (hb1 : b1 ≤ 1099511627776) (hb2 : 0 ≤ b2) (hb3 : b2 ≤ 1099511627776) (h : rel 12 a1 a2 b1 b2 = true) :
    Calls Tryd.prog 27 #[.int .i64 12, .agg #[.int .i64 a1, .int .i64 a2], .agg #[.int .i64 b1, .int .i64 b2]] w fun e w' => e = .returned (.int .i64 (gp 12 a1 a2 b1 b2)) ∧ Below w.heap.size w w' := by
  simp [rel] at h
  go_enter Tryd.func27, Tryd.ntmps27
  go_wp2
  all_goals
    go_ret
    exact ⟨ret_int (by simp [gp] <;> omega), by go_grown⟩
set_option maxHeartbeats 4000000 in
theorem gap_13 (a1 a2 b1 b2 : Int) (w : World) (ha0 : 0 ≤ a1) (ha1 : a1 ≤ 1099511627776) (ha2 : 0 ≤ a2) (ha3 : a2 ≤ 1099511627776) (hb0 : 0 ≤ b1) (hb1 : b1 ≤ 1099511627776) (hb2 : 0 ≤ b2) (hb3 : b2 ≤ 1099511627776) (h : rel 13 a1 a2 b1 b2 = true) :
    Calls Tryd.prog 27 #[.int .i64 13, .agg #[.int .i64 a1, .int .i64 a2], .agg #[.int .i64 b1, .int .i64 b2]] w fun e w' => e = .returned (.int .i64 (gp 13 a1 a2 b1 b2)) ∧ Below w.heap.size w w' := by
  simp [rel] at h
  go_enter Tryd.func27, Tryd.ntmps27
  go_wp2
  all_goals
    go_ret
    exact ⟨ret_int (by simp [gp] <;> omega), by go_grown⟩
theorem gap_any (r a1 a2 b1 b2 : Int) (w : World) (hr1 : 1 ≤ r) (hr2 : r ≤ 13) (ha0 : 0 ≤ a1) (ha1 : a1 ≤ 1099511627776) (ha2 : 0 ≤ a2) (ha3 : a2 ≤ 1099511627776) (hb0 : 0 ≤ b1) (hb1 : b1 ≤ 1099511627776) (hb2 : 0 ≤ b2) (hb3 : b2 ≤ 1099511627776) (h : rel r a1 a2 b1 b2 = true) :
    Calls Tryd.prog 27 #[.int .i64 r, .agg #[.int .i64 a1, .int .i64 a2], .agg #[.int .i64 b1, .int .i64 b2]] w fun e w' => e = .returned (.int .i64 (gp r a1 a2 b1 b2)) ∧ Below w.heap.size w w' := by
  rcases rel_num r hr1 hr2 with rfl | rfl | rfl | rfl | rfl | rfl | rfl | rfl | rfl | rfl | rfl | rfl | rfl
  · exact gap_1 a1 a2 b1 b2 w ha0 ha1 ha2 ha3 hb0 hb1 hb2 hb3 h
  · exact gap_2 a1 a2 b1 b2 w ha0 ha1 ha2 ha3 hb0 hb1 hb2 hb3 h
  · exact gap_3 a1 a2 b1 b2 w ha0 ha1 ha2 ha3 hb0 hb1 hb2 hb3 h
  · exact gap_4 a1 a2 b1 b2 w ha0 ha1 ha2 ha3 hb0 hb1 hb2 hb3 h
  · exact gap_5 a1 a2 b1 b2 w ha0 ha1 ha2 ha3 hb0 hb1 hb2 hb3 h
  · exact gap_6 a1 a2 b1 b2 w ha0 ha1 ha2 ha3 hb0 hb1 hb2 hb3 h
  · exact gap_7 a1 a2 b1 b2 w ha0 ha1 ha2 ha3 hb0 hb1 hb2 hb3 h
  · exact gap_8 a1 a2 b1 b2 w ha0 ha1 ha2 ha3 hb0 hb1 hb2 hb3 h
  · exact gap_9 a1 a2 b1 b2 w ha0 ha1 ha2 ha3 hb0 hb1 hb2 hb3 h
  · exact gap_10 a1 a2 b1 b2 w ha0 ha1 ha2 ha3 hb0 hb1 hb2 hb3 h
  · exact gap_11 a1 a2 b1 b2 w ha0 ha1 ha2 ha3 hb0 hb1 hb2 hb3 h
  · exact gap_12 a1 a2 b1 b2 w ha0 ha1 ha2 ha3 hb0 hb1 hb2 hb3 h
  · exact gap_13 a1 a2 b1 b2 w ha0 ha1 ha2 ha3 hb0 hb1 hb2 hb3 h
end Go.Proofs.YtakimdbkkmafnabDoor
