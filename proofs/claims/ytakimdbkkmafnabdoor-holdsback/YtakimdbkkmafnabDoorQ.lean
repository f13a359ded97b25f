/-
  What the law's own helpers and tick.Inverse answer, and the walks of InverseTwice and HoldsBack.
-/
import Derived.Test.YtakimdbkkmafnabDoorP
import Derived.Handy
import Derived.WalkSmall
import Derived.RegionTactic
import Derived.ChangeAlike
namespace Go.Proofs.YtakimdbkkmafnabDoor
open Go.ChangeShapes Go.WideShapes Go.ChangeAt Go.RowKit
set_option linter.unusedVariables false
set_option linter.unusedSimpArgs false
theorem tm_bd (n m : Int) (hn : n < 0) (hm : 0 < m) : 0 ≤ -((n + 1).tmod m) ∧ -((n + 1).tmod m) < m := by
  have e : -((n + 1).tmod m) = (-(n + 1)).tmod m := (Int.neg_tmod _ _).symm
  rw [e]
  exact ⟨Int.tmod_nonneg _ (by omega), Int.tmod_lt_of_pos _ hm⟩
set_option maxHeartbeats 1000000 in
theorem picked_any (n m : Int) (w : World) (hn1 : -9223372036854775808 ≤ n) (hn2 : n ≤ 9223372036854775807) (hm : 0 < m) (hm2 : m ≤ 1099511627776) :
    Calls Tryd.prog 20 #[.int .i64 n, .int .i64 m] w fun e w' => ∃ k : Int, e = .returned (.int .i64 k) ∧ 0 ≤ k ∧ k < m ∧ w' = w := by
  have hm0 : ¬ m = 0 := by omega
  by_cases h : 0 ≤ n
  · go_enter Tryd.func20, Tryd.ntmps20
    go_wp2
    go_ret
    exact ⟨_, rfl, Int.emod_nonneg n hm0, Int.emod_lt_of_pos n hm, rfl⟩
  · have h' : n < 0 := by omega
    go_enter Tryd.func20, Tryd.ntmps20
    go_wp2
    go_ret
    exact ⟨_, rfl, (tm_bd n m h' hm).1, (tm_bd n m h' hm).2, rfl⟩
set_option maxHeartbeats 1000000 in
/-- A span of raw numbers: from 0 to 59, at most 24 long. -/
theorem span_any (a n : Int) (w : World) (ha1 : -9223372036854775808 ≤ a) (ha2 : a ≤ 9223372036854775807) (hn1 : -9223372036854775808 ≤ n) (hn2 : n ≤ 9223372036854775807) :
    Calls Tryd.prog 10 #[.int .i64 a, .int .i64 n] w fun e w' => ∃ s t : Int, e = .returned (.agg #[.int .i64 s, .int .i64 t]) ∧ 0 ≤ s ∧ s < 60 ∧ s ≤ t ∧ t < s + 25 ∧ Below w.heap.size w w' := by
  go_enter Tryd.func10, Tryd.ntmps10
  go_wp2_with fail
  refine (picked_any a _ _ ha1 ha2 (by omega) (by omega)).mono ?_
  rintro e w1 ⟨s, rfl, hs0, hs1, rfl⟩
  go_wp2_with fail
  refine (picked_any n _ _ hn1 hn2 (by omega) (by omega)).mono ?_
  rintro e w2 ⟨k, rfl, hk0, hk1, rfl⟩
  go_wp2
  go_returns
  exact ⟨s, s + k, rfl, hs0, hs1, by omega, by omega, by go_grown⟩
set_option maxHeartbeats 1000000 in
theorem relation_any (n : Int) (w : World) (hn1 : -9223372036854775808 ≤ n) (hn2 : n ≤ 9223372036854775807) :
    Calls Tryd.prog 8 #[.int .i64 n] w fun e w' => ∃ k : Int, e = .returned (.int .i64 k) ∧ 1 ≤ k ∧ k ≤ 13 ∧ w' = w := by
  go_enter Tryd.func8, Tryd.ntmps8
  go_wp2_with fail
  refine (picked_any n _ _ hn1 hn2 (by omega) (by omega)).mono ?_
  rintro e w1 ⟨s, rfl, hs0, hs1, rfl⟩
  go_wp2
  go_ret
  exact ⟨1 + s, ret_int (by omega), by omega, by omega, rfl⟩
set_option maxHeartbeats 2000000 in
theorem Inverse_1 (w : World) (hz : 0 < w.heap.size) (hc : w.cell? ⟨0, 1, none⟩ = some (.int .i64 2)) :
    Calls Tryd.prog 9 #[.int .i64 1] w fun e w' => e = .returned (.tuple #[.int .i64 2, .int .i64 0]) ∧ Below w.heap.size w w' := by
  go_enter Tryd.func9, Tryd.ntmps9
  go_wp2
  go_ret2
  exact ⟨rfl, by go_grown⟩
set_option maxHeartbeats 2000000 in
theorem Inverse_2 (w : World) (hz : 0 < w.heap.size) (hc : w.cell? ⟨0, 2, none⟩ = some (.int .i64 1)) :
    Calls Tryd.prog 9 #[.int .i64 2] w fun e w' => e = .returned (.tuple #[.int .i64 1, .int .i64 0]) ∧ Below w.heap.size w w' := by
  go_enter Tryd.func9, Tryd.ntmps9
  go_wp2
  go_ret2
  exact ⟨rfl, by go_grown⟩
set_option maxHeartbeats 2000000 in
theorem Inverse_3 (w : World) (hz : 0 < w.heap.size) (hc : w.cell? ⟨0, 3, none⟩ = some (.int .i64 4)) :
    Calls Tryd.prog 9 #[.int .i64 3] w fun e w' => e = .returned (.tuple #[.int .i64 4, .int .i64 0]) ∧ Below w.heap.size w w' := by
  go_enter Tryd.func9, Tryd.ntmps9
  go_wp2
  go_ret2
  exact ⟨rfl, by go_grown⟩
set_option maxHeartbeats 2000000 in
theorem Inverse_4 (w : World) (hz : 0 < w.heap.size) (hc : w.cell? ⟨0, 4, none⟩ = some (.int .i64 3)) :
    Calls Tryd.prog 9 #[.int .i64 4] w fun e w' => e = .returned (.tuple #[.int .i64 3, .int .i64 0]) ∧ Below w.heap.size w w' := by
  go_enter Tryd.func9, Tryd.ntmps9
  go_wp2
  go_ret2
  exact ⟨rfl, by go_grown⟩
set_option maxHeartbeats 2000000 in
theorem Inverse_5 (w : World) (hz : 0 < w.heap.size) (hc : w.cell? ⟨0, 5, none⟩ = some (.int .i64 6)) :
    Calls Tryd.prog 9 #[.int .i64 5] w fun e w' => e = .returned (.tuple #[.int .i64 6, .int .i64 0]) ∧ Below w.heap.size w w' := by
  go_enter Tryd.func9, Tryd.ntmps9
  go_wp2
  go_ret2
  exact ⟨rfl, by go_grown⟩
set_option maxHeartbeats 2000000 in
theorem Inverse_6 (w : World) (hz : 0 < w.heap.size) (hc : w.cell? ⟨0, 6, none⟩ = some (.int .i64 5)) :
    Calls Tryd.prog 9 #[.int .i64 6] w fun e w' => e = .returned (.tuple #[.int .i64 5, .int .i64 0]) ∧ Below w.heap.size w w' := by
  go_enter Tryd.func9, Tryd.ntmps9
  go_wp2
  go_ret2
  exact ⟨rfl, by go_grown⟩
set_option maxHeartbeats 2000000 in
theorem Inverse_7 (w : World) (hz : 0 < w.heap.size) (hc : w.cell? ⟨0, 7, none⟩ = some (.int .i64 8)) :
    Calls Tryd.prog 9 #[.int .i64 7] w fun e w' => e = .returned (.tuple #[.int .i64 8, .int .i64 0]) ∧ Below w.heap.size w w' := by
  go_enter Tryd.func9, Tryd.ntmps9
  go_wp2
  go_ret2
  exact ⟨rfl, by go_grown⟩
set_option maxHeartbeats 2000000 in
theorem Inverse_8 (w : World) (hz : 0 < w.heap.size) (hc : w.cell? ⟨0, 8, none⟩ = some (.int .i64 7)) :
    Calls Tryd.prog 9 #[.int .i64 8] w fun e w' => e = .returned (.tuple #[.int .i64 7, .int .i64 0]) ∧ Below w.heap.size w w' := by
  go_enter Tryd.func9, Tryd.ntmps9
  go_wp2
  go_ret2
  exact ⟨rfl, by go_grown⟩
set_option maxHeartbeats 2000000 in
theorem Inverse_9 (w : World) (hz : 0 < w.heap.size) (hc : w.cell? ⟨0, 9, none⟩ = some (.int .i64 10)) :
    Calls Tryd.prog 9 #[.int .i64 9] w fun e w' => e = .returned (.tuple #[.int .i64 10, .int .i64 0]) ∧ Below w.heap.size w w' := by
  go_enter Tryd.func9, Tryd.ntmps9
  go_wp2
  go_ret2
  exact ⟨rfl, by go_grown⟩
set_option maxHeartbeats 2000000 in
theorem Inverse_10 (w : World) (hz : 0 < w.heap.size) (hc : w.cell? ⟨0, 10, none⟩ = some (.int .i64 9)) :
    Calls Tryd.prog 9 #[.int .i64 10] w fun e w' => e = .returned (.tuple #[.int .i64 9, .int .i64 0]) ∧ Below w.heap.size w w' := by
  go_enter Tryd.func9, Tryd.ntmps9
  go_wp2
  go_ret2
  exact ⟨rfl, by go_grown⟩
set_option maxHeartbeats 2000000 in
theorem Inverse_11 (w : World) (hz : 0 < w.heap.size) (hc : w.cell? ⟨0, 11, none⟩ = some (.int .i64 12)) :
    Calls Tryd.prog 9 #[.int .i64 11] w fun e w' => e = .returned (.tuple #[.int .i64 12, .int .i64 0]) ∧ Below w.heap.size w w' := by
  go_enter Tryd.func9, Tryd.ntmps9
  go_wp2
  go_ret2
  exact ⟨rfl, by go_grown⟩
set_option maxHeartbeats 2000000 in
theorem Inverse_12 (w : World) (hz : 0 < w.heap.size) (hc : w.cell? ⟨0, 12, none⟩ = some (.int .i64 11)) :
    Calls Tryd.prog 9 #[.int .i64 12] w fun e w' => e = .returned (.tuple #[.int .i64 11, .int .i64 0]) ∧ Below w.heap.size w w' := by
  go_enter Tryd.func9, Tryd.ntmps9
  go_wp2
  go_ret2
  exact ⟨rfl, by go_grown⟩
set_option maxHeartbeats 2000000 in
theorem Inverse_13 (w : World) (hz : 0 < w.heap.size) (hc : w.cell? ⟨0, 13, none⟩ = some (.int .i64 13)) :
    Calls Tryd.prog 9 #[.int .i64 13] w fun e w' => e = .returned (.tuple #[.int .i64 13, .int .i64 0]) ∧ Below w.heap.size w w' := by
  go_enter Tryd.func9, Tryd.ntmps9
  go_wp2
  go_ret2
  exact ⟨rfl, by go_grown⟩
set_option maxHeartbeats 2000000 in
theorem Inverse_any (r : Int) (w : World) (hl : Laid w) :
    Calls Tryd.prog 9 #[.int .i64 r] w fun e w' => e = .returned (.tuple #[.int .i64 (iV r), .int .i64 (iE r)]) ∧ Below w.heap.size w w' := by
  rcases (by omega : ¬ 1 ≤ r ∨ (1 ≤ r ∧ ¬ r ≤ 13) ∨ (1 ≤ r ∧ r ≤ 13)) with h | ⟨h0, h⟩ | ⟨h1, h2⟩
  · rw [show iV r = 0 from if_neg (by omega), show iE r = 3 from if_neg (by omega)]
    go_enter Tryd.func9, Tryd.ntmps9
    go_wp2
    go_ret2
    exact ⟨rfl, by go_grown⟩
  · rw [show iV r = 0 from if_neg (by omega), show iE r = 3 from if_neg (by omega)]
    go_enter Tryd.func9, Tryd.ntmps9
    go_wp2
    go_ret2
    exact ⟨rfl, by go_grown⟩
  · obtain ⟨hz, ht⟩ := hl
    rcases rel_num r h1 h2 with rfl | rfl | rfl | rfl | rfl | rfl | rfl | rfl | rfl | rfl | rfl | rfl | rfl
    · exact Inverse_1 w hz (ht 1 (by omega))
    · exact Inverse_2 w hz (ht 2 (by omega))
    · exact Inverse_3 w hz (ht 3 (by omega))
    · exact Inverse_4 w hz (ht 4 (by omega))
    · exact Inverse_5 w hz (ht 5 (by omega))
    · exact Inverse_6 w hz (ht 6 (by omega))
    · exact Inverse_7 w hz (ht 7 (by omega))
    · exact Inverse_8 w hz (ht 8 (by omega))
    · exact Inverse_9 w hz (ht 9 (by omega))
    · exact Inverse_10 w hz (ht 10 (by omega))
    · exact Inverse_11 w hz (ht 11 (by omega))
    · exact Inverse_12 w hz (ht 12 (by omega))
    · exact Inverse_13 w hz (ht 13 (by omega))
/-- Two spans lie in two blocks of the world. -/
def Two (W : World) (x y : Nat) (s t u v : Int) : Prop := (x < W.heap.size ∧ y < W.heap.size) ∧ W.cell? ⟨x, 0, none⟩ = some (.int .i64 s) ∧ W.cell? ⟨x, 1, none⟩ = some (.int .i64 t) ∧ W.cell? ⟨y, 0, none⟩ = some (.int .i64 u) ∧ W.cell? ⟨y, 1, none⟩ = some (.int .i64 v)
theorem Two.below {W W' : World} {x y : Nat} {s t u v : Int} (h : Two W x y s t u v) (hb : Below W.heap.size W W') : Two W' x y s t u v := by
  obtain ⟨⟨hx, hy⟩, h1, h2, h3, h4⟩ := h
  have hz := hb.size
  exact ⟨⟨by omega, by omega⟩, (hb.cell (p := ⟨x, 0, none⟩) hx).trans h1, (hb.cell (p := ⟨x, 1, none⟩) hx).trans h2, (hb.cell (p := ⟨y, 0, none⟩) hy).trans h3, (hb.cell (p := ⟨y, 1, none⟩) hy).trans h4⟩
theorem two_start {w1 w2 : World} {s t u v : Int} {T : TypeId} (hb : Below (w1.alloc (.cells #[.int .i64 s, .int .i64 t] T)).heap.size (w1.alloc (.cells #[.int .i64 s, .int .i64 t] T)) w2) :
    Two (w2.alloc (.cells #[.int .i64 u, .int .i64 v] T)) w1.heap.size w2.heap.size s t u v := by
  have hz := hb.size
  simp only [World.size_alloc] at hz
  obtain ⟨hc, hf⟩ := bcell hb
  have g0 := hc w1.heap.size 0 (by simp)
  have g1 := hc w1.heap.size 1 (by simp)
  have hne : ¬ w1.heap.size = w2.heap.size := by omega
  refine ⟨⟨by simp; omega, by simp⟩, ?_, ?_, ?_, ?_⟩
  · rw [(below_new w2 _).cell (p := ⟨w1.heap.size, 0, none⟩) (show w1.heap.size < _ by omega), g0]; simp [go_sem]
  · rw [(below_new w2 _).cell (p := ⟨w1.heap.size, 1, none⟩) (show w1.heap.size < _ by omega), g1]; simp [go_sem]
  · simp [go_sem]
  · simp [go_sem]
theorem rel_inv (k a1 a2 b1 b2 : Int) (h1 : 1 ≤ k) (h2 : k ≤ 13) : rel (inv k) b1 b2 a1 a2 = rel k a1 a2 b1 b2 := by
  rcases rel_num k h1 h2 with rfl | rfl | rfl | rfl | rfl | rfl | rfl | rfl | rfl | rfl | rfl | rfl | rfl <;> first | rfl | (rw [Bool.eq_iff_iff]; simp [rel, inv] <;> omega)
theorem gp_inv (k a1 a2 b1 b2 : Int) (h1 : 1 ≤ k) (h2 : k ≤ 13) : gp (inv k) b1 b2 a1 a2 = gp k a1 a2 b1 b2 := by
  rcases rel_num k h1 h2 with rfl | rfl | rfl | rfl | rfl | rfl | rfl | rfl | rfl | rfl | rfl | rfl | rfl <;> simp [gp, inv]
theorem gp_pos {k a1 a2 b1 b2 : Int} (h1 : 1 ≤ k) (h2 : k ≤ 13) (h : rel k a1 a2 b1 b2 = true) : 0 ≤ gp k a1 a2 b1 b2 := by
  rcases rel_num k h1 h2 with rfl | rfl | rfl | rfl | rfl | rfl | rfl | rfl | rfl | rfl | rfl | rfl | rfl <;> simp [rel] at h <;> simp [gp] <;> omega
/-- What the calls answer at a relation and spans that may be. -/
theorem ans {k a1 a2 b1 b2 : Int} (h1 : 1 ≤ k) (h2 : k ≤ 13) (h3 : bothE a1 a2 b1 b2 = 0) :
    hE k a1 a2 b1 b2 = 0 ∧ hV k a1 a2 b1 b2 = rel k a1 a2 b1 b2 ∧ (rel k a1 a2 b1 b2 = true → dE k a1 a2 b1 b2 = 0 ∧ dV k a1 a2 b1 b2 = gp k a1 a2 b1 b2) ∧ (rel k a1 a2 b1 b2 = false → dE k a1 a2 b1 b2 = 6 ∧ dV k a1 a2 b1 b2 = 0) := by
  have e1 : hE k a1 a2 b1 b2 = 0 := by unfold hE; rw [if_pos ⟨h1, h2⟩]; exact h3
  refine ⟨e1, by unfold hV; rw [e1]; simp, fun g => ⟨by unfold dE; rw [if_pos e1, if_pos g], if_pos ⟨e1, g⟩⟩, fun g => ⟨by unfold dE; rw [if_pos e1, g]; rfl, if_neg (fun x => by rw [g] at x; cases x.2)⟩⟩
theorem inv_num (k : Int) (h1 : 1 ≤ k) (h2 : k ≤ 13) : 1 ≤ inv k ∧ inv k ≤ 13 ∧ inv (inv k) = k ∧ ((inv k == k) = (k == 13)) := by
  rcases rel_num k h1 h2 with rfl | rfl | rfl | rfl | rfl | rfl | rfl | rfl | rfl | rfl | rfl | rfl | rfl <;> decide
set_option maxHeartbeats 4000000 in
theorem inverseTwice_walk (r : Int) (w : World) (hn1 : -9223372036854775808 ≤ r) (hn2 : r ≤ 9223372036854775807) (hl : Laid w) :
    Calls Tryd.prog 4 #[.int .i64 r] w fun e w' => e = .returned (.bool true) ∧ Below w.heap.size w w' := by
  go_enter Tryd.func4, Tryd.ntmps4
  go_wp2_with fail
  refine (relation_any _ _ hn1 hn2).mono ?_
  rintro e w1 ⟨k, rfl, k1, k2, rfl⟩
  obtain ⟨i1, i2, i3, i4⟩ := inv_num k k1 k2
  have e1 : iV k = inv k := if_pos ⟨k1, k2⟩
  have e2 : iE k = 0 := if_pos ⟨k1, k2⟩
  have e3 : iV (inv k) = inv (inv k) := if_pos ⟨i1, i2⟩
  have e4 : iE (inv k) = 0 := if_pos ⟨i1, i2⟩
  have e5 : iE 14 = 3 := if_neg (by omega)
  clear hn1 hn2
  go_wp2_with fail
  refine (Inverse_any _ _ hl).mono ?_
  rintro e w1 ⟨rfl, hb1⟩
  have hl1 := hl.below hb1
  go_wp2_with fail
  refine (Inverse_any _ _ hl1).mono ?_
  rintro e w2 ⟨rfl, hb2⟩
  have hl2 := hl1.below hb2
  go_wp2_with fail
  refine (Inverse_any _ _ hl2).mono ?_
  rintro e w3 ⟨rfl, hb3⟩
  have hb4 := below_on (below_on hb1 hb2) hb3
  go_wp2
  go_ret
  exact ⟨rfl, hb4⟩
set_option maxHeartbeats 8000000 in
theorem holdsBack_walk (r a n b m : Int) (w : World) (hr1 : -9223372036854775808 ≤ r) (hr2 : r ≤ 9223372036854775807) (ha1 : -9223372036854775808 ≤ a) (ha2 : a ≤ 9223372036854775807) (hn1 : -9223372036854775808 ≤ n) (hn2 : n ≤ 9223372036854775807) (hb1 : -9223372036854775808 ≤ b) (hb2 : b ≤ 9223372036854775807) (hm1 : -9223372036854775808 ≤ m) (hm2 : m ≤ 9223372036854775807) (L0 : Laid w) :
    Calls Tryd.prog 5 #[.int .i64 r, .int .i64 a, .int .i64 n, .int .i64 b, .int .i64 m] w fun e w' => e = .returned (.bool true) ∧ Below w.heap.size w w' := by
  go_enter Tryd.func5, Tryd.ntmps5
  go_wp2_with fail
  refine (relation_any _ _ hr1 hr2).mono ?_
  rintro e w0 ⟨k, rfl, k1, k2, rfl⟩
  clear hr1 hr2
  obtain ⟨i1, i2, i3, i4⟩ := inv_num k k1 k2
  have e1 : iV k = inv k := if_pos ⟨k1, k2⟩
  have e2 : iE k = 0 := if_pos ⟨k1, k2⟩
  clear i3 i4
  go_wp2_with fail
  refine (Inverse_any _ _ L0).mono ?_
  rintro e w1 ⟨rfl, Bs⟩
  have Ls := L0.below Bs
  go_wp2_with fail
  refine (span_any a n _ ha1 ha2 hn1 hn2).mono ?_
  rintro e w2 ⟨s, t, rfl, s0, s1, s2, s3, X⟩
  have La := Ls.below X
  have Ba := below_on Bs X
  clear ha1 ha2 hn1 hn2 X Bs Ls
  go_wp2_with fail
  refine (span_any b m _ hb1 hb2 hm1 hm2).mono ?_
  rintro e w3 ⟨u, v, rfl, u0, u1, u2, u3, X⟩
  have T1 := two_start (u := u) (v := v) X
  have B1 := below_on (below_on Ba (below_on (below_new _ _) X)) (below_new w3 (.cells #[.int .i64 u, .int .i64 v] 25))
  have L1 := ((La.alloc _).below X).alloc (.cells #[.int .i64 u, .int .i64 v] 25)
  have c := T1
  obtain ⟨d0, d1, d2, d3, d4⟩ := c
  clear hb1 hb2 hm1 hm2 X La Ba
  have z1 := ans k1 k2 (both_mk s0 s2 (by omega) u0 u2 (by omega))
  have z2 := ans i1 i2 (both_mk u0 u2 (by omega) s0 s2 (by omega))
  rw [rel_inv k s t u v k1 k2, gp_inv k s t u v k1 k2] at z2
  obtain ⟨q1, q2, q3, q4⟩ := z1
  obtain ⟨r1, r2, r3, r4⟩ := z2
  cases g : rel k s t u v with
  | true =>
    have gz := gp_pos k1 k2 g
    obtain ⟨x1, x2⟩ := q3 g
    obtain ⟨y1, y2⟩ := r3 g
    rw [g] at q2 r2
    clear q3 q4 r3 r4 g s0 s1 s2 s3 u0 u1 u2 u3
    go_wp2_with fail
    refine (Holds_any k s t u v _ L1).mono ?_
    rintro e w2 ⟨rfl, X⟩
    clear d0 d1 d2 d3 d4
    have B2 := below_on B1 X
    have T2 := T1.below X
    have L2 := L1.below X
    clear X B1 T1 L1
    have c := T2
    obtain ⟨d0, d1, d2, d3, d4⟩ := c
    go_wp2_with fail
    refine (Holds_any (inv k) u v s t _ L2).mono ?_
    rintro e w3 ⟨rfl, X⟩
    clear d0 d1 d2 d3 d4
    have B3 := below_on B2 X
    have T3 := T2.below X
    have L3 := L2.below X
    clear X B2 T2 L2
    have c := T3
    obtain ⟨d0, d1, d2, d3, d4⟩ := c
    go_wp2_with fail
    refine (Distance_any k s t u v _ L3).mono ?_
    rintro e w4 ⟨rfl, X⟩
    clear d0 d1 d2 d3 d4
    have B4 := below_on B3 X
    have T4 := T3.below X
    have L4 := L3.below X
    clear X B3 T3 L3
    have c := T4
    obtain ⟨d0, d1, d2, d3, d4⟩ := c
    go_wp2_with fail
    refine (Distance_any (inv k) u v s t _ L4).mono ?_
    rintro e w5 ⟨rfl, X⟩
    clear d0 d1 d2 d3 d4
    have B5 := below_on B4 X
    have T5 := T4.below X
    have L5 := L4.below X
    clear X B4 T4 L4
    have c := T5
    obtain ⟨d0, d1, d2, d3, d4⟩ := c
    go_wp2
    go_ret
    exact ⟨rfl, B5⟩
  | false =>
    obtain ⟨x1, x2⟩ := q4 g
    obtain ⟨y1, y2⟩ := r4 g
    rw [g] at q2 r2
    clear q3 q4 r3 r4 g s0 s1 s2 s3 u0 u1 u2 u3
    go_wp2_with fail
    refine (Holds_any k s t u v _ L1).mono ?_
    rintro e w2 ⟨rfl, X⟩
    clear d0 d1 d2 d3 d4
    have B2 := below_on B1 X
    have T2 := T1.below X
    have L2 := L1.below X
    clear X B1 T1 L1
    have c := T2
    obtain ⟨d0, d1, d2, d3, d4⟩ := c
    go_wp2_with fail
    refine (Holds_any (inv k) u v s t _ L2).mono ?_
    rintro e w3 ⟨rfl, X⟩
    clear d0 d1 d2 d3 d4
    have B3 := below_on B2 X
    have T3 := T2.below X
    have L3 := L2.below X
    clear X B2 T2 L2
    have c := T3
    obtain ⟨d0, d1, d2, d3, d4⟩ := c
    go_wp2_with fail
    refine (Distance_any k s t u v _ L3).mono ?_
    rintro e w4 ⟨rfl, X⟩
    clear d0 d1 d2 d3 d4
    have B4 := below_on B3 X
    have T4 := T3.below X
    have L4 := L3.below X
    clear X B3 T3 L3
    have c := T4
    obtain ⟨d0, d1, d2, d3, d4⟩ := c
    go_wp2_with fail
    refine (Distance_any (inv k) u v s t _ L4).mono ?_
    rintro e w5 ⟨rfl, X⟩
    clear d0 d1 d2 d3 d4
    have B5 := below_on B4 X
    have T5 := T4.below X
    have L5 := L4.below X
    clear X B4 T4 L4
    have c := T5
    obtain ⟨d0, d1, d2, d3, d4⟩ := c
    go_wp2
    go_ret
    exact ⟨rfl, B5⟩
end Go.Proofs.YtakimdbkkmafnabDoor
