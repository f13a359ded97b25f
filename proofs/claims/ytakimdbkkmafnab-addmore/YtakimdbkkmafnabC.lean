/-
  Contracts: what tick.Add, tick.Check, tick.CheckOption and the document's own OptionFault answer, at every argument; and the walks of three laws.
-/
import Derived.Test.YtakimdbkkmafnabRows
import Derived.Test.YtakimdbkkmafnabSpec
import Derived.Handy
import Derived.WalkSmall
namespace Go.Proofs.Ytakimdbkkmafnab
open Go.ChangeShapes Go.WideShapes Go.ChangeAt Go.RowKit
set_option linter.unusedVariables false
set_option linter.unusedSimpArgs false
/-- Behind a call that turned nothing old: all old cells and marks read as before. -/
theorem bcell {W w1 : World} (hb : Below W.heap.size W w1) : (∀ b o, b < W.heap.size → w1.cell? ⟨b, o, none⟩ = W.cell? ⟨b, o, none⟩) ∧ (∀ b o, b < W.heap.size → w1.frozen? ⟨b, o, none⟩ = W.frozen? ⟨b, o, none⟩) :=
  ⟨fun b o h => hb.cell (p := ⟨b, o, none⟩) h, fun b o h => hb.frozen (p := ⟨b, o, none⟩) h⟩
theorem below_on {a b c : World} (h : Below a.heap.size a b) (k : Below b.heap.size b c) : Below a.heap.size a c := h.trans (k.mono h.size)
theorem below_new (a : World) (o : Obj) : Below a.heap.size a (a.alloc o) := (Below.refl _ _).alloc (Nat.le_refl _) o
theorem tm_bd (n m : Int) (hn : n < 0) (hm : 0 < m) : 0 ≤ -((n + 1).tmod m) ∧ -((n + 1).tmod m) < m := by
  have e : -((n + 1).tmod m) = (-(n + 1)).tmod m := (Int.neg_tmod _ _).symm
  rw [e]
  exact ⟨Int.tmod_nonneg _ (by omega), Int.tmod_lt_of_pos _ hm⟩
set_option maxHeartbeats 1000000 in
theorem picked_any (n m : Int) (w : World) (hn1 : -9223372036854775808 ≤ n) (hn2 : n ≤ 9223372036854775807) (hm : 0 < m) (hm2 : m ≤ 1099511627776) :
    Calls Try.prog 8 #[.int .i64 n, .int .i64 m] w fun e w' => ∃ k : Int, e = .returned (.int .i64 k) ∧ 0 ≤ k ∧ k < m ∧ w' = w := by
  have hm0 : ¬ m = 0 := by omega
  by_cases h : 0 ≤ n
  · go_enter Try.func8, Try.ntmps8
    go_wp2
    go_ret
    exact ⟨_, rfl, Int.emod_nonneg n hm0, Int.emod_lt_of_pos n hm, rfl⟩
  · have h' : n < 0 := by omega
    go_enter Try.func8, Try.ntmps8
    go_wp2
    go_ret
    exact ⟨_, rfl, (tm_bd n m h' hm).1, (tm_bd n m h' hm).2, rfl⟩
set_option maxHeartbeats 1000000 in
/-- A span of raw numbers: from 0 to 59, at most 24 long. -/
theorem span_any (a n : Int) (w : World) (ha1 : -9223372036854775808 ≤ a) (ha2 : a ≤ 9223372036854775807) (hn1 : -9223372036854775808 ≤ n) (hn2 : n ≤ 9223372036854775807) :
    Calls Try.prog 10 #[.int .i64 a, .int .i64 n] w fun e w' => ∃ s t : Int, e = .returned (.agg #[.int .i64 s, .int .i64 t]) ∧ 0 ≤ s ∧ s < 60 ∧ s ≤ t ∧ t < s + 25 ∧ Below w.heap.size w w' := by
  go_enter Try.func10, Try.ntmps10
  go_wp2_with fail
  refine (picked_any a _ _ ha1 ha2 (by omega) (by omega)).mono ?_
  rintro e w1 ⟨s, rfl, hs0, hs1, rfl⟩
  go_wp2_with fail
  refine (picked_any n _ _ hn1 hn2 (by omega) (by omega)).mono ?_
  rintro e w2 ⟨k, rfl, hk0, hk1, rfl⟩
  go_wp2
  go_returns
  exact ⟨s, s + k, rfl, hs0, hs1, by omega, by omega, by go_grown⟩
theorem add_cases (t d : Int) : ¬ 0 ≤ t ∨ (0 ≤ t ∧ ¬ t ≤ 1099511627776) ∨ (0 ≤ t ∧ t ≤ 1099511627776 ∧ ¬ 0 ≤ d) ∨ (0 ≤ t ∧ t ≤ 1099511627776 ∧ 0 ≤ d ∧ t + d ≤ 1099511627776) ∨ (0 ≤ t ∧ t ≤ 1099511627776 ∧ 0 ≤ d ∧ ¬ t + d ≤ 1099511627776 ∧ d ≤ 1099511627776) ∨ (0 ≤ t ∧ t ≤ 1099511627776 ∧ 0 ≤ d ∧ ¬ t + d ≤ 1099511627776 ∧ ¬ d ≤ 1099511627776) := by omega
set_option maxHeartbeats 1000000 in
theorem add_any (t d : Int) (hd1 : -9223372036854775808 ≤ d) (hd2 : d ≤ 9223372036854775807) (w : World) :
    Calls Try.prog 9 #[.int .i64 t, .int .i64 d] w fun e w' => e = .returned (.tuple #[.int .i64 (addV t d), .int .i64 (addE t d)]) ∧ w' = w := by
  unfold addV addE
  rcases add_cases t d with h | ⟨h0, h⟩ | ⟨h0, h1, h⟩ | ⟨h0, h1, h2, h⟩ | ⟨h0, h1, h2, h3, h⟩ | ⟨h0, h1, h2, h3, h⟩
  all_goals
    simp only [*, true_and, false_and, and_true, and_false, if_true, if_false]
    go_enter Try.func9, Try.ntmps9
    go_wp2
    go_ret2
    exact ⟨rfl, rfl⟩
theorem add_ok (t d : Int) (w : World) (h0 : 0 ≤ t) (h1 : 0 ≤ d) (h2 : t + d ≤ 1099511627776) :
    Calls Try.prog 9 #[.int .i64 t, .int .i64 d] w fun e w' => e = .returned (.tuple #[.int .i64 (t + d), .int .i64 0]) ∧ w' = w := by
  have := add_any t d (by omega) (by omega) w
  rwa [show addV t d = t + d from if_pos (by omega), show addE t d = 0 from by unfold addE; rw [if_pos (by omega), if_pos h2]] at this
theorem add_over (t d : Int) (w : World) (h0 : 0 ≤ t) (h3 : t ≤ 1099511627776) (h1 : 0 ≤ d) (h4 : d ≤ 9223372036854775807) (h2 : 1099511627776 < t + d) :
    Calls Try.prog 9 #[.int .i64 t, .int .i64 d] w fun e w' => e = .returned (.tuple #[.int .i64 0, .int .i64 10]) ∧ w' = w := by
  have := add_any t d (by omega) (by omega) w
  rwa [show addV t d = 0 from if_neg (by omega), show addE t d = 10 from by unfold addE; rw [if_pos (by omega), if_neg (by omega)]] at this
theorem add_neg (t d : Int) (w : World) (h1 : d < 0) (h4 : -9223372036854775808 ≤ d) :
    Calls Try.prog 9 #[.int .i64 t, .int .i64 d] w fun e w' => e = .returned (.tuple #[.int .i64 0, .int .i64 2]) ∧ w' = w := by
  have := add_any t d (by omega) (by omega) w
  rwa [show addV t d = 0 from if_neg (by omega), show addE t d = 2 from by unfold addE; rw [if_neg (by omega)]] at this
theorem span_cases (s t : Int) : ¬ 0 ≤ s ∨ (0 ≤ s ∧ ¬ s ≤ 1099511627776) ∨ (0 ≤ s ∧ s ≤ 1099511627776 ∧ ¬ 0 ≤ t) ∨ (0 ≤ s ∧ s ≤ 1099511627776 ∧ 0 ≤ t ∧ ¬ t ≤ 1099511627776) ∨ (0 ≤ s ∧ s ≤ 1099511627776 ∧ 0 ≤ t ∧ t ≤ 1099511627776 ∧ s ≤ t) ∨ (0 ≤ s ∧ s ≤ 1099511627776 ∧ 0 ≤ t ∧ t ≤ 1099511627776 ∧ ¬ s ≤ t) := by omega
set_option maxHeartbeats 1000000 in
theorem check_any (s t : Int) (w : World) :
    Calls Try.prog 11 #[.agg #[.int .i64 s, .int .i64 t]] w fun e w' => e = .returned (.int .i64 (spanE s t)) ∧ Below w.heap.size w w' := by
  unfold spanE
  rcases span_cases s t with h | ⟨h0, h⟩ | ⟨h0, h1, h⟩ | ⟨h0, h1, h2, h⟩ | ⟨h0, h1, h2, h3, h⟩ | ⟨h0, h1, h2, h3, h⟩
  all_goals
    simp only [*, true_and, false_and, and_true, and_false, if_true, if_false]
    go_enter Try.func11, Try.ntmps11
    go_wp2
    go_ret
    exact ⟨rfl, by go_grown⟩
theorem check_ok (s t : Int) (w : World) (h0 : 0 ≤ s) (h1 : s ≤ t) (h2 : t ≤ 1099511627776) :
    Calls Try.prog 11 #[.agg #[.int .i64 s, .int .i64 t]] w fun e w' => e = .returned (.int .i64 0) ∧ Below w.heap.size w w' := by
  have := check_any s t w
  rwa [show spanE s t = 0 from by unfold spanE; rw [if_pos (by omega), if_pos h1]] at this
theorem check_order (s t : Int) (w : World) (h0 : 0 ≤ t) (h1 : t < s) (h2 : s ≤ 1099511627776) :
    Calls Try.prog 11 #[.agg #[.int .i64 s, .int .i64 t]] w fun e w' => e = .returned (.int .i64 11) ∧ Below w.heap.size w w' := by
  have := check_any s t w
  rwa [show spanE s t = 11 from by unfold spanE; rw [if_pos (by omega), if_neg (by omega)]] at this
theorem check_range (s t : Int) (w : World) (h0 : s < 0 ∨ 1099511627776 < t) :
    Calls Try.prog 11 #[.agg #[.int .i64 s, .int .i64 t]] w fun e w' => e = .returned (.int .i64 2) ∧ Below w.heap.size w w' := by
  have := check_any s t w
  rwa [show spanE s t = 2 from by unfold spanE; rw [if_neg (by omega)]] at this
theorem opt_cases (r l h : Int) : ¬ 1 ≤ r ∨ (1 ≤ r ∧ ¬ r ≤ 13) ∨ (1 ≤ r ∧ r ≤ 13 ∧ ¬ 0 ≤ l) ∨ (1 ≤ r ∧ r ≤ 13 ∧ 0 ≤ l ∧ ¬ l ≤ 1073741824) ∨ (1 ≤ r ∧ r ≤ 13 ∧ 0 ≤ l ∧ l ≤ 1073741824 ∧ ¬ -1 ≤ h) ∨ (1 ≤ r ∧ r ≤ 13 ∧ 0 ≤ l ∧ l ≤ 1073741824 ∧ -1 ≤ h ∧ ¬ h ≤ 1073741824)
    ∨ (1 ≤ r ∧ r ≤ 13 ∧ 0 ≤ l ∧ l ≤ 1073741824 ∧ h = -1) ∨ (1 ≤ r ∧ r ≤ 13 ∧ 0 ≤ l ∧ l ≤ 1073741824 ∧ 0 ≤ h ∧ h ≤ 1073741824 ∧ l ≤ h) ∨ (1 ≤ r ∧ r ≤ 13 ∧ 0 ≤ l ∧ l ≤ 1073741824 ∧ 0 ≤ h ∧ h ≤ 1073741824 ∧ ¬ l ≤ h) := by omega
set_option maxHeartbeats 1000000 in
theorem opt_any (r l h : Int) (w : World) :
    Calls Try.prog 6 #[.agg #[.int .i64 r, .int .i64 l, .int .i64 h]] w fun e w' => e = .returned (.int .i64 (optE r l h)) ∧ Below w.heap.size w w' := by
  rcases opt_cases r l h with h0 | ⟨h0, h1⟩ | ⟨h0, h1, h2⟩ | ⟨h0, h1, h2, h3⟩ | ⟨h0, h1, h2, h3, h4⟩ | ⟨h0, h1, h2, h3, h4, h5⟩ | ⟨h0, h1, h2, h3, h4⟩ | ⟨h0, h1, h2, h3, h4, h5, h6⟩ | ⟨h0, h1, h2, h3, h4, h5, h6⟩
  · rw [show optE r l h = 3 from by unfold optE; rw [if_neg (by omega)]]
    go_enter Try.func6, Try.ntmps6
    go_wp2
    go_ret
    exact ⟨rfl, by go_grown⟩
  · rw [show optE r l h = 3 from by unfold optE; rw [if_neg (by omega)]]
    go_enter Try.func6, Try.ntmps6
    go_wp2
    go_ret
    exact ⟨rfl, by go_grown⟩
  · rw [show optE r l h = 2 from by unfold optE; rw [if_pos (by omega), if_neg (by omega)]]
    go_enter Try.func6, Try.ntmps6
    go_wp2
    go_ret
    exact ⟨rfl, by go_grown⟩
  · rw [show optE r l h = 2 from by unfold optE; rw [if_pos (by omega), if_neg (by omega)]]
    go_enter Try.func6, Try.ntmps6
    go_wp2
    go_ret
    exact ⟨rfl, by go_grown⟩
  · rw [show optE r l h = 2 from by unfold optE; rw [if_pos (by omega), if_neg (by omega)]]
    go_enter Try.func6, Try.ntmps6
    go_wp2
    go_ret
    exact ⟨rfl, by go_grown⟩
  · rw [show optE r l h = 2 from by unfold optE; rw [if_pos (by omega), if_neg (by omega)]]
    go_enter Try.func6, Try.ntmps6
    go_wp2
    go_ret
    exact ⟨rfl, by go_grown⟩
  · rw [show optE r l h = 0 from by unfold optE; rw [if_pos (by omega), if_pos (by omega), if_neg (by omega)]]
    subst h4
    go_enter Try.func6, Try.ntmps6
    go_wp2
    go_ret
    exact ⟨rfl, by go_grown⟩
  · rw [show optE r l h = 0 from by unfold optE; rw [if_pos (by omega), if_pos (by omega), if_neg (by omega)]]
    have hn : (h != -1) = true := by simp; omega
    go_enter Try.func6, Try.ntmps6
    go_wp2
    go_ret
    exact ⟨rfl, by go_grown⟩
  · rw [show optE r l h = 11 from by unfold optE; rw [if_pos (by omega), if_pos (by omega), if_pos (by omega)]]
    have hn : (h != -1) = true := by simp; omega
    go_enter Try.func6, Try.ntmps6
    go_wp2
    go_ret
    exact ⟨rfl, by go_grown⟩
set_option maxHeartbeats 1000000 in
theorem optref_any (r l h : Int) (w : World) :
    Calls Try.prog 7 #[.agg #[.int .i64 r, .int .i64 l, .int .i64 h]] w fun e w' => e = .returned (.int .i64 (optE r l h)) ∧ Below w.heap.size w w' := by
  rcases opt_cases r l h with h0 | ⟨h0, h1⟩ | ⟨h0, h1, h2⟩ | ⟨h0, h1, h2, h3⟩ | ⟨h0, h1, h2, h3, h4⟩ | ⟨h0, h1, h2, h3, h4, h5⟩ | ⟨h0, h1, h2, h3, h4⟩ | ⟨h0, h1, h2, h3, h4, h5, h6⟩ | ⟨h0, h1, h2, h3, h4, h5, h6⟩
  · rw [show optE r l h = 3 from by unfold optE; rw [if_neg (by omega)]]
    go_enter Try.func7, Try.ntmps7
    go_wp2
    go_ret
    exact ⟨rfl, by go_grown⟩
  · rw [show optE r l h = 3 from by unfold optE; rw [if_neg (by omega)]]
    go_enter Try.func7, Try.ntmps7
    go_wp2
    go_ret
    exact ⟨rfl, by go_grown⟩
  · rw [show optE r l h = 2 from by unfold optE; rw [if_pos (by omega), if_neg (by omega)]]
    go_enter Try.func7, Try.ntmps7
    go_wp2
    go_ret
    exact ⟨rfl, by go_grown⟩
  · rw [show optE r l h = 2 from by unfold optE; rw [if_pos (by omega), if_neg (by omega)]]
    go_enter Try.func7, Try.ntmps7
    go_wp2
    go_ret
    exact ⟨rfl, by go_grown⟩
  · rw [show optE r l h = 2 from by unfold optE; rw [if_pos (by omega), if_neg (by omega)]]
    go_enter Try.func7, Try.ntmps7
    go_wp2
    go_ret
    exact ⟨rfl, by go_grown⟩
  · rw [show optE r l h = 2 from by unfold optE; rw [if_pos (by omega), if_neg (by omega)]]
    go_enter Try.func7, Try.ntmps7
    go_wp2
    go_ret
    exact ⟨rfl, by go_grown⟩
  · rw [show optE r l h = 0 from by unfold optE; rw [if_pos (by omega), if_pos (by omega), if_neg (by omega)]]
    subst h4
    go_enter Try.func7, Try.ntmps7
    go_wp2
    go_ret
    exact ⟨rfl, by go_grown⟩
  · rw [show optE r l h = 0 from by unfold optE; rw [if_pos (by omega), if_pos (by omega), if_neg (by omega)]]
    have hn : (h != -1) = true := by simp; omega
    go_enter Try.func7, Try.ntmps7
    go_wp2
    go_ret
    exact ⟨rfl, by go_grown⟩
  · rw [show optE r l h = 11 from by unfold optE; rw [if_pos (by omega), if_pos (by omega), if_pos (by omega)]]
    have hn : (h != -1) = true := by simp; omega
    go_enter Try.func7, Try.ntmps7
    go_wp2
    go_ret
    exact ⟨rfl, by go_grown⟩
set_option maxHeartbeats 1000000 in
theorem tickOptions_walk (r l h : Int) (w : World) :
    Calls Try.prog 3 #[.agg #[.int .i64 r, .int .i64 l, .int .i64 h]] w fun e w' => e = .returned (.bool true) ∧ Below w.heap.size w w' := by
  go_enter Try.func3, Try.ntmps3
  go_wp2_with (first
    | (go_at_call 6; refine (opt_any _ _ _ _).mono ?_; rintro e w1 ⟨rfl, hb⟩; obtain ⟨hc, hf⟩ := bcell hb)
    | (go_at_call 7; refine (optref_any _ _ _ _).mono ?_; rintro e w2 ⟨rfl, hb2⟩))
  go_ret
  exact ⟨rfl, below_on (below_on (below_new _ _) hb) hb2⟩
set_option maxHeartbeats 2000000 in
theorem addMore_walk (t a b : Int) (w : World) (ht1 : -9223372036854775808 ≤ t) (ht2 : t ≤ 9223372036854775807) (ha1 : -9223372036854775808 ≤ a) (ha2 : a ≤ 9223372036854775807) (hb1 : -9223372036854775808 ≤ b) (hb2 : b ≤ 9223372036854775807) :
    Calls Try.prog 4 #[.int .i64 t, .int .i64 a, .int .i64 b] w fun e w' => e = .returned (.bool true) ∧ Below w.heap.size w w' := by
  go_enter Try.func4, Try.ntmps4
  go_wp2_with fail
  refine (picked_any t _ _ ht1 ht2 (by omega) (by omega)).mono ?_
  rintro e w1 ⟨s, rfl, hs0, hs1, rfl⟩
  go_wp2_with fail
  refine (picked_any a _ _ ha1 ha2 (by omega) (by omega)).mono ?_
  rintro e w2 ⟨x, rfl, hx0, hx1, rfl⟩
  go_wp2_with fail
  refine (picked_any b _ _ hb1 hb2 (by omega) (by omega)).mono ?_
  rintro e w3 ⟨y, rfl, hy0, hy1, rfl⟩
  clear ht1 ht2 ha1 ha2 hb1 hb2
  rcases (by omega : s + x + y ≤ 1099511627776 ∨ (s + x ≤ 1099511627776 ∧ 1099511627776 < s + x + y) ∨ 1099511627776 < s + x) with h | ⟨h, h'⟩ | h
  · go_wp2_with fail
    refine (add_ok _ _ _ hs0 (by omega) (by omega)).mono ?_
    rintro e w4 ⟨rfl, rfl⟩
    go_wp2_with fail
    refine (add_ok _ _ _ hs0 (by omega) (by omega)).mono ?_
    rintro e w4 ⟨rfl, rfl⟩
    go_wp2_with fail
    refine (add_ok _ _ _ (by omega) (by omega) (by omega)).mono ?_
    rintro e w4 ⟨rfl, rfl⟩
    go_wp2_with fail
    refine (add_neg _ _ _ (by omega) (by omega)).mono ?_
    rintro e w4 ⟨rfl, rfl⟩
    go_wp2
    go_ret
    exact ⟨rfl, by go_grown⟩
  · have hd : decide (s + x + y ≤ 1099511627776) = false := by simp; omega
    go_wp2_with fail
    refine (add_over _ _ _ hs0 (by omega) (by omega) (by omega) (by omega)).mono ?_
    rintro e w4 ⟨rfl, rfl⟩
    go_wp2_with fail
    refine (add_ok _ _ _ hs0 (by omega) (by omega)).mono ?_
    rintro e w4 ⟨rfl, rfl⟩
    go_wp2_with fail
    refine (add_over _ _ _ (by omega) (by omega) (by omega) (by omega) (by omega)).mono ?_
    rintro e w4 ⟨rfl, rfl⟩
    go_wp2_with fail
    refine (add_neg _ _ _ (by omega) (by omega)).mono ?_
    rintro e w4 ⟨rfl, rfl⟩
    go_wp2
    go_ret
    exact ⟨rfl, by go_grown⟩
  · go_wp2_with fail
    refine (add_over _ _ _ hs0 (by omega) (by omega) (by omega) (by omega)).mono ?_
    rintro e w4 ⟨rfl, rfl⟩
    go_wp2_with fail
    refine (add_over _ _ _ hs0 (by omega) (by omega) (by omega) (by omega)).mono ?_
    rintro e w4 ⟨rfl, rfl⟩
    go_wp2
    go_ret
    exact ⟨rfl, by go_grown⟩
set_option maxHeartbeats 2000000 in
theorem spanBad_walk (a n : Int) (w : World) (ha1 : -9223372036854775808 ≤ a) (ha2 : a ≤ 9223372036854775807) (hn1 : -9223372036854775808 ≤ n) (hn2 : n ≤ 9223372036854775807) :
    Calls Try.prog 5 #[.int .i64 a, .int .i64 n] w fun e w' => e = .returned (.bool true) ∧ Below w.heap.size w w' := by
  go_enter Try.func5, Try.ntmps5
  go_wp2_with fail
  refine (span_any a n _ ha1 ha2 hn1 hn2).mono ?_
  rintro e w1 ⟨s, t, rfl, h1, h2, h3, h4, b1⟩
  clear ha1 ha2 hn1 hn2
  go_wp2_with fail
  refine (check_ok _ _ _ (by omega) (by omega) (by omega)).mono ?_
  rintro e w2 ⟨rfl, b2⟩
  obtain ⟨hc, hf⟩ := bcell b2
  go_wp2_with fail
  refine (check_order _ _ _ (by omega) (by omega) (by omega)).mono ?_
  rintro e w3 ⟨rfl, b3⟩
  clear hc hf
  go_wp2_with fail
  refine (check_range _ _ _ (by omega)).mono ?_
  rintro e w4 ⟨rfl, b4⟩
  go_wp2_with fail
  refine (check_range _ _ _ (by omega)).mono ?_
  rintro e w5 ⟨rfl, b5⟩
  go_wp2
  go_ret
  exact ⟨rfl, below_on (below_on (below_on (below_on (below_on b1 (below_new _ _)) b2) b3) b4) b5⟩
end Go.Proofs.Ytakimdbkkmafnab
