/-
  What the laws share; plain facts of ArenaFull and ArenaAgain.
-/
import Derived.Test.YtchiajedajabnaaI
namespace Go.Proofs.Ytchiajedajabnaa
open Go.ChangeShapes Go.WideShapes Go.ChangeAt Go.RowKit Go.Maps
set_option linter.unusedVariables false
set_option linter.unusedSimpArgs false
def pk (n m : Int) : Int := if 0 ≤ n then n % m else -((n + 1).tmod m)
theorem pk_bd (n m : Int) (hm : 0 < m) : 0 ≤ pk n m ∧ pk n m < m := by
  unfold pk
  split
  · exact ⟨Int.emod_nonneg n (by omega), Int.emod_lt_of_pos n hm⟩
  · have e : -((n + 1).tmod m) = (-(n + 1)).tmod m := (Int.neg_tmod _ _).symm
    rw [e]
    exact ⟨Int.tmod_nonneg _ (by omega), Int.tmod_lt_of_pos _ hm⟩
set_option maxHeartbeats 1000000 in
theorem picked_any (n m : Int) (w : World) (hn1 : -9223372036854775808 ≤ n) (hn2 : n ≤ 9223372036854775807) (hm : 0 < m) (hm2 : m ≤ 1099511627776) :
    Calls Try.prog 12 #[.int .i64 n, .int .i64 m] w fun e w' => e = .returned (.int .i64 (pk n m)) ∧ w' = w := by
  have hm0 : ¬ m = 0 := by omega
  unfold pk
  by_cases h : 0 ≤ n
  · simp only [h, if_true]
    go_enter Try.func12, Try.ntmps12
    go_wp2
    go_ret
    exact ⟨rfl, rfl⟩
  · have h' : n < 0 := by omega
    simp only [h, if_false]
    go_enter Try.func12, Try.ntmps12
    go_wp2
    go_ret
    exact ⟨rfl, rfl⟩
theorem picked_const (n M : Int) (m : Nat) (hM : M = m) (hn : wfI n) (hm : 0 < m) (hm2 : m ≤ 1099511627776) : ∃ x : Nat, x < m ∧ ∀ W, Calls Try.prog 12 #[.int .i64 n, .int .i64 M] W fun e w' => e = .returned (.int .i64 x) ∧ w' = W := by
  subst hM
  have hb := pk_bd n m (by omega)
  obtain ⟨k, hk⟩ := Int.eq_ofNat_of_zero_le hb.1
  refine ⟨k, by omega, fun W => ?_⟩
  have := picked_any n m W hn.1 hn.2 (by omega) (by omega)
  rw [hk] at this
  exact this
theorem picked_nat (n M : Int) (m : Nat) (hM : M = m) (w : World) (hn : wfI n) (hm : 0 < m) (hm2 : m ≤ 1099511627776) :
    Calls Try.prog 12 #[.int .i64 n, .int .i64 M] w fun e w' => ∃ k : Nat, k < m ∧ e = .returned (.int .i64 k) ∧ w' = w := by
  obtain ⟨x, h1, h2⟩ := picked_const n M m hM hn hm hm2
  refine (h2 w).mono ?_
  rintro e w' ⟨rfl, rfl⟩
  exact ⟨x, h1, rfl, rfl⟩
theorem info37 : (Try.prog.info? 37).map (fun i => (i.zero, i.size, i.bytes)) = some (some (.agg #[.int .i64 0, .int .i64 0, .int .i64 0, .int .i64 0]), 4, 32) := by kernel_rfl
theorem flat4_snoc (ds : List Q4) (d : Q4) : (ds ++ [d]).flatMap enc4 = ds.flatMap enc4 ++ enc4 d := by simp
theorem FoundsAt.form {w : World} {v : Value} {fs : List Q4} (h : FoundsAt w v fs) (h0 : 0 < fs.length) : ∃ g cap, v = .slice (some ⟨g, 0, none⟩) fs.length cap ∧ ∀ j q, fs[j]? = some q → w.cell? ⟨g, j * 4, none⟩ = some (.int .i64 q.1) ∧ w.cell? ⟨g, j * 4 + 1, none⟩ = some (.int .i64 q.2.1) ∧ w.cell? ⟨g, j * 4 + 2, none⟩ = some (.int .i64 q.2.2.1) ∧ w.cell? ⟨g, j * 4 + 3, none⟩ = some (.int .i64 q.2.2.2) := by
  obtain ⟨p, cap, h1, h2⟩ := h
  obtain ⟨g, rfl, h4⟩ := h2 h0
  refine ⟨g, cap, h1, fun j q hq => ?_⟩
  obtain ⟨hj, rfl⟩ := List.getElem?_eq_some_iff.1 hq
  exact (h4 j hj).2
theorem grow_row {w wr w3 : World} {o : Obj} {u : Value} {n : Nat} {xs : List Value} (h : Below w.heap.size w wr) (hg : (wr.alloc o).grownBy w3 u.ownBlock) (hr : wr.ownsRow w.heap.size 37 4 u n xs) : Below w.heap.size w w3 := by
  have hs := h.size
  exact (h.alloc (by omega) o).grown hg (by simp; omega) (fun k hk => (hr.lt k hk).1)
theorem play_app (s : As) (l m : List Q4) : play s (l ++ m) = play s l ++ play (after s l) m := by
  induction l generalizing s with
  | nil => rfl
  | cons j r ih => simp [play, after, ih]
theorem after_app (s : As) (l m : List Q4) : after s (l ++ m) = after (after s l) m := by
  induction l generalizing s with
  | nil => rfl
  | cons j r ih => simp [after, ih]
/-! ### ArenaFull -/
def ones (k : Nat) : List Q4 := List.replicate k (1, 1, 0, 0)
theorem ones_succ (k : Nat) : ones (k + 1) = ones k ++ [(1, 1, 0, 0)] := by unfold ones; rw [List.replicate_succ']
theorem ones_len (k : Nat) : (ones k).length = k := by simp [ones]
theorem full_step (k : Nat) : step ⟨List.replicate (min k 120) (1, 1), []⟩ (1, 1, 0, 0) = (if 120 ≤ k then (8, 0, 0, 0) else (0, 0, (k : Int), 1), ⟨List.replicate (min (k + 1) 120) (1, 1), []⟩) := by
  by_cases h : 120 ≤ k
  · have e1 : min k 120 = 120 := by omega
    have e2 : min (k + 1) 120 = 120 := by omega
    simp [step, ln, As.live, h, e1, e2]
  · have e1 : min k 120 = k := by omega
    have e2 : min (k + 1) 120 = k + 1 := by omega
    have e3 : ¬ (120 : Int) ≤ (k : Int) := by omega
    simp [step, ln, As.live, h, e1, e2, e3, tk, tkAt, As.turn, List.replicate_succ']
theorem full_after (k : Nat) : after s0 (ones k) = ⟨List.replicate (min k 120) (1, 1), []⟩ := by
  induction k with
  | zero => rfl
  | succ k ih =>
    rw [ones_succ, after_app, ih]
    simp only [after, full_step]
theorem full_at (k i : Nat) (hi : i < k) (m : List Q4) : ∃ q : Q4, (play s0 (ones k ++ m))[i]? = some q ∧ (q.1 = 8 ∧ 120 ≤ i ∨ q.1 = 0 ∧ ¬ 120 ≤ i) := by
  have e : (ones k ++ m).take i = ones i := by
    rw [List.take_append_of_le_length (by rw [ones_len]; omega)]
    unfold ones; rw [List.take_replicate, Nat.min_eq_left (by omega)]
  have hl : i < (ones k ++ m).length := by rw [List.length_append, ones_len]; omega
  have e2 : (ones k ++ m)[i] = (1, 1, 0, 0) := by
    rw [List.getElem_append_left (by rw [ones_len]; omega)]; simp [ones]
  rw [play_at _ _ i hl, e, full_after, e2, full_step]
  refine ⟨_, rfl, ?_⟩
  by_cases h : 120 ≤ i
  · simp [h]
  · simp [h]
theorem full_end (k : Nat) : (play s0 (ones k ++ [(4, 0, 0, 0), (1, 0, 0, 0)]))[k]? = some (0, ((min k 120 : Nat) : Int), 0, 0) ∧ (play s0 (ones k ++ [(4, 0, 0, 0), (1, 0, 0, 0)]))[k + 1]? = some (2, 0, 0, 0) := by
  rw [play_app, full_after]
  have hl : (play s0 (ones k)).length = k := by rw [play_len, ones_len]
  rw [List.getElem?_append_right (by omega), List.getElem?_append_right (by omega), hl]
  simp [play, step, As.live, ln]
/-! ### ArenaAgain -/
def upto (k : Nat) : List Q4 := (List.range k).map fun (i : Nat) => (1, (i : Int) + 1, 0, 0)
theorem upto_succ (k : Nat) : upto (k + 1) = upto k ++ [(1, (k : Int) + 1, 0, 0)] := by simp [upto, List.range_succ]
theorem upto_len (k : Nat) : (upto k).length = k := by simp [upto]
def upto2 (k : Nat) : List (Int × Int) := (List.range k).map fun (i : Nat) => ((i : Int) + 1, 1)
theorem again_after (k : Nat) (hk : k ≤ 100) : after s0 (upto k) = ⟨upto2 k, []⟩ := by
  induction k with
  | zero => rfl
  | succ k ih =>
    have e1 : ¬ ((k : Int) + 1 < 1 ∨ 1048576 < (k : Int) + 1) := by omega
    have e2 : ¬ (120 : Int) ≤ (k : Int) := by omega
    rw [upto_succ, after_app, ih (by omega)]
    simp [after, step, ln, As.live, upto2, e1, e2, tk, tkAt, As.turn, List.range_succ]
theorem upto2_at (k p : Nat) (hp : p < k) : (upto2 k)[p]? = some ((p : Int) + 1, 1) := by simp [upto2, hp]
theorem again_end (k p : Nat) (hp : p < k) (hk : k ≤ 100) :
    play s0 (upto k ++ [(3, 0, (p : Int), 1), (2, 0, (p : Int), 1), (1, 99, 0, 0), (2, 0, (p : Int), 1)]) = play s0 (upto k) ++ [(0, (p : Int) + 1, 0, 0), (17, 0, 0, 0), (0, 0, (p : Int), 2), (17, 0, 0, 0)] := by
  rw [play_app, again_after k hk]
  congr 1
  have hl : (upto2 k).length = k := by simp [upto2]
  have hpl : p < (upto2 k).length := by omega
  have g := upto2_at k p hp
  have gs : ∀ x, ((upto2 k).set p x)[p]? = some x := fun x => List.getElem?_set_self hpl
  have c1 : chk ⟨upto2 k, []⟩ (p : Int) 1 = 0 := by
    have e1 : ¬ ((p : Int) < 0 ∨ (k : Int) ≤ (p : Int)) := by omega
    have e2 : ¬ (p : Int) + 1 = 0 := by omega
    simp [chk, As.turn, As.num, hl, e1, g, e2]
    all_goals omega
  have l1 : lk ⟨upto2 k, []⟩ (p : Int) 1 = (0, (p : Int) + 1, 0, 0) := by simp [lk, c1, As.num, g]
  have b1 : bk ⟨upto2 k, []⟩ (p : Int) 1 = ⟨(upto2 k).set p (0, 1), [p]⟩ := by simp [bk, c1, As.turn, g]
  have hl2 : p < ((upto2 k).set p (0, 1)).length := by simpa using hpl
  have c2 : chk ⟨(upto2 k).set p (0, 1), [p]⟩ (p : Int) 1 = 17 := by
    have e1 : ¬ ((p : Int) < 0 ∨ (k : Int) ≤ (p : Int)) := by omega
    simp [chk, As.turn, As.num, gs, hl, e1]
    all_goals omega
  have l2 : lk ⟨(upto2 k).set p (0, 1), [p]⟩ (p : Int) 1 = (17, 0, 0, 0) := by simp [lk, c2]
  have n1 : ln ⟨(upto2 k).set p (0, 1), [p]⟩ 99 = ((0, 0, (p : Int), 2), ⟨((upto2 k).set p (0, 1)).set p (99, 2), []⟩) := by
    have e2 : ¬ (120 : Int) ≤ (k : Int) - 1 := by omega
    simp [ln, As.live, hl, e2, tk, tkAt, As.turn, gs]
  have hl3 : p < (((upto2 k).set p (0, 1)).set p (99, 2)).length := by simpa using hpl
  have c3 : chk ⟨((upto2 k).set p (0, 1)).set p (99, 2), []⟩ (p : Int) 1 = 17 := by
    have e1 : ¬ ((p : Int) < 0 ∨ (k : Int) ≤ (p : Int)) := by omega
    have hl4 : p < (((upto2 k).set p (99, 2))).length := by simpa using hpl
    simp [chk, As.turn, As.num, gs, hl, e1]
    all_goals omega
  have l3 : lk ⟨((upto2 k).set p (0, 1)).set p (99, 2), []⟩ (p : Int) 1 = (17, 0, 0, 0) := by unfold lk; rw [c3]; rfl
  simp only [play, step, show ¬ ((3 : Int) = 1) by omega, show ¬ ((3 : Int) = 2) by omega, show ¬ ((2 : Int) = 1) by omega, if_true, if_false, l1, b1, l2, n1, l3]
end Go.Proofs.Ytchiajedajabnaa
