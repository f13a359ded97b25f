/-
  Two rounds of the reference are enough; what it finds.
-/
import Derived.Test.YtgikaheojcpmpabDoorP
namespace Go.Proofs.YtgikaheojcpmpabDoor
set_option linter.unusedVariables false
set_option linter.unusedSimpArgs false
/-- Nothing is too small in the end. -/
def Lo (n : Nat) (Q : Mx) : Prop := ∀ a b, a < n → b < n → -4611686018427387904 ≤ Q a b
/-- A row's pass goes as far as the ways by the points below. -/
theorem prog {n i K : Nat} {m : Mx} {S : Mx × Bool} (hn : n ≤ 12) (hb : Bnd n 2147483648 m) (hi : i < n) (hK : K ≤ n) (hlo : Lo n (pi' n n S).1) (hf : 0 ≤ (pi' n n S).1 i i) (hT : Tp n S.1)
    (hm : ∀ j, j < n → S.1 i j ≤ m i j) (hr : ∀ k, k < K → k ≠ i → ∀ j, j < n → (pi' n i S).1 k j ≤ fw m k k j) :
    ∀ k, k ≤ K → ∀ j, j < n → (pk n i k (pi' n i S)).1 i j ≤ fw m k i j
  | 0, _, j, hj => Int.le_trans (pi_le n S i j i) (hm j hj)
  | k + 1, hk, j, hj => by
    have ih := prog hn hb hi hK hlo hf hT hm hr k (by omega)
    have down : ∀ a b, (pi' n n S).1 a b ≤ (pk n i (k + 1) (pi' n i S)).1 a b := fun a b => Int.le_trans (pi_mono n S a b (by omega : i + 1 ≤ n)) (pk_mono n i _ a b (by omega : k + 1 ≤ n))
    have base : (pk n i (k + 1) (pi' n i S)).1 i j ≤ fw m k i j := Int.le_trans (pj_le _ _ _ _ _ _) (ih j hj)
    rcases stepF_or (fw m k) k i j with e | ⟨f1, f2, e⟩
    · show _ ≤ stepF (fw m k) k i j
      rw [e]; exact base
    · have b1 := fw_small hn hb (by omega : k ≤ n) i k hi (by omega)
      have b2 := fw_small hn hb (by omega : k ≤ n) k j (by omega) hj
      show _ ≤ stepF (fw m k) k i j
      rw [e]
      by_cases c : k = i
      · subst c
        have h1 := ih k hi
        have h2 := down k k
        have h3 : (pk n k (k + 1) (pi' n k S)).1 k k ≤ (pk n k k (pi' n k S)).1 k k := pj_le _ _ _ _ _ _
        omega
      · have u1 : (pj i k j (pk n i k (pi' n i S))).1 i k ≤ fw m k i k := Int.le_trans (pj_le _ _ _ _ _ _) (ih k (by omega))
        have u2 : (pj i k j (pk n i k (pi' n i S))).1 k j ≤ fw m k k j := by
          rw [pj_other c, pk_other c]; exact hr k (by omega) c j hj
        have d1 : ∀ a b, (pi' n n S).1 a b ≤ (pj i k j (pk n i k (pi' n i S))).1 a b := fun a b => Int.le_trans (down a b) (pj_mono i k _ a b (by omega : j ≤ n))
        have l1 := Int.le_trans (hlo i k hi (by omega)) (d1 i k)
        have l2 := Int.le_trans (hlo k j (by omega) hj) (d1 k j)
        have s := stp_sum (S := pj i k j (pk n i k (pi' n i S))) (i := i) (k := k) (j := j) (by omega) (by omega) l1 l2
        have s2 : (pk n i (k + 1) (pi' n i S)).1 i j ≤ (pj i k (j + 1) (pk n i k (pi' n i S))).1 i j := pj_mono i k _ i j (by omega : j + 1 ≤ n)
        have s3 : (pj i k (j + 1) (pk n i k (pi' n i S))).1 i j = (stp (pj i k j (pk n i k (pi' n i S))) i k j).1 i j := rfl
        omega
theorem round1 {n : Nat} {m : Mx} {S : Mx × Bool} (hn : n ≤ 12) (hb : Bnd n 2147483648 m) (hlo : Lo n (pi' n n S).1) (hf : ∀ a, a < n → 0 ≤ (pi' n n S).1 a a) (hT : Tp n S.1) (hm : ∀ i j, i < n → j < n → S.1 i j ≤ m i j) :
    ∀ N, N ≤ n → ∀ i, i < N → ∀ j, j < n → (pi' n N S).1 i j ≤ fw m i i j
  | 0, _, i, hi => by omega
  | N + 1, hN, i, hi => by
    have ih := round1 hn hb hlo hf hT hm N (by omega)
    by_cases c : i = N
    · subst c
      intro j hj
      exact Int.le_trans (pk_mono n i _ i j (by omega : i ≤ n)) (prog hn hb (by omega) (by omega : i ≤ n) hlo (hf i (by omega)) hT (fun j hj => hm i j (by omega) hj) (fun k hk _ j hj => ih k hk j hj) i (Nat.le_refl _) j hj)
    · intro j hj
      exact Int.le_trans (pi_mono n S i j (by omega : N ≤ N + 1)) (ih i (by omega) j hj)
theorem round2 {n : Nat} {m : Mx} {S : Mx × Bool} (hn : n ≤ 12) (hb : Bnd n 2147483648 m) (hlo : Lo n (pi' n n S).1) (hf : ∀ a, a < n → 0 ≤ (pi' n n S).1 a a) (hT : Tp n S.1) (hm : ∀ i j, i < n → j < n → S.1 i j ≤ m i j) (h1 : ∀ i, i < n → ∀ j, j < n → S.1 i j ≤ fw m i i j) :
    ∀ i, i < n → ∀ j, j < n → (pi' n n S).1 i j ≤ fw m n i j := fun i hi j hj =>
  Int.le_trans (pi_mono n S i j (by omega : i + 1 ≤ n)) (prog hn hb hi (Nat.le_refl n) hlo (hf i hi) hT (fun j hj => hm i j hi hj) (fun k hk _ j hj => Int.le_trans (pi_le n S k j i) (h1 k hk j hj)) n (Nat.le_refl _) j hj)
/-! ### Nothing has changed -/
def Still (Q : Mx) (i k j : Nat) : Prop := Q i k = 1152921504606846976 ∨ Q k j = 1152921504606846976 ∨ ¬ RowKit.wrap64 (Q i k + Q k j) < Q i j
theorem stp_still {S : Mx × Bool} {i k j : Nat} (h : (stp S i k j).2 = false) : stp S i k j = S ∧ Still S.1 i k j := by
  unfold stp at h ⊢
  unfold Still
  split at h
  · rename_i c
    rw [if_pos c]
    exact ⟨rfl, by rcases c with c | c; exact .inl c; exact .inr (.inl c)⟩
  · rename_i c
    rw [if_neg c]
    split at h
    · simp at h
    · rename_i c2
      rw [if_neg c2]
      exact ⟨rfl, .inr (.inr c2)⟩
theorem pj_still {i k : Nat} {S : Mx × Bool} : ∀ {j : Nat}, (pj i k j S).2 = false → pj i k j S = S ∧ ∀ b, b < j → Still S.1 i k b
  | 0, _ => ⟨rfl, fun b h => by omega⟩
  | j + 1, h => by
    obtain ⟨h1, h2⟩ := stp_still h
    rw [← h1] at h2
    have h3 : (pj i k j S).2 = false := by
      have : (stp (pj i k j S) i k j).2 = false := h
      rw [h1] at this; exact this
    obtain ⟨h4, h5⟩ := pj_still h3
    refine ⟨h1.trans h4, fun b hb => ?_⟩
    by_cases c : b = j
    · subst c
      rw [h1, h4] at h2; exact h2
    · exact h5 b (by omega)
theorem pk_still {n i : Nat} {S : Mx × Bool} : ∀ {k : Nat}, (pk n i k S).2 = false → pk n i k S = S ∧ ∀ a b, a < k → b < n → Still S.1 i a b
  | 0, _ => ⟨rfl, fun a b h => by omega⟩
  | k + 1, h => by
    obtain ⟨h1, h2⟩ := pj_still (S := pk n i k S) h
    have h3 : (pk n i k S).2 = false := by
      have : (pj i k n (pk n i k S)).2 = false := h
      rw [h1] at this; exact this
    obtain ⟨h4, h5⟩ := pk_still h3
    rw [h4] at h2
    refine ⟨h1.trans h4, fun a b ha hb => ?_⟩
    by_cases c : a = k
    · subst c; exact h2 b hb
    · exact h5 a b (by omega) hb
theorem pi_still {n : Nat} {S : Mx × Bool} : ∀ {i : Nat}, (pi' n i S).2 = false → pi' n i S = S ∧ ∀ a k b, a < i → k < n → b < n → Still S.1 a k b
  | 0, _ => ⟨rfl, fun a k b h => by omega⟩
  | i + 1, h => by
    obtain ⟨h1, h2⟩ := pk_still (S := pi' n i S) h
    have h3 : (pi' n i S).2 = false := by
      have : (pk n i n (pi' n i S)).2 = false := h
      rw [h1] at this; exact this
    obtain ⟨h4, h5⟩ := pi_still h3
    rw [h4] at h2
    refine ⟨h1.trans h4, fun a k b ha hk hb => ?_⟩
    by_cases c : a = i
    · subst c; exact h2 k b hk hb
    · exact h5 a k b (by omega) hk hb
theorem still_cls {n : Nat} {Q : Mx} (h : (rnd n Q).2 = false) (hlo : Lo n Q) (hT : Tp n Q) : (rnd n Q).1 = Q ∧ Cls n n Q := by
  obtain ⟨h1, h2⟩ := pi_still (S := (Q, false)) h
  refine ⟨congrArg Prod.fst h1, fun i k j hi hk hj f1 f2 => ?_⟩
  have l1 := hlo i k hi hk
  have l2 := hlo k j hk hj
  have t1 := hT i k hi hk
  have t2 := hT k j hk hj
  rcases h2 i k j hi hk hj with c | c | c
  · exact absurd c f1
  · exact absurd c f2
  · have c' : ¬ RowKit.wrap64 (Q i k + Q k j) < Q i j := c
    rw [wrap_id (by omega) (by omega)] at c'
    omega
/-! ### What is closed stays below -/
def Abv (n : Nat) (C Q : Mx) : Prop := ∀ a b, a < n → b < n → C a b ≤ Q a b
theorem stp_abv {n : Nat} {C : Mx} {S : Mx × Bool} {i k j : Nat} (hi : i < n) (hk : k < n) (hj : j < n) (hC : Cls n n C) (hb : Bnd n 8796093022208 C) (hT : Tp n S.1) (h : Abv n C S.1) : Abv n C (stp S i k j).1 := by
  intro a b ha hb'
  unfold stp
  split
  · exact h a b ha hb'
  · rename_i c
    split
    · show C a b ≤ upd S.1 i j _ a b
      unfold upd
      split
      · rename_i e
        obtain ⟨rfl, rfl⟩ := e
        have h1 := h a k hi hk
        have h2 := h k b hk hj
        have t1 := hT a k hi hk
        have t2 := hT k b hk hj
        have b1 := hb a k hi hk
        have b2 := hb k b hk hj
        rw [wrap_id (by omega) (by omega)]
        have := hC a k b hi hk hj (by omega) (by omega)
        omega
      · exact h a b ha hb'
    · exact h a b ha hb'
theorem rnd_abv {n : Nat} {C Q : Mx} (hC : Cls n n C) (hb : Bnd n 8796093022208 C) (hT : Tp n Q) (h : Abv n C Q) : Abv n C (rnd n Q).1 := by
  have s1 : ∀ i k (S : Mx × Bool), i < n → k < n → Tp n S.1 → Abv n C S.1 → ∀ j, j ≤ n → Abv n C (pj i k j S).1 := by
    intro i k S hi hk hT h j
    induction j with
    | zero => intro _; exact h
    | succ j ih => intro hj; exact stp_abv hi hk (by omega) hC hb (hT.down fun a b => pj_le _ _ _ _ _ _) (ih (by omega))
  have s2 : ∀ i (S : Mx × Bool), i < n → Tp n S.1 → Abv n C S.1 → ∀ k, k ≤ n → Abv n C (pk n i k S).1 := by
    intro i S hi hT h k
    induction k with
    | zero => intro _; exact h
    | succ k ih => intro hk; exact s1 i k _ hi (by omega) (hT.down fun a b => pk_le _ _ _ _ _ _) (ih (by omega)) n (Nat.le_refl _)
  have s3 : ∀ (S : Mx × Bool), Tp n S.1 → Abv n C S.1 → ∀ i, i ≤ n → Abv n C (pi' n i S).1 := by
    intro S hT h i
    induction i with
    | zero => intro _; exact h
    | succ i ih => intro hi; exact s2 i _ (by omega) (hT.down fun a b => pi_le _ _ _ _ _) (ih (by omega)) n (Nat.le_refl _)
  exact s3 (Q, false) hT h n (Nat.le_refl _)
/-! ### The whole -/
/-- Is one of the first i of the diagonal below 0? -/
def ngb (Q : Mx) : Nat → Bool
  | 0 => false
  | i + 1 => ngb Q i || decide (Q i i < 0)
theorem ngb_true {Q : Mx} : ∀ {n : Nat}, ngb Q n = true → ∃ i, i < n ∧ Q i i < 0
  | n + 1, h => by
    simp only [ngb, Bool.or_eq_true, decide_eq_true_eq] at h
    rcases h with h | h
    · obtain ⟨i, h1, h2⟩ := ngb_true h
      exact ⟨i, by omega, h2⟩
    · exact ⟨n, by omega, h⟩
theorem ngb_false {Q : Mx} : ∀ {n : Nat}, ngb Q n = false → ∀ i, i < n → 0 ≤ Q i i
  | n + 1, h, i, hi => by
    simp only [ngb, Bool.or_eq_false_iff, decide_eq_false_iff_not] at h
    by_cases c : i = n
    · subst c; omega
    · exact ngb_false h.1 i (by omega)
theorem ngb_of {Q : Mx} {n i : Nat} (hi : i < n) (h : Q i i < 0) : ngb Q n = true := by
  cases c : ngb Q n with
  | true => rfl
  | false => have := ngb_false c i hi; omega
theorem ngb_not {Q : Mx} {n : Nat} (h : ∀ i, i < n → 0 ≤ Q i i) : ngb Q n = false := by
  cases c : ngb Q n with
  | false => rfl
  | true => obtain ⟨i, h1, h2⟩ := ngb_true c; have := h i h1; omega
/-- What the reference finds, in so many rounds. -/
def tgt (n : Nat) : Nat → Mx → Option Mx
  | 0, Q => some Q
  | f + 1, Q => if ngb (rnd n Q).1 n = true then none else if (rnd n Q).2 = true then tgt n f (rnd n Q).1 else some (rnd n Q).1
theorem tgt_between {n : Nat} {C : Mx} (hC : Cls n n C) (hd : ∀ i, i < n → C i i = 0) (hb : Bnd n 8796093022208 C) : ∀ f Q, Tp n Q → Abv n C Q → ∃ R, tgt n f Q = some R ∧ Abv n C R ∧ ∀ a b, R a b ≤ Q a b
  | 0, Q, hT, h => ⟨Q, rfl, h, fun _ _ => Int.le_refl _⟩
  | f + 1, Q, hT, h => by
    have h1 := rnd_abv hC hb hT h
    have t1 : Tp n (rnd n Q).1 := hT.down fun a b => rnd_le n Q a b
    rw [tgt, if_neg (by rw [ngb_not fun i hi => by have := h1 i i hi hi; rw [hd i hi] at this; exact this]; decide)]
    split
    · obtain ⟨R, e, h2, h3⟩ := tgt_between hC hd hb f _ t1 h1
      exact ⟨R, e, h2, fun a b => Int.le_trans (h3 a b) (rnd_le n Q a b)⟩
    · exact ⟨_, rfl, h1, fun a b => rnd_le n Q a b⟩
theorem bnd_top {n : Nat} {B : Int} {m : Mx} (h : Bnd n B m) (hB : B ≤ 1152921504606846976) : Tp n m := fun a b ha hb => by have := h a b ha hb; omega
theorem abv_lo {n : Nat} {C Q : Mx} (hb : Bnd n 8796093022208 C) (h : Abv n C Q) : Lo n Q := fun a b ha hb' => by
  have := hb a b ha hb'
  have := h a b ha hb'
  omega
theorem tgt_good {n : Nat} {m : Mx} (hn : n ≤ 12) (hb : Bnd n 2147483648 m) (hg : Gd n n m) : ∃ R, tgt n (n + 1) m = some R ∧ ∀ a b, a < n → b < n → R a b = fw m n a b := by
  have hC := fw_cls hn hb (Nat.le_refl n) hg
  have hB := fw_small hn hb (Nat.le_refl n)
  have hd : ∀ i, i < n → fw m n i i = 0 := fun i hi => hg n (Nat.le_refl _) i hi
  have hT := bnd_top hb (by decide)
  have h0 : Abv n (fw m n) m := fun a b ha hb' => fw_mono m (Nat.zero_le n) a b
  rcases Nat.eq_zero_or_pos n with hz | hp
  · obtain ⟨R, e, _⟩ := tgt_between hC hd hB (n + 1) m hT h0
    exact ⟨R, e, fun a b ha => by omega⟩
  obtain ⟨f, rfl⟩ : ∃ f, n = f + 1 := ⟨n - 1, by omega⟩
  have a1 := rnd_abv hC hB hT h0
  have t1 : Tp (f + 1) (rnd (f + 1) m).1 := hT.down fun a b => rnd_le _ m a b
  have le1 : ∀ i j, i < f + 1 → j < f + 1 → (rnd (f + 1) m).1 i j ≤ m i j := fun i j _ _ => rnd_le _ m i j
  have pos1 : ∀ i, i < f + 1 → 0 ≤ (rnd (f + 1) m).1 i i := fun i hi => by have := a1 i i hi hi; rw [hd i hi] at this; exact this
  have r1 := round1 (S := (m, false)) hn hb (abv_lo hB a1) pos1 hT (fun _ _ _ _ => Int.le_refl _) (f + 1) (Nat.le_refl _)
  rw [tgt, if_neg (by rw [ngb_not pos1]; decide)]
  split
  · have a2 := rnd_abv hC hB t1 a1
    have pos2 : ∀ i, i < f + 1 → 0 ≤ (rnd (f + 1) (rnd (f + 1) m).1).1 i i := fun i hi => by have := a2 i i hi hi; rw [hd i hi] at this; exact this
    have r2 := round2 (S := ((rnd (f + 1) m).1, false)) hn hb (abv_lo hB a2) pos2 t1 le1 r1
    have t2 : Tp (f + 1) (rnd (f + 1) (rnd (f + 1) m).1).1 := t1.down fun a b => rnd_le _ _ a b
    rw [tgt, if_neg (by rw [ngb_not pos2]; decide)]
    split
    · obtain ⟨R, e, h2, h3⟩ := tgt_between hC hd hB f _ t2 a2
      refine ⟨R, e, fun a b ha hb' => ?_⟩
      have := h2 a b ha hb'
      have := h3 a b
      have : (rnd (f + 1) (rnd (f + 1) m).1).1 a b ≤ fw m (f + 1) a b := r2 a ha b hb'
      omega
    · refine ⟨_, rfl, fun a b ha hb' => ?_⟩
      have := a2 a b ha hb'
      have : (rnd (f + 1) (rnd (f + 1) m).1).1 a b ≤ fw m (f + 1) a b := r2 a ha b hb'
      omega
  · rename_i c
    have c' : (rnd (f + 1) m).2 = false := by simpa using c
    obtain ⟨e, hcl⟩ := still_cls c' (abv_lo hB h0) hT
    refine ⟨_, rfl, fun a b ha hb' => ?_⟩
    rw [e]
    have := cls_le hn hb hcl (fun _ _ _ _ => Int.le_refl _) (f + 1) (Nat.le_refl _) a b ha hb'
    have := h0 a b ha hb'
    omega
theorem sumTo_const (c : Int) : ∀ n : Nat, sumTo (fun _ => c) n = n * c
  | 0 => by simp [sumTo]
  | n + 1 => by
    rw [sumTo, sumTo_const c n, Int.natCast_add, Int.add_mul]
    simp
theorem pow_le12 {n : Nat} (hn : n ≤ 12) : (2 : Int) ^ n ≤ 4096 := by
  have : ∀ s, s ≤ 12 → (2 : Int) ^ s ≤ 4096 := by decide
  exact this n hn
theorem low_lo {n : Nat} {q : Nat → Int} {Q : Mx} (h0 : ∀ k, 0 ≤ q k) (h : Low n q Q) (hs : sumTo q n ≤ 4611686018427387904) : Lo n Q := fun a b ha hb => by
  have := h a b ha hb
  have := sumTo_one h0 ha
  omega
theorem tgt_bad {n : Nat} {m : Mx} (hn : n ≤ 12) (hb : Bnd n 2147483648 m) (hm : ∀ i, i < n → m i i = 0) (hg : ¬ Gd n n m) : tgt n (n + 1) m = none := by
  have hT := bnd_top hb (by decide)
  obtain ⟨x, hx, hneg⟩ : ∃ x, x < n ∧ fw m n x x < 0 := by
    by_cases c : ∃ x, x < n ∧ fw m n x x < 0
    · exact c
    · exfalso
      refine hg fun s hs i hi => ?_
      have h1 := fw_mono m hs i i
      have h2 := fw_mono m (Nat.zero_le s) i i
      have h3 : ¬ fw m n i i < 0 := fun h => c ⟨i, hi, h⟩
      have h4 : fw m 0 i i = 0 := hm i hi
      omega
  obtain ⟨f, rfl⟩ : ∃ f, n = f + 1 := ⟨n - 1, by omega⟩
  rw [tgt]
  split
  · rfl
  rename_i c1
  have pos1 := ngb_false (by simpa using c1)
  have hl0 : Low (f + 1) (fun _ => 2147483648) m := fun a b ha hb' => by have := hb a b ha hb'; show -(2147483648 : Int) ≤ m a b; omega
  have s0 : sumTo (fun _ => (2147483648 : Int)) (f + 1) ≤ 25769803776 := by
    rw [sumTo_const]
    have : ((f + 1 : Nat) : Int) ≤ 12 := by omega
    omega
  have s00 : 0 ≤ sumTo (fun _ => (2147483648 : Int)) (f + 1) := sumTo_nonneg (fun _ => by decide) _
  have p12 := pow_le12 hn
  have p0 : (0 : Int) ≤ 2 ^ (f + 1) := Int.le_of_lt (Int.pow_pos (by decide))
  have m1 : (2 : Int) ^ (f + 1) * sumTo (fun _ => (2147483648 : Int)) (f + 1) ≤ 4096 * 25769803776 := Int.le_trans (Int.mul_le_mul_of_nonneg_right p12 s00) (Int.mul_le_mul_of_nonneg_left s0 (by decide))
  obtain ⟨q, q0, ql, qs⟩ := pi_low (S := (m, false)) (m := fun _ => 2147483648) (fun _ => by decide) hl0 hT hm (Int.le_trans m1 (by decide)) pos1 (f + 1) (Nat.le_refl _)
  have qs' := Int.le_trans qs m1
  have lo1 : Lo (f + 1) (rnd (f + 1) m).1 := low_lo q0 ql (Int.le_trans qs' (by decide))
  have t1 : Tp (f + 1) (rnd (f + 1) m).1 := hT.down fun a b => rnd_le _ m a b
  have le1 : ∀ i j, i < f + 1 → j < f + 1 → (rnd (f + 1) m).1 i j ≤ m i j := fun i j _ _ => rnd_le _ m i j
  split
  · have d1 : ∀ a, a < f + 1 → (rnd (f + 1) m).1 a a = 0 := fun a ha => by
      have h1 := pos1 a ha
      have h2 := le1 a a ha ha
      rw [hm a ha] at h2
      omega
    rw [tgt]
    split
    · rfl
    rename_i c2
    exfalso
    have pos2 := ngb_false (by simpa using c2)
    have q00 := sumTo_nonneg q0 (f + 1)
    have m2 : (2 : Int) ^ (f + 1) * sumTo q (f + 1) ≤ 4096 * (4096 * 25769803776) := Int.le_trans (Int.mul_le_mul_of_nonneg_right p12 q00) (Int.mul_le_mul_of_nonneg_left qs' (by decide))
    obtain ⟨q2, q20, q2l, q2s⟩ := pi_low (S := ((rnd (f + 1) m).1, false)) (m := q) q0 ql t1 d1 (Int.le_trans m2 (by decide)) pos2 (f + 1) (Nat.le_refl _)
    have lo2 : Lo (f + 1) (rnd (f + 1) (rnd (f + 1) m).1).1 := low_lo q20 q2l (Int.le_trans (Int.le_trans q2s m2) (by decide))
    have r1 := round1 (S := (m, false)) hn hb lo1 pos1 hT (fun _ _ _ _ => Int.le_refl _) (f + 1) (Nat.le_refl _)
    have r2 := round2 (S := ((rnd (f + 1) m).1, false)) hn hb lo2 pos2 t1 le1 r1
    have h1 : (rnd (f + 1) (rnd (f + 1) m).1).1 x x ≤ fw m (f + 1) x x := r2 x hx x hx
    have h2 := pos2 x hx
    omega
  · rename_i c
    exfalso
    have c' : (rnd (f + 1) m).2 = false := by simpa using c
    have lo0 : Lo (f + 1) m := fun a b ha hb' => by have := hb a b ha hb'; omega
    obtain ⟨e, hcl⟩ := still_cls c' lo0 hT
    have h1 := cls_le hn hb hcl (fun _ _ _ _ => Int.le_refl _) (f + 1) (Nat.le_refl _) x x hx hx
    rw [hm x hx] at h1
    omega
end Go.Proofs.YtgikaheojcpmpabDoor
