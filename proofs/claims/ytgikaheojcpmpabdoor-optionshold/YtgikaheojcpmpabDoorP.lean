/-
  Least ways in plain words: what is reckoned in place is what is reckoned at once; two rounds of the reference are enough.
-/
import Derived.Test.YtgikaheojcpmpabDoorA
namespace Go.Proofs.YtgikaheojcpmpabDoor
set_option linter.unusedVariables false
set_option linter.unusedSimpArgs false
abbrev Mx := Nat → Nat → Int
/-- Ways by the point t, all at once. -/
def stepF (Z : Mx) (t : Nat) : Mx := fun a b => if Z a t = 1152921504606846976 ∨ Z t b = 1152921504606846976 then Z a b else min (Z a b) (Z a t + Z t b)
def fw (m : Mx) : Nat → Mx
  | 0 => m
  | t + 1 => stepF (fw m t) t
/-- All bounds of n points lie within B, or are none. -/
def Bnd (n : Nat) (B : Int) (Z : Mx) : Prop := ∀ a b, a < n → b < n → Z a b = 1152921504606846976 ∨ (-B ≤ Z a b ∧ Z a b ≤ B)
theorem stepF_le (Z : Mx) (t a b : Nat) : stepF Z t a b ≤ Z a b := by unfold stepF; split <;> omega
theorem fw_mono (m : Mx) : ∀ {s t : Nat}, s ≤ t → ∀ a b, fw m t a b ≤ fw m s a b
  | s, 0, h, a, b => by obtain rfl : s = 0 := by omega
                        exact Int.le_refl _
  | s, t + 1, h, a, b => by
    by_cases c : s = t + 1
    · subst c; exact Int.le_refl _
    · exact Int.le_trans (stepF_le _ _ _ _) (fw_mono m (by omega) a b)
theorem stepF_bnd {n t : Nat} {B : Int} {Z : Mx} (h : Bnd n B Z) (ht : t < n) (hB : 0 ≤ B) : Bnd n (2 * B) (stepF Z t) := by
  intro a b ha hb
  have h1 := h a b ha hb
  have h2 := h a t ha ht
  have h3 := h t b ht hb
  unfold stepF
  split <;> omega
theorem fw_bnd {n : Nat} {B : Int} {m : Mx} (h : Bnd n B m) (hB : 0 ≤ B) : ∀ t, t ≤ n → Bnd n (2 ^ t * B) (fw m t)
  | 0, _ => by simpa [fw] using h
  | t + 1, ht => by
    have h1 := stepF_bnd (fw_bnd h hB t (by omega)) (by omega : t < n) (Int.mul_nonneg (Int.le_of_lt (Int.pow_pos (by decide))) hB)
    rw [← Int.mul_assoc, show (2 : Int) * 2 ^ t = 2 ^ (t + 1) by rw [Int.pow_succ, Int.mul_comm]] at h1
    exact h1
theorem Bnd.mono {n : Nat} {B B' : Int} {Z : Mx} (h : Bnd n B Z) (hB : B ≤ B') : Bnd n B' Z := fun a b ha hb => by
  have := h a b ha hb
  omega
theorem fw_small {n : Nat} {m : Mx} (hn : n ≤ 12) (h : Bnd n 2147483648 m) {t : Nat} (ht : t ≤ n) : Bnd n 8796093022208 (fw m t) := by
  refine (fw_bnd h (by decide) t ht).mono ?_
  have h1 : t ≤ 12 := by omega
  have h2 : (2 : Int) ^ t ≤ 2 ^ 12 := by
    have : ∀ s, s ≤ 12 → (2 : Int) ^ s ≤ 2 ^ 12 := by decide
    exact this t h1
  have h3 : (2 : Int) ^ t * 2147483648 ≤ 2 ^ 12 * 2147483648 := Int.mul_le_mul_of_nonneg_right h2 (by decide)
  exact Int.le_trans h3 (by decide)
theorem stepF_or (Z : Mx) (t a b : Nat) : stepF Z t a b = Z a b ∨ (Z a t ≠ 1152921504606846976 ∧ Z t b ≠ 1152921504606846976 ∧ stepF Z t a b = Z a t + Z t b) := by
  unfold stepF
  split
  · exact .inl rfl
  · rename_i h
    by_cases c : Z a b ≤ Z a t + Z t b
    · exact .inl (by omega)
    · exact .inr ⟨fun e => h (.inl e), fun e => h (.inr e), by omega⟩
theorem stepF_sum {Z : Mx} {t a b : Nat} (h1 : Z a t ≠ 1152921504606846976) (h2 : Z t b ≠ 1152921504606846976) : stepF Z t a b ≤ Z a t + Z t b := by
  unfold stepF
  rw [if_neg (by omega)]
  omega
/-- No bound is greater than two together, by points below t. -/
def Cls (n t : Nat) (Z : Mx) : Prop := ∀ i k j, i < n → k < t → j < n → Z i k ≠ 1152921504606846976 → Z k j ≠ 1152921504606846976 → Z i j ≤ Z i k + Z k j
theorem stepF_cls {n t : Nat} {Z : Mx} (ht : t < n) (hb : Bnd n 8796093022208 Z) (hd : Z t t = 0) (h : Cls n t Z) : Cls n (t + 1) (stepF Z t) := by
  intro i k j hi hk hj h1 h2
  have e1 : stepF Z t i t = Z i t := by
    have := hb i t hi ht
    unfold stepF; rw [hd]; split <;> omega
  have e2 : stepF Z t t j = Z t j := by
    have := hb t j ht hj
    unfold stepF; rw [hd]; split <;> omega
  by_cases c : k = t
  · subst c
    rw [e1] at h1 ⊢
    rw [e2] at h2 ⊢
    unfold stepF
    rw [if_neg (by omega)]
    omega
  · have hkt : k < t := by omega
    have hkn : k < n := by omega
    have u1 := stepF_le Z t i j
    have u2 := stepF_sum (Z := Z) (t := t) (a := i) (b := j)
    rcases stepF_or Z t i k with q1 | ⟨q1, q2, q3⟩ <;> rcases stepF_or Z t k j with p1 | ⟨p1, p2, p3⟩
    · rw [q1] at h1 ⊢
      rw [p1] at h2 ⊢
      have c1 := h i k j hi hkt hj h1 h2
      omega
    · rw [q1] at h1 ⊢
      rw [p3]
      have c3 := h i k t hi hkt ht h1 p1
      have b1 := hb i k hi hkn
      have b5 := hb k t hkn ht
      have := u2 (by omega) p2
      omega
    · rw [p1] at h2 ⊢
      rw [q3]
      have c2 := h t k j ht hkt hj q2 h2
      have b1 := hb k j hkn hj
      have b5 := hb t k ht hkn
      have := u2 q1 (by omega)
      omega
    · rw [q3, p3]
      have c4 := h t k t ht hkt ht q2 p1
      have := u2 q1 p2
      omega
/-- Till t the diagonal is 0. -/
def Gd (n t : Nat) (m : Mx) : Prop := ∀ s, s ≤ t → ∀ i, i < n → fw m s i i = 0
theorem fw_cls {n : Nat} {m : Mx} (hn : n ≤ 12) (hb : Bnd n 2147483648 m) : ∀ {t : Nat}, t ≤ n → Gd n t m → Cls n t (fw m t)
  | 0, _, _ => fun i k j _ hk => by omega
  | t + 1, ht, hg => stepF_cls (by omega) (fw_small hn hb (by omega)) (hg t (by omega) t (by omega)) (fw_cls hn hb (by omega) fun s hs => hg s (by omega))
/-- What is closed, and no greater than m, is no greater than what comes of m. -/
theorem cls_le {n : Nat} {m Q : Mx} (hn : n ≤ 12) (hb : Bnd n 2147483648 m) (hQ : Cls n n Q) (hm : ∀ a b, a < n → b < n → Q a b ≤ m a b) : ∀ t, t ≤ n → ∀ a b, a < n → b < n → Q a b ≤ fw m t a b
  | 0, _, a, b, ha, hb' => hm a b ha hb'
  | t + 1, ht, a, b, ha, hb' => by
    have i1 := cls_le hn hb hQ hm t (by omega) a b ha hb'
    have i2 := cls_le hn hb hQ hm t (by omega) a t ha (by omega)
    have i3 := cls_le hn hb hQ hm t (by omega) t b (by omega) hb'
    have b2 := fw_small hn hb (by omega : t ≤ n) a t ha (by omega)
    have b3 := fw_small hn hb (by omega : t ≤ n) t b (by omega) hb'
    have c := hQ a t b ha (by omega) hb'
    show Q a b ≤ stepF (fw m t) t a b
    unfold stepF
    split <;> omega
/-! ### The reference, in place -/
abbrev wr64 (x : Int) : Int := RowKit.wrap64 x
def stp (S : Mx × Bool) (i k j : Nat) : Mx × Bool :=
  if S.1 i k = 1152921504606846976 ∨ S.1 k j = 1152921504606846976 then S
  else if RowKit.wrap64 (S.1 i k + S.1 k j) < S.1 i j then (upd S.1 i j (RowKit.wrap64 (S.1 i k + S.1 k j)), true) else S
def pj (i k : Nat) : Nat → Mx × Bool → Mx × Bool
  | 0, S => S
  | j + 1, S => stp (pj i k j S) i k j
def pk (n i : Nat) : Nat → Mx × Bool → Mx × Bool
  | 0, S => S
  | k + 1, S => pj i k n (pk n i k S)
def pi' (n : Nat) : Nat → Mx × Bool → Mx × Bool
  | 0, S => S
  | i + 1, S => pk n i n (pi' n i S)
def rnd (n : Nat) (Q : Mx) : Mx × Bool := pi' n n (Q, false)
def ngd (n : Nat) (Q : Mx) : Prop := ∃ i, i < n ∧ Q i i < 0
theorem stp_le (S : Mx × Bool) (i k j a b : Nat) : (stp S i k j).1 a b ≤ S.1 a b := by
  unfold stp
  split
  · exact Int.le_refl _
  · split
    · rename_i h
      show upd S.1 i j _ a b ≤ S.1 a b
      unfold upd
      split
      · rename_i e; obtain ⟨rfl, rfl⟩ := e; exact Int.le_of_lt h
      · exact Int.le_refl _
    · exact Int.le_refl _
theorem pj_le (i k : Nat) (S : Mx × Bool) (a b : Nat) : ∀ j, (pj i k j S).1 a b ≤ S.1 a b
  | 0 => Int.le_refl _
  | j + 1 => Int.le_trans (stp_le _ _ _ _ _ _) (pj_le i k S a b j)
theorem pk_le (n i : Nat) (S : Mx × Bool) (a b : Nat) : ∀ k, (pk n i k S).1 a b ≤ S.1 a b
  | 0 => Int.le_refl _
  | k + 1 => Int.le_trans (pj_le _ _ _ _ _ _) (pk_le n i S a b k)
theorem pi_le (n : Nat) (S : Mx × Bool) (a b : Nat) : ∀ i, (pi' n i S).1 a b ≤ S.1 a b
  | 0 => Int.le_refl _
  | i + 1 => Int.le_trans (pk_le _ _ _ _ _ _) (pi_le n S a b i)
theorem rnd_le (n : Nat) (Q : Mx) (a b : Nat) : (rnd n Q).1 a b ≤ Q a b := pi_le n _ a b n
/-- A step leaves other rows alone. -/
theorem stp_other (S : Mx × Bool) {i k j a b : Nat} (h : a ≠ i) : (stp S i k j).1 a b = S.1 a b := by
  unfold stp
  split
  · rfl
  · split
    · show upd S.1 i j _ a b = _
      rw [upd, if_neg (fun c => h c.1)]
    · rfl
theorem pj_other {i k : Nat} {S : Mx × Bool} {a b : Nat} (h : a ≠ i) : ∀ j, (pj i k j S).1 a b = S.1 a b
  | 0 => rfl
  | j + 1 => (stp_other _ h).trans (pj_other h j)
theorem pk_other {n i : Nat} {S : Mx × Bool} {a b : Nat} (h : a ≠ i) : ∀ k, (pk n i k S).1 a b = S.1 a b
  | 0 => rfl
  | k + 1 => (pj_other h n).trans (pk_other h k)
theorem stp_col (S : Mx × Bool) {i k j a b : Nat} (h : b ≠ j) : (stp S i k j).1 a b = S.1 a b := by
  unfold stp
  split
  · rfl
  · split
    · show upd S.1 i j _ a b = _
      rw [upd, if_neg (fun c => h c.2)]
    · rfl
theorem wrap_id {x : Int} (h1 : -9223372036854775808 ≤ x) (h2 : x ≤ 9223372036854775807) : RowKit.wrap64 x = x := by unfold RowKit.wrap64; omega
theorem pj_mono (i k : Nat) (S : Mx × Bool) (a b : Nat) : ∀ {j j' : Nat}, j ≤ j' → (pj i k j' S).1 a b ≤ (pj i k j S).1 a b
  | j, 0, h => by obtain rfl : j = 0 := by omega
                  exact Int.le_refl _
  | j, j' + 1, h => by
    by_cases c : j = j' + 1
    · subst c; exact Int.le_refl _
    · exact Int.le_trans (stp_le _ _ _ _ _ _) (pj_mono i k S a b (by omega))
theorem pk_mono (n i : Nat) (S : Mx × Bool) (a b : Nat) : ∀ {k k' : Nat}, k ≤ k' → (pk n i k' S).1 a b ≤ (pk n i k S).1 a b
  | k, 0, h => by obtain rfl : k = 0 := by omega
                  exact Int.le_refl _
  | k, k' + 1, h => by
    by_cases c : k = k' + 1
    · subst c; exact Int.le_refl _
    · exact Int.le_trans (pj_le _ _ _ _ _ _) (pk_mono n i S a b (by omega))
theorem pi_mono (n : Nat) (S : Mx × Bool) (a b : Nat) : ∀ {i i' : Nat}, i ≤ i' → (pi' n i' S).1 a b ≤ (pi' n i S).1 a b
  | i, 0, h => by obtain rfl : i = 0 := by omega
                  exact Int.le_refl _
  | i, i' + 1, h => by
    by_cases c : i = i' + 1
    · subst c; exact Int.le_refl _
    · exact Int.le_trans (pk_le _ _ _ _ _ _) (pi_mono n S a b (by omega))
/-- All bounds are at most none. -/
def Tp (n : Nat) (Q : Mx) : Prop := ∀ a b, a < n → b < n → Q a b ≤ 1152921504606846976
/-- One step: the sum is a bound, if nothing is too small. -/
theorem stp_sum {S : Mx × Bool} {i k j : Nat} (h1 : S.1 i k < 1152921504606846976) (h2 : S.1 k j < 1152921504606846976) (l1 : -4611686018427387904 ≤ S.1 i k) (l2 : -4611686018427387904 ≤ S.1 k j) : (stp S i k j).1 i j ≤ S.1 i k + S.1 k j := by
  have e : RowKit.wrap64 (S.1 i k + S.1 k j) = S.1 i k + S.1 k j := wrap_id (by omega) (by omega)
  unfold stp
  rw [if_neg (by omega), e]
  split
  · show upd S.1 i j _ i j ≤ _
    rw [upd, if_pos ⟨rfl, rfl⟩]; exact Int.le_refl _
  · rename_i h
    show S.1 i j ≤ _
    omega
/-! ### Rows, and how small their bounds can be -/
def sumTo (m : Nat → Int) : Nat → Int
  | 0 => 0
  | k + 1 => sumTo m k + m k
theorem sumTo_mono {m : Nat → Int} (h : ∀ k, 0 ≤ m k) : ∀ {a b : Nat}, a ≤ b → sumTo m a ≤ sumTo m b
  | a, 0, hh => by obtain rfl : a = 0 := by omega
                   exact Int.le_refl _
  | a, b + 1, hh => by
    by_cases c : a = b + 1
    · subst c; exact Int.le_refl _
    · have h1 := sumTo_mono h (by omega : a ≤ b)
      have h2 := h b
      simp only [sumTo]
      omega
theorem sumTo_nonneg {m : Nat → Int} (h : ∀ k, 0 ≤ m k) (n : Nat) : 0 ≤ sumTo m n := sumTo_mono (a := 0) h (Nat.zero_le n)
theorem sumTo_one {m : Nat → Int} (h : ∀ k, 0 ≤ m k) {a n : Nat} (ha : a < n) : m a ≤ sumTo m n := by
  have h1 := sumTo_mono h (by omega : a + 1 ≤ n)
  have h2 := sumTo_nonneg h a
  simp only [sumTo] at h1
  omega
/-- No bound of row a is below -(m a). -/
def Low (n : Nat) (m : Nat → Int) (Q : Mx) : Prop := ∀ a b, a < n → b < n → -(m a) ≤ Q a b
theorem pj_low {n i k : Nat} {S : Mx × Bool} {R r : Int} (hi : i < n) (hk : k < n) (hik : i ≠ k) (hR : ∀ b, b < n → -R ≤ S.1 i b) (hr : ∀ b, b < n → -r ≤ S.1 k b) (hd : S.1 k k = 0) (hT : Tp n S.1) (h0 : 0 ≤ r) (hs : R + r ≤ 4611686018427387904) :
    ∀ j, j ≤ n → (∀ b, b < n → -(R + r) ≤ (pj i k j S).1 i b) ∧ (pj i k j S).1 i k = S.1 i k
  | 0, _ => ⟨fun b hb => by have := hR b hb; show -(R + r) ≤ S.1 i b; omega, rfl⟩
  | j + 1, hj => by
    obtain ⟨h1, h2⟩ := pj_low hi hk hik hR hr hd hT h0 hs j (by omega)
    have e1 : (pj i k j S).1 k j = S.1 k j := pj_other (fun c => hik c.symm) j
    have q1 := hR k hk
    have q2 := hr j (by omega)
    have q3 := hT i k hi hk
    have q4 := hT k j hk (by omega)
    constructor
    · intro b hb
      show -(R + r) ≤ (stp (pj i k j S) i k j).1 i b
      by_cases c : b = j
      · subst c
        unfold stp
        rw [h2, e1]
        split
        · exact h1 b hb
        · rw [wrap_id (by omega) (by omega)]
          split
          · show -(R + r) ≤ upd _ i b _ i b
            rw [upd, if_pos ⟨rfl, rfl⟩]; omega
          · exact h1 b hb
      · rw [stp_col _ c]; exact h1 b hb
    · show (stp (pj i k j S) i k j).1 i k = _
      by_cases c : k = j
      · subst c
        unfold stp
        rw [h2, e1, hd]
        split
        · exact h2
        · rw [Int.add_zero, wrap_id (by omega) (by omega)]
          rw [if_neg (by omega)]
          exact h2
      · rw [stp_col _ c]; exact h2
theorem pj_self {n i : Nat} {S : Mx × Bool} (hi : i < n) (hd : S.1 i i = 0) (hl : ∀ b, b < n → -4611686018427387904 ≤ S.1 i b) (hT : Tp n S.1) : ∀ j, j ≤ n → pj i i j S = S
  | 0, _ => rfl
  | j + 1, hj => by
    have h1 := pj_self hi hd hl hT j (by omega)
    have q1 := hl j (by omega)
    have q2 := hT i j hi (by omega)
    rw [pj, h1]
    unfold stp
    rw [hd]
    split
    · rfl
    · rw [Int.zero_add, wrap_id (by omega) (by omega), if_neg (by omega)]
theorem Tp.down {n : Nat} {Q P : Mx} (h : Tp n Q) (hp : ∀ a b, P a b ≤ Q a b) : Tp n P := fun a b ha hb => Int.le_trans (hp a b) (h a b ha hb)
/-- A row's pass. -/
theorem pk_low {n i : Nat} {S : Mx × Bool} {m : Nat → Int} (hi : i < n) (hm : ∀ k, 0 ≤ m k) (hL : Low n m S.1) (hT : Tp n S.1) (hd : ∀ a, a < n → S.1 a a = 0) (hs : 2 * sumTo m n ≤ 4611686018427387904) (hf : 0 ≤ (pk n i n S).1 i i) :
    ∀ k, k ≤ n → ∀ b, b < n → -(m i + sumTo m k) ≤ (pk n i k S).1 i b
  | 0, _, b, hb => by have := hL i b hi hb; show -(m i + 0) ≤ S.1 i b; omega
  | k + 1, hk, b, hb => by
    have ih := pk_low hi hm hL hT hd hs hf k (by omega)
    have t1 : Tp n (pk n i k S).1 := hT.down fun a b => pk_le n i S a b k
    have s1 := sumTo_mono hm (by omega : k + 1 ≤ n)
    have s2 := sumTo_one hm hi
    have s3 := sumTo_nonneg hm k
    have m1 := hm k
    have m2 := hm i
    simp only [sumTo] at s1 ⊢
    show _ ≤ (pj i k n (pk n i k S)).1 i b
    by_cases c : i = k
    · subst c
      have d1 : (pk n i i S).1 i i = 0 := by
        have h1 := pk_le n i S i i i
        have h2 := pk_mono n i S i i (by omega : i ≤ n)
        rw [hd i hi] at h1
        omega
      rw [pj_self hi d1 (fun b hb => by have := ih b hb; omega) t1 n (Nat.le_refl _)]
      have := ih b hb
      omega
    · have e : ∀ b, (pk n i k S).1 k b = S.1 k b := fun b => pk_other (fun h => c h.symm) k
      have := (pj_low (S := pk n i k S) (R := m i + sumTo m k) (r := m k) hi (by omega) c ih (fun b hb => by rw [e]; exact hL k b (by omega) hb) (by rw [e]; exact hd k (by omega)) t1 m1 (by omega) n (Nat.le_refl _)).1 b hb
      omega
theorem sumTo_upd (m : Nat → Int) (i : Nat) (x : Int) : ∀ n, sumTo (fun a => if a = i then x else m a) n = sumTo m n + (if i < n then x - m i else 0)
  | 0 => by simp [sumTo]
  | n + 1 => by
    simp only [sumTo]
    rw [sumTo_upd m i x n]
    by_cases c : n = i
    · subst c
      rw [if_neg (by omega), if_pos rfl, if_pos (by omega)]
      omega
    · rw [if_neg c]
      by_cases c2 : i < n
      · rw [if_pos c2, if_pos (by omega)]; omega
      · rw [if_neg c2, if_neg (by omega)]; omega
/-- All rows, up to i. -/
theorem pi_low {n : Nat} {S : Mx × Bool} {m : Nat → Int} (hm : ∀ k, 0 ≤ m k) (hL : Low n m S.1) (hT : Tp n S.1) (hd : ∀ a, a < n → S.1 a a = 0) (hs : 2 ^ n * sumTo m n ≤ 4611686018427387904) (hf : ∀ a, a < n → 0 ≤ (pi' n n S).1 a a) :
    ∀ i, i ≤ n → ∃ q : Nat → Int, (∀ k, 0 ≤ q k) ∧ Low n q (pi' n i S).1 ∧ sumTo q n ≤ 2 ^ i * sumTo m n
  | 0, _ => ⟨m, hm, hL, by simp⟩
  | i + 1, hi => by
    obtain ⟨q, h1, h2, h3⟩ := pi_low hm hL hT hd hs hf i (by omega)
    have p0 : 0 ≤ sumTo m n := sumTo_nonneg hm n
    have p1 : (2 : Int) ^ (i + 1) * sumTo m n ≤ 2 ^ n * sumTo m n := Int.mul_le_mul_of_nonneg_right (by exact_mod_cast Nat.pow_le_pow_right (by omega) (by omega)) p0
    have p2 : (2 : Int) ^ (i + 1) * sumTo m n = 2 * (2 ^ i * sumTo m n) := by rw [Int.pow_succ, Int.mul_comm (2 ^ i) 2, Int.mul_assoc]
    have t1 : Tp n (pi' n i S).1 := hT.down fun a b => pi_le n S a b i
    have d1 : ∀ a, a < n → (pi' n i S).1 a a = 0 := fun a ha => by
      have h1 := pi_le n S a a i
      have h2 := pi_mono n S a a (by omega : i ≤ n)
      have h3 := hf a ha
      rw [hd a ha] at h1
      omega
    have f1 : 0 ≤ (pk n i n (pi' n i S)).1 i i := Int.le_trans (hf i (by omega)) (pi_mono n S i i (by omega : i + 1 ≤ n))
    have r := pk_low (by omega : i < n) h1 h2 t1 d1 (by omega) f1 n (Nat.le_refl _)
    refine ⟨fun a => if a = i then q i + sumTo q n else q a, fun k => ?_, fun a b ha hb => ?_, ?_⟩
    · show 0 ≤ if k = i then _ else _
      have := h1 i
      have := sumTo_nonneg h1 n
      split
      · omega
      · exact h1 k
    · show -(if a = i then _ else _) ≤ (pk n i n (pi' n i S)).1 a b
      by_cases c : a = i
      · subst c; rw [if_pos rfl]; exact r b hb
      · rw [if_neg c, pk_other c n]; exact h2 a b ha hb
    · rw [sumTo_upd, if_pos (by omega), p2]
      omega
end Go.Proofs.YtgikaheojcpmpabDoor
