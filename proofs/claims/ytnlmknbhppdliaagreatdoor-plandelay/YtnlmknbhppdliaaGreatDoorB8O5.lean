/-
  Options that may be, and what each of them tells. Least ways in plain words: what is reckoned in place is what is reckoned at once; two rounds of the reference are enough. Two rounds of the reference are enough; what it finds. What matrices may be: by the program and by the reference. What matrices may be, by the reference; rows that are the same. Two matrices joined, bound by bound. Close, by the program and by the reference. The reference's rounds.
-/
import Derived.BigRegion
import Derived.Test.YtnlmknbhppdliaaGreatDoorB8O4
import Derived.Test.YtnlmknbhppdliaaGreatDoorB8A
set_option maxHeartbeats 64000000
namespace Go.Proofs.YtnlmknbhppdliaaGreatDoor.B8
open Go.ChangeShapes Go.WideShapes Go.ChangeAt Go.RowKit Go.Maps
set_option linter.unusedVariables false
set_option linter.unusedSimpArgs false
set_option maxRecDepth 20000
def optE (r l h : Int) : Int := if 1 ≤ r ∧ r ≤ 13 then (if 0 ≤ l ∧ l ≤ 1073741824 ∧ -1 ≤ h ∧ h ≤ 1073741824 then (if h ≠ -1 ∧ h < l then 11 else 0) else 2) else 3
theorem zGF {r l h : Int} (e : optE r l h = 0) : 1 ≤ r ∧ r ≤ 13 ∧ 0 ≤ l ∧ l ≤ 1073741824 ∧ (h = -1 ∨ (l ≤ h ∧ h ≤ 1073741824)) := by
 unfold optE at e
 split at e
 . split at e
   . split at e
     . simp at e
     . omega
   . simp at e
 . simp at e
theorem zJO       (r l h : Int) : ¬ 1 ≤ r ∨ (1 ≤ r ∧ ¬ r ≤ 13) ∨ (1 ≤ r ∧ r ≤ 13 ∧ ¬ 0 ≤ l) ∨ (1 ≤ r ∧ r ≤ 13 ∧ 0 ≤ l ∧ ¬ l ≤ 1073741824) ∨ (1 ≤ r ∧ r ≤ 13 ∧ 0 ≤ l ∧ l ≤ 1073741824 ∧ ¬ -1 ≤ h) ∨ (1 ≤ r ∧ r ≤ 13 ∧ 0 ≤ l ∧ l ≤ 1073741824 ∧ -1 ≤ h ∧ ¬ h ≤ 1073741824)
    ∨ (1 ≤ r ∧ r ≤ 13 ∧ 0 ≤ l ∧ l ≤ 1073741824 ∧ h = -1) ∨ (1 ≤ r ∧ r ≤ 13 ∧ 0 ≤ l ∧ l ≤ 1073741824 ∧ 0 ≤ h ∧ h ≤ 1073741824 ∧ l ≤ h) ∨ (1 ≤ r ∧ r ≤ 13 ∧ 0 ≤ l ∧ l ≤ 1073741824 ∧ 0 ≤ h ∧ h ≤ 1073741824 ∧ ¬ l ≤ h) := by omega
theorem opt_any (r l h : Int) (w : World) :
   Calls Tryz.prog 132 #[.agg #[.int .i64 r, .int .i64 l, .int .i64 h]] w fun e w' => e = .returned (.int .i64 (optE r l h)) ∧ Below w.heap.size w w' := by
 rcases zJO r l h with h0 | ⟨h0, h1⟩ | ⟨h0, h1, h2⟩ | ⟨h0, h1, h2, h3⟩ | ⟨h0, h1, h2, h3, h4⟩ | ⟨h0, h1, h2, h3, h4, h5⟩ | ⟨h0, h1, h2, h3, h4⟩ | ⟨h0, h1, h2, h3, h4, h5, h6⟩ | ⟨h0, h1, h2, h3, h4, h5, h6⟩
 . rw [show optE r l h = 3 from by unfold optE; rw [if_neg (by omega)]]
   go_enter Tryz.func132, Tryz.ntmps132
   go_wp2
   go_ret
   exact ⟨rfl, by go_grown⟩
 . rw [show optE r l h = 3 from by unfold optE; rw [if_neg (by omega)]]
   go_enter Tryz.func132, Tryz.ntmps132
   go_wp2
   go_ret
   exact ⟨rfl, by go_grown⟩
 . rw [show optE r l h = 2 from by unfold optE; rw [if_pos (by omega), if_neg (by omega)]]
   go_enter Tryz.func132, Tryz.ntmps132
   go_wp2
   go_ret
   exact ⟨rfl, by go_grown⟩
 . rw [show optE r l h = 2 from by unfold optE; rw [if_pos (by omega), if_neg (by omega)]]
   go_enter Tryz.func132, Tryz.ntmps132
   go_wp2
   go_ret
   exact ⟨rfl, by go_grown⟩
 . rw [show optE r l h = 2 from by unfold optE; rw [if_pos (by omega), if_neg (by omega)]]
   go_enter Tryz.func132, Tryz.ntmps132
   go_wp2
   go_ret
   exact ⟨rfl, by go_grown⟩
 . rw [show optE r l h = 2 from by unfold optE; rw [if_pos (by omega), if_neg (by omega)]]
   go_enter Tryz.func132, Tryz.ntmps132
   go_wp2
   go_ret
   exact ⟨rfl, by go_grown⟩
 . rw [show optE r l h = 0 from by unfold optE; rw [if_pos (by omega), if_pos (by omega), if_neg (by omega)]]
   subst h4
   go_enter Tryz.func132, Tryz.ntmps132
   go_wp2
   go_ret
   exact ⟨rfl, by go_grown⟩
 . rw [show optE r l h = 0 from by unfold optE; rw [if_pos (by omega), if_pos (by omega), if_neg (by omega)]]
   have hn : (h != -1) = true := by simp; omega
   go_enter Tryz.func132, Tryz.ntmps132
   go_wp2
   go_ret
   exact ⟨rfl, by go_grown⟩
 . rw [show optE r l h = 11 from by unfold optE; rw [if_pos (by omega), if_pos (by omega), if_pos (by omega)]]
   have hn : (h != -1) = true := by simp; omega
   go_enter Tryz.func132, Tryz.ntmps132
   go_wp2
   go_ret
   exact ⟨rfl, by go_grown⟩
def invN (k : Nat) : Nat := if k = 13 then 13 else if k % 2 = 1 then k + 1 else k - 1
def Tab (w : World) : Prop := 3 < w.heap.size ∧ ∀ k, 1 ≤ k → k ≤ 13 → w.cell? ⟨3, k, none⟩ = some (.int .i64 (invN k : Nat))
theorem Tab.later {w w' : World} (h : Tab w) (hb : Below w.heap.size w w') : Tab w' := ⟨Nat.lt_of_lt_of_le h.1 hb.size, fun k h1 h2 => (hb.cell (p := ⟨3, k, none⟩) h.1).trans (h.2 k h1 h2)⟩
def pmI : Nat → Nat := fun k => k
def pmS : Nat → Nat := fun k => (k + 2) % 4
def upv (r : Nat) : Nat := if r % 2 = 0 then r - 1 else r
def upm (r : Nat) : Nat → Nat := if r % 2 = 0 then pmS else pmI
theorem zBD : ∀ k, k < 4 → pmI k < 4 := fun k h => h
theorem zBE : ∀ k, k < 4 → pmS k < 4 := fun k h => Nat.mod_lt _ (by decide)
theorem zAR {r : Nat} {w : World} (h : Tab w) (h1 : 1 ≤ r) (h2 : r ≤ 13) (he : r % 2 = 0) : ∀ W, Below w.heap.size w W → Calls Tryz.prog 165 #[.int .i64 (r : Int)] W fun e w' => e = .returned (.tuple #[.int .i64 ((r - 1 : Nat) : Int), zBS (pmS 0 : Nat) (pmS 1 : Nat) (pmS 2 : Nat) (pmS 3 : Nat)]) ∧ Below W.heap.size W w' := fun W hW => by
  have hc := (h.later hW).2 r h1 h2
  rw [show invN r = r - 1 by unfold invN; rw [if_neg (by omega), if_neg (by omega)]] at hc
  exact zFX r (r - 1) W h1 h2 (h.later hW).1 hc (by omega)
theorem zAQ {r : Nat} {w : World} (h : Tab w) (h1 : 1 ≤ r) (h2 : r ≤ 13) (he : r % 2 = 1) : ∀ W, Below w.heap.size w W → Calls Tryz.prog 165 #[.int .i64 (r : Int)] W fun e w' => e = .returned (.tuple #[.int .i64 (r : Int), zBS (pmI 0 : Nat) (pmI 1 : Nat) (pmI 2 : Nat) (pmI 3 : Nat)]) ∧ Below W.heap.size W w' := fun W hW => by
  exact zHN r (invN r) W h1 h2 (h.later hW).1 ((h.later hW).2 r h1 h2) (by unfold invN; split <;> first | omega | (split <;> omega))
theorem told_any (r : Nat) (lo hi : Int) (w : World) (ht : Tab w) (h1 : 1 ≤ r) (h2 : r ≤ 13) (h3 : 0 ≤ lo) (h4 : lo ≤ 1073741824) :
   Calls Tryz.prog 148 #[.agg #[.int .i64 (r : Int), .int .i64 lo, .int .i64 hi]] w fun e w' => (∃ V, e = .returned V ∧ New w w' V 4 (fun _ => 4) (toldZ (upv r) (upm r) lo hi)) ∧ Below w.heap.size w w' := by
 rcases (by omega : r = 1 ∨ r = 2 ∨ r = 3 ∨ r = 4 ∨ r = 5 ∨ r = 6 ∨ r = 7 ∨ r = 8 ∨ r = 9 ∨ r = 10 ∨ r = 11 ∨ r = 12 ∨ r = 13) with rfl | rfl | rfl | rfl | rfl | rfl | rfl | rfl | rfl | rfl | rfl | rfl | rfl
 . by_cases c : hi = -1
   . exact zD0 1 lo hi pmI w (zAQ (r := 1) ht (by decide) (by decide) (by decide)) zBD h3 h4 c
   . exact zDS 1 lo hi pmI w (zAQ (r := 1) ht (by decide) (by decide) (by decide)) zBD h3 h4 c
 . by_cases c : hi = -1
   . exact zD0 2 lo hi pmS w (zAR (r := 2) ht (by decide) (by decide) (by decide)) zBE h3 h4 c
   . exact zDS 2 lo hi pmS w (zAR (r := 2) ht (by decide) (by decide) (by decide)) zBE h3 h4 c
 . by_cases c : hi = -1
   . exact zD7 3 lo hi pmI w (zAQ (r := 3) ht (by decide) (by decide) (by decide)) zBD h3 h4 c
   . exact zD2 3 lo hi pmI w (zAQ (r := 3) ht (by decide) (by decide) (by decide)) zBD h3 h4 c
 . by_cases c : hi = -1
   . exact zD7 4 lo hi pmS w (zAR (r := 4) ht (by decide) (by decide) (by decide)) zBE h3 h4 c
   . exact zD2 4 lo hi pmS w (zAR (r := 4) ht (by decide) (by decide) (by decide)) zBE h3 h4 c
 . by_cases c : hi = -1
   . exact zDV 5 lo hi pmI w (zAQ (r := 5) ht (by decide) (by decide) (by decide)) zBD h3 h4 c
   . exact zD5 5 lo hi pmI w (zAQ (r := 5) ht (by decide) (by decide) (by decide)) zBD h3 h4 c
 . by_cases c : hi = -1
   . exact zDV 6 lo hi pmS w (zAR (r := 6) ht (by decide) (by decide) (by decide)) zBE h3 h4 c
   . exact zD5 6 lo hi pmS w (zAR (r := 6) ht (by decide) (by decide) (by decide)) zBE h3 h4 c
 . by_cases c : hi = -1
   . exact zD6 7 lo hi pmI w (zAQ (r := 7) ht (by decide) (by decide) (by decide)) zBD h3 h4 c
   . exact zDO 7 lo hi pmI w (zAQ (r := 7) ht (by decide) (by decide) (by decide)) zBD h3 h4 c
 . by_cases c : hi = -1
   . exact zD6 8 lo hi pmS w (zAR (r := 8) ht (by decide) (by decide) (by decide)) zBE h3 h4 c
   . exact zDO 8 lo hi pmS w (zAR (r := 8) ht (by decide) (by decide) (by decide)) zBE h3 h4 c
 . by_cases c : hi = -1
   . exact zD4 9 lo hi pmI w (zAQ (r := 9) ht (by decide) (by decide) (by decide)) zBD h3 h4 c
   . exact zDR 9 lo hi pmI w (zAQ (r := 9) ht (by decide) (by decide) (by decide)) zBD h3 h4 c
 . by_cases c : hi = -1
   . exact zD4 10 lo hi pmS w (zAR (r := 10) ht (by decide) (by decide) (by decide)) zBE h3 h4 c
   . exact zDR 10 lo hi pmS w (zAR (r := 10) ht (by decide) (by decide) (by decide)) zBE h3 h4 c
 . by_cases c : hi = -1
   . exact zC0 11 lo hi pmI w (zAQ (r := 11) ht (by decide) (by decide) (by decide)) zBD h3 h4 c
   . exact zC7 11 lo hi pmI w (zAQ (r := 11) ht (by decide) (by decide) (by decide)) zBD h3 h4 c
 . by_cases c : hi = -1
   . exact zC0 12 lo hi pmS w (zAR (r := 12) ht (by decide) (by decide) (by decide)) zBE h3 h4 c
   . exact zC7 12 lo hi pmS w (zAR (r := 12) ht (by decide) (by decide) (by decide)) zBE h3 h4 c
 . by_cases c : hi = -1
   . exact zGJ 13 lo hi pmI w (zAQ (r := 13) ht (by decide) (by decide) (by decide)) zBD h3 h4 c
   . exact zGS 13 lo hi pmI w (zAQ (r := 13) ht (by decide) (by decide) (by decide)) zBD h3 h4 c
end Go.Proofs.YtnlmknbhppdliaaGreatDoor.B8
namespace Go.Proofs.YtnlmknbhppdliaaGreatDoor.B8
set_option linter.unusedVariables false
set_option linter.unusedSimpArgs false
set_option maxRecDepth 20000
abbrev Mx := Nat → Nat → Int
def zA3 (Z : Mx) (t : Nat) : Mx := fun a b => if Z a t = 1152921504606846976 ∨ Z t b = 1152921504606846976 then Z a b else min (Z a b) (Z a t + Z t b)
def fw (m : Mx) : Nat → Mx
  | 0 => m
  | t + 1 => zA3 (fw m t) t
def Bnd (n : Nat) (B : Int) (Z : Mx) : Prop := ∀ a b, a < n → b < n → Z a b = 1152921504606846976 ∨ (-B ≤ Z a b ∧ Z a b ≤ B)
theorem zGZ (Z : Mx) (t a b : Nat) : zA3 Z t a b ≤ Z a b := by unfold zA3; split <;> omega
theorem fw_mono (m : Mx) : ∀ {s t : Nat}, s ≤ t → ∀ a b, fw m t a b ≤ fw m s a b
  | s, 0, h, a, b => by obtain rfl : s = 0 := by omega
                        exact Int.le_refl _
  | s, t + 1, h, a, b => by
    by_cases c : s = t + 1
    . subst c; exact Int.le_refl _
    . exact Int.le_trans (zGZ _ _ _ _) (fw_mono m (by omega) a b)
theorem zJS {n t : Nat} {B : Int} {Z : Mx} (h : Bnd n B Z) (ht : t < n) (hB : 0 ≤ B) : Bnd n (2 * B) (zA3 Z t) := by
  intro a b ha hb
  have h1 := h a b ha hb
  have h2 := h a t ha ht
  have h3 := h t b ht hb
  unfold zA3
  split <;> omega
theorem fw_bnd {n : Nat} {B : Int} {m : Mx} (h : Bnd n B m) (hB : 0 ≤ B) : ∀ t, t ≤ n → Bnd n (2 ^ t * B) (fw m t)
 | 0, _ => by simpa [fw] using h
 | t + 1, ht => by
  have h1 := zJS (fw_bnd h hB t (by omega)) (by omega : t < n) (Int.mul_nonneg (Int.le_of_lt (Int.pow_pos (by decide))) hB)
  rw [← Int.mul_assoc, show (2 : Int) * 2 ^ t = 2 ^ (t + 1) by rw [Int.pow_succ, Int.mul_comm]] at h1
  exact h1
theorem Bnd.mono {n : Nat} {B B' : Int} {Z : Mx} (h : Bnd n B Z) (hB : B ≤ B') : Bnd n B' Z := fun a b ha hb => by
  have := h a b ha hb
  omega
theorem fw_small {n : Nat} {m : Mx} (hn : n ≤ 12) (h : Bnd n 2147483648 m) {t : Nat} (ht : t ≤ n) : Bnd n 8796093022208 (fw m t) := by
 refine (fw_bnd h (by decide) t ht).mono ?_
 have h1 : t ≤ 12 := by omega
 have h2 : (2 : Int) ^ t ≤ 2 ^ 12 := by
  have : ∀ s, s ≤ 12 → (2 : Int) ^ s ≤ 2 ^ 12 := by decide
  exact this t h1
 have h3 : (2 : Int) ^ t * 2147483648 ≤ 2 ^ 12 * 2147483648 := Int.mul_le_mul_of_nonneg_right h2 (by decide)
 exact Int.le_trans h3 (by decide)
theorem zHA (Z : Mx) (t a b : Nat) : zA3 Z t a b = Z a b ∨ (Z a t ≠ 1152921504606846976 ∧ Z t b ≠ 1152921504606846976 ∧ zA3 Z t a b = Z a t + Z t b) := by
 unfold zA3
 split
 . exact .inl rfl
 . rename_i h
   by_cases c : Z a b ≤ Z a t + Z t b
   . exact .inl (by omega)
   . exact .inr ⟨fun e => h (.inl e), fun e => h (.inr e), by omega⟩
theorem zIE {Z : Mx} {t a b : Nat} (h1 : Z a t ≠ 1152921504606846976) (h2 : Z t b ≠ 1152921504606846976) : zA3 Z t a b ≤ Z a t + Z t b := by
  unfold zA3
  rw [if_neg (by omega)]
  omega
def Cls (n t : Nat) (Z : Mx) : Prop := ∀ i k j, i < n → k < t → j < n → Z i k ≠ 1152921504606846976 → Z k j ≠ 1152921504606846976 → Z i j ≤ Z i k + Z k j
theorem zIP {n t : Nat} {Z : Mx} (ht : t < n) (hb : Bnd n 8796093022208 Z) (hd : Z t t = 0) (h : Cls n t Z) : Cls n (t + 1) (zA3 Z t) := by
 intro i k j hi hk hj h1 h2
 have e1 : zA3 Z t i t = Z i t := by
   have := hb i t hi ht
   unfold zA3; rw [hd]; split <;> omega
 have e2 : zA3 Z t t j = Z t j := by
   have := hb t j ht hj
   unfold zA3; rw [hd]; split <;> omega
 by_cases c : k = t
 . subst c
   rw [e1] at h1 ⊢
   rw [e2] at h2 ⊢
   unfold zA3
   rw [if_neg (by omega)]
   omega
 . have hkt : k < t := by omega
   have hkn : k < n := by omega
   have u1 := zGZ Z t i j
   have u2 := zIE (Z := Z) (t := t) (a := i) (b := j)
   rcases zHA Z t i k with q1 | ⟨q1, q2, q3⟩ <;> rcases zHA Z t k j with p1 | ⟨p1, p2, p3⟩
   . rw [q1] at h1 ⊢
     rw [p1] at h2 ⊢
     have c1 := h i k j hi hkt hj h1 h2
     omega
   . rw [q1] at h1 ⊢
     rw [p3]
     have c3 := h i k t hi hkt ht h1 p1
     have b1 := hb i k hi hkn
     have b5 := hb k t hkn ht
     have := u2 (by omega) p2
     omega
   . rw [p1] at h2 ⊢
     rw [q3]
     have c2 := h t k j ht hkt hj q2 h2
     have b1 := hb k j hkn hj
     have b5 := hb t k ht hkn
     have := u2 q1 (by omega)
     omega
   . rw [q3, p3]
     have c4 := h t k t ht hkt ht q2 p1
     have := u2 q1 p2
     omega
def Gd (n t : Nat) (m : Mx) : Prop := ∀ s, s ≤ t → ∀ i, i < n → fw m s i i = 0
theorem fw_cls {n : Nat} {m : Mx} (hn : n ≤ 12) (hb : Bnd n 2147483648 m) : ∀ {t : Nat}, t ≤ n → Gd n t m → Cls n t (fw m t)
  | 0, _, _ => fun i k j _ hk => by omega
  | t + 1, ht, hg => zIP (by omega) (fw_small hn hb (by omega)) (hg t (by omega) t (by omega)) (fw_cls hn hb (by omega) fun s hs => hg s (by omega))
theorem cls_le {n : Nat} {m Q : Mx} (hn : n ≤ 12) (hb : Bnd n 2147483648 m) (hQ : Cls n n Q) (hm : ∀ a b, a < n → b < n → Q a b ≤ m a b) : ∀ t, t ≤ n → ∀ a b, a < n → b < n → Q a b ≤ fw m t a b
 | 0, _, a, b, ha, hb' => hm a b ha hb'
 | t + 1, ht, a, b, ha, hb' => by
  have i1 := cls_le hn hb hQ hm t (by omega) a b ha hb'
  have i2 := cls_le hn hb hQ hm t (by omega) a t ha (by omega)
  have i3 := cls_le hn hb hQ hm t (by omega) t b (by omega) hb'
  have b2 := fw_small hn hb (by omega : t ≤ n) a t ha (by omega)
  have b3 := fw_small hn hb (by omega : t ≤ n) t b (by omega) hb'
  have c := hQ a t b ha (by omega) hb'
  show Q a b ≤ zA3 (fw m t) t a b
  unfold zA3
  split <;> omega
/-! ### The reference, in place -/
theorem wrap_id {x : Int} (h1 : -9223372036854775808 ≤ x) (h2 : x ≤ 9223372036854775807) : RowKit.wrap64 x = x := by unfold RowKit.wrap64; omega
/-! ### Rows, and how small their bounds can be -/
/-! ### Nothing has changed -/
/-! ### What is closed stays below -/
/-! ### The whole -/
def ngb (Q : Mx) : Nat → Bool
  | 0 => false
  | i + 1 => ngb Q i || decide (Q i i < 0)
theorem zE6 {Q : Mx} : ∀ {n : Nat}, ngb Q n = true → ∃ i, i < n ∧ Q i i < 0
 | n + 1, h => by
  simp only [ngb, Bool.or_eq_true, decide_eq_true_eq] at h
  rcases h with h | h
  . obtain ⟨i, h1, h2⟩ := zE6 h
    exact ⟨i, by omega, h2⟩
  . exact ⟨n, by omega, h⟩
theorem zCA {Q : Mx} : ∀ {n : Nat}, ngb Q n = false → ∀ i, i < n → 0 ≤ Q i i
 | n + 1, h, i, hi => by
  simp only [ngb, Bool.or_eq_false_iff, decide_eq_false_iff_not] at h
  by_cases c : i = n
  . subst c; omega
  . exact zCA h.1 i (by omega)
theorem ngb_of {Q : Mx} {n i : Nat} (hi : i < n) (h : Q i i < 0) : ngb Q n = true := by
  cases c : ngb Q n with
  | true => rfl
  | false => have := zCA c i hi; omega
theorem zJ4 {Q : Mx} {n : Nat} (h : ∀ i, i < n → 0 ≤ Q i i) : ngb Q n = false := by
  cases c : ngb Q n with
  | false => rfl
  | true => obtain ⟨i, h1, h2⟩ := zE6 c; have := h i h1; omega
end Go.Proofs.YtnlmknbhppdliaaGreatDoor.B8
namespace Go.Proofs.YtnlmknbhppdliaaGreatDoor.B8
open Go.ChangeShapes Go.WideShapes Go.ChangeAt Go.RowKit Go.Maps
set_option linter.unusedVariables false
set_option linter.unusedSimpArgs false
set_option maxRecDepth 20000
theorem zD1 (v : Value) (l : Nat) (z : Nat → Int) (most : Int) (w : World) (h : RowAt w v l z) (h1 : 0 ≤ most) (h2 : most ≤ 4611686018427387904) :
  Calls Tryz.prog 151 #[v, .int .i64 most] w fun e w' => e = .returned (.bool (wth most z l)) ∧ Below w.heap.size w w' := by
 obtain ⟨p, cap, rfl, hl, hc, hp⟩ := h
 have hmx : (l : Int) ≤ 9223372036854775807 := by unfold maxLen at hc; omega
 have HP : Hid (0 < l → ∃ g off, p = some ⟨g, off, none⟩ ∧ ∀ k, k < l → w.cell? ⟨g, off + k, none⟩ = some (.int .i64 (z k))) := hp
 have hneg : IntKind.i64.wrap (-most) = -most := by go_unwrap
 clear hp hl hc
 go_enter Tryz.func151, Tryz.ntmps151
 go_wp2_with fail
 go_loopw [9] (fun i wr => ∃ k : Nat, k ≤ l ∧ i = .int .i64 (k : Nat) ∧ (∀ j, j < k → inb most (z j)) ∧ Below w.heap.size w wr) (fun i _ => l + 1 - (intOf i).toNat)
 case atStart => exact ⟨0, by omega, rfl, fun j h => by omega, Below.refl _ _⟩
 case round =>
  obtain ⟨k, hk, rfl, hf, hBr⟩ := hrel
  have HF : Hid (∀ j, j < k → inb most (z j)) := hf
  have HBR : Hid (Below w.heap.size w wr) := hBr
  clear hf
  by_cases hlt : k < l
  . obtain ⟨g, off, rfl, hrd⟩ := HP.out (by omega)
    have a0 := (hBr.cell (p := ⟨g, off + k, none⟩) (World.block_lt_of_cell? _ _ (hrd k hlt))).trans (hrd k hlt)
    have i1 : (0 : Int) ≤ (k : Int) := by omega
    have i2 : (k : Int) < (l : Int) := by omega
    by_cases hq : inb most (z k)
    . have HNY : Hid (∀ j, j < k + 1 → inb most (z j)) := fun j hj => by
        by_cases c : j = k
        . subst c; exact hq
        . exact HF.out j (by omega)
      obtain ⟨x, hx⟩ : ∃ x, z k = x := ⟨_, rfl⟩
      rw [hx] at a0 hq
      clear hrd hBr hx
      rcases hq with hq | ⟨q1, q2⟩
      . subst hq
        go_wp2_with fail
        go_roundw
        case rel => exact ⟨k + 1, by omega, by go_num, HNY.out, HBR.out⟩
        case measure => simp [intOf]; omega
      . by_cases c : x = 1152921504606846976
        . subst c
          go_wp2_with fail
          go_roundw
          case rel => exact ⟨k + 1, by omega, by go_num, HNY.out, HBR.out⟩
          case measure => simp [intOf]; omega
        . go_wp2_with fail
          go_roundw
          case rel => exact ⟨k + 1, by omega, by go_num, HNY.out, HBR.out⟩
          case measure => simp [intOf]; omega
    . have HRS : Hid (wth most z l = false) := wth_not hlt hq
      obtain ⟨x, hx⟩ : ∃ x, z k = x := ⟨_, rfl⟩
      rw [hx] at a0 hq
      clear hrd hBr hx
      unfold inb at hq
      have c : ¬ x = 1152921504606846976 := fun c => hq (.inl c)
      rcases (by omega : x < -most ∨ most < x) with q | q
      . clear hq
        go_wp2_with fail
        go_ret
        rw [HRS.out]
        exact ⟨rfl, HBR.out⟩
      . have q3 : ¬ x < -most := by omega
        clear hq
        go_wp2_with fail
        go_ret
        rw [HRS.out]
        exact ⟨rfl, HBR.out⟩
  . obtain rfl : k = l := by omega
    have HRS : Hid (wth most z k = true) := zFF HF.out
    clear hBr
    go_wp2_with fail
    go_ret
    rw [HRS.out]
    exact ⟨rfl, HBR.out⟩
theorem check_any (v : Value) (n : Nat) (L : Nat → Nat) (Z : Nat → Nat → Int) (w : World) (h : zA5 w v n L Z) :
   Calls Tryz.prog 150 #[v] w fun e w' => e = .returned (.int .i64 (chk n L Z)) ∧ Below w.heap.size w w' := by
 have HM : Hid (zA5 w v n L Z) := h
 obtain ⟨p, cap, rfl, hl, hc, hp⟩ := h
 have hmx : (n : Int) ≤ 9223372036854775807 := by unfold maxLen at hc; omega
 have HP : Hid (0 < n → ∃ g off, p = some ⟨g, off, none⟩ ∧ ∀ i, i < n → ∃ u, w.cell? ⟨g, off + i, none⟩ = some u ∧ RowAt w u (L i) (Z i)) := hp
 clear hp hl hc
 by_cases h12 : 12 < n
 . have HR : Hid (chk n L Z = 1) := by unfold chk Hid; rw [if_pos h12]
   have q : (12 : Int) < (n : Int) := by omega
   go_enter Tryz.func150, Tryz.ntmps150
   go_wp2_with fail
   go_ret
   rw [HR.out]
   exact ⟨rfl, Below.refl _ _⟩
 have HR : Hid (chk n L Z = chR n L Z n) := by unfold chk Hid; rw [if_neg h12]
 have q : ¬ (12 : Int) < (n : Int) := by omega
 go_enter Tryz.func150, Tryz.ntmps150
 go_wp2_with fail
 go_loopw [10] (fun i wr => ∃ k : Nat, k ≤ n ∧ i = .int .i64 (k : Nat) ∧ chR n L Z k = 0 ∧ Below w.heap.size w wr) (fun i _ => n + 1 - (intOf i).toNat)
 case atStart => exact ⟨0, by omega, rfl, rfl, Below.refl _ _⟩
 case round =>
   obtain ⟨k, hk, rfl, hf, hBr⟩ := hrel
   have HF : Hid (chR n L Z k = 0) := hf
   have HBR : Hid (Below w.heap.size w wr) := hBr
   clear hf
   by_cases hlt : k < n
   . obtain ⟨g, off, rfl, hrd⟩ := HP.out (by omega)
     obtain ⟨u, hu, hr⟩ := hrd k hlt
     have a0 := (hBr.cell (p := ⟨g, off + k, none⟩) (World.block_lt_of_cell? _ _ hu)).trans hu
     have HRW : Hid (RowAt wr u (L k) (Z k)) := hr.later hBr
     have HS : chR n L Z (k + 1) = if L k ≠ n then 4 else if wth 35184372088832 (Z k) (L k) = true then 0 else 2 := by
       rw [chR, HF.out, if_neg (by decide)]
     obtain ⟨q0, c0, rfl, hl0, hc0, _⟩ := hr
     have i1 : (0 : Int) ≤ (k : Int) := by omega
     have i2 : (k : Int) < (n : Int) := by omega
     have HUP : Hid (∀ x, chR n L Z (k + 1) = x → x ≠ 0 → chk n L Z = x) := fun x hx h0 => by
       rw [HR.out, chR_up (by rw [hx]; exact h0) n (by omega), hx]
     obtain ⟨m, hm⟩ : ∃ m, L k = m := ⟨_, rfl⟩
     rw [hm] at HRW HS a0
     clear hrd hBr hm hu hl0 hc0
     by_cases hq : m = n
     . obtain ⟨b, hb⟩ : ∃ b, wth 35184372088832 (Z k) m = b := ⟨_, rfl⟩
       have HBB : Hid (wth 35184372088832 (Z k) m = b) := hb
       rw [hb] at HS
       have HS2 : Hid (chR n L Z (k + 1) = if ¬ m = n then 4 else if b = true then 0 else 2) := HS
       have hmn : Hid (m = n) := hq
       have d : ((m : Int) != (n : Int)) = false := by rw [hq]; simp
       clear hb HS hq
       have HC := zD1 (.slice q0 m c0) m (Z k) 35184372088832 wr HRW.out (by decide) (by decide)
       rw [HBB.out] at HC
       have HCC : Hid (Calls Tryz.prog 151 #[.slice q0 m c0, .int .i64 35184372088832] wr fun e w' => e = .returned (.bool b) ∧ Below wr.heap.size wr w') := HC
       clear HC
       go_wp2_with fail
       refine HCC.out.mono ?_
       rintro e w2 ⟨rfl, hB⟩
       have HB2 : Hid (Below w.heap.size w w2) := zAZ HBR.out hB (Nat.le_refl _)
       clear hB
       cases b
       . go_wp2_with fail
         go_ret
         rw [HUP.out 2 (by rw [HS2.out, if_neg (by simp [hmn.out])]; rfl) (by decide)]
         exact ⟨rfl, HB2.out⟩
       . go_wp2_with fail
         go_roundw
         case rel => exact ⟨k + 1, by omega, by go_num, by rw [HS2.out, if_neg (by simp [hmn.out])]; rfl, HB2.out⟩
         case measure => simp [intOf]; omega
     . rw [if_pos hq] at HS
       have HRS : Hid (chk n L Z = 4) := HUP.out 4 HS (by decide)
       have d : ((m : Int) != (n : Int)) = true := by simp; omega
       clear HS
       go_wp2_with fail
       go_ret
       rw [HRS.out]
       exact ⟨rfl, HBR.out⟩
   . obtain rfl : k = n := by omega
     clear hBr
     go_wp2_with fail
     go_ret
     rw [HR.out, HF.out]
     exact ⟨rfl, HBR.out⟩
theorem zE7 (x y : Int) (w : World) : Calls Tryz.prog 121 #[.int .i64 x, .int .i64 y] w fun e w' => e = .returned (.int .i64 (x)) ∧ w' = w := by
 go_enter Tryz.func121, Tryz.ntmps121
 go_wp2
 all_goals
  go_ret
  exact ⟨by first | rfl | (simp; omega), rfl⟩
theorem zE0 (a b : Value) (n : Nat) (L M : Nat → Nat) (X Y : Nat → Nat → Int) (w : World) (ha : zA5 w a n L X) (hb : zA5 w b n M Y) (hL : ∀ i, i < n → L i = n) (hM : ∀ i, i < n → M i = n) (hn : n ≤ 12) :
  Calls Tryz.prog 120 #[a, b, .func (.func 121) #[] #[]] w fun e w' => (∃ V, e = .returned V ∧ New w w' V n (fun _ => n) (fun i k => (fun x y : Int => x) (X i k) (Y i k))) ∧ Below w.heap.size w w' := by
 have HA := hid ha
 have HBB := hid hb
 obtain ⟨p, cap, rfl, _, _, hp⟩ := ha
 obtain ⟨q, cap2, rfl, _, _, hq⟩ := hb
 have hmx : (n : Int) ≤ 12 := by omega
 have HP : Hid (0 < n → ∃ g off, p = some ⟨g, off, none⟩ ∧ ∀ i, i < n → ∃ u, w.cell? ⟨g, off + i, none⟩ = some u ∧ RowAt w u n (X i)) := fun h0 => by
  obtain ⟨g, off, e, hc⟩ := hp h0
  refine ⟨g, off, e, fun i hi => ?_⟩
  obtain ⟨u, h1, h2⟩ := hc i hi
  rw [hL i hi] at h2
  exact ⟨u, h1, h2⟩
 have HQ : Hid (0 < n → ∃ g off, q = some ⟨g, off, none⟩ ∧ ∀ i, i < n → ∃ u, w.cell? ⟨g, off + i, none⟩ = some u ∧ RowAt w u n (Y i)) := fun h0 => by
  obtain ⟨g, off, e, hc⟩ := hq h0
  refine ⟨g, off, e, fun i hi => ?_⟩
  obtain ⟨u, h1, h2⟩ := hc i hi
  rw [hM i hi] at h2
  exact ⟨u, h1, h2⟩
 have HN := hid hn
 obtain ⟨Z, hZ⟩ : ∃ Z : Nat → Nat → Int, ∀ i k, Z i k = (fun x y : Int => x) (X i k) (Y i k) := ⟨_, fun _ _ => rfl⟩
 have HZ := hid hZ
 clear hp hq hL hM hn hZ
 go_enter Tryz.func120, Tryz.ntmps120
 go_wp2_with fail
 refine (zAW n _ HN.out).mono ?_
 rintro e w1 ⟨⟨V, rfl, hNew⟩, hB1⟩
 obtain ⟨p3, cap3, b3, G, C, rfl, hp3, hc3, hc4, hO⟩ := hNew
 have HO := hid hO
 have HB1 := hid hB1
 have HP3 := hid hp3
 have HC := hid (And.intro hc3 hc4)
 clear hO hB1 hp3 hc3 hc4
 go_wp2_with fail
 go_loopg [16] n (fun gg io wr => ∃ i : Nat, i ≤ n ∧ gg = n - i ∧ io = .int .i64 (i : Nat) ∧ (∃ Q, OwnM wr w.heap.size b3 n (fun _ => n) G C Q ∧ ∀ r k, r < i → k < n → Q r k = Z r k) ∧ Below w.heap.size w wr)
 case atStart => exact ⟨0, by omega, by omega, rfl, ⟨_, HO.out, fun r k h => by omega⟩, HB1.out⟩
 case round =>
  obtain ⟨i, hi, rfl, rfl, ⟨Q0, hO0, hQ0⟩, hBr⟩ := hrel
  have HO0 := hid hO0
  have HQ0 := hid hQ0
  have HBR := hid hBr
  clear hO0 hQ0 hBr
  by_cases hlt : i < n
  . have i1 : (0 : Int) ≤ (i : Int) := by omega
    have i2 : (i : Int) < (n : Int) := by omega
    obtain rfl := HP3.out (by omega)
    obtain ⟨q4, t0, ht0⟩ := HO0.out.top i hlt
    obtain rfl := ht0 (by omega)
    obtain ⟨ci, hci⟩ : ∃ c, C i = c := ⟨_, rfl⟩
    have hci2 : n ≤ ci := by rw [← hci]; exact (HO0.out.cp i hlt).1
    rw [hci] at t0
    obtain ⟨gi, hgi⟩ : ∃ g, G i = g := ⟨_, rfl⟩
    have HGI := hid hgi
    rw [hgi] at t0
    clear ht0 hci hgi
    obtain ⟨wo, hwo⟩ : ∃ wo, wo = wr := ⟨_, rfl⟩
    rw [← hwo] at HO0 HBR t0 ⊢
    clear hwo
    go_wp2_with fail
    clear t0
    go_loopg [23] n (fun gg jo wi => ∃ j : Nat, j ≤ n ∧ gg = n - j ∧ jo = .int .i64 (j : Nat) ∧ (∃ Q, OwnM wi w.heap.size b3 n (fun _ => n) G C Q ∧ (∀ r k, r < i → k < n → Q r k = Z r k) ∧ ∀ k, k < j → Q i k = Z i k) ∧ Below w.heap.size w wi)
    case atStart => exact ⟨0, by omega, by omega, rfl, ⟨Q0, HO0.out, HQ0.out, fun k h => by omega⟩, HBR.out⟩
    case round =>
     obtain ⟨j, hj, rfl, rfl, ⟨Q1, hO1, hQ1, hQ2⟩, hB2⟩ := hrel
     have HO1 := hid hO1
     have HQ1 := hid hQ1
     have HQ2 := hid hQ2
     have HB2 := hid hB2
     clear hO1 hQ1 hQ2
     by_cases hjn : j < n
     . have j1 : (0 : Int) ≤ (j : Int) := by omega
       have j2 : (j : Int) < (n : Int) := by omega
       obtain ⟨g1, o1, rfl, r1⟩ := HP.out (by omega)
       obtain ⟨g2, o2, rfl, r2⟩ := HQ.out (by omega)
       obtain ⟨u1, x1, y1⟩ := r1 i hlt
       obtain ⟨u2, x2, y2⟩ := r2 i hlt
       have k1 := (hB2.cell (p := ⟨g1, o1 + i, none⟩) (World.block_lt_of_cell? _ _ x1)).trans x1
       have k2 := (hB2.cell (p := ⟨g2, o2 + i, none⟩) (World.block_lt_of_cell? _ _ x2)).trans x2
       obtain ⟨s1, cc1, rfl, _, _, e1⟩ := y1.later hB2
       obtain ⟨s2, cc2, rfl, _, _, e2⟩ := y2.later hB2
       obtain ⟨g3, o3, rfl, f1⟩ := e1 (by omega)
       obtain ⟨g4, o4, rfl, f2⟩ := e2 (by omega)
       have k3 := f1 j hjn
       have k4 := f2 j hjn
       have k5 : wr.cell? ⟨gi, j, none⟩ = some (.int .i64 (Q1 i j)) := by rw [← HGI.out]; exact (HO1.out.row i hlt (by omega)).cell hjn
       have k6 : wr.frozen? ⟨gi, j, none⟩ = false := by rw [← HGI.out]; exact (HO1.out.row i hlt (by omega)).frozen j
       have HZ1 := hid (HZ.out i j)
       obtain ⟨x, hx⟩ : ∃ x, X i j = x := ⟨_, rfl⟩
       obtain ⟨y, hy⟩ : ∃ y, Y i j = y := ⟨_, rfl⟩
       have HX := hid hx
       have HY := hid hy
       rw [hx] at k3
       rw [hy] at k4
       obtain ⟨zz, hzz⟩ : ∃ z, Q1 i j = z := ⟨_, rfl⟩
       rw [hzz] at k5
       have HST : Hid (∀ v, Z i j = v → ∃ Q, OwnM (wr.setCell ⟨gi, j, none⟩ (.int .i64 v)).drew w.heap.size b3 n (fun _ => n) G C Q ∧ (∀ r k, r < i → k < n → Q r k = Z r k) ∧ ∀ k, k < j + 1 → Q i k = Z i k) := fun v hv => by
        refine ⟨upd Q1 i j v, by rw [← HGI.out]; exact (HO1.out.set hlt hjn v).drew, fun r k hr hk => ?_, fun k hk => ?_⟩
        . rw [upd, if_neg (by omega)]; exact HQ1.out r k hr hk
        . by_cases c : k = j
          . subst c; rw [upd, if_pos ⟨rfl, rfl⟩]; exact hv.symm
          . rw [upd, if_neg (by omega)]; exact HQ2.out k (by omega)
       have HSB : Hid (∀ v, Below w.heap.size w (wr.setCell ⟨gi, j, none⟩ (.int .i64 v)).drew) := fun v => (HB2.out.setCell (by show w.heap.size ≤ gi; rw [← HGI.out]; exact HO1.out.gB i hlt (by omega)) _).drew
       have hgi : w.heap.size ≤ gi := by rw [← HGI.out]; exact HO1.out.gB i hlt (by omega)
       have l1 := World.block_lt_of_cell? _ _ x1
       have l2 := World.block_lt_of_cell? _ _ x2
       obtain ⟨_, _, ee1, _, _, ff1⟩ := y1
       obtain ⟨_, _, ee2, _, _, ff2⟩ := y2
       cases ee1
       cases ee2
       obtain ⟨_, _, ee3, gg1⟩ := ff1 (by omega)
       obtain ⟨_, _, ee4, gg2⟩ := ff2 (by omega)
       cases ee3
       cases ee4
       have l3 := World.block_lt_of_cell? _ _ (gg1 j hjn)
       have l4 := World.block_lt_of_cell? _ _ (gg2 j hjn)
       simp only at l1 l2 l3 l4
       have n1 : g1 ≠ gi := by omega
       have n2 : g2 ≠ gi := by omega
       have n3 : g3 ≠ gi := by omega
       have n4 : g4 ≠ gi := by omega
       clear r1 r2 x1 x2 gg1 gg2 ff1 ff2 f1 f2 e1 e2 hB2 hx hy hzz l1 l2 l3 l4 hgi
       have HKS : Hid (∀ v, (wr.setCell ⟨gi, j, none⟩ v).drew.cell? ⟨g1, o1 + i, none⟩ = some (.slice (some ⟨g3, o3, none⟩) n cc1) ∧ (wr.setCell ⟨gi, j, none⟩ v).drew.cell? ⟨g2, o2 + i, none⟩ = some (.slice (some ⟨g4, o4, none⟩) n cc2) ∧ (wr.setCell ⟨gi, j, none⟩ v).drew.cell? ⟨g3, o3 + j, none⟩ = some (.int .i64 x) ∧ (wr.setCell ⟨gi, j, none⟩ v).drew.cell? ⟨g4, o4 + j, none⟩ = some (.int .i64 y)) := fun v => ⟨zCZ k1 n1, zCZ k2 n2, zCZ k3 n3, zCZ k4 n4⟩
       go_wp2_with fail
       go_region_held3 (fun w' => w'.cell? ⟨g1, o1 + i, none⟩ = some (.slice (some ⟨g3, o3, none⟩) n cc1) ∧ w'.cell? ⟨g2, o2 + i, none⟩ = some (.slice (some ⟨g4, o4, none⟩) n cc2) ∧ w'.cell? ⟨g3, o3 + j, none⟩ = some (.int .i64 x) ∧ w'.cell? ⟨g4, o4 + j, none⟩ = some (.int .i64 y)) (first | exact HKS.out _ | go_keep) ((refine (zE7 x y _).mono ?_; rintro e w5 ⟨rfl, rfl⟩))
       all_goals
        go_wp2_with fail
        go_roundg (n - (j + 1))
        case rel => exact ⟨j + 1, by omega, rfl, by go_num, HST.out _ (by first | rw [HZ1.out, HX.out, HY.out] | rw [HZ1.out, HX.out]), HSB.out _⟩
        case measure => omega
     . obtain rfl : j = n := by omega
       clear hB2
       go_wp2_with fail
       go_roundg (j - (i + 1))
       case rel => exact ⟨i + 1, by omega, rfl, by go_num, ⟨Q1, HO1.out, fun r k hr hk => by by_cases c : r = i; (subst c; exact HQ2.out k hk); exact HQ1.out r k (by omega) hk⟩, HB2.out⟩
       case measure => omega
  . obtain rfl : i = n := by omega
    go_wp2_with fail
    go_ret
    refine ⟨⟨_, rfl, ?_⟩, HBR.out⟩
    exact ⟨p3, cap3, b3, G, C, rfl, HP3.out, HC.out.1, HC.out.2, HO0.out.congr (fun _ _ => rfl) fun r hr k hk => by rw [HQ0.out r k hr hk, HZ.out]⟩
theorem zDK (x y : Int) (w : World) : Calls Tryz.prog 149 #[.int .i64 x, .int .i64 y] w fun e w' => e = .returned (.int .i64 (max x y)) ∧ w' = w := by
 go_enter Tryz.func149, Tryz.ntmps149
 go_wp2
 all_goals
  go_ret
  exact ⟨by first | rfl | (simp; omega), rfl⟩
theorem zBW (a b : Value) (n : Nat) (L M : Nat → Nat) (X Y : Nat → Nat → Int) (w : World) (ha : zA5 w a n L X) (hb : zA5 w b n M Y) (hL : ∀ i, i < n → L i = n) (hM : ∀ i, i < n → M i = n) (hn : n ≤ 12) :
  Calls Tryz.prog 120 #[a, b, .func (.func 149) #[] #[]] w fun e w' => (∃ V, e = .returned V ∧ New w w' V n (fun _ => n) (fun i k => (fun x y : Int => max x y) (X i k) (Y i k))) ∧ Below w.heap.size w w' := by
 have HA := hid ha
 have HBB := hid hb
 obtain ⟨p, cap, rfl, _, _, hp⟩ := ha
 obtain ⟨q, cap2, rfl, _, _, hq⟩ := hb
 have hmx : (n : Int) ≤ 12 := by omega
 have HP : Hid (0 < n → ∃ g off, p = some ⟨g, off, none⟩ ∧ ∀ i, i < n → ∃ u, w.cell? ⟨g, off + i, none⟩ = some u ∧ RowAt w u n (X i)) := fun h0 => by
  obtain ⟨g, off, e, hc⟩ := hp h0
  refine ⟨g, off, e, fun i hi => ?_⟩
  obtain ⟨u, h1, h2⟩ := hc i hi
  rw [hL i hi] at h2
  exact ⟨u, h1, h2⟩
 have HQ : Hid (0 < n → ∃ g off, q = some ⟨g, off, none⟩ ∧ ∀ i, i < n → ∃ u, w.cell? ⟨g, off + i, none⟩ = some u ∧ RowAt w u n (Y i)) := fun h0 => by
  obtain ⟨g, off, e, hc⟩ := hq h0
  refine ⟨g, off, e, fun i hi => ?_⟩
  obtain ⟨u, h1, h2⟩ := hc i hi
  rw [hM i hi] at h2
  exact ⟨u, h1, h2⟩
 have HN := hid hn
 obtain ⟨Z, hZ⟩ : ∃ Z : Nat → Nat → Int, ∀ i k, Z i k = (fun x y : Int => max x y) (X i k) (Y i k) := ⟨_, fun _ _ => rfl⟩
 have HZ := hid hZ
 clear hp hq hL hM hn hZ
 go_enter Tryz.func120, Tryz.ntmps120
 go_wp2_with fail
 refine (zAW n _ HN.out).mono ?_
 rintro e w1 ⟨⟨V, rfl, hNew⟩, hB1⟩
 obtain ⟨p3, cap3, b3, G, C, rfl, hp3, hc3, hc4, hO⟩ := hNew
 have HO := hid hO
 have HB1 := hid hB1
 have HP3 := hid hp3
 have HC := hid (And.intro hc3 hc4)
 clear hO hB1 hp3 hc3 hc4
 go_wp2_with fail
 go_loopg [16] n (fun gg io wr => ∃ i : Nat, i ≤ n ∧ gg = n - i ∧ io = .int .i64 (i : Nat) ∧ (∃ Q, OwnM wr w.heap.size b3 n (fun _ => n) G C Q ∧ ∀ r k, r < i → k < n → Q r k = Z r k) ∧ Below w.heap.size w wr)
 case atStart => exact ⟨0, by omega, by omega, rfl, ⟨_, HO.out, fun r k h => by omega⟩, HB1.out⟩
 case round =>
  obtain ⟨i, hi, rfl, rfl, ⟨Q0, hO0, hQ0⟩, hBr⟩ := hrel
  have HO0 := hid hO0
  have HQ0 := hid hQ0
  have HBR := hid hBr
  clear hO0 hQ0 hBr
  by_cases hlt : i < n
  . have i1 : (0 : Int) ≤ (i : Int) := by omega
    have i2 : (i : Int) < (n : Int) := by omega
    obtain rfl := HP3.out (by omega)
    obtain ⟨q4, t0, ht0⟩ := HO0.out.top i hlt
    obtain rfl := ht0 (by omega)
    obtain ⟨ci, hci⟩ : ∃ c, C i = c := ⟨_, rfl⟩
    have hci2 : n ≤ ci := by rw [← hci]; exact (HO0.out.cp i hlt).1
    rw [hci] at t0
    obtain ⟨gi, hgi⟩ : ∃ g, G i = g := ⟨_, rfl⟩
    have HGI := hid hgi
    rw [hgi] at t0
    clear ht0 hci hgi
    obtain ⟨wo, hwo⟩ : ∃ wo, wo = wr := ⟨_, rfl⟩
    rw [← hwo] at HO0 HBR t0 ⊢
    clear hwo
    go_wp2_with fail
    clear t0
    go_loopg [23] n (fun gg jo wi => ∃ j : Nat, j ≤ n ∧ gg = n - j ∧ jo = .int .i64 (j : Nat) ∧ (∃ Q, OwnM wi w.heap.size b3 n (fun _ => n) G C Q ∧ (∀ r k, r < i → k < n → Q r k = Z r k) ∧ ∀ k, k < j → Q i k = Z i k) ∧ Below w.heap.size w wi)
    case atStart => exact ⟨0, by omega, by omega, rfl, ⟨Q0, HO0.out, HQ0.out, fun k h => by omega⟩, HBR.out⟩
    case round =>
     obtain ⟨j, hj, rfl, rfl, ⟨Q1, hO1, hQ1, hQ2⟩, hB2⟩ := hrel
     have HO1 := hid hO1
     have HQ1 := hid hQ1
     have HQ2 := hid hQ2
     have HB2 := hid hB2
     clear hO1 hQ1 hQ2
     by_cases hjn : j < n
     . have j1 : (0 : Int) ≤ (j : Int) := by omega
       have j2 : (j : Int) < (n : Int) := by omega
       obtain ⟨g1, o1, rfl, r1⟩ := HP.out (by omega)
       obtain ⟨g2, o2, rfl, r2⟩ := HQ.out (by omega)
       obtain ⟨u1, x1, y1⟩ := r1 i hlt
       obtain ⟨u2, x2, y2⟩ := r2 i hlt
       have k1 := (hB2.cell (p := ⟨g1, o1 + i, none⟩) (World.block_lt_of_cell? _ _ x1)).trans x1
       have k2 := (hB2.cell (p := ⟨g2, o2 + i, none⟩) (World.block_lt_of_cell? _ _ x2)).trans x2
       obtain ⟨s1, cc1, rfl, _, _, e1⟩ := y1.later hB2
       obtain ⟨s2, cc2, rfl, _, _, e2⟩ := y2.later hB2
       obtain ⟨g3, o3, rfl, f1⟩ := e1 (by omega)
       obtain ⟨g4, o4, rfl, f2⟩ := e2 (by omega)
       have k3 := f1 j hjn
       have k4 := f2 j hjn
       have k5 : wr.cell? ⟨gi, j, none⟩ = some (.int .i64 (Q1 i j)) := by rw [← HGI.out]; exact (HO1.out.row i hlt (by omega)).cell hjn
       have k6 : wr.frozen? ⟨gi, j, none⟩ = false := by rw [← HGI.out]; exact (HO1.out.row i hlt (by omega)).frozen j
       have HZ1 := hid (HZ.out i j)
       obtain ⟨x, hx⟩ : ∃ x, X i j = x := ⟨_, rfl⟩
       obtain ⟨y, hy⟩ : ∃ y, Y i j = y := ⟨_, rfl⟩
       have HX := hid hx
       have HY := hid hy
       rw [hx] at k3
       rw [hy] at k4
       obtain ⟨zz, hzz⟩ : ∃ z, Q1 i j = z := ⟨_, rfl⟩
       rw [hzz] at k5
       have HST : Hid (∀ v, Z i j = v → ∃ Q, OwnM (wr.setCell ⟨gi, j, none⟩ (.int .i64 v)).drew w.heap.size b3 n (fun _ => n) G C Q ∧ (∀ r k, r < i → k < n → Q r k = Z r k) ∧ ∀ k, k < j + 1 → Q i k = Z i k) := fun v hv => by
        refine ⟨upd Q1 i j v, by rw [← HGI.out]; exact (HO1.out.set hlt hjn v).drew, fun r k hr hk => ?_, fun k hk => ?_⟩
        . rw [upd, if_neg (by omega)]; exact HQ1.out r k hr hk
        . by_cases c : k = j
          . subst c; rw [upd, if_pos ⟨rfl, rfl⟩]; exact hv.symm
          . rw [upd, if_neg (by omega)]; exact HQ2.out k (by omega)
       have HSB : Hid (∀ v, Below w.heap.size w (wr.setCell ⟨gi, j, none⟩ (.int .i64 v)).drew) := fun v => (HB2.out.setCell (by show w.heap.size ≤ gi; rw [← HGI.out]; exact HO1.out.gB i hlt (by omega)) _).drew
       have hgi : w.heap.size ≤ gi := by rw [← HGI.out]; exact HO1.out.gB i hlt (by omega)
       have l1 := World.block_lt_of_cell? _ _ x1
       have l2 := World.block_lt_of_cell? _ _ x2
       obtain ⟨_, _, ee1, _, _, ff1⟩ := y1
       obtain ⟨_, _, ee2, _, _, ff2⟩ := y2
       cases ee1
       cases ee2
       obtain ⟨_, _, ee3, gg1⟩ := ff1 (by omega)
       obtain ⟨_, _, ee4, gg2⟩ := ff2 (by omega)
       cases ee3
       cases ee4
       have l3 := World.block_lt_of_cell? _ _ (gg1 j hjn)
       have l4 := World.block_lt_of_cell? _ _ (gg2 j hjn)
       simp only at l1 l2 l3 l4
       have n1 : g1 ≠ gi := by omega
       have n2 : g2 ≠ gi := by omega
       have n3 : g3 ≠ gi := by omega
       have n4 : g4 ≠ gi := by omega
       clear r1 r2 x1 x2 gg1 gg2 ff1 ff2 f1 f2 e1 e2 hB2 hx hy hzz l1 l2 l3 l4 hgi
       have HKS : Hid (∀ v, (wr.setCell ⟨gi, j, none⟩ v).drew.cell? ⟨g1, o1 + i, none⟩ = some (.slice (some ⟨g3, o3, none⟩) n cc1) ∧ (wr.setCell ⟨gi, j, none⟩ v).drew.cell? ⟨g2, o2 + i, none⟩ = some (.slice (some ⟨g4, o4, none⟩) n cc2) ∧ (wr.setCell ⟨gi, j, none⟩ v).drew.cell? ⟨g3, o3 + j, none⟩ = some (.int .i64 x) ∧ (wr.setCell ⟨gi, j, none⟩ v).drew.cell? ⟨g4, o4 + j, none⟩ = some (.int .i64 y)) := fun v => ⟨zCZ k1 n1, zCZ k2 n2, zCZ k3 n3, zCZ k4 n4⟩
       go_wp2_with fail
       go_region_held3 (fun w' => w'.cell? ⟨g1, o1 + i, none⟩ = some (.slice (some ⟨g3, o3, none⟩) n cc1) ∧ w'.cell? ⟨g2, o2 + i, none⟩ = some (.slice (some ⟨g4, o4, none⟩) n cc2) ∧ w'.cell? ⟨g3, o3 + j, none⟩ = some (.int .i64 x) ∧ w'.cell? ⟨g4, o4 + j, none⟩ = some (.int .i64 y)) (first | exact HKS.out _ | go_keep) ((refine (zDK x y _).mono ?_; rintro e w5 ⟨rfl, rfl⟩))
       all_goals
        go_wp2_with fail
        go_roundg (n - (j + 1))
        case rel => exact ⟨j + 1, by omega, rfl, by go_num, HST.out _ (by first | rw [HZ1.out, HX.out, HY.out] | rw [HZ1.out, HX.out]), HSB.out _⟩
        case measure => omega
     . obtain rfl : j = n := by omega
       clear hB2
       go_wp2_with fail
       go_roundg (j - (i + 1))
       case rel => exact ⟨i + 1, by omega, rfl, by go_num, ⟨Q1, HO1.out, fun r k hr hk => by by_cases c : r = i; (subst c; exact HQ2.out k hk); exact HQ1.out r k (by omega) hk⟩, HB2.out⟩
       case measure => omega
  . obtain rfl : i = n := by omega
    go_wp2_with fail
    go_ret
    refine ⟨⟨_, rfl, ?_⟩, HBR.out⟩
    exact ⟨p3, cap3, b3, G, C, rfl, HP3.out, HC.out.1, HC.out.2, HO0.out.congr (fun _ _ => rfl) fun r hr k hk => by rw [HQ0.out r k hr hk, HZ.out]⟩
def owR (n : Nat) (Z : Mx) : Nat → Int
  | 0 => 0
  | i + 1 => if owR n Z i ≠ 0 then owR n Z i else if Z i i ≠ 0 then 4 else if wth 2147483648 (Z i) n = true then 0 else 2
def own (n : Nat) (L : Nat → Nat) (Z : Mx) : Int := if chk n L Z ≠ 0 then chk n L Z else owR n Z n
theorem owR_up {n : Nat} {Z : Mx} {i : Nat} (h : owR n Z i ≠ 0) : ∀ j, i ≤ j → owR n Z j = owR n Z i
  | 0, hj => by obtain rfl : i = 0 := by omega
                rfl
  | j + 1, hj => by
    by_cases c : i = j + 1
    . subst c; rfl
    . have := owR_up h j (by omega)
      rw [owR, if_pos (by rw [this]; exact h), this]
theorem zIZ {n : Nat} {Z : Mx} : ∀ {j : Nat}, owR n Z j = 0 → ∀ i, i < j → Z i i = 0 ∧ wth 2147483648 (Z i) n = true
 | j + 1, h, i, hi => by
  have h0 : owR n Z j = 0 := by
    by_cases c : owR n Z j = 0
    . exact c
    . rw [owR, if_pos c] at h; exact absurd h c
  rw [owR, if_neg (by rw [h0]; decide)] at h
  by_cases c1 : Z j j = 0
  . rw [if_neg (by rw [c1]; simp)] at h
    by_cases c2 : wth 2147483648 (Z j) n = true
    . by_cases c : i = j
      . subst c; exact ⟨c1, c2⟩
      . exact zIZ h0 i (by omega)
    . rw [if_neg c2] at h; exact absurd h (by decide)
  . rw [if_pos c1] at h; exact absurd h (by decide)
theorem own_ok {n : Nat} {L : Nat → Nat} {Z : Mx} (h : own n L Z = 0) : chk n L Z = 0 ∧ n ≤ 12 ∧ (∀ i, i < n → L i = n) ∧ (∀ i, i < n → Z i i = 0) ∧ Bnd n 2147483648 Z := by
 unfold own at h
 by_cases c : chk n L Z = 0
 . rw [if_neg (by simp [c])] at h
   obtain ⟨h1, h2⟩ := chk_ok c
   have h3 := zIZ h
   exact ⟨c, h1, fun i hi => (h2 i hi).1, fun i hi => (h3 i hi).1, fun a b ha hb => zEB (h3 a ha).2 b hb⟩
 . rw [if_pos c] at h; exact absurd h c
theorem zF4 (v : Value) (n : Nat) (L : Nat → Nat) (Z : Mx) (w : World) (h : zA5 w v n L Z) :
   Calls Tryz.prog 119 #[v] w fun e w' => e = .returned (.int .i64 (own n L Z)) ∧ Below w.heap.size w w' := by
 have HM := hid h
 obtain ⟨p, cap, rfl, hl, hc, hp⟩ := h
 have hmx : (n : Int) ≤ 9223372036854775807 := by unfold maxLen at hc; omega
 have HP : Hid (0 < n → ∃ g off, p = some ⟨g, off, none⟩ ∧ ∀ i, i < n → ∃ u, w.cell? ⟨g, off + i, none⟩ = some u ∧ RowAt w u (L i) (Z i)) := hp
 obtain ⟨c, hcc⟩ : ∃ c, chk n L Z = c := ⟨_, rfl⟩
 have HCC := hid hcc
 by_cases h0 : c = 0
 . subst h0
   have HO : Hid (own n L Z = owR n Z n) := by show own n L Z = _; unfold own; rw [if_neg (by simp [hcc])]
   have HQ := hid (chk_ok hcc)
   clear hp hl hc hcc
   go_enter Tryz.func119, Tryz.ntmps119
   go_wp2_with fail
   refine (check_any _ n L Z _ HM.out).mono ?_
   rw [HCC.out]
   rintro e w1 ⟨rfl, hB1⟩
   have HB1 := hid hB1
   clear hB1
   go_wp2_with fail
   go_loopw [13] (fun i wr => ∃ k : Nat, k ≤ n ∧ i = .int .i64 (k : Nat) ∧ owR n Z k = 0 ∧ Below w.heap.size w wr) (fun i _ => n + 1 - (intOf i).toNat)
   case atStart => exact ⟨0, by omega, rfl, rfl, HB1.out⟩
   case round =>
    obtain ⟨k, hk, rfl, hf, hBr⟩ := hrel
    have HF : Hid (owR n Z k = 0) := hf
    have HBR : Hid (Below w.heap.size w wr) := hBr
    clear hf
    by_cases hlt : k < n
    . obtain ⟨g, off, rfl, hrd⟩ := HP.out (by omega)
      obtain ⟨u, hu, hr⟩ := hrd k hlt
      have a0 := (hBr.cell (p := ⟨g, off + k, none⟩) (World.block_lt_of_cell? _ _ hu)).trans hu
      have hrw := hr.later hBr
      rw [(HQ.out.2 k hlt).1] at hrw
      have HRW := hid hrw
      have HS : owR n Z (k + 1) = if Z k k ≠ 0 then 4 else if wth 2147483648 (Z k) n = true then 0 else 2 := by
        rw [owR, HF.out, if_neg (by decide)]
      obtain ⟨q0, c0, rfl, hl0, hc0, hq0⟩ := hrw
      obtain ⟨g1, o1, rfl, hcc1⟩ := hq0 (by omega)
      have a1 := hcc1 k hlt
      have i1 : (0 : Int) ≤ (k : Int) := by omega
      have i2 : (k : Int) < (n : Int) := by omega
      have HUP : Hid (∀ x, owR n Z (k + 1) = x → x ≠ 0 → own n L Z = x) := fun x hx h0 => by
        rw [HO.out, owR_up (by rw [hx]; exact h0) n (by omega), hx]
      obtain ⟨d, hd⟩ : ∃ d, Z k k = d := ⟨_, rfl⟩
      rw [hd] at a1 HS
      clear hrd hBr hu hl0 hc0 hq0 hcc1 hd hr
      by_cases hq : d = 0
      . obtain ⟨b, hb⟩ : ∃ b, wth 2147483648 (Z k) n = b := ⟨_, rfl⟩
        have HBB := hid hb
        rw [hb, if_neg (by simp [hq])] at HS
        have HS2 : Hid (owR n Z (k + 1) = if b = true then 0 else 2) := HS
        subst hq
        clear hb HS
        have HC := zD1 (.slice (some ⟨g1, o1, none⟩) n c0) n (Z k) 2147483648 wr HRW.out (by decide) (by decide)
        rw [HBB.out] at HC
        have HCC2 : Hid (Calls Tryz.prog 151 #[.slice (some ⟨g1, o1, none⟩) n c0, .int .i64 2147483648] wr fun e w' => e = .returned (.bool b) ∧ Below wr.heap.size wr w') := HC
        clear HC
        go_wp2_with fail
        refine HCC2.out.mono ?_
        rintro e w2 ⟨rfl, hB⟩
        have HB2 : Hid (Below w.heap.size w w2) := zAZ HBR.out hB (Nat.le_refl _)
        clear hB
        cases b
        . go_wp2_with fail
          go_ret
          rw [HUP.out 2 (by rw [HS2.out]; rfl) (by decide)]
          exact ⟨rfl, HB2.out⟩
        . go_wp2_with fail
          go_roundw
          case rel => exact ⟨k + 1, by omega, by go_num, by rw [HS2.out]; rfl, HB2.out⟩
          case measure => simp [intOf]; omega
      . rw [if_pos hq] at HS
        have HRS : Hid (own n L Z = 4) := HUP.out 4 HS (by decide)
        have d2 : (d != 0) = true := by simpa using hq
        clear HS hq
        go_wp2_with fail
        go_ret
        rw [HRS.out]
        exact ⟨rfl, HBR.out⟩
    . obtain rfl : k = n := by omega
      clear hBr
      go_wp2_with fail
      go_ret
      rw [HO.out, HF.out]
      exact ⟨rfl, HBR.out⟩
 . have HO : Hid (own n L Z = c) := by show own n L Z = c; unfold own; rw [if_pos (by rw [hcc]; exact h0), hcc]
   have d : (c != 0) = true := by simpa using h0
   clear hp hl hc hcc h0
   go_enter Tryz.func119, Tryz.ntmps119
   go_wp2_with fail
   refine (check_any _ n L Z _ HM.out).mono ?_
   rw [HCC.out]
   rintro e w1 ⟨rfl, hB1⟩
   have HB1 := hid hB1
   clear hB1
   go_wp2_with fail
   go_ret
   rw [HO.out]
   exact ⟨rfl, HB1.out⟩
theorem zJK (b n cap B : Nat) (p : Option Addr) (G C : Nat → Nat) (Z : Mx) (w : World) (h : OwnM w B b n (fun _ => n) G C Z) (hp : 0 < n → p = some ⟨b, 0, none⟩) (hn : n ≤ 12) :
  Calls Tryz.prog 123 #[.slice p n cap] w fun e w' => e = .returned (.bool (ngb Z n)) ∧ w' = w := by
 have HO := hid h
 have HP := hid hp
 have hmx : (n : Int) ≤ 12 := by omega
 clear h hp
 go_enter Tryz.func123, Tryz.ntmps123
 go_wp2_with fail
 go_loopw [7] (fun i wr => ∃ k : Nat, k ≤ n ∧ i = .int .i64 (k : Nat) ∧ (∀ a, a < k → 0 ≤ Z a a) ∧ wr = w) (fun i _ => n + 1 - (intOf i).toNat)
 case atStart => exact ⟨0, by omega, rfl, fun a h => by omega, rfl⟩
 case round =>
  obtain ⟨k, hk, rfl, hf, rfl⟩ := hrel
  have HF := hid hf
  clear hf
  by_cases hlt : k < n
  . obtain rfl := HP.out (by omega)
    have i1 : (0 : Int) ≤ (k : Int) := by omega
    have i2 : (k : Int) < (n : Int) := by omega
    obtain ⟨q, t0, ht0⟩ := HO.out.top k hlt
    rw [ht0 (by omega)] at t0
    have t1 := (HO.out.row k hlt (by omega)).cell hlt
    have hcp := (HO.out.cp k hlt).1
    clear ht0
    obtain ⟨gi, hgi⟩ : ∃ g, G k = g := ⟨_, rfl⟩
    obtain ⟨ci, hci⟩ : ∃ g, C k = g := ⟨_, rfl⟩
    obtain ⟨x1, hx1⟩ : ∃ x, Z k k = x := ⟨_, rfl⟩
    have HX1 := hid hx1
    rw [hgi, hci] at t0
    rw [hgi, hx1] at t1
    rw [hci] at hcp
    clear hgi hci hx1
    by_cases q1 : x1 < 0
    . have HR := hid (ngb_of (Q := Z) hlt (by rw [HX1.out]; exact q1))
      have d : decide (x1 < 0) = true := by simpa using q1
      clear q1
      go_wp2_with fail
      go_ret
      rw [HR.out]
      exact ⟨rfl, rfl⟩
    . have HPN : Hid (∀ a, a < k + 1 → 0 ≤ Z a a) := fun a ha => by
       by_cases c : a = k
       . subst c; rw [HX1.out]; omega
       . exact HF.out a (by omega)
      have d : decide (x1 < 0) = false := by simp; omega
      clear q1
      go_wp2_with fail
      go_roundw
      case rel => exact ⟨k + 1, by omega, by go_num, HPN.out, by first | rfl | trivial⟩
      case measure => simp [intOf]; omega
  . obtain rfl : k = n := by omega
    have HR := hid (zJ4 HF.out)
    go_wp2_with fail
    go_ret
    rw [HR.out]
    exact ⟨rfl, rfl⟩
theorem OwnM.at3 {w : World} {B b n : Nat} {G C : Nat → Nat} {Z : Nat → Nat → Int} (h : OwnM w B b n (fun _ => n) G C Z) {i k j : Nat} (hi : i < n) (hk : k < n) (hj : j < n) :
  w.cell? ⟨b, i, none⟩ = some (.slice (some ⟨G i, 0, none⟩) n (C i)) ∧ w.cell? ⟨b, k, none⟩ = some (.slice (some ⟨G k, 0, none⟩) n (C k)) ∧ w.cell? ⟨G i, k, none⟩ = some (.int .i64 (Z i k)) ∧ w.cell? ⟨G k, j, none⟩ = some (.int .i64 (Z k j)) ∧ w.cell? ⟨G i, j, none⟩ = some (.int .i64 (Z i j)) ∧ w.frozen? ⟨G i, j, none⟩ = false := by
 obtain ⟨q1, e1, f1⟩ := h.top i hi
 obtain ⟨q2, e2, f2⟩ := h.top k hk
 rw [f1 (by omega)] at e1
 rw [f2 (by omega)] at e2
 exact ⟨e1, e2, (h.row i hi (by omega)).cell hk, (h.row k hk (by omega)).cell hj, (h.row i hi (by omega)).cell hj, (h.row i hi (by omega)).frozen j⟩
end Go.Proofs.YtnlmknbhppdliaaGreatDoor.B8
