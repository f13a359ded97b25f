/-
  What is encoded is decoded to the same operation; with a byte more, or torn, it is none: in plain words.
-/
import Derived.Test.YtepgkemnpcadiaaXa
namespace Go.Proofs.Ytepgkemnpcadiaa
open Go.ChangeShapes Go.WideShapes Go.ChangeAt Go.RowKit Go.Maps
set_option linter.unusedVariables false
set_option linter.unusedSimpArgs false
/-- A beginning of two parts. -/
theorem two_parts {p q x y : List UInt8} (h : p ++ q = x ++ y) (hq : q ≠ []) : (∃ q', q' ≠ [] ∧ p ++ q' = x) ∨ ∃ p', p = x ++ p' ∧ p' ++ q = y := by
  rcases List.append_eq_append_iff.1 h with ⟨a, h1, h2⟩ | ⟨a, h1, h2⟩
  · by_cases c : a = []
    · subst c
      right
      exact ⟨[], by simpa using h1.symm, by simpa using h2⟩
    · left
      exact ⟨a, c, h1.symm⟩
  · right
    exact ⟨a, h1, h2.symm⟩
theorem ofn (n : Nat) (h : n < 256) : (UInt8.ofNat n).toNat = n := UInt8.toNat_ofNat_of_lt' (by simpa using h)
theorem ln_fw : ∀ (k i n m : Nat) (r : List UInt8), m < 128 ^ k → 1 ≤ k → (0 < i → 0 < m) → lnV k i n ⟨lng m ++ r, 0⟩ = n + m * 128 ^ i ∧ lnS k i n ⟨lng m ++ r, 0⟩ = ⟨r, 0⟩
  | 0, i, n, m, r, hm, hk, hi => by omega
  | k + 1, i, n, m, r, hm, hk, hi => by
    by_cases c : m < 128
    · rw [lng_lt c]
      have hv : smV ⟨[UInt8.ofNat m] ++ r, 0⟩ = m := ofn m (by omega)
      have hs : smS ⟨[UInt8.ofNat m] ++ r, 0⟩ = ⟨r, 0⟩ := rfl
      refine ⟨?_, ?_⟩
      · show (if 128 ≤ smV _ then _ else _) = _
        rw [hv, if_neg (by omega), Nat.mod_eq_of_lt c]
      · show (if 128 ≤ smV _ then _ else (if _ then _ else _ : Sx)) = _
        rw [hv, if_neg (by omega), if_neg (fun q => by have := hi q.2; omega), hs]
    · rw [lng_ge c]
      have hv : smV ⟨UInt8.ofNat (128 + m % 128) :: lng (m / 128) ++ r, 0⟩ = 128 + m % 128 := ofn _ (by omega)
      have hs : smS ⟨UInt8.ofNat (128 + m % 128) :: lng (m / 128) ++ r, 0⟩ = ⟨lng (m / 128) ++ r, 0⟩ := rfl
      have h2 : m / 128 < 128 ^ k := Nat.div_lt_of_lt_mul (by rw [Nat.mul_comm, ← Nat.pow_succ]; exact hm)
      have hk1 : 1 ≤ k := by
        rcases Nat.eq_zero_or_pos k with q | q
        · subst q; simp at h2; omega
        · exact q
      obtain ⟨e1, e2⟩ := ln_fw k (i + 1) (n + m % 128 * 128 ^ i) (m / 128) r h2 hk1 (fun _ => by omega)
      have hx : (128 + m % 128) % 128 = m % 128 := by omega
      refine ⟨?_, ?_⟩
      · show (if 128 ≤ smV _ then lnV k (i + 1) (n + smV _ % 128 * 128 ^ i) (smS _) else _) = _
        rw [hv, if_pos (by omega), hx, hs, e1, Nat.pow_succ]
        have : m = m % 128 + 128 * (m / 128) := by omega
        generalize hA : m % 128 = A at *
        generalize hB : m / 128 = B at *
        rw [this, Nat.add_mul, Nat.mul_comm (128 ^ i) 128, ← Nat.mul_assoc, Nat.mul_comm B 128, Nat.add_assoc]
      · show (if 128 ≤ smV _ then lnS k (i + 1) (n + smV _ % 128 * 128 ^ i) (smS _) else _) = _
        rw [hv, if_pos (by omega), hx, hs, e2]
theorem ln_fw0 {m : Nat} (h : m < 9223372036854775808) (r : List UInt8) : lnV 9 0 0 ⟨lng m ++ r, 0⟩ = m ∧ lnS 9 0 0 ⟨lng m ++ r, 0⟩ = ⟨r, 0⟩ := by
  obtain ⟨h1, h2⟩ := ln_fw 9 0 0 m r (by have e : (128 : Nat) ^ 9 = 9223372036854775808 := by decide
                                         omega) (by omega) (fun q => by omega)
  exact ⟨by rw [h1]; simp, h2⟩
theorem nil5 (k i n : Nat) : (lnS (k + 1) i n ⟨[], 0⟩).e = 5 := by
  show (if 128 ≤ smV ⟨[], 0⟩ then _ else (if _ then _ else _ : Sx)).e = _
  rw [if_neg (by show ¬ 128 ≤ 0; omega)]
  by_cases q : smV ⟨[], 0⟩ = 0 ∧ 0 < i
  · rw [if_pos q]; rfl
  · rw [if_neg q]; rfl
theorem ln_torn : ∀ (k i n m : Nat) (p q : List UInt8), m < 128 ^ (k + 1) → p ++ q = lng m → q ≠ [] → (lnS (k + 1) i n ⟨p, 0⟩).e = 5
  | k, i, n, m, [], q, hm, h, hq => nil5 k i n
  | 0, i, n, m, c :: p, q, hm, h, hq => by
    rw [lng_lt (by omega)] at h
    simp at h
    exact absurd h.2.2 hq
  | k + 1, i, n, m, c :: p, q, hm, h, hq => by
    by_cases g : m < 128
    · rw [lng_lt g] at h
      simp at h
      exact absurd h.2.2 hq
    · rw [lng_ge g] at h
      simp only [List.cons_append, List.cons.injEq] at h
      obtain ⟨rfl, h⟩ := h
      have h2 : m / 128 < 128 ^ (k + 1) := Nat.div_lt_of_lt_mul (by rw [Nat.mul_comm, ← Nat.pow_succ]; exact hm)
      have hv : smV ⟨UInt8.ofNat (128 + m % 128) :: p, 0⟩ = 128 + m % 128 := ofn _ (by omega)
      show (if 128 ≤ smV _ then lnS (k + 1) (i + 1) (n + smV _ % 128 * 128 ^ i) (smS _) else _).e = _
      rw [hv, if_pos (by omega)]
      exact ln_torn k (i + 1) _ (m / 128) p q h2 h hq
theorem ln_torn0 {m : Nat} (h : m < 9223372036854775808) {p q : List UInt8} (hp : p ++ q = lng m) (hq : q ≠ []) : (lnS 9 0 0 ⟨p, 0⟩).e = 5 :=
  ln_torn 8 0 0 m p q (by have e : (128 : Nat) ^ (8 + 1) = 9223372036854775808 := by decide
                          omega) hp hq
theorem tx_eta (s : ByteArray) : tx s.data.toList = s := by unfold tx; simp
theorem tx_fw {s : ByteArray} (h : s.size < 256) (r : List UInt8) : txV ⟨txb s ++ r, 0⟩ = s ∧ txS ⟨txb s ++ r, 0⟩ = ⟨r, 0⟩ := by
  have hv : smV ⟨txb s ++ r, 0⟩ = s.size := ofn _ h
  have hs : smS ⟨txb s ++ r, 0⟩ = ⟨s.data.toList ++ r, 0⟩ := rfl
  have hl : s.data.toList.length = s.size := by simp
  refine ⟨?_, ?_⟩
  · unfold txV
    rw [hv, hs, if_neg (by simp), ← hl, List.take_left', tx_eta]
    rfl
  · unfold txS
    rw [hv, hs, if_neg (by simp), ← hl]
    simp
theorem tx_torn {s : ByteArray} (h : s.size < 256) {p q : List UInt8} (hp : p ++ q = txb s) (hq : q ≠ []) : (txS ⟨p, 0⟩).e = 5 := by
  match p, hp with
  | [], _ =>
    unfold txS
    rw [if_neg (by show ¬ _ < 0; omega)]
    rfl
  | c :: p, hp =>
    unfold txb at hp
    simp only [List.cons_append, List.cons.injEq] at hp
    obtain ⟨rfl, hp⟩ := hp
    have hv : smV ⟨UInt8.ofNat s.size :: p, 0⟩ = s.size := ofn _ h
    have hs : smS ⟨UInt8.ofNat s.size :: p, 0⟩ = ⟨p, 0⟩ := rfl
    have hl : s.data.toList.length = s.size := by simp
    have hlen := congrArg List.length hp
    rw [List.length_append, hl] at hlen
    have hq0 := List.length_pos_iff.2 hq
    unfold txS
    rw [hv, hs, if_pos (by show p.length < s.size; omega)]
    rfl
theorem sgZ_fld (z : Int) : sgZ (fld z) = z := by
  unfold sgZ fld
  by_cases h : z < 0
  · rw [if_pos h, if_pos (by omega)]; omega
  · rw [if_neg h, if_neg (by omega)]; omega
theorem fld_63 {z : Int} (h1 : -1125899906842624 ≤ z) (h2 : z ≤ 1125899906842624) : fld z < 9223372036854775808 := fld_lt (by omega) (by omega)
theorem arr_nil {s : ByteArray} (h : s.toList = []) : s = ⟨#[]⟩ := by
  rw [Lib.toList_data] at h
  cases s
  simp at h
  subst h
  rfl
theorem vl_fw {v : Vl} (h : vchk v = 0) (r : List UInt8) : vlV ⟨evb v ++ r, 0⟩ = v ∧ vlS ⟨evb v ++ r, 0⟩ = ⟨r, 0⟩ := by
  obtain ⟨hk, hn1, hn2, hs, h1, h2⟩ := vchk_zero h
  obtain ⟨k, n, s⟩ := v
  simp only at *
  rcases hk with rfl | rfl
  · have e : evb ⟨1, n, s⟩ = UInt8.ofNat 1 :: lng (fld n) := rfl
    rw [e]
    have hv : smV ⟨UInt8.ofNat 1 :: lng (fld n) ++ r, 0⟩ = 1 := rfl
    have hq : smS ⟨UInt8.ofNat 1 :: lng (fld n) ++ r, 0⟩ = ⟨lng (fld n) ++ r, 0⟩ := rfl
    obtain ⟨a1, a2⟩ := ln_fw0 (fld_63 hn1 hn2) r
    refine ⟨?_, ?_⟩
    · unfold vlV
      rw [hv, if_pos rfl, hq, a1, sgZ_fld, arr_nil (h1 rfl)]
    · unfold vlS
      rw [hv, if_pos rfl, hq, a2]
  · have e : evb ⟨2, n, s⟩ = UInt8.ofNat 2 :: txb s := rfl
    rw [e]
    have hv : smV ⟨UInt8.ofNat 2 :: txb s ++ r, 0⟩ = 2 := rfl
    have hq : smS ⟨UInt8.ofNat 2 :: txb s ++ r, 0⟩ = ⟨txb s ++ r, 0⟩ := rfl
    obtain ⟨a1, a2⟩ := tx_fw (s := s) (by omega) r
    refine ⟨?_, ?_⟩
    · unfold vlV
      rw [hv, if_neg (by omega), if_pos rfl, hq, a1, h2 rfl]
    · unfold vlS
      rw [hv, if_neg (by omega), if_pos rfl, hq, a2]
theorem vl_torn {v : Vl} (h : vchk v = 0) {p q : List UInt8} (hp : p ++ q = evb v) (hq : q ≠ []) : (vlS ⟨p, 0⟩).e = 5 := by
  obtain ⟨hk, hn1, hn2, hs, h1, h2⟩ := vchk_zero h
  obtain ⟨k, n, s⟩ := v
  simp only at *
  match p, hp with
  | [], _ => rfl
  | c :: p, hp =>
    rcases hk with rfl | rfl
    · have e : evb ⟨1, n, s⟩ = UInt8.ofNat 1 :: lng (fld n) := rfl
      rw [e] at hp
      simp only [List.cons_append, List.cons.injEq] at hp
      obtain ⟨rfl, hp⟩ := hp
      unfold vlS
      rw [show smV ⟨UInt8.ofNat 1 :: p, 0⟩ = 1 from rfl, if_pos rfl, show smS ⟨UInt8.ofNat 1 :: p, 0⟩ = ⟨p, 0⟩ from rfl]
      exact ln_torn0 (fld_63 hn1 hn2) hp hq
    · have e : evb ⟨2, n, s⟩ = UInt8.ofNat 2 :: txb s := rfl
      rw [e] at hp
      simp only [List.cons_append, List.cons.injEq] at hp
      obtain ⟨rfl, hp⟩ := hp
      unfold vlS
      rw [show smV ⟨UInt8.ofNat 2 :: p, 0⟩ = 2 from rfl, if_neg (by omega), if_pos rfl, show smS ⟨UInt8.ofNat 2 :: p, 0⟩ = ⟨p, 0⟩ from rfl]
      exact tx_torn (by omega) hp hq
theorem vs_fw : ∀ (l acc : List Vl) (r : List UInt8), (∀ v ∈ l, vchk v = 0) → vsL l.length ⟨l.flatMap evb ++ r, 0⟩ acc = (acc ++ l, ⟨r, 0⟩)
  | [], acc, r, h => by simp [vsL]
  | v :: l, acc, r, h => by
    obtain ⟨a1, a2⟩ := vl_fw (h v (by simp)) (l.flatMap evb ++ r)
    rw [List.flatMap_cons, List.append_assoc, List.length_cons]
    show (if _ then _ else _) = _
    rw [if_pos rfl, a1, a2, vs_fw l _ r (fun x hx => h x (by simp [hx]))]
    simp
theorem vs_torn : ∀ (l acc : List Vl) (p q : List UInt8), (∀ v ∈ l, vchk v = 0) → p ++ q = l.flatMap evb → q ≠ [] → (vsL l.length ⟨p, 0⟩ acc).2.e = 5
  | [], acc, p, q, h, hp, hq => by simp at hp; exact absurd hp.2 hq
  | v :: l, acc, p, q, h, hp, hq => by
    rw [List.flatMap_cons] at hp
    show (if _ then vsL l.length (vlS _) _ else _ : List Vl × Sx).2.e = 5
    rw [if_pos rfl]
    rcases two_parts hp hq with ⟨q', h1, h2⟩ | ⟨p', rfl, h2⟩
    · have := vl_torn (h v (by simp)) h2 h1
      rw [vsL_keep _ _ (by rw [this]; decide), this]
    · rw [(vl_fw (h v (by simp)) p').2]
      exact vs_torn l _ p' q (fun x hx => h x (by simp [hx])) h2 hq
theorem vsR_fw {l : List Vl} (h : ∀ v ∈ l, vchk v = 0) (hl : l.length ≤ 4) (r : List UInt8) : vsR ⟨UInt8.ofNat l.length :: (l.flatMap evb ++ r), 0⟩ = (l, ⟨r, 0⟩) := by
  unfold vsR
  rw [show smV ⟨UInt8.ofNat l.length :: (l.flatMap evb ++ r), 0⟩ = l.length from ofn _ (by omega)]
  show vsL l.length ⟨l.flatMap evb ++ r, 0⟩ [] = _
  rw [vs_fw l [] r h]
  rfl
theorem vsR_torn {l : List Vl} (h : ∀ v ∈ l, vchk v = 0) (hl : l.length ≤ 4) {p q : List UInt8} (hp : p ++ q = UInt8.ofNat l.length :: l.flatMap evb) (hq : q ≠ []) : (vsR ⟨p, 0⟩).2.e = 5 := by
  match p, hp with
  | [], _ => rfl
  | c :: p, hp =>
    simp only [List.cons_append, List.cons.injEq] at hp
    obtain ⟨rfl, hp⟩ := hp
    unfold vsR
    rw [show smV ⟨UInt8.ofNat l.length :: p, 0⟩ = l.length from ofn _ (by omega)]
    exact vs_torn l [] p q h hp hq
theorem fl_fw (c : Bool) (r : List UInt8) : decide (smV ⟨flg c :: r, 0⟩ = 1) = c ∧ flS ⟨flg c :: r, 0⟩ = ⟨r, 0⟩ := by
  cases c
  · exact ⟨rfl, rfl⟩
  · exact ⟨rfl, rfl⟩
end Go.Proofs.Ytepgkemnpcadiaa
