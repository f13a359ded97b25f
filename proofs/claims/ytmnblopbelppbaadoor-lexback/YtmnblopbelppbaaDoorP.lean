/-
  What is joined is cut into the same tokens: in plain words.
-/
import Derived.Test.YtmnblopbelppbaaDoorJ
import Derived.Test.YtmnblopbelppbaaDoorU
namespace Go.Proofs.YtmnblopbelppbaaDoor
open Go.ChangeShapes Go.WideShapes Go.ChangeAt Go.RowKit
set_option linter.unusedVariables false
set_option linter.unusedSimpArgs false
theorem lw_not {c : UInt8} (h : lw c = true) : dg c = false ∧ skp false (c :: ([] : List UInt8)) = 0 := by
  unfold lw at h
  simp at h
  refine ⟨by simp [dg]; omega, skp_none _ (by omega) (by omega)⟩
theorem skp_first (c : UInt8) (l : List UInt8) (h : skp false (c :: ([] : List UInt8)) = 0) : skp false (c :: l) = 0 := by
  by_cases h1 : c = 32 ∨ c = 9 ∨ c = 10 ∨ c = 13
  · simp [skp, h1] at h
  · by_cases h2 : c = 35
    · simp [skp, h1, h2] at h
    · simp [skp, h1, h2]
theorem word_bytes {s : ByteArray} (h : nchk s = 0) : ∃ c l, s.data.toList = c :: l ∧ lw c = true ∧ (∀ x ∈ s.data.toList, aln x = true) ∧ s.data.toList.length ≤ 10 := by
  have h10 := nchk_len h
  unfold nchk at h
  split at h
  · omega
  · rename_i hs
    have hz := fst_zero h
    have hl : s.data.toList.length = s.size := by simp
    cases hd : s.data.toList with
    | nil => rw [hd] at hl; simp at hl; omega
    | cons c l =>
      have h0 := hz 0 (by omega)
      unfold sgn byteN at h0
      rw [hd] at h0
      simp at h0
      refine ⟨c, l, rfl, ?_, ?_, by rw [← hd, hl]; exact h10⟩
      · unfold lw; unfold isL at h0; simp; omega
      · intro x hx
        obtain ⟨k, hk, rfl⟩ := List.getElem_of_mem hx
        have hk2 := hz k (by rw [hd] at hl; omega)
        unfold sgn byteN at hk2
        rw [hd] at hk2
        rw [List.getD_eq_getElem?_getD, List.getElem?_eq_getElem hk] at hk2
        simp at hk2
        unfold aln lw dg
        unfold isL isD at hk2
        simp
        by_cases hq : 97 ≤ ((c :: l)[k].toNat : Int) ∧ ((c :: l)[k].toNat : Int) ≤ 122
        · left; omega
        · have := hk2 hq
          right; omega
theorem wl_take : ∀ (b Y : List UInt8), (∀ x ∈ b, aln x = true) → (∀ c Z, Y = c :: Z → aln c = false) → wl (b ++ Y) = b.length
  | [], Y, _, h2 => by
    cases Y with
    | nil => rfl
    | cons c Z => simp [wl, h2 c Z rfl]
  | x :: b, Y, h1, h2 => by
    have hx := h1 x (by simp)
    have ih := wl_take b Y (fun y hy => h1 y (by simp [hy])) h2
    simp [wl, hx, ih]
theorem rd_word {s : ByteArray} (h : nchk s = 0) (X : List UInt8) : rd (s.data.toList ++ 32 :: X) = ⟨0, ⟨1, s, 0⟩, s.data.toList.length⟩ := by
  obtain ⟨c, l, hd, hc, ha, hl⟩ := word_bytes h
  have hb : bgn (s.data.toList ++ 32 :: X) = 1 := by rw [hd, List.cons_append, bgn_cons, if_pos hc]
  have hw : wl (s.data.toList ++ 32 :: X) = s.data.toList.length := wl_take _ _ ha (by rintro c Z h; cases h; rfl)
  unfold rd
  rw [hb, if_neg (by omega), if_pos rfl]
  unfold rdW
  rw [hw, if_neg (by omega), List.take_left, txt_of]
theorem dgt (d : Nat) (h : d < 10) : (UInt8.ofNat (48 + d)).toNat = 48 + d := by rw [UInt8.toNat_ofNat']; omega
theorem numF_dec : ∀ (n u : Nat), u < n → u ≤ 1125899906842624 → ∀ (j : Nat) (Y : List UInt8), numF (Lib.decDigits u ++ Y) 0 j = numF Y u (j + (Lib.decDigits u).length)
  | 0, u, h, _, _, _ => by omega
  | n + 1, u, h, hm, j, Y => by
    by_cases h2 : u < 10
    · rw [Lib.decDigits, dif_pos h2]
      simp only [List.cons_append, List.nil_append, numF_cons]
      have e := dgt u h2
      rw [if_pos (by simp [dg, e]; omega), e]
      rw [if_neg (by omega)]
      congr 1 <;> omega
    · rw [Lib.decDigits, dif_neg h2, List.append_assoc, numF_dec n (u / 10) (by omega) (by omega)]
      simp only [List.cons_append, List.nil_append, numF_cons]
      have e := dgt (u % 10) (by omega)
      rw [if_pos (by simp [dg, e]; omega), e]
      rw [if_neg (by omega)]
      simp
      congr 1 <;> omega
theorem dec_head : ∀ (n u : Nat), u < n → 1 ≤ u → ∃ c l, Lib.decDigits u = c :: l ∧ dg c = true ∧ c ≠ 48
  | 0, u, h, _ => by omega
  | n + 1, u, h, h1 => by
    by_cases h2 : u < 10
    · have e := dgt u h2
      refine ⟨UInt8.ofNat (48 + u), [], by rw [Lib.decDigits, dif_pos h2], by simp [dg, e]; omega, fun c => ?_⟩
      rw [c] at e
      have : (48 : UInt8).toNat = 48 := rfl
      omega
    · obtain ⟨c, l, e1, e2, e3⟩ := dec_head n (u / 10) (by omega) (by omega)
      exact ⟨c, l ++ [UInt8.ofNat (48 + u % 10)], by rw [Lib.decDigits, dif_neg h2, e1]; rfl, e2, e3⟩
theorem dec_first (u : Nat) : ∃ c l, Lib.decDigits u = c :: l ∧ dg c = true ∧ (c = 48 → l = []) := by
  by_cases h : 1 ≤ u
  · obtain ⟨c, l, e1, e2, e3⟩ := dec_head (u + 1) u (by omega) h
    exact ⟨c, l, e1, e2, fun c => absurd c e3⟩
  · obtain rfl : u = 0 := by omega
    exact ⟨48, [], by rw [Lib.decDigits, dif_pos (by omega)]; rfl, by decide, fun _ => rfl⟩
theorem dg_not {c : UInt8} (h : dg c = true) : lw c = false ∧ skp false (c :: ([] : List UInt8)) = 0 := by
  unfold dg at h
  simp at h
  refine ⟨by simp [lw]; omega, skp_none _ (by omega) (by omega)⟩
theorem rd_num (u : Nat) (hu : u ≤ 1125899906842624) (X : List UInt8) : rd (Lib.decDigits u ++ 32 :: X) = ⟨0, ⟨2, txt [], u⟩, (Lib.decDigits u).length⟩ := by
  obtain ⟨c, l, hd, hc, h48⟩ := dec_first u
  have hb : bgn (Lib.decDigits u ++ 32 :: X) = 2 := by rw [hd, List.cons_append, bgn_cons, (dg_not hc).1, if_neg (by simp), if_pos hc]
  have hn : numF (Lib.decDigits u ++ 32 :: X) 0 0 = some (u, (Lib.decDigits u).length) := by
    rw [numF_dec (u + 1) u (by omega) hu]
    rw [numF_cons, if_neg (by decide)]
    simp
  unfold rd
  rw [hb, if_neg (by omega), if_neg (by omega), if_pos rfl]
  unfold rdN
  rw [hn]
  simp only
  rw [if_neg]
  rintro (⟨h1, h2⟩ | h)
  · rw [hd] at h1 h2
    simp at h1 h2
    have := h48 h1
    subst this
    simp at h2
  · rw [List.drop_left] at h
    simp at h
    exact absurd h (by decide)
theorem ib_skip (c : UInt8) : ∀ (b Y : List UInt8), c ∉ b → Lib.indexByte (b ++ c :: Y) c = b.length
  | [], Y, _ => by simp [Lib.indexByte]
  | x :: b, Y, h => by
    have hx : (x == c) = false := by simp at h ⊢; exact fun e => h.1 e.symm
    have ih := ib_skip c b Y (fun hm => h (by simp [hm]))
    rw [List.cons_append, Lib.indexByte, hx, ih]
    have : ((b.length : Int) == -1) = false := by simp
    simp [this]
theorem rd_str {s : ByteArray} (h : (34 : UInt8) ∉ s.data.toList) (hs : s.size ≤ 20) (X : List UInt8) : rd (34 :: (s.data.toList ++ [34]) ++ 32 :: X) = ⟨0, ⟨3, s, 0⟩, s.data.toList.length + 2⟩ := by
  have e : 34 :: (s.data.toList ++ [34]) ++ 32 :: X = 34 :: (s.data.toList ++ 34 :: (32 :: X)) := by simp
  have hl : s.data.toList.length = s.size := by simp
  rw [e]
  have hb : bgn (34 :: (s.data.toList ++ 34 :: (32 :: X))) = 3 := by rw [bgn_cons, if_neg (by decide), if_neg (by decide), if_pos rfl]
  unfold rd
  rw [hb, if_neg (by omega), if_neg (by omega), if_neg (by omega), if_pos rfl]
  unfold rdS
  rw [List.drop_succ_cons, List.drop_zero, ib_skip 34 _ _ h, if_neg (by omega), if_neg (by omega)]
  simp [txt_of]
theorem rd_mark {b : List UInt8} (h : b ∈ mkl) (X : List UInt8) : rd (b ++ 32 :: X) = ⟨0, ⟨4, txt b, 0⟩, b.length⟩ ∧ ∃ c l, b = c :: l ∧ skp false (c :: ([] : List UInt8)) = 0 := by
  simp [mkl] at h
  rcases h with rfl | rfl | rfl | rfl | rfl | rfl | rfl | rfl | rfl | rfl | rfl | rfl | rfl | rfl | rfl | rfl | rfl
  all_goals
    refine ⟨?_, _, _, rfl, by decide⟩
    simp [rd, rdM, bgn_cons, lw, dg, fmk, mkl, Lib.hasPrefix, List.isPrefixOf]
theorem txt_nil {s : ByteArray} (h : s.data.toList = []) : s = txt [] := by rw [← h, txt_of]
theorem rd_shw {t : Tk} (h : tchk t = 0) (X : List UInt8) : rd (shw t ++ 32 :: X) = ⟨0, t, (shw t).length⟩ ∧ ∃ c l, shw t = c :: l ∧ skp false (c :: ([] : List UInt8)) = 0 := by
  obtain ⟨k, s, n⟩ := t
  unfold shw
  rcases fine h with ⟨h1, h2, h3⟩ | ⟨h1, h2, h3, h4⟩ | ⟨h1, h2, h3, h4⟩ | ⟨h1, h2, h3⟩
  · simp only at h1 h2 h3
    subst h1 h2
    simp only
    rw [if_neg (by omega), if_neg (by omega)]
    obtain ⟨c, l, hd, hc, _⟩ := word_bytes h3
    exact ⟨rd_word h3 X, c, l, hd, (lw_not hc).2⟩
  · simp only at h1 h2 h3 h4
    subst h1
    simp only [if_true]
    obtain ⟨u, rfl⟩ := Int.eq_ofNat_of_zero_le h3
    have e : Lib.itoa (u : Int) = Lib.decDigits u := by unfold Lib.itoa; rw [if_neg (by omega)]; simp
    rw [e, txt_nil h2]
    obtain ⟨c, l, hd, hc, _⟩ := dec_first u
    exact ⟨rd_num u (by omega) X, c, l, hd, (dg_not hc).2⟩
  · simp only at h1 h2 h3 h4
    subst h1 h2
    simp only [if_true]
    rw [if_neg (by omega)]
    refine ⟨?_, 34, _, rfl, by decide⟩
    rw [rd_str h3 h4 X]
    simp
  · simp only at h1 h2 h3
    subst h1 h2
    simp only
    rw [if_neg (by omega), if_neg (by omega)]
    have := rd_mark h3 X
    rw [txt_of] at this
    exact this
theorem skd_shw {t : Tk} (h : tchk t = 0) (Y : List UInt8) : skd (shw t ++ Y) = shw t ++ Y := by
  obtain ⟨_, c, l, e, hs⟩ := rd_shw h []
  unfold skd
  rw [e, List.cons_append, skp_first c _ hs]
  rfl
theorem skd_32 (Y : List UInt8) : skd (32 :: Y) = skd Y := by
  unfold skd
  have : skp false (32 :: Y) = skp false Y + 1 := by simp [skp]
  rw [this, List.drop_succ_cons]
theorem run_cat {N : Nat} {xs : List Tk} (ha : ∀ t ∈ xs, tchk t = 0) {T : List UInt8} {ts : List Tk} {p : Nat} {e : Int} (hr : Run N (skd T) ts p e) : Run N (skd (cat xs ++ T)) (xs ++ ts) p e := by
  induction xs with
  | nil => exact hr
  | cons t xs ih =>
    have h1 := ha t (by simp)
    have ih := ih (fun x hx => ha x (by simp [hx]))
    have e1 : cat (t :: xs) ++ T = shw t ++ 32 :: (cat xs ++ T) := by simp [cat]
    obtain ⟨hrd, c, l, hc, _⟩ := rd_shw h1 (cat xs ++ T)
    rw [e1, skd_shw h1]
    have hne : shw t ++ 32 :: (cat xs ++ T) ≠ [] := by rw [hc]; simp
    have := Run.step (N := N) (shw t ++ 32 :: (cat xs ++ T)) (xs ++ ts) p e hne (by rw [hrd]) (by rw [hrd, hc]; simp) (by rw [hrd]; simp) (by
      rw [hrd]
      simp only
      rw [List.drop_left, skd_32]
      exact ih)
    rw [hrd] at this
    exact this
end Go.Proofs.YtmnblopbelppbaaDoor
