/-
  No operation has two forms, in plain words: what is read is as it is written.
-/
import Derived.Test.YtepgkemnpcadiaaWv
namespace Go.Proofs.Ytepgkemnpcadiaa
open Go.ChangeShapes Go.WideShapes Go.ChangeAt Go.RowKit Go.Maps
set_option linter.unusedVariables false
set_option linter.unusedSimpArgs false
theorem rfx_ne (s : Sx) {x : Int} (hx : x ≠ 0) : (rfx s x).e ≠ 0 := by
  unfold rfx
  by_cases h : s.e = 0
  · rw [if_pos h]; exact hx
  · rw [if_neg h]; exact h
theorem rfx_keep {s : Sx} (h : s.e ≠ 0) (x : Int) : (rfx s x).e = s.e := by unfold rfx; rw [if_neg h]
theorem rfx_zero {s : Sx} (h : s.e = 0) (x : Int) : (rfx s x).e = x := by unfold rfx; rw [if_pos h]
/-- What is wrong stays. -/
theorem smS_keep {s : Sx} (h : s.e ≠ 0) : (smS s).e = s.e := by
  unfold smS
  split
  · exact rfx_keep h 5
  · rfl
theorem lnS_keep : ∀ (k i n : Nat) {s : Sx}, s.e ≠ 0 → (lnS k i n s).e = s.e
  | 0, _, _, s, h => rfx_keep h 4
  | k + 1, i, n, s, h => by
    have h2 := smS_keep h
    show (if 128 ≤ smV s then _ else (if _ then _ else _ : Sx)).e = s.e
    by_cases c : 128 ≤ smV s
    · rw [if_pos c, lnS_keep k _ _ (by rw [h2]; exact h), h2]
    · rw [if_neg c]
      by_cases c2 : smV s = 0 ∧ 0 < i
      · rw [if_pos c2, rfx_keep (by rw [h2]; exact h), h2]
      · rw [if_neg c2, h2]
theorem txS_keep {s : Sx} (h : s.e ≠ 0) : (txS s).e = s.e := by
  have h2 := smS_keep h
  unfold txS
  by_cases c : (smS s).l.length < smV s
  · rw [if_pos c, rfx_keep (by rw [h2]; exact h), h2]
  · rw [if_neg c]; exact h2
theorem flS_keep {s : Sx} (h : s.e ≠ 0) : (flS s).e = s.e := by
  have h2 := smS_keep h
  unfold flS
  by_cases c : 1 < smV s
  · rw [if_pos c, rfx_keep (by rw [h2]; exact h), h2]
  · rw [if_neg c, h2]
theorem vlS_keep {s : Sx} (h : s.e ≠ 0) : (vlS s).e = s.e := by
  have h2 := smS_keep h
  have h3 : (smS s).e ≠ 0 := by rw [h2]; exact h
  unfold vlS
  by_cases c1 : smV s = 1
  · rw [if_pos c1, lnS_keep _ _ _ h3, h2]
  · rw [if_neg c1]
    by_cases c2 : smV s = 2
    · rw [if_pos c2, txS_keep h3, h2]
    · rw [if_neg c2, rfx_keep h3, h2]
theorem vsL_keep : ∀ (k : Nat) {s : Sx} (acc : List Vl), s.e ≠ 0 → (vsL k s acc).2.e = s.e
  | 0, s, acc, h => rfl
  | k + 1, s, acc, h => by
    show (if s.e = 0 then _ else _ : List Vl × Sx).2.e = s.e
    rw [if_neg h]
theorem vsR_keep {s : Sx} (h : s.e ≠ 0) : (vsR s).2.e = s.e := by
  have h2 := smS_keep h
  unfold vsR
  rw [vsL_keep _ _ (by rw [h2]; exact h), h2]
/-- If all went well, what went ahead did. -/
theorem ok_of {f : Sx → Sx} (hk : ∀ {s : Sx}, s.e ≠ 0 → (f s).e = s.e) {s : Sx} (h : (f s).e = 0) : s.e = 0 := by
  by_cases c : s.e = 0
  · exact c
  · rw [hk c] at h; exact absurd h c
theorem sx_eta {s : Sx} (h : s.e = 0) : s = ⟨s.l, 0⟩ := by cases s; simp at h; subst h; rfl
theorem sm_un {s : Sx} (h : (smS s).e = 0) : s.e = 0 ∧ ∃ c : UInt8, smV s = c.toNat ∧ s.l = c :: (smS s).l := by
  have h0 := ok_of @smS_keep h
  refine ⟨h0, ?_⟩
  obtain ⟨l, e⟩ := s
  match l with
  | [] => exact absurd h (by show (rfx _ 5).e ≠ 0; exact rfx_ne _ (by decide))
  | c :: r => exact ⟨c, rfl, rfl⟩
theorem u8_back (c : UInt8) (n : Nat) (h : n = c.toNat) : UInt8.ofNat n = c := by subst h; simp
/-- A long number has one form. -/
theorem ln_un : ∀ (k i n : Nat) (s : Sx), k + i = 9 → n < 128 ^ i → (lnS k i n s).e = 0 → ∃ m, lnV k i n s = n + m * 128 ^ i ∧ (0 < i → 0 < m) ∧ s.l = lng m ++ (lnS k i n s).l
  | 0, i, n, s, hk, hn, h => absurd h (rfx_ne _ (by decide))
  | k + 1, i, n, s, hk, hn, h => by
    have hst := ln_step (c := smV s) (by omega : i < 9) hn
    have hV : lnV (k + 1) i n s = if 128 ≤ smV s then lnV k (i + 1) (n + smV s % 128 * 128 ^ i) (smS s) else n + smV s % 128 * 128 ^ i := rfl
    have hS : lnS (k + 1) i n s = if 128 ≤ smV s then lnS k (i + 1) (n + smV s % 128 * 128 ^ i) (smS s) else if smV s = 0 ∧ 0 < i then rfx (smS s) 4 else smS s := rfl
    by_cases c : 128 ≤ smV s
    · rw [if_pos c] at hV hS
      rw [hS] at h
      obtain ⟨m, h1, h2, h3⟩ := ln_un k (i + 1) _ (smS s) (by omega) hst h
      have hsm : (smS s).e = 0 := by
        by_cases c0 : (smS s).e = 0
        · exact c0
        · rw [lnS_keep _ _ _ c0] at h; exact h
      obtain ⟨_, b, hb, hl⟩ := sm_un hsm
      have hb256 := smV_lt s
      have hm := h2 (by omega)
      refine ⟨smV s % 128 + 128 * m, ?_, fun _ => by omega, ?_⟩
      · rw [hV, h1, Nat.add_mul, Nat.pow_succ, ← Nat.add_assoc, Nat.mul_comm (128 ^ i) 128, ← Nat.mul_assoc, Nat.mul_comm m 128]
      · rw [hS, hl, lng_ge (by omega), h3]
        have e1 : (smV s % 128 + 128 * m) / 128 = m := by omega
        have e2 : 128 + (smV s % 128 + 128 * m) % 128 = b.toNat := by omega
        rw [e1, u8_back b _ e2]
        rfl
    · rw [if_neg c] at hV hS
      by_cases c2 : smV s = 0 ∧ 0 < i
      · rw [if_pos c2] at hS
        rw [hS] at h
        exact absurd h (rfx_ne _ (by decide))
      · rw [if_neg c2] at hS
        rw [hS] at h
        obtain ⟨_, b, hb, hl⟩ := sm_un h
        have e1 : smV s % 128 = smV s := by omega
        refine ⟨smV s, by rw [hV, e1], fun hi => by omega, ?_⟩
        rw [hS, hl, lng_lt (by omega), u8_back b _ hb]
        rfl
theorem ln_un0 {s : Sx} (h : (lnS 9 0 0 s).e = 0) : s.l = lng (lnV 9 0 0 s) ++ (lnS 9 0 0 s).l := by
  obtain ⟨m, h1, _, h3⟩ := ln_un 9 0 0 s rfl (by simp) h
  rw [h3, h1]
  simp
theorem tx_data (l : List UInt8) : (tx l).data.toList = l := by simp [tx]
theorem tx_size (l : List UInt8) : (tx l).size = l.length := by simp [tx, ByteArray.size]
theorem tx_un {s : Sx} (h : (txS s).e = 0) : s.l = txb (txV s) ++ (txS s).l := by
  unfold txS at h ⊢
  unfold txV
  by_cases c : (smS s).l.length < smV s
  · rw [if_pos c] at h
    exact absurd h (rfx_ne _ (by decide))
  · rw [if_neg c] at h ⊢
    rw [if_neg c]
    obtain ⟨_, b, hb, hl⟩ := sm_un h
    unfold txb
    rw [tx_data, tx_size, List.length_take, Nat.min_eq_left (by omega), u8_back b _ hb]
    show s.l = b :: ((smS s).l.take _ ++ (smS s).l.drop _)
    rw [List.take_append_drop]
    exact hl
theorem fld_sgZ (m : Nat) : fld (sgZ m) = m := by
  unfold fld sgZ
  by_cases h : m % 2 = 1
  · rw [if_pos h, if_pos (by omega)]; omega
  · rw [if_neg h, if_neg (by omega)]; omega
theorem vl_un {s : Sx} (h : (vlS s).e = 0) : s.l = evb (vlV s) ++ (vlS s).l := by
  have hsm : (smS s).e = 0 := by
    by_cases c0 : (smS s).e = 0
    · exact c0
    · unfold vlS at h
      by_cases c1 : smV s = 1
      · rw [if_pos c1, lnS_keep _ _ _ c0] at h; exact absurd h c0
      · rw [if_neg c1] at h
        by_cases c2 : smV s = 2
        · rw [if_pos c2, txS_keep c0] at h; exact absurd h c0
        · rw [if_neg c2] at h; exact absurd h (rfx_ne _ (by decide))
  obtain ⟨_, b, hb, hl⟩ := sm_un hsm
  unfold vlS at h ⊢
  unfold vlV
  by_cases c1 : smV s = 1
  · rw [if_pos c1] at h ⊢
    rw [if_pos c1]
    have h3 := ln_un0 h
    unfold evb
    rw [if_neg (by simp), fld_sgZ]
    have e : UInt8.ofNat (Int.toNat 1) = b := u8_back b _ (by rw [← hb, c1]; rfl)
    rw [hl, h3]
    show b :: _ = UInt8.ofNat (Int.toNat 1) :: _
    rw [e]
    have : (lnS 9 0 0 (smS s)).l = (lnS 9 0 0 (smS s)).l := rfl
    simp [← h3]
  · rw [if_neg c1] at h ⊢
    rw [if_neg c1]
    by_cases c2 : smV s = 2
    · rw [if_pos c2] at h ⊢
      rw [if_pos c2]
      have h3 := tx_un h
      unfold evb
      rw [if_pos rfl]
      have e : UInt8.ofNat (Int.toNat 2) = b := u8_back b _ (by rw [← hb, c2]; rfl)
      show s.l = UInt8.ofNat (Int.toNat 2) :: (txb _ ++ _)
      rw [e, ← h3]
      exact hl
    · rw [if_neg c2] at h
      exact absurd h (rfx_ne _ (by decide))
theorem vs_un : ∀ (k : Nat) (s : Sx) (acc : List Vl), (vsL k s acc).2.e = 0 → ∃ m, (vsL k s acc).1 = acc ++ m ∧ m.length = k ∧ s.l = m.flatMap evb ++ (vsL k s acc).2.l
  | 0, s, acc, h => ⟨[], by simp [vsL], rfl, by simp [vsL]⟩
  | k + 1, s, acc, h => by
    have he : vsL (k + 1) s acc = if s.e = 0 then vsL k (vlS s) (acc ++ [vlV s]) else (acc, s) := rfl
    by_cases c : s.e = 0
    · rw [if_pos c] at he
      rw [he] at h ⊢
      obtain ⟨m, h1, h2, h3⟩ := vs_un k (vlS s) _ h
      have hv : (vlS s).e = 0 := by
        by_cases c0 : (vlS s).e = 0
        · exact c0
        · rw [vsL_keep _ _ c0] at h; exact h
      refine ⟨vlV s :: m, by rw [h1]; simp, by simp [h2], ?_⟩
      rw [vl_un hv, h3]
      simp
    · rw [if_neg c] at he
      rw [he] at h
      exact absurd h c
theorem vsR_un {s : Sx} (h : (vsR s).2.e = 0) : s.l = UInt8.ofNat (vsR s).1.length :: ((vsR s).1.flatMap evb ++ (vsR s).2.l) := by
  have hsm : (smS s).e = 0 := by
    by_cases c0 : (smS s).e = 0
    · exact c0
    · unfold vsR at h; rw [vsL_keep _ _ c0] at h; exact h
  obtain ⟨_, b, hb, hl⟩ := sm_un hsm
  unfold vsR at h ⊢
  obtain ⟨m, h1, h2, h3⟩ := vs_un _ _ _ h
  rw [h1]
  simp only [List.nil_append]
  rw [u8_back b _ (by rw [h2, hb]), hl, ← h3]
theorem fl_un {s : Sx} (h : (flS s).e = 0) : s.l = flg (decide (smV s = 1)) :: (flS s).l := by
  unfold flS at h ⊢
  by_cases c : 1 < smV s
  · rw [if_pos c] at h
    exact absurd h (rfx_ne _ (by decide))
  · rw [if_neg c] at h ⊢
    obtain ⟨_, b, hb, hl⟩ := sm_un h
    rw [hl]
    have : flg (decide (smV s = 1)) = b := by
      rcases (by omega : smV s = 0 ∨ smV s = 1) with q | q
      · rw [q]; rw [q] at hb
        have := u8_back b 0 hb
        rw [← this]; rfl
      · rw [q]; rw [q] at hb
        have := u8_back b 1 hb
        rw [← this]; rfl
    rw [this]
theorem op_un {s : Sx} (h : (opS s).e = 0) : s.l = obt (opV s) ++ (opS s).l := by
  unfold opS at h ⊢
  unfold opV
  by_cases c1 : smV s = 1
  · rw [if_pos c1] at h ⊢
    rw [if_pos c1]
    have a4 := vsR_un h
    have o3 := ok_of @vsR_keep h
    have a3 := ln_un0 o3
    have o2 := ok_of (f := lnS 9 0 0) (fun h => lnS_keep _ _ _ h) o3
    have a2 := ln_un0 o2
    have o1 := ok_of (f := lnS 9 0 0) (fun h => lnS_keep _ _ _ h) o2
    have a1 := tx_un o1
    have o0 := ok_of @txS_keep o1
    obtain ⟨_, b, hb, hl⟩ := sm_un o0
    have e : UInt8.ofNat 1 = b := u8_back b _ (by rw [← hb, c1])
    rw [obt_1, e, hl, a1, a2, a3, a4]
    unfold evt
    have r1 : (smS s).l = (smS s).l := rfl
    simp [← a1, ← a2, ← a3, ← a4]
  · rw [if_neg c1] at h ⊢
    rw [if_neg c1]
    by_cases c2 : smV s = 2
    · rw [if_pos c2] at h ⊢
      rw [if_pos c2]
      have a2 := fl_un h
      have o1 := ok_of @flS_keep h
      have a1 := ln_un0 o1
      have o0 := ok_of (f := lnS 9 0 0) (fun h => lnS_keep _ _ _ h) o1
      obtain ⟨_, b, hb, hl⟩ := sm_un o0
      have e : UInt8.ofNat 2 = b := u8_back b _ (by rw [← hb, c2])
      rw [obt_2, e]
      calc s.l = b :: (smS s).l := hl
        _ = b :: (lng (lnV 9 0 0 (smS s)) ++ (lnS 9 0 0 (smS s)).l) := by rw [← a1]
        _ = b :: (lng (lnV 9 0 0 (smS s)) ++ (flg (decide (smV (lnS 9 0 0 (smS s)) = 1)) :: (flS (lnS 9 0 0 (smS s))).l)) := by rw [← a2]
        _ = _ := by simp
    · rw [if_neg c2] at h ⊢
      rw [if_neg c2]
      by_cases c3 : smV s = 3
      · rw [if_pos c3] at h ⊢
        rw [if_pos c3]
        have a1 := tx_un h
        have o0 := ok_of @txS_keep h
        obtain ⟨_, b, hb, hl⟩ := sm_un o0
        have e : UInt8.ofNat 3 = b := u8_back b _ (by rw [← hb, c3])
        rw [obt_3, e]
        calc s.l = b :: (smS s).l := hl
          _ = b :: (txb (txV (smS s)) ++ (txS (smS s)).l) := by rw [← a1]
          _ = _ := by simp
      · rw [if_neg c3] at h
        exact absurd h (rfx_ne _ (by decide))
/-- No operation has two forms. -/
theorem dc_un {l : List UInt8} (h : (dcR l).2 = 0) : ochk (dcR l).1 = 0 ∧ obt (dcR l).1 = l := by
  unfold dcR at h ⊢
  by_cases c1 : 20000 < l.length
  · rw [if_pos c1] at h; simp at h
  rw [if_neg c1] at h ⊢
  by_cases c2 : (dcT l).e = 0
  · rw [if_neg (by rw [c2]; simp)] at h ⊢
    by_cases c3 : ochk (opV ⟨l, 0⟩) = 0
    · rw [if_neg (by rw [c3]; simp)] at h ⊢
      refine ⟨c3, ?_⟩
      unfold dcT at c2
      by_cases c4 : (opS ⟨l, 0⟩).l = []
      · rw [if_pos c4] at c2
        have := op_un c2
        rw [c4, List.append_nil] at this
        exact this.symm
      · rw [if_neg c4] at c2
        exact absurd c2 (rfx_ne _ (by decide))
    · rw [if_pos c3] at h
      exact absurd h c3
  · rw [if_pos c2] at h
    exact absurd h c2
theorem dc_bad {l : List UInt8} (h : (dcR l).2 ≠ 0) : (dcR l).1 = zop := by
  unfold dcR at h ⊢
  by_cases c1 : 20000 < l.length
  · rw [if_pos c1]
  rw [if_neg c1] at h ⊢
  by_cases c2 : (dcT l).e = 0
  · rw [if_neg (by rw [c2]; simp)] at h ⊢
    by_cases c3 : ochk (opV ⟨l, 0⟩) = 0
    · rw [if_neg (by rw [c3]; simp)] at h
      exact absurd rfl h
    · rw [if_pos c3]
  · rw [if_pos c2]
theorem dc_nil : dcR [] = (zop, 5) := by rfl
end Go.Proofs.Ytepgkemnpcadiaa
