/-
  A reader of bytes: refuse, small, long, signed, flag.
-/
import Derived.Test.YtepgkemnpcadiabWp
namespace Go.Proofs.Ytepgkemnpcadiab
open Go.ChangeShapes Go.WideShapes Go.ChangeAt Go.RowKit Go.Maps
set_option linter.unusedVariables false
set_option linter.unusedSimpArgs false
set_option maxRecDepth 20000
theorem refuse_any (R : Nat) (s : Sx) (x : Int) (w : World) (h : RA w R s) :
    Calls Try.prog 36 #[.pointer (some ⟨R, 0, none⟩), .int .i64 x] w fun e w' => e = .returned (.tuple #[]) ∧ RA w' R (rfx s x) ∧ Gb w R w' := by
  have HH := hid h
  obtain ⟨p, cap, h1, _⟩ := h.ex
  have c1 := row_cell (j := 1) h1 rfl
  have f1 := row_frozen (j := 1) h1
  clear h h1
  obtain ⟨l, e⟩ := s
  simp only at c1
  by_cases he : e = 0
  · subst he
    go_enter Try.func36, Try.ntmps36
    go_wp2
    go_returns
    exact ⟨rfl, by unfold rfx; rw [if_pos rfl]; exact HH.out.wrong x, Gb.set _ _ _ _⟩
  · have heb : (e == 0) = false := by simpa using he
    go_enter Try.func36, Try.ntmps36
    go_wp2
    go_returns
    exact ⟨rfl, by unfold rfx; rw [if_neg he]; exact HH.out, Gb.refl _ _⟩
set_option maxHeartbeats 4000000 in
theorem small_any (R : Nat) (s : Sx) (w : World) (h : RA w R s) :
    Calls Try.prog 44 #[.pointer (some ⟨R, 0, none⟩)] w fun e w' => e = .returned (.int .i64 (smV s : Nat)) ∧ RA w' R (smS s) ∧ Gb w R w' := by
  have HH := hid h
  have HF := hid (refuse_any R s 5 w h)
  obtain ⟨p, cap, h1, h2, h3, h4⟩ := h.ex
  have H1 := hid h1
  have c0 := row_cell (j := 0) h1 rfl
  have c1 := row_cell (j := 1) h1 rfl
  have f0 := row_frozen (j := 0) h1
  obtain ⟨l, e⟩ := s
  simp only at *
  match l with
  | [] =>
    clear h h1 h2 h3 h4 H1
    go_enter Try.func44, Try.ntmps44
    go_wp2_with fail
    refine HF.out.mono ?_
    rintro e2 w2 ⟨rfl, hr, hg⟩
    have HR := hid hr
    have HG := hid hg
    clear hr hg c0 c1 f0
    go_wp2
    go_ret
    exact ⟨rfl, HR.out, HG.out⟩
  | c :: r =>
    obtain ⟨g, off, rfl, hg, hc⟩ := h4 (by simp)
    have b0 := hc 0 (by simp)
    rw [Nat.add_zero] at b0
    simp only [List.getElem_cons_zero] at b0
    have hne : g ≠ R := by omega
    obtain ⟨n, hn⟩ : ∃ n, r.length = n := ⟨_, rfl⟩
    have hl : (c :: r).length = n + 1 := by simp [hn]
    rw [hl] at c0 h2
    have k1 : ((n + 1 : Nat) : Int) ≠ 0 := by omega
    have k2 : ((n : Int) + 1 == 0) = false := by simp; omega
    have k3 : (0 : Int) < (n : Int) + 1 := by omega
    have k4 : (1 : Int) ≤ (n : Int) + 1 := by omega
    have hcn := c.toNat_lt
    have hw : wrap64 (c.toNat : Int) = (c.toNat : Int) := by unfold wrap64; omega
    have HST := hid (fun u hu => HH.out.read H1.out (k := 1) (by simp) u hu)
    have HN := hid hn
    clear h h1 h4 hc HF
    go_enter Try.func44, Try.ntmps44
    go_wp2
    all_goals
      go_ret
      refine ⟨rfl, HST.out _ ⟨_, by simp [HN.out]; first | rfl | exact ⟨rfl, by omega⟩ | exact ⟨rfl, by omega, by omega⟩, fun hlt => ?_⟩, Gb.set _ _ _ _⟩
      have h9 := HN.out
      first | rfl | (exfalso; simp at hlt h2; omega)
/-- A long number's digits: from the i-th on, k of them at most. -/
def lnV : Nat → Nat → Nat → Sx → Nat
  | 0, _, _, _ => 0
  | k + 1, i, n, s => if 128 ≤ smV s then lnV k (i + 1) (n + smV s % 128 * 128 ^ i) (smS s) else n + smV s % 128 * 128 ^ i
def lnS : Nat → Nat → Nat → Sx → Sx
  | 0, _, _, s => rfx s 4
  | k + 1, i, n, s => if 128 ≤ smV s then lnS k (i + 1) (n + smV s % 128 * 128 ^ i) (smS s) else if smV s = 0 ∧ 0 < i then rfx (smS s) 4 else smS s
theorem pow_le (i : Nat) (h : i ≤ 9) : 128 ^ i ≤ 9223372036854775808 := by
  have : 128 ^ i ≤ 128 ^ 9 := Nat.pow_le_pow_right (by omega) h
  have e : (128 : Nat) ^ 9 = 9223372036854775808 := by decide
  omega
theorem ln_step {i n c : Nat} (hi : i < 9) (hn : n < 128 ^ i) : n + c % 128 * 128 ^ i < 128 ^ (i + 1) := by
  have h1 : c % 128 ≤ 127 := by omega
  have h2 : c % 128 * 128 ^ i ≤ 127 * 128 ^ i := Nat.mul_le_mul_right _ h1
  rw [Nat.pow_succ]
  omega
theorem ln_num {n c j : Nat} (hj : j < 9) (hn : n < 128 ^ j) : wrap64 ((n : Int) + wrap64 ((c : Int) % 128 * 2 ^ (7 * j))) = ((n + c % 128 * 128 ^ j : Nat) : Int) := by
  have e : (2 : Int) ^ (7 * j) = ((128 ^ j : Nat) : Int) := by
    rw [Int.pow_mul]
    simp
  have h1 := ln_step (c := c) hj hn
  have h2 := pow_le (j + 1) (by omega)
  have e2 : (c : Int) % 128 * 2 ^ (7 * j) = ((c % 128 * 128 ^ j : Nat) : Int) := by
    rw [e]
    simp
  rw [e2]
  generalize hX : c % 128 * 128 ^ j = X at *
  generalize 128 ^ (j + 1) = Y at *
  have w1 : wrap64 (X : Int) = X := by unfold wrap64; omega
  rw [w1]
  have w2 : wrap64 ((n : Int) + X) = (n : Int) + X := by unfold wrap64; omega
  rw [w2]
  omega
set_option maxHeartbeats 8000000 in
theorem long_any (R : Nat) (s : Sx) (w : World) (h : RA w R s) :
    Calls Try.prog 46 #[.pointer (some ⟨R, 0, none⟩)] w fun e w' => e = .returned (.int .i64 (lnV 9 0 0 s : Nat)) ∧ RA w' R (lnS 9 0 0 s) ∧ Gb w R w' := by
  have HH := hid h
  obtain ⟨z, hz⟩ : ∃ z, lnV 9 0 0 s = z := ⟨_, rfl⟩
  obtain ⟨y, hy⟩ : ∃ y, lnS 9 0 0 s = y := ⟨_, rfl⟩
  have HZ := hid hz
  have HY := hid hy
  rw [hz, hy]
  clear h hz hy
  go_enter Try.func46, Try.ntmps46
  go_wp2
  go_loopw [3, 6] (fun v i wr => ∃ (k j n : Nat) (t : Sx), k + j = 9 ∧ i = .int .i64 j ∧ v = .int .i64 n ∧ n < 128 ^ j ∧ RA wr R t ∧ lnV k j n t = z ∧ lnS k j n t = y ∧ Gb w R wr) (fun _ i _ => 9 - (intOf i).toNat)
  case atStart => exact ⟨9, 0, 0, s, rfl, rfl, rfl, by simp, HH.out, HZ.out, HY.out, Gb.refl _ _⟩
  case round =>
    obtain ⟨k, j, n, t, hkj, rfl, rfl, hn, hr, hv, hs, hg⟩ := hrel
    have HR := hid hr
    have HV := hid hv
    have HS := hid hs
    have HG := hid hg
    have HNB := hid hn
    clear hr hv hs hg hn
    match k, hkj with
    | 0, hkj =>
      obtain rfl : j = 9 := by omega
      go_wp2_with fail
      refine (refuse_any R t 4 _ HR.out).mono ?_
      rintro e2 w2 ⟨rfl, hr, hg⟩
      have HR2 := hid hr
      have HG2 := hid hg
      clear hr hg
      go_wp2
      go_ret
      exact ⟨by rw [← HV.out]; rfl, by rw [← HS.out]; exact HR2.out, HG.out.trans HG2.out⟩
    | k + 1, hkj =>
      have hj9 : (j : Int) < 9 := by omega
      go_wp2_with fail
      refine (small_any R t _ HR.out).mono ?_
      rintro e2 w2 ⟨rfl, hr, hg⟩
      have HR2 := hid hr
      have HG2 := hid (HG.out.trans hg)
      have hc256 := smV_lt t
      obtain ⟨c, hc⟩ : ∃ c, smV t = c := ⟨_, rfl⟩
      have HC := hid hc
      rw [hc] at hc256 ⊢
      clear hr hg hc
      have hst := ln_step (c := c) (by omega : j < 9) HNB.out
      have hpw := pow_le (j + 1) (by omega)
      by_cases hg : 128 ≤ c
      · have hgi : (128 : Int) ≤ c := by omega
        have HLV : Hid (lnV (k + 1) j n t = lnV k (j + 1) (n + c % 128 * 128 ^ j) (smS t)) := by show (if 128 ≤ smV t then _ else _) = _; rw [HC.out, if_pos hg]
        have HLS : Hid (lnS (k + 1) j n t = lnS k (j + 1) (n + c % 128 * 128 ^ j) (smS t)) := by show (if 128 ≤ smV t then _ else _) = _; rw [HC.out, if_pos hg]
        have HNM := hid (ln_num (c := c) (by omega : j < 9) HNB.out)
        have HST := hid hst
        clear hst hpw
        go_wp2_with fail
        exact ⟨⟨k, j + 1, n + c % 128 * 128 ^ j, smS t, by omega, by go_num, by rw [HNM.out], HST.out, HR2.out, by rw [← HLV.out]; exact HV.out, by rw [← HLS.out]; exact HS.out, HG2.out⟩, by simp [intOf]; omega⟩
      · have hgi : ¬ (128 : Int) ≤ c := by omega
        have HLV : Hid (lnV (k + 1) j n t = n + c % 128 * 128 ^ j) := by show (if 128 ≤ smV t then _ else _) = _; rw [HC.out, if_neg hg]
        have HLS : Hid (lnS (k + 1) j n t = if c = 0 ∧ 0 < j then rfx (smS t) 4 else smS t) := by show (if 128 ≤ smV t then _ else _) = _; rw [HC.out, if_neg hg]
        have HNM := hid (ln_num (c := c) (by omega : j < 9) HNB.out)
        have HNW : Hid (wrap64 (n : Int) = n) := by have h5 := HNB.out; have h6 := pow_le j (by omega); show wrap64 (n : Int) = n; unfold wrap64; omega
        clear hst hpw
        by_cases hc0 : c = 0
        · subst hc0
          by_cases hj0 : 0 < j
          · have hji : (0 : Int) < j := by omega
            go_wp2_with fail
            refine (refuse_any R _ 4 _ HR2.out).mono ?_
            rintro e3 w3 ⟨rfl, hr, hg3⟩
            have HR3 := hid hr
            have HG3 := hid (HG2.out.trans hg3)
            clear hr hg3
            go_wp2
            go_ret
            exact ⟨by rw [← HV.out, HLV.out]; exact ret_int (by simpa using HNW.out), by rw [← HS.out, HLS.out, if_pos (by first | exact ⟨rfl, hj0⟩ | exact ⟨trivial, hj0⟩)]; exact HR3.out, HG3.out⟩
          · have hji : ¬ (0 : Int) < j := by omega
            go_wp2
            go_ret
            exact ⟨by rw [← HV.out, HLV.out]; exact ret_int (by simpa using HNW.out), by rw [← HS.out, HLS.out, if_neg (fun h => hj0 h.2)]; exact HR2.out, HG2.out⟩
        · have hcb : ((c : Int) == 0) = false := by simpa using hc0
          go_wp2
          go_ret
          exact ⟨by rw [← HV.out, HLV.out]; exact ret_int HNM.out, by rw [← HS.out, HLS.out, if_neg (fun h => hc0 h.1)]; exact HR2.out, HG2.out⟩
end Go.Proofs.Ytepgkemnpcadiab
