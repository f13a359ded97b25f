/-
  The document's scan of bytes: many.
-/
import Derived.Test.YtepgkemnpcadiaaYa
namespace Go.Proofs.Ytepgkemnpcadiaa
open Go.ChangeShapes Go.WideShapes Go.ChangeAt Go.RowKit Go.Maps
set_option linter.unusedVariables false
set_option linter.unusedSimpArgs false
set_option maxRecDepth 20000
theorem lnS_bad {k j n : Nat} {t : Sx} (h : (smS t).e ≠ 0) : (lnS (k + 1) j n t).e = (smS t).e := by
  show (if 128 ≤ smV t then _ else (if _ then _ else _ : Sx)).e = _
  by_cases c : 128 ≤ smV t
  · rw [if_pos c, lnS_keep _ _ _ h]
  · rw [if_neg c]
    by_cases c2 : smV t = 0 ∧ 0 < j
    · rw [if_pos c2, rfx_keep h]
    · rw [if_neg c2]
theorem mn_num {n c j F : Nat} (hj : j < 9) (hn : n < 128 ^ j) (hF : F = 128 ^ j) : wrap64 ((n : Int) + wrap64 ((c : Int) % 128 * (F : Int))) = ((n + c % 128 * 128 ^ j : Nat) : Int) := by
  subst hF
  have h1 := ln_step (c := c) hj hn
  have h2 := pow_le (j + 1) (by omega)
  have e2 : (c : Int) % 128 * ((128 ^ j : Nat) : Int) = ((c % 128 * 128 ^ j : Nat) : Int) := by simp
  rw [e2]
  generalize c % 128 * 128 ^ j = X at *
  generalize 128 ^ (j + 1) = Y at *
  have w1 : wrap64 (X : Int) = X := by unfold wrap64; omega
  rw [w1]
  have w2 : wrap64 ((n : Int) + X) = (n : Int) + X := by unfold wrap64; omega
  rw [w2]
  omega
theorem mn_pow {j F : Nat} (hj : j < 8) (hF : F = 128 ^ j) : wrap64 ((F : Int) * 128) = ((128 ^ (j + 1) : Nat) : Int) := by
  subst hF
  have h8 : 128 ^ (j + 1) ≤ 128 ^ 8 := Nat.pow_le_pow_right (by omega) (by omega)
  have e : (128 : Nat) ^ 8 = 72057594037927936 := by decide
  have e2 : ((128 ^ j : Nat) : Int) * 128 = ((128 ^ (j + 1) : Nat) : Int) := by rw [Nat.pow_succ]; simp
  rw [e2]
  generalize 128 ^ (j + 1) = Y at *
  unfold wrap64
  omega
theorem meas9 {j : Nat} {x : Int} (h : x = (j : Int) + 1) (hj : j < 9) : 9 - (intOf (.int .i64 x)).toNat < 9 - (intOf (.int .i64 (j : Int))).toNat := by
  show 9 - x.toNat < 9 - (j : Int).toNat
  omega
set_option maxHeartbeats 8000000 in
theorem many_any (R : Nat) (L : List UInt8) (s : Sx) (w : World) (h : SR w R L s) (hL : L.length ≤ 20000) :
    Calls Try.prog 56 #[.pointer (some ⟨R, 0, none⟩)] w fun e w' => ∃ (n : Nat) (s' : Sx), e = .returned (.int .i64 n) ∧ n < 9223372036854775808 ∧ SR w' R L s' ∧ Ag s' (lnS 9 0 0 s) ∧ (s'.e = 0 → n = lnV 9 0 0 s) ∧ Gb w R w' := by
  have HH := hid h
  have HLL := hid hL
  have HZ63 := hid (lnV_63 s)
  obtain ⟨z, hz⟩ : ∃ z, lnV 9 0 0 s = z := ⟨_, rfl⟩
  obtain ⟨y, hy⟩ : ∃ y, lnS 9 0 0 s = y := ⟨_, rfl⟩
  have HZ := hid hz
  have HY := hid hy
  rw [hz] at HZ63
  rw [hz, hy]
  clear h hz hy hL
  go_enter Try.func56, Try.ntmps56
  go_wp2
  go_loopw [3, 4, 5] (fun v f i wr => ∃ (k j n : Nat) (t : Sx), k + 1 + j = 9 ∧ i = .int .i64 j ∧ v = .int .i64 n ∧ f = .int .i64 ((128 ^ j : Nat) : Int) ∧ n < 128 ^ j ∧ SR wr R L t ∧ lnV (k + 1) j n t = z ∧ lnS (k + 1) j n t = y ∧ Gb w R wr) (fun _ _ i _ => 9 - (intOf i).toNat)
  case atStart => exact ⟨8, 0, 0, s, rfl, rfl, rfl, rfl, by simp, HH.out, HZ.out, HY.out, Gb.refl _ _⟩
  case round =>
    obtain ⟨k, j, n, t, hkj, rfl, rfl, rfl, hn, hr, hv, hs, hg⟩ := hrel
    have HR := hid hr
    have HV := hid hv
    have HS := hid hs
    have HG := hid hg
    have HNB := hid hn
    obtain ⟨F, hF⟩ : ∃ F : Nat, 128 ^ j = F := ⟨_, rfl⟩
    have HF := hid hF
    rw [hF]
    clear hr hv hs hg hn hF
    have hj9 : (j : Int) < 9 := by omega
    go_wp2_with fail
    refine (one_any R L t _ HR.out HLL.out).mono ?_
    rintro e2 w2 ⟨c, s1, rfl, hc256, hr, ⟨ha1, ha2⟩, hcv, hg⟩
    have HR2 := hid hr
    have HG2 := hid (HG.out.trans hg)
    obtain ⟨p2, cap2, at2, h1, _⟩ := hr
    have c2 := row_cell (j := 2) h1 rfl
    clear hg h1
    obtain ⟨l1, e1⟩ := s1
    simp only at c2 ha1 ha2 hcv
    by_cases he : e1 = 0
    · subst he
      have HE : Hid ((⟨l1, 0⟩ : Sx) = smS t) := ha2 rfl
      have HC : Hid (c = smV t) := hcv rfl
      have hst := ln_step (c := c) (by omega : j < 9) HNB.out
      have hpw := pow_le (j + 1) (by omega)
      have HST := hid hst
      have HLV : Hid (z = if 128 ≤ c then lnV k (j + 1) (n + c % 128 * 128 ^ j) (smS t) else n + c % 128 * 128 ^ j) := by rw [← HV.out, HC.out]; rfl
      have HLS : Hid (y = if 128 ≤ c then lnS k (j + 1) (n + c % 128 * 128 ^ j) (smS t) else if c = 0 ∧ 0 < j then rfx (smS t) 4 else smS t) := by rw [← HS.out, HC.out]; rfl
      have HNM := hid (mn_num (c := c) (by omega : j < 9) HNB.out HF.out.symm)
      clear ha1 ha2 hcv hst hpw
      by_cases hbad : (0 < j ∧ c = 0) ∨ (j = 8 ∧ 127 < c)
      · have HYE : Hid (y = rfx ⟨l1, 0⟩ 4) := by
          rw [HE.out, HLS.out]
          rcases hbad with ⟨q1, q2⟩ | ⟨q1, q2⟩
          · rw [if_neg (by omega), if_pos ⟨q2, q1⟩]; rfl
          · rw [if_pos (by omega)]
            have hk0 : k = 0 := by omega
            subst hk0
            rfl
        have hq : (0 < j ∧ c = 0) ∨ (¬ (0 < j ∧ c = 0) ∧ j = 8 ∧ 127 < c) := by
          by_cases q : 0 < j ∧ c = 0
          · exact Or.inl q
          · rcases hbad with q2 | q2
            · exact absurd q2 q
            · exact Or.inr ⟨q, q2⟩
        clear hbad
        rcases hq with ⟨q1, q2⟩ | ⟨q0, q1, q2⟩
        · subst q2
          have i1 : (0 : Int) < j := by omega
          go_wp2_with fail
          refine (stop_any R L _ 4 _ HR2.out).mono ?_
          rintro e3 w3 ⟨rfl, hr3, hg3⟩
          have HR3 := hid hr3
          have HG3 := hid (HG2.out.trans hg3)
          clear hr3 hg3 c2
          go_wp2
          go_ret
          exact ⟨0, _, rfl, by omega, HR3.out, by rw [HYE.out]; exact Ag.refl _, fun h0 => absurd h0 (rfx_ne _ (by decide)), HG3.out⟩
        · subst q1
          have i0 : ((c : Int) == 0) = false := by simp; omega
          have i2 : (127 : Int) < c := by omega
          go_wp2_with fail
          refine (stop_any R L _ 4 _ HR2.out).mono ?_
          rintro e3 w3 ⟨rfl, hr3, hg3⟩
          have HR3 := hid hr3
          have HG3 := hid (HG2.out.trans hg3)
          clear hr3 hg3 c2
          go_wp2
          go_ret
          exact ⟨0, _, rfl, by omega, HR3.out, by rw [HYE.out]; exact Ag.refl _, fun h0 => absurd h0 (rfx_ne _ (by decide)), HG3.out⟩
      · have hgd : ¬ (c = 0 ∧ 0 < j) := fun q => hbad (Or.inl ⟨q.2, q.1⟩)
        by_cases hlt0 : c < 128
        · have hlt : ¬ 128 ≤ c := by omega
          have i3 : (c : Int) < 128 := by omega
          have i4 : ¬ (127 : Int) < c := by omega
          rcases (by omega : j = 0 ∨ (0 < j ∧ j = 8) ∨ (0 < j ∧ j ≠ 8)) with q | ⟨q, q8⟩ | ⟨q, q8⟩
          · subst q
            go_wp2
            go_ret
            exact ⟨z, _, ret_int (by first | (rw [HNM.out, HLV.out, if_neg hlt]) | (have h9 := HNM.out; rw [HLV.out, if_neg hlt]; simpa using h9)), HZ63.out, HR2.out, by rw [HE.out, HLS.out, if_neg hlt, if_neg hgd]; exact Ag.refl _, fun _ => rfl, HG2.out⟩
          · subst q8
            have i0 : ((c : Int) == 0) = false := by simp; omega
            go_wp2
            go_ret
            exact ⟨z, _, ret_int (by first | (rw [HNM.out, HLV.out, if_neg hlt]) | (have h9 := HNM.out; rw [HLV.out, if_neg hlt]; simpa using h9)), HZ63.out, HR2.out, by rw [HE.out, HLS.out, if_neg hlt, if_neg hgd]; exact Ag.refl _, fun _ => rfl, HG2.out⟩
          · have i1 : (0 : Int) < j := by omega
            have i0 : ((c : Int) == 0) = false := by simp; omega
            have i8 : ((j : Int) == 8) = false := by simp; omega
            go_wp2
            go_ret
            exact ⟨z, _, ret_int (by first | (rw [HNM.out, HLV.out, if_neg hlt]) | (have h9 := HNM.out; rw [HLV.out, if_neg hlt]; simpa using h9)), HZ63.out, HR2.out, by rw [HE.out, HLS.out, if_neg hlt, if_neg hgd]; exact Ag.refl _, fun _ => rfl, HG2.out⟩
        · have hlt : 128 ≤ c := by omega
          have hj8 : j < 8 := by omega
          have i3 : ¬ (c : Int) < 128 := by omega
          have i0 : ((c : Int) == 0) = false := by simp; omega
          have i8 : ((j : Int) == 8) = false := by simp; omega
          rcases (by omega : j = 0 ∨ 0 < j) with q | q
          · subst q
            obtain ⟨k', rfl⟩ : ∃ k', k = k' + 1 := ⟨k - 1, by omega⟩
            have hpw := mn_pow (j := 0) hj8 HF.out.symm
            have HPW := hid hpw
            go_wp2_with fail
            go_roundw
            case rel => exact ⟨k', 0 + 1, n + c % 128 * 128 ^ 0, smS t, by omega, by go_num, by first | rw [HNM.out] | (have h9 := HNM.out; simpa using h9), by first | rw [HPW.out] | (have h9 := HPW.out; simpa using h9), HST.out, by rw [← HE.out]; exact HR2.out, by rw [HLV.out, if_pos hlt], by rw [HLS.out, if_pos hlt], HG2.out⟩
            case measure => exact meas9 (by first | rfl | simp) (by omega)
          · have i1 : (0 : Int) < j := by omega
            obtain ⟨k', rfl⟩ : ∃ k', k = k' + 1 := ⟨k - 1, by omega⟩
            have hpw := mn_pow (j := j) hj8 HF.out.symm
            have HPW := hid hpw
            go_wp2_with fail
            go_roundw
            case rel => exact ⟨k', j + 1, n + c % 128 * 128 ^ j, smS t, by omega, by go_num, by first | rw [HNM.out] | (have h9 := HNM.out; simpa using h9), by first | rw [HPW.out] | (have h9 := HPW.out; simpa using h9), HST.out, by rw [← HE.out]; exact HR2.out, by rw [HLV.out, if_pos hlt], by rw [HLS.out, if_pos hlt], HG2.out⟩
            case measure => exact meas9 (by first | rfl | simp) (by omega)
    · have heb : (e1 != 0) = true := by simpa using he
      have HB : Hid (e1 = y.e) := by
        have h5 : (smS t).e ≠ 0 := by rw [← ha1]; exact he
        show e1 = y.e
        rw [← HS.out, lnS_bad h5, ← ha1]
      clear ha1 ha2 hcv
      go_wp2
      go_ret
      exact ⟨0, _, rfl, by omega, HR2.out, ⟨HB.out, fun h0 => absurd h0 he⟩, fun h0 => absurd h0 he, HG2.out⟩
end Go.Proofs.Ytepgkemnpcadiaa
