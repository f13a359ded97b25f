/-
  A reader of bytes: signed, flag, text.
-/
import Derived.Test.YtepgkemnpcadiaaWq
import Derived.Test.YtepgkemnpcadiaaWm
namespace Go.Proofs.Ytepgkemnpcadiaa
open Go.ChangeShapes Go.WideShapes Go.ChangeAt Go.RowKit Go.Maps
set_option linter.unusedVariables false
set_option linter.unusedSimpArgs false
set_option maxRecDepth 20000
theorem lnV_lt : ∀ (k i n : Nat) (s : Sx), k + i = 9 → n < 128 ^ i → lnV k i n s < 9223372036854775808
  | 0, i, n, s, _, _ => by show 0 < _; omega
  | k + 1, i, n, s, hk, hn => by
    have h1 := ln_step (c := smV s) (by omega : i < 9) hn
    have h2 := pow_le (i + 1) (by omega)
    show (if 128 ≤ smV s then _ else _) < _
    by_cases c : 128 ≤ smV s
    · rw [if_pos c]
      exact lnV_lt k (i + 1) _ _ (by omega) h1
    · rw [if_neg c]; omega
theorem lnV_63 (s : Sx) : lnV 9 0 0 s < 9223372036854775808 := lnV_lt 9 0 0 s rfl (by simp)
def sgZ (m : Nat) : Int := if m % 2 = 1 then -1 - ((m / 2 : Nat) : Int) else ((m / 2 : Nat) : Int)
set_option maxHeartbeats 4000000 in
theorem signed_any (R : Nat) (s : Sx) (w : World) (h : RA w R s) :
    Calls Try.prog 90 #[.pointer (some ⟨R, 0, none⟩)] w fun e w' => e = .returned (.int .i64 (sgZ (lnV 9 0 0 s))) ∧ RA w' R (lnS 9 0 0 s) ∧ Gb w R w' := by
  have HC := hid (long_any R s w h)
  have hm := lnV_63 s
  obtain ⟨m, hm2⟩ : ∃ m, lnV 9 0 0 s = m := ⟨_, rfl⟩
  rw [hm2] at HC hm ⊢
  clear h hm2
  have hd : wrap64 ((m : Int) / 2) = (m : Int) / 2 := by unfold wrap64; omega
  by_cases ho : m % 2 = 1
  · have k1 : (m : Int) % 2 = 1 := by omega
    have k2 : wrap64 (-1 - (m : Int) / 2) = -1 - (m : Int) / 2 := by unfold wrap64; omega
    have HZ : Hid (sgZ m = -1 - (m : Int) / 2) := by show sgZ m = _; unfold sgZ; rw [if_pos ho]; omega
    clear hm
    go_enter Try.func90, Try.ntmps90
    go_wp2_with fail
    refine HC.out.mono ?_
    rintro e2 w2 ⟨rfl, hr, hg⟩
    have HR := hid hr
    have HG := hid hg
    clear hr hg
    go_wp2
    go_ret
    exact ⟨ret_int (by rw [HZ.out]; first | rfl | simp [k2]), HR.out, HG.out⟩
  · have k1 : (m : Int) % 2 = 0 := by omega
    have HZ : Hid (sgZ m = (m : Int) / 2) := by show sgZ m = _; unfold sgZ; rw [if_neg ho]; omega
    clear hm
    go_enter Try.func90, Try.ntmps90
    go_wp2_with fail
    refine HC.out.mono ?_
    rintro e2 w2 ⟨rfl, hr, hg⟩
    have HR := hid hr
    have HG := hid hg
    clear hr hg
    go_wp2
    go_ret
    exact ⟨ret_int (by rw [HZ.out]; first | rfl | simp [hd]), HR.out, HG.out⟩
def flS (s : Sx) : Sx := if 1 < smV s then rfx (smS s) 4 else smS s
set_option maxHeartbeats 4000000 in
theorem flag_any (R : Nat) (s : Sx) (w : World) (h : RA w R s) :
    Calls Try.prog 88 #[.pointer (some ⟨R, 0, none⟩)] w fun e w' => e = .returned (.bool (decide (smV s = 1))) ∧ RA w' R (flS s) ∧ Gb w R w' := by
  have HC := hid (small_any R s w h)
  obtain ⟨c, hc⟩ : ∃ c, smV s = c := ⟨_, rfl⟩
  have HFL : Hid (flS s = if 1 < c then rfx (smS s) 4 else smS s) := by rw [← hc]; rfl
  rw [hc] at HC ⊢
  clear h hc
  have hb : ((c : Int) == 1) = decide (c = 1) := by rw [Bool.eq_iff_iff]; simp; omega
  by_cases h1 : 1 < c
  · have h1i : (1 : Int) < c := by omega
    go_enter Try.func88, Try.ntmps88
    go_wp2_with fail
    refine HC.out.mono ?_
    rintro e2 w2 ⟨rfl, hr, hg⟩
    have HR := hid hr
    have HG := hid hg
    clear hr hg
    go_wp2_with fail
    refine (refuse_any R _ 4 _ HR.out).mono ?_
    rintro e3 w3 ⟨rfl, hr, hg⟩
    have HR2 := hid hr
    have HG2 := hid (HG.out.trans hg)
    clear hr hg
    go_wp2
    go_ret
    exact ⟨ret_bool (by first | rfl | exact hb), by rw [HFL.out, if_pos h1]; exact HR2.out, HG2.out⟩
  · have h1i : ¬ (1 : Int) < c := by omega
    go_enter Try.func88, Try.ntmps88
    go_wp2_with fail
    refine HC.out.mono ?_
    rintro e2 w2 ⟨rfl, hr, hg⟩
    have HR := hid hr
    have HG := hid hg
    clear hr hg
    go_wp2
    go_ret
    exact ⟨ret_bool (by first | rfl | exact hb), by rw [HFL.out, if_neg h1]; exact HR.out, HG.out⟩
def txV (s : Sx) : ByteArray := if (smS s).l.length < smV s then tx [] else tx ((smS s).l.take (smV s))
def txS (s : Sx) : Sx := if (smS s).l.length < smV s then rfx (smS s) 5 else ⟨(smS s).l.drop (smV s), (smS s).e⟩
theorem RA.empty {w : World} {R : Nat} {e : Int} (h : RA w R ⟨[], e⟩) (q : Option Addr) (cap : Nat) (hc : cap ≤ maxLen) : RA (w.setCell ⟨R, 0, none⟩ (.slice q 0 cap)) R ⟨[], e⟩ := by
  obtain ⟨p, cap', h1, h2, h3, h4⟩ := h.ex
  exact ⟨q, cap, by rw [heap_set _ h1]; rfl, by simp, hc, fun c => by simp at c⟩
set_option maxHeartbeats 8000000 in
theorem text_any (R : Nat) (s : Sx) (w : World) (h : RA w R s) :
    Calls Try.prog 85 #[.pointer (some ⟨R, 0, none⟩)] w fun e w' => e = .returned (.string (txV s)) ∧ RA w' R (txS s) ∧ Gb w R w' := by
  have HC := hid (small_any R s w h)
  obtain ⟨c, hc⟩ : ∃ c, smV s = c := ⟨_, rfl⟩
  obtain ⟨t, ht⟩ : ∃ t, smS s = t := ⟨_, rfl⟩
  have HV : Hid (txV s = if t.l.length < c then tx [] else tx (t.l.take c)) := by rw [← hc, ← ht]; rfl
  have HS : Hid (txS s = if t.l.length < c then rfx t 5 else ⟨t.l.drop c, t.e⟩) := by rw [← hc, ← ht]; rfl
  rw [hc, ht] at HC
  clear h hc ht
  obtain ⟨l, e⟩ := t
  obtain ⟨n, hn⟩ : ∃ n, l.length = n := ⟨_, rfl⟩
  simp only [hn] at HV HS
  have HN := hid hn
  clear hn
  by_cases hg : n < c
  · have hgi : (n : Int) < c := by omega
    go_enter Try.func85, Try.ntmps85
    go_wp2_with fail
    refine HC.out.mono ?_
    rintro e2 w2 ⟨rfl, hr, hg2⟩
    have HR := hid hr
    have HG := hid hg2
    obtain ⟨p, cap, h1, h2, h3, h4⟩ := hr.ex
    simp only [HN.out] at h1
    have c0 := row_cell (j := 0) h1 rfl
    clear hr hg2 h1 h4 h2 h3
    go_wp2_with fail
    refine (refuse_any R _ 5 _ HR.out).mono ?_
    rintro e3 w3 ⟨rfl, hr, hg2⟩
    have HR2 := hid hr
    have HG2 := hid (HG.out.trans hg2)
    clear hr hg2 c0
    go_wp2
    go_ret
    exact ⟨by rw [HV.out, if_pos hg]; rfl, by rw [HS.out, if_pos hg]; exact HR2.out, HG2.out⟩
  · have hgi : ¬ (n : Int) < c := by omega
    go_enter Try.func85, Try.ntmps85
    go_wp2_with fail
    refine HC.out.mono ?_
    rintro e2 w2 ⟨rfl, hr, hg2⟩
    have HR := hid hr
    have HG := hid hg2
    obtain ⟨p, cap, h1, h2, h3, h4⟩ := hr.ex
    simp only at h1 h2 h4
    have H1 := hid h1
    have h1' := h1
    rw [HN.out] at h1' h2
    have c0 := row_cell (j := 0) h1' rfl
    have f0 := row_frozen (j := 0) h1'
    by_cases hn0 : n = 0
    · subst hn0
      obtain rfl : c = 0 := by omega
      obtain rfl : l = [] := List.eq_nil_of_length_eq_zero HN.out
      have hcv : ∀ q cp, (convert 32 9 (.slice q 0 cp)).run Try.prog w2 = .ok (.string (tx [])) w2 := fun q cp => BR.conv (l := []) ⟨q, cp, rfl, fun h => by simp at h⟩
      have HM : Hid (cap ≤ maxLen) := h3
      clear hr hg2 h1 h4 h1' h3
      cases p
      all_goals
        go_wp2
        go_ret
        exact ⟨by rw [HV.out, if_neg (by omega)]; rfl, by rw [HS.out, if_neg (by omega)]; exact HR.out.empty _ _ (by have := HM.out; omega), HG.out.trans (Gb.set _ _ _ _)⟩
    · obtain ⟨g, off, rfl, hgR, hcell⟩ := h4 (by have := HN.out; omega)
      have hcv : (convert 32 9 (.slice (some ⟨g, off, none⟩) c cap)).run Try.prog w2 = .ok (.string (tx (l.take c))) w2 := by
        have hl : (l.take c).length = c := by rw [List.length_take]; have := HN.out; omega
        have hbr : BR w2 (.slice (some ⟨g, off, none⟩) (l.take c).length cap) (l.take c) := ⟨_, _, rfl, fun _ => ⟨g, off, rfl, fun j hj => ⟨by have := HR.out.lt; omega, by
          have hj' : j < l.length := by rw [List.length_take] at hj; omega
          rw [hcell j hj']
          simp⟩⟩⟩
        rw [hl] at hbr
        exact hbr.conv
      have HST := hid (fun u hu => HR.out.read H1.out (k := c) (by show c ≤ l.length; have := HN.out; omega) u hu)
      have k1 : (c : Int) ≤ cap := by omega
      have k2 : (c : Int) ≤ n := by omega
      have k3 : (0 : Int) ≤ c := by omega
      clear hr hg2 h1 h4 h1' h3 hcell
      go_wp2
      all_goals
        go_ret
        refine ⟨by rw [HV.out, if_neg hg]; rfl, ?_, HG.out.trans (Gb.set _ _ _ _)⟩
        rw [HS.out, if_neg hg]
        refine HST.out _ ⟨_, by simp [HN.out]; first | done | rfl | exact ⟨rfl, by omega⟩ | exact ⟨rfl, by omega, by omega⟩, fun hlt => ?_⟩
        have h9 := HN.out
        first | rfl | (exfalso; (try simp only at hlt); omega)
end Go.Proofs.Ytepgkemnpcadiaa
