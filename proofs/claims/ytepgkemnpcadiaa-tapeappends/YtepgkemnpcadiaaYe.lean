/-
  What the document's scan tells is what the program's reader tells, in plain words.
-/
import Derived.Test.YtepgkemnpcadiaaYc
namespace Go.Proofs.Ytepgkemnpcadiaa
open Go.ChangeShapes Go.WideShapes Go.ChangeAt Go.RowKit Go.Maps
set_option linter.unusedVariables false
set_option linter.unusedSimpArgs false
theorem Ag.comp {f : Sx → Sx} (hk : ∀ {s : Sx}, s.e ≠ 0 → (f s).e = s.e) {s t s' : Sx} (h : Ag s t) (h2 : Ag s' (f s)) : Ag s' (f t) := by
  by_cases c : s.e = 0
  · rw [← h.2 c]; exact h2
  · have ht : t.e ≠ 0 := by rw [← h.1]; exact c
    have e1 : s'.e = t.e := by rw [h2.1, hk c, h.1]
    exact ⟨by rw [e1, hk ht], fun h0 => absurd (e1.symm.trans h0) ht⟩
theorem Ag.up {f : Sx → Sx} (hk : ∀ {s : Sx}, s.e ≠ 0 → (f s).e = s.e) {s s' : Sx} (h2 : Ag s' (f s)) (h : s'.e = 0) : s.e = 0 := ok_of @hk (h2.1.symm.trans h)
theorem VO.set2 {w : World} {B b i : Nat} {v u : Value} {l : List Vl} (h : VO w B v l) (hne : ∀ k, v.ownBlock = some k → k ≠ b) : VO (w.setCell ⟨b, i, none⟩ u) B v l := by
  unfold VO at *
  refine ⟨h.1, ?_⟩
  rcases h.2 with h2 | ⟨g, cap, cur, rfl, h1, h2, h3⟩
  · exact Or.inl h2
  · exact Or.inr ⟨g, cap, cur, rfl, h1, (heap_other u (hne g rfl)).trans h2, h3⟩
theorem measN {j n : Nat} {x : Int} (h : x = (j : Int) + 1) (hj : j < n) : n + 1 - (intOf (.int .i64 x)).toNat < n + 1 - (intOf (.int .i64 (j : Int))).toNat := by
  show n + 1 - x.toNat < n + 1 - (j : Int).toNat
  omega
theorem lnk {s : Sx} (h : s.e ≠ 0) : (lnS 9 0 0 s).e = s.e := lnS_keep 9 0 0 h
theorem opS_bad {s : Sx} (h : (smS s).e ≠ 0) : (opS s).e = (smS s).e := by
  unfold opS
  by_cases c1 : smV s = 1
  · rw [if_pos c1]
    have h1 := txS_keep h
    have h2 := lnk (s := txS (smS s)) (by rw [h1]; exact h)
    have h3 := lnk (s := lnS 9 0 0 (txS (smS s))) (by rw [h2, h1]; exact h)
    rw [vsR_keep (by rw [h3, h2, h1]; exact h), h3, h2, h1]
  · rw [if_neg c1]
    by_cases c2 : smV s = 2
    · rw [if_pos c2]
      have h1 := lnk h
      rw [flS_keep (by rw [h1]; exact h), h1]
    · rw [if_neg c2]
      by_cases c3 : smV s = 3
      · rw [if_pos c3, txS_keep h]
      · rw [if_neg c3, rfx_keep h]
theorem way_ag {f : Sx → Sx} (hk : ∀ {s : Sx}, s.e ≠ 0 → (f s).e = s.e) {s s2 s3 : Sx} (h2 : Ag s2 (smS s)) (hop : s2.e = 0 → opS s = f (smS s)) (h3 : Ag s3 (f s2)) : Ag s3 (opS s) := by
  by_cases c : s2.e = 0
  · rw [hop c, ← h2.2 c]; exact h3
  · have e1 : s3.e = s2.e := by rw [h3.1, hk c]
    exact ⟨by rw [e1, opS_bad (by rw [← h2.1]; exact c), h2.1], fun h0 => absurd (e1.symm.trans h0) c⟩
theorem fl_ag1 {s s4 : Sx} {n : Nat} (h : Ag s4 (smS s)) (hv : s4.e = 0 → n = smV s) (hn : 1 < n) : Ag (rfx s4 4) (flS s) := by
  by_cases c : s4.e = 0
  · rw [h.2 c]; unfold flS; rw [if_pos (by rw [← hv c]; exact hn)]; exact Ag.refl _
  · have h0 : (smS s).e ≠ 0 := by rw [← h.1]; exact c
    have e1 : (flS s).e = (smS s).e := by
      unfold flS
      by_cases q : 1 < smV s
      · rw [if_pos q, rfx_keep h0]
      · rw [if_neg q]
    exact ⟨by rw [rfx_keep c, e1, h.1], fun q => absurd (by rw [rfx_keep c] at q; exact q) c⟩
theorem fl_ag0 {s s4 : Sx} {n : Nat} (h : Ag s4 (smS s)) (hv : s4.e = 0 → n = smV s) (hn : ¬ 1 < n) : Ag s4 (flS s) := by
  by_cases c : s4.e = 0
  · rw [h.2 c]; unfold flS; rw [if_neg (by rw [← hv c]; exact hn)]; exact Ag.refl _
  · have h0 : (smS s).e ≠ 0 := by rw [← h.1]; exact c
    have e1 : (flS s).e = (smS s).e := by
      unfold flS
      by_cases q : 1 < smV s
      · rw [if_pos q, rfx_keep h0]
      · rw [if_neg q]
    exact ⟨by rw [e1, h.1], fun q => absurd q c⟩
theorem dcT_e {L : List UInt8} (h : (opS ⟨L, 0⟩).e ≠ 0) : (dcT L).e = (opS ⟨L, 0⟩).e := by
  unfold dcT
  by_cases c : (opS ⟨L, 0⟩).l = []
  · rw [if_pos c]
  · rw [if_neg c, rfx_keep h]
theorem dc_a1 {L : List UInt8} {s : Sx} (hL : L.length ≤ 20000) (h : Ag s (opS ⟨L, 0⟩)) (he : s.e ≠ 0) : dcR L = (zop, s.e) := by
  have h0 : (opS ⟨L, 0⟩).e ≠ 0 := by rw [← h.1]; exact he
  unfold dcR
  rw [if_neg (by omega), dcT_e h0, if_pos h0, h.1]
theorem dc_a2 {L : List UInt8} {s : Sx} (hL : L.length ≤ 20000) (h : Ag s (opS ⟨L, 0⟩)) (he : s.e = 0) (hl : s.l ≠ []) : dcR L = (zop, 4) := by
  have e := h.2 he
  have h1 : dcT L = rfx s 4 := by unfold dcT; rw [← e, if_neg hl]
  unfold dcR
  rw [if_neg (by omega), h1, rfx_zero he]
  rfl
theorem dc_a3 {L : List UInt8} {s : Sx} (hL : L.length ≤ 20000) (h : Ag s (opS ⟨L, 0⟩)) (he : s.e = 0) (hl : s.l = []) : dcR L = if ochk (opV ⟨L, 0⟩) ≠ 0 then (zop, ochk (opV ⟨L, 0⟩)) else (opV ⟨L, 0⟩, 0) := by
  have e := h.2 he
  have h1 : dcT L = s := by unfold dcT; rw [← e, if_pos hl]
  unfold dcR
  rw [if_neg (by omega), h1, if_neg (by rw [he]; simp)]
theorem opV_1 {s : Sx} (h : smV s = 1) : opV s = ⟨1, txV (smS s), (lnV 9 0 0 (txS (smS s)) : Nat), (lnV 9 0 0 (lnS 9 0 0 (txS (smS s))) : Nat), (vsR (lnS 9 0 0 (lnS 9 0 0 (txS (smS s))))).1, 0, false⟩ := by unfold opV; rw [if_pos h]
theorem opV_2 {s : Sx} (h : smV s = 2) : opV s = ⟨2, ⟨#[]⟩, 0, 0, [], (lnV 9 0 0 (smS s) : Nat), decide (smV (lnS 9 0 0 (smS s)) = 1)⟩ := by unfold opV; rw [if_neg (by omega), if_pos h]
theorem opV_3 {s : Sx} (h : smV s = 3) : opV s = ⟨3, txV (smS s), 0, 0, [], 0, false⟩ := by unfold opV; rw [if_neg (by omega), if_neg (by omega), if_pos h]
theorem opV_4 {s : Sx} (h1 : smV s ≠ 1) (h2 : smV s ≠ 2) (h3 : smV s ≠ 3) : opV s = ⟨(smV s : Nat), ⟨#[]⟩, 0, 0, [], 0, false⟩ := by unfold opV; rw [if_neg h1, if_neg h2, if_neg h3]
theorem opS_1 {s : Sx} (h : smV s = 1) : opS s = (vsR (lnS 9 0 0 (lnS 9 0 0 (txS (smS s))))).2 := by unfold opS; rw [if_pos h]
theorem opS_2 {s : Sx} (h : smV s = 2) : opS s = flS (lnS 9 0 0 (smS s)) := by unfold opS; rw [if_neg (by omega), if_pos h]
theorem opS_3 {s : Sx} (h : smV s = 3) : opS s = txS (smS s) := by unfold opS; rw [if_neg (by omega), if_neg (by omega), if_pos h]
theorem opS_4 {s : Sx} (h1 : smV s ≠ 1) (h2 : smV s ≠ 2) (h3 : smV s ≠ 3) : opS s = rfx (smS s) 3 := by unfold opS; rw [if_neg h1, if_neg h2, if_neg h3]
theorem vsRk {s : Sx} (h : s.e ≠ 0) : (vsR s).2.e = s.e := vsR_keep h
/-- Values read so far, of a row that was told. -/
def Vg (t : Sx) (k : Nat) (acc : List Vl) (z : List Vl × Sx) : Prop := (t.e ≠ 0 → t.e = z.2.e) ∧ (t.e = 0 → vsL k t acc = z)
theorem Vg.next {t s' : Sx} {k : Nat} {acc : List Vl} {z : List Vl × Sx} {v : Vl} (h : Vg t (k + 1) acc z) (he : t.e = 0) (ha : Ag s' (vlS t)) (hv : s'.e = 0 → v = vlV t) : Vg s' k (acc ++ [v]) z := by
  have hz := h.2 he
  have hu : vsL (k + 1) t acc = vsL k (vlS t) (acc ++ [vlV t]) := by show (if t.e = 0 then _ else _) = _; rw [if_pos he]
  rw [hu] at hz
  refine ⟨fun h0 => ?_, fun h0 => ?_⟩
  · have h1 : (vlS t).e ≠ 0 := by rw [← ha.1]; exact h0
    rw [← hz, vsL_keep _ _ h1, ha.1]
  · rw [hv h0, ha.2 h0]; exact hz
theorem Vg.ag {t : Sx} {acc : List Vl} {s : Sx} (h : Vg t 0 acc (vsR s)) : Ag t (vsR s).2 ∧ (t.e = 0 → acc = (vsR s).1) := by
  by_cases c : t.e = 0
  · have := h.2 c
    have e : (acc, t) = vsR s := this
    rw [← e]
    exact ⟨Ag.refl _, fun _ => rfl⟩
  · exact ⟨⟨h.1 c, fun q => absurd q c⟩, fun q => absurd q c⟩
theorem Vg.ag' {t : Sx} {k : Nat} {acc : List Vl} {s : Sx} (h : Vg t k acc (vsR s)) (c : t.e ≠ 0) : Ag t (vsR s).2 ∧ (t.e = 0 → acc = (vsR s).1) := ⟨⟨h.1 c, fun q => absurd q c⟩, fun q => absurd q c⟩
theorem Vg.start {s s6 : Sx} {n : Nat} (h : Ag s6 (smS s)) (hv : s6.e = 0 → n = smV s) : Vg s6 n [] (vsR s) := by
  refine ⟨fun c => ?_, fun c => ?_⟩
  · unfold vsR
    have h1 : (smS s).e ≠ 0 := by rw [← h.1]; exact c
    rw [vsL_keep _ _ h1, h.1]
  · unfold vsR
    rw [← h.2 c, ← hv c]
theorem vl_ag {f : Sx → Sx} (hk : ∀ {s : Sx}, s.e ≠ 0 → (f s).e = s.e) {s s2 s3 : Sx} (h2 : Ag s2 (smS s)) (hop : s2.e = 0 → vlS s = f (smS s)) (h3 : Ag s3 (f s2)) : Ag s3 (vlS s) := by
  by_cases c : s2.e = 0
  · rw [hop c, ← h2.2 c]; exact h3
  · have e1 : s3.e = s2.e := by rw [h3.1, hk c]
    have h0 : (smS s).e ≠ 0 := by rw [← h2.1]; exact c
    have e2 : (vlS s).e = (smS s).e := by
      unfold vlS
      by_cases c1 : smV s = 1
      · rw [if_pos c1, lnk h0]
      · rw [if_neg c1]
        by_cases c2 : smV s = 2
        · rw [if_pos c2, txS_keep h0]
        · rw [if_neg c2, rfx_keep h0]
    exact ⟨by rw [e1, e2, h2.1], fun h0 => absurd (e1.symm.trans h0) c⟩
end Go.Proofs.Ytepgkemnpcadiaa
