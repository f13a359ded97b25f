/-
  A clause of a rule: one of its ways.
-/
import Derived.Test.YtngbobnodecloaaDoorC1
namespace Go.Proofs.YtngbobnodecloaaDoor
open Go.ChangeShapes Go.WideShapes Go.ChangeAt Go.RowKit Go.Maps
set_option linter.unusedVariables false
set_option linter.unusedSimpArgs false
set_option maxRecDepth 20000
set_option maxHeartbeats 8000000 in
theorem clause_emit (w : World) (g : Nat) (V : Value) (L : List Tk) (s : St) (U : Nat) (col : Nat → Nat) (r : Rl) (wv tv mv kv ev : Value) (h : Env w g V L s) (hr : Rul w U col r wv tv mv kv ev) (hg : g < U) (h0 : s.o = 0) (hlen : r.w.length ≤ 700 ∧ r.t.length ≤ 700 ∧ r.m.length ≤ 700 ∧ r.k.length ≤ 700) (hb_T1 : see L [119, 104, 101, 110] s = false) (hb_T2 : see L [110, 111, 116] s = false) (hb_T3 : see L [109, 97, 110, 121] s = false) (hb_T4 : see L [101, 109, 105, 116] s = true) (hty : r.e.ty.data.toList = []) : Calls Tryd.prog 70 #[rp g, .pointer (some ⟨U, 0, none⟩)] w (CLPost w g V L U { r with e := (emt L s.adv).1 } (emt L s.adv).2) := by
  have HG : Hid (g < U) := hg
  have HC0 : Hid (Cs w w g V L s U col r wv tv mv kv ev) := ⟨h, hr, Fr.refl _ _⟩
  have T1 : Hid (∀ W, Env W g V L s → Calls Tryd.prog 39 #[rp g, .string ⟨#[119, 104, 101, 110]⟩] W fun e w' => e = .returned (.bool false) ∧ Env w' g V L s ∧ Fr (fun i => i = g) W w') := fun W hW => by
    have := takes_any W g V L s [119, 104, 101, 110] hW
    unfold tks at this
    rw [hb_T1] at this
    exact this
  have T2 : Hid (∀ W, Env W g V L s → Calls Tryd.prog 39 #[rp g, .string ⟨#[110, 111, 116]⟩] W fun e w' => e = .returned (.bool false) ∧ Env w' g V L s ∧ Fr (fun i => i = g) W w') := fun W hW => by
    have := takes_any W g V L s [110, 111, 116] hW
    unfold tks at this
    rw [hb_T2] at this
    exact this
  have T3 : Hid (∀ W, Env W g V L s → Calls Tryd.prog 39 #[rp g, .string ⟨#[109, 97, 110, 121]⟩] W fun e w' => e = .returned (.bool false) ∧ Env w' g V L s ∧ Fr (fun i => i = g) W w') := fun W hW => by
    have := takes_any W g V L s [109, 97, 110, 121] hW
    unfold tks at this
    rw [hb_T3] at this
    exact this
  have T4 : Hid (∀ W, Env W g V L s → Calls Tryd.prog 39 #[rp g, .string ⟨#[101, 109, 105, 116]⟩] W fun e w' => e = .returned (.bool true) ∧ Env w' g V L s.adv ∧ Fr (fun i => i = g) W w') := fun W hW => by
    have := takes_any W g V L s [101, 109, 105, 116] hW
    unfold tks at this
    rw [hb_T4] at this
    exact this
  have HP : Hid (∀ W, Env W g V L s.adv → Calls Tryd.prog 83 #[rp g] W (NPost W g V L 42 6 encO (emt L s.adv).1.ty (emt L s.adv).1.v (emt L s.adv).2)) := fun W hW => emit_any W g V L s.adv hW
  obtain ⟨x, hx⟩ : ∃ x, (emt L s.adv).1 = x := ⟨_, rfl⟩
  obtain ⟨s2, hs2⟩ : ∃ s2, (emt L s.adv).2 = s2 := ⟨_, rfl⟩
  rw [hx, hs2] at HP ⊢
  have hq1 : (r.e.ty.toList == []) = true := by rw [Lib.toList_data]; simpa using hty
  have hq2 : (r.e.ty.toList == (⟨#[]⟩ : ByteArray).toList) = true := by rw [Lib.toList_data, Lib.toList_data]; simpa using hty
  have HCE : Hid (∀ W col, Rul W U col r wv tv mv kv ev → W.cell? ⟨U, 5, none⟩ = some (.string r.e.ty)) := fun W col hW => by rw [cell_of_blk hW.blk]; rfl
  clear hx hs2 h hr hg h0 hlen hb_T1 hb_T2 hb_T3 hb_T4 hty
  go_enter Tryd.func70, Tryd.ntmps70
  go_wp2_with (first
      | (go_at_call_of 39 (Value.string ⟨#[119, 104, 101, 110]⟩); refine (T1.out _ HC0.out.1).mono ?_; rintro e w1 ⟨rfl, he_, hf_⟩; have HC1 : Hid (Cs w w1 g V L s U col r wv tv mv kv ev) := HC0.out.call he_ hf_ HG.out; clear he_ hf_)
      | (go_at_call_of 39 (Value.string ⟨#[110, 111, 116]⟩); refine (T2.out _ HC1.out.1).mono ?_; rintro e w2 ⟨rfl, he_, hf_⟩; have HC2 : Hid (Cs w w2 g V L s U col r wv tv mv kv ev) := HC1.out.call he_ hf_ HG.out; clear he_ hf_)
      | (go_at_call_of 39 (Value.string ⟨#[109, 97, 110, 121]⟩); refine (T3.out _ HC2.out.1).mono ?_; rintro e w3 ⟨rfl, he_, hf_⟩; have HC3 : Hid (Cs w w3 g V L s U col r wv tv mv kv ev) := HC2.out.call he_ hf_ HG.out; clear he_ hf_; have cE3 := HCE.out _ _ HC3.out.2.1)
      | (go_at_call_of 39 (Value.string ⟨#[101, 109, 105, 116]⟩); refine (T4.out _ HC3.out.1).mono ?_; rintro e wa ⟨rfl, he_, hf_⟩; have HCa : Hid (Cs w wa g V L s.adv U col r wv tv mv kv ev) := HC3.out.call he_ hf_ HG.out; clear he_ hf_)
      | (go_at_call 83; refine (HP.out _ HCa.out.1).mono ?_; rintro e wq ⟨p5, cap5, rfl, hhq, heq, hfq⟩; have HCq : Hid (Cs w wq g V L s2 U (paint col wa.heap.size 6) r wv tv mv kv ev) := (Cs.call ⟨HCa.out.1, HCa.out.2.1.paint 6, HCa.out.2.2⟩ heq hfq HG.out); have HHq : Hid (Holds wq (fun i => wa.heap.size ≤ i) (.row 42 6 (x.v.map encO)) (.slice p5 x.v.length cap5)) := hhq; have HUW : Hid (U < wa.heap.size) := blk_lt HCa.out.2.1.blk; clear hhq heq hfq)
      | (refine wp_st (by rfl) 75 _ _ (by rfl) U 5 [.string r.n, wv, tv, mv, kv, .string r.e.ty, ev] 77 (.agg #[.string x.ty, .slice p5 x.v.length cap5]) [.string x.ty, .slice p5 x.v.length cap5] (by rfl) (by rfl) (by rfl) HCq.out.2.1.blk (Nat.le_of_ble_eq_true rfl) (by kernel_rfl) (by rfl) ?_; intro w9 hw9 hf9; have HW9 : Hid (w9.heap[U]? = some (.cells #[.string r.n, wv, tv, mv, kv, .string x.ty, .slice p5 x.v.length cap5] 77 (0, 0)) ∧ Fr (fun i => i = U) wq w9) := ⟨hw9, hf9⟩; clear hw9 hf9))
  go_end0
  refine ⟨rfl, fun i => if i < wa.heap.size then (if col i = 5 then 6 else col i) else 5, wv, tv, mv, kv, .slice p5 x.v.length cap5, ?_⟩
  have hu := HUW.out
  have hg := HG.out
  have hR := HCq.out.2.1
  have hf := HW9.out.2
  have hrow : ∀ (j : Nat), j = 1 ∨ j = 2 ∨ j = 3 ∨ j = 4 → ∀ i, Sc U (paint col wa.heap.size 6) j i → i < wq.heap.size → Sc U (fun i => if i < wa.heap.size then (if col i = 5 then 6 else col i) else 5) j i ∧ w9.heap[i]? = wq.heap[i]? := fun j hj i hi hl => by
    refine ⟨⟨hi.1, ?_⟩, hf.block i hl (by show ¬ i = U; have := hi.1; omega)⟩
    have h2 := hi.2
    unfold paint at h2
    by_cases c : i < wa.heap.size
    · rw [if_pos c] at h2
      show (if i < wa.heap.size then (if col i = 5 then 6 else col i) else 5) = j
      rw [if_pos c, if_neg (by omega)]
      exact h2
    · rw [if_neg c] at h2
      omega
  refine ⟨HCq.out.1.on hf.size (fun k hk => hf.block k (by have := blk_lt HCq.out.1.blk; omega) (by show ¬ k = U; omega)) ((hf.block g (blk_lt HCq.out.1.blk) (by show ¬ g = U; omega)).trans HCq.out.1.blk) HCq.out.1.pos HCq.out.1.opn, ⟨HW9.out.1, hR.r1.mono (hrow 1 (by omega)), hR.r2.mono (hrow 2 (by omega)), hR.r3.mono (hrow 3 (by omega)), hR.r4.mono (hrow 4 (by omega)), HHq.out.mono fun i hi hl => ⟨⟨by have h1 : wa.heap.size ≤ i := hi; omega, ?_⟩, hf.block i hl (by show ¬ i = U; have h1 : wa.heap.size ≤ i := hi; omega)⟩⟩, HCq.out.2.2.stored hf (.inl (.inr (Nat.le_refl _)))⟩
  show (if i < wa.heap.size then (if col i = 5 then 6 else col i) else 5) = 5
  rw [if_neg (by have h1 : wa.heap.size ≤ i := hi; omega)]
set_option maxHeartbeats 8000000 in
theorem clause_fail (w : World) (g : Nat) (V : Value) (L : List Tk) (s : St) (U : Nat) (col : Nat → Nat) (r : Rl) (wv tv mv kv ev : Value) (h : Env w g V L s) (hr : Rul w U col r wv tv mv kv ev) (hg : g < U) (h0 : s.o = 0) (hlen : r.w.length ≤ 700 ∧ r.t.length ≤ 700 ∧ r.m.length ≤ 700 ∧ r.k.length ≤ 700) (hb_T1 : see L [119, 104, 101, 110] s = false) (hb_T2 : see L [110, 111, 116] s = false) (hb_T3 : see L [109, 97, 110, 121] s = false) (hb_T4 : see L [101, 109, 105, 116] s = false) (hb_T5 : see L [119, 104, 101, 114, 101] s = false) (hty : r.e.ty.data.toList = []) : Calls Tryd.prog 70 #[rp g, .pointer (some ⟨U, 0, none⟩)] w (CLPost w g V L U r (fal L s)) := by
  have HG : Hid (g < U) := hg
  have HC0 : Hid (Cs w w g V L s U col r wv tv mv kv ev) := ⟨h, hr, Fr.refl _ _⟩
  have T1 : Hid (∀ W, Env W g V L s → Calls Tryd.prog 39 #[rp g, .string ⟨#[119, 104, 101, 110]⟩] W fun e w' => e = .returned (.bool false) ∧ Env w' g V L s ∧ Fr (fun i => i = g) W w') := fun W hW => by
    have := takes_any W g V L s [119, 104, 101, 110] hW
    unfold tks at this
    rw [hb_T1] at this
    exact this
  have T2 : Hid (∀ W, Env W g V L s → Calls Tryd.prog 39 #[rp g, .string ⟨#[110, 111, 116]⟩] W fun e w' => e = .returned (.bool false) ∧ Env w' g V L s ∧ Fr (fun i => i = g) W w') := fun W hW => by
    have := takes_any W g V L s [110, 111, 116] hW
    unfold tks at this
    rw [hb_T2] at this
    exact this
  have T3 : Hid (∀ W, Env W g V L s → Calls Tryd.prog 39 #[rp g, .string ⟨#[109, 97, 110, 121]⟩] W fun e w' => e = .returned (.bool false) ∧ Env w' g V L s ∧ Fr (fun i => i = g) W w') := fun W hW => by
    have := takes_any W g V L s [109, 97, 110, 121] hW
    unfold tks at this
    rw [hb_T3] at this
    exact this
  have T4 : Hid (∀ W, Env W g V L s → Calls Tryd.prog 39 #[rp g, .string ⟨#[101, 109, 105, 116]⟩] W fun e w' => e = .returned (.bool false) ∧ Env w' g V L s ∧ Fr (fun i => i = g) W w') := fun W hW => by
    have := takes_any W g V L s [101, 109, 105, 116] hW
    unfold tks at this
    rw [hb_T4] at this
    exact this
  have T5 : Hid (∀ W, Env W g V L s → Calls Tryd.prog 39 #[rp g, .string ⟨#[119, 104, 101, 114, 101]⟩] W fun e w' => e = .returned (.bool false) ∧ Env w' g V L s ∧ Fr (fun i => i = g) W w') := fun W hW => by
    have := takes_any W g V L s [119, 104, 101, 114, 101] hW
    unfold tks at this
    rw [hb_T5] at this
    exact this
  have hq1 : (r.e.ty.toList == []) = true := by rw [Lib.toList_data]; simpa using hty
  have hq2 : (r.e.ty.toList == (⟨#[]⟩ : ByteArray).toList) = true := by rw [Lib.toList_data, Lib.toList_data]; simpa using hty
  have HCE : Hid (∀ W col, Rul W U col r wv tv mv kv ev → W.cell? ⟨U, 5, none⟩ = some (.string r.e.ty)) := fun W col hW => by rw [cell_of_blk hW.blk]; rfl
  clear h hr hg h0 hlen hb_T1 hb_T2 hb_T3 hb_T4 hb_T5 hty
  go_enter Tryd.func70, Tryd.ntmps70
  go_wp2_with (first
      | (go_at_call_of 39 (Value.string ⟨#[119, 104, 101, 110]⟩); refine (T1.out _ HC0.out.1).mono ?_; rintro e w1 ⟨rfl, he_, hf_⟩; have HC1 : Hid (Cs w w1 g V L s U col r wv tv mv kv ev) := HC0.out.call he_ hf_ HG.out; clear he_ hf_)
      | (go_at_call_of 39 (Value.string ⟨#[110, 111, 116]⟩); refine (T2.out _ HC1.out.1).mono ?_; rintro e w2 ⟨rfl, he_, hf_⟩; have HC2 : Hid (Cs w w2 g V L s U col r wv tv mv kv ev) := HC1.out.call he_ hf_ HG.out; clear he_ hf_)
      | (go_at_call_of 39 (Value.string ⟨#[109, 97, 110, 121]⟩); refine (T3.out _ HC2.out.1).mono ?_; rintro e w3 ⟨rfl, he_, hf_⟩; have HC3 : Hid (Cs w w3 g V L s U col r wv tv mv kv ev) := HC2.out.call he_ hf_ HG.out; clear he_ hf_; have cE3 := HCE.out _ _ HC3.out.2.1)
      | (go_at_call_of 39 (Value.string ⟨#[101, 109, 105, 116]⟩); refine (T4.out _ HC3.out.1).mono ?_; rintro e w4 ⟨rfl, he_, hf_⟩; have HC4 : Hid (Cs w w4 g V L s U col r wv tv mv kv ev) := HC3.out.call he_ hf_ HG.out; clear he_ hf_)
      | (go_at_call_of 39 (Value.string ⟨#[119, 104, 101, 114, 101]⟩); refine (T5.out _ HC4.out.1).mono ?_; rintro e w5 ⟨rfl, he_, hf_⟩; have HC5 : Hid (Cs w w5 g V L s U col r wv tv mv kv ev) := HC4.out.call he_ hf_ HG.out; clear he_ hf_)
      | (go_at_call 42; refine (fail_any _ g V L s HC5.out.1).mono ?_; rintro e w9 ⟨rfl, he9, hf9⟩; have HC9 : Hid (Cs w w9 g V L (fal L s) U col r wv tv mv kv ev) := HC5.out.call he9 hf9 HG.out; clear he9 hf9))
  go_end0
  exact ⟨rfl, _, _, _, _, _, _, HC9.out⟩
set_option maxHeartbeats 8000000 in
theorem clause_fail2 (w : World) (g : Nat) (V : Value) (L : List Tk) (s : St) (U : Nat) (col : Nat → Nat) (r : Rl) (wv tv mv kv ev : Value) (h : Env w g V L s) (hr : Rul w U col r wv tv mv kv ev) (hg : g < U) (h0 : s.o = 0) (hlen : r.w.length ≤ 700 ∧ r.t.length ≤ 700 ∧ r.m.length ≤ 700 ∧ r.k.length ≤ 700) (hb_T1 : see L [119, 104, 101, 110] s = false) (hb_T2 : see L [110, 111, 116] s = false) (hb_T3 : see L [109, 97, 110, 121] s = false) (hb_T5 : see L [119, 104, 101, 114, 101] s = false) (hty : ¬ r.e.ty.data.toList = []) : Calls Tryd.prog 70 #[rp g, .pointer (some ⟨U, 0, none⟩)] w (CLPost w g V L U r (fal L s)) := by
  have HG : Hid (g < U) := hg
  have HC0 : Hid (Cs w w g V L s U col r wv tv mv kv ev) := ⟨h, hr, Fr.refl _ _⟩
  have T1 : Hid (∀ W, Env W g V L s → Calls Tryd.prog 39 #[rp g, .string ⟨#[119, 104, 101, 110]⟩] W fun e w' => e = .returned (.bool false) ∧ Env w' g V L s ∧ Fr (fun i => i = g) W w') := fun W hW => by
    have := takes_any W g V L s [119, 104, 101, 110] hW
    unfold tks at this
    rw [hb_T1] at this
    exact this
  have T2 : Hid (∀ W, Env W g V L s → Calls Tryd.prog 39 #[rp g, .string ⟨#[110, 111, 116]⟩] W fun e w' => e = .returned (.bool false) ∧ Env w' g V L s ∧ Fr (fun i => i = g) W w') := fun W hW => by
    have := takes_any W g V L s [110, 111, 116] hW
    unfold tks at this
    rw [hb_T2] at this
    exact this
  have T3 : Hid (∀ W, Env W g V L s → Calls Tryd.prog 39 #[rp g, .string ⟨#[109, 97, 110, 121]⟩] W fun e w' => e = .returned (.bool false) ∧ Env w' g V L s ∧ Fr (fun i => i = g) W w') := fun W hW => by
    have := takes_any W g V L s [109, 97, 110, 121] hW
    unfold tks at this
    rw [hb_T3] at this
    exact this
  have T5 : Hid (∀ W, Env W g V L s → Calls Tryd.prog 39 #[rp g, .string ⟨#[119, 104, 101, 114, 101]⟩] W fun e w' => e = .returned (.bool false) ∧ Env w' g V L s ∧ Fr (fun i => i = g) W w') := fun W hW => by
    have := takes_any W g V L s [119, 104, 101, 114, 101] hW
    unfold tks at this
    rw [hb_T5] at this
    exact this
  have hq1 : (r.e.ty.toList == []) = false := by rw [Lib.toList_data]; simpa using hty
  have hq2 : (r.e.ty.toList == (⟨#[]⟩ : ByteArray).toList) = false := by rw [Lib.toList_data, Lib.toList_data]; simpa using hty
  have HCE : Hid (∀ W col, Rul W U col r wv tv mv kv ev → W.cell? ⟨U, 5, none⟩ = some (.string r.e.ty)) := fun W col hW => by rw [cell_of_blk hW.blk]; rfl
  clear h hr hg h0 hlen hb_T1 hb_T2 hb_T3 hb_T5 hty
  go_enter Tryd.func70, Tryd.ntmps70
  go_wp2_with (first
      | (go_at_call_of 39 (Value.string ⟨#[119, 104, 101, 110]⟩); refine (T1.out _ HC0.out.1).mono ?_; rintro e w1 ⟨rfl, he_, hf_⟩; have HC1 : Hid (Cs w w1 g V L s U col r wv tv mv kv ev) := HC0.out.call he_ hf_ HG.out; clear he_ hf_)
      | (go_at_call_of 39 (Value.string ⟨#[110, 111, 116]⟩); refine (T2.out _ HC1.out.1).mono ?_; rintro e w2 ⟨rfl, he_, hf_⟩; have HC2 : Hid (Cs w w2 g V L s U col r wv tv mv kv ev) := HC1.out.call he_ hf_ HG.out; clear he_ hf_)
      | (go_at_call_of 39 (Value.string ⟨#[109, 97, 110, 121]⟩); refine (T3.out _ HC2.out.1).mono ?_; rintro e w3 ⟨rfl, he_, hf_⟩; have HC3 : Hid (Cs w w3 g V L s U col r wv tv mv kv ev) := HC2.out.call he_ hf_ HG.out; clear he_ hf_; have cE3 := HCE.out _ _ HC3.out.2.1)
      | (go_at_call_of 39 (Value.string ⟨#[119, 104, 101, 114, 101]⟩); refine (T5.out _ HC3.out.1).mono ?_; rintro e w4 ⟨rfl, he_, hf_⟩; have HC4 : Hid (Cs w w4 g V L s U col r wv tv mv kv ev) := HC3.out.call he_ hf_ HG.out; clear he_ hf_)
      | (go_at_call 42; refine (fail_any _ g V L s HC4.out.1).mono ?_; rintro e w9 ⟨rfl, he9, hf9⟩; have HC9 : Hid (Cs w w9 g V L (fal L s) U col r wv tv mv kv ev) := HC4.out.call he9 hf9 HG.out; clear he9 hf9))
  go_end0
  exact ⟨rfl, _, _, _, _, _, _, HC9.out⟩
end Go.Proofs.YtngbobnodecloaaDoor
