/-
  A clause of a rule: one of its ways.
-/
import Derived.Test.YtngbobnodecloaaDoorC1
namespace Go.Proofs.YtngbobnodecloaaDoor
open Go.ChangeShapes Go.WideShapes Go.ChangeAt Go.RowKit Go.Maps
set_option linter.unusedVariables false
set_option linter.unusedSimpArgs false
set_option maxRecDepth 20000
set_option maxHeartbeats 8000000 in
theorem clause_many (w : World) (g : Nat) (V : Value) (L : List Tk) (s : St) (U : Nat) (col : Nat → Nat) (r : Rl) (wv tv mv kv ev : Value) (h : Env w g V L s) (hr : Rul w U col r wv tv mv kv ev) (hg : g < U) (h0 : s.o = 0) (hlen : r.w.length ≤ 700 ∧ r.t.length ≤ 700 ∧ r.m.length ≤ 700 ∧ r.k.length ≤ 700) (hb_T1 : see L [119, 104, 101, 110] s = false) (hb_T2 : see L [110, 111, 116] s = false) (hb_T3 : see L [109, 97, 110, 121] s = true) : Calls Tryd.prog 70 #[rp g, .pointer (some ⟨U, 0, none⟩)] w (CLPost w g V L U { r with m := r.m ++ [(mny L s.adv).1] } (mny L s.adv).2) := by
  have HG : Hid (g < U) := hg
  have HC0 : Hid (Cs w w g V L s U col r wv tv mv kv ev) := ⟨h, hr, Fr.refl _ _⟩
  have T1 : Hid (∀ W, Env W g V L s → Calls Tryd.prog 39 #[rp g, .string ⟨#[119, 104, 101, 110]⟩] W fun e w' => e = .returned (.bool false) ∧ Env w' g V L s ∧ Fr (fun i => i = g) W w') := fun W hW => by
    have := takes_any W g V L s [119, 104, 101, 110] hW
    unfold tks at this
    rw [hb_T1] at this
    exact this
  have T2 : Hid (∀ W, Env W g V L s → Calls Tryd.prog 39 #[rp g, .string ⟨#[110, 111, 116]⟩] W fun e w' => e = .returned (.bool false) ∧ Env w' g V L s ∧ Fr (fun i => i = g) W w') := fun W hW => by
    have := takes_any W g V L s [110, 111, 116] hW
    unfold tks at this
    rw [hb_T2] at this
    exact this
  have T3 : Hid (∀ W, Env W g V L s → Calls Tryd.prog 39 #[rp g, .string ⟨#[109, 97, 110, 121]⟩] W fun e w' => e = .returned (.bool true) ∧ Env w' g V L s.adv ∧ Fr (fun i => i = g) W w') := fun W hW => by
    have := takes_any W g V L s [109, 97, 110, 121] hW
    unfold tks at this
    rw [hb_T3] at this
    exact this
  obtain ⟨i0, a1, a2, a3, a4⟩ := info_parts infoM
  have HI : Hid (Tryd.prog.info? 98 = some i0 ∧ i0.zero = some zM ∧ i0.size = 20 ∧ i0.bytes = 248) := ⟨a1, a2, a3, a4⟩
  have HP : Hid (∀ W, Env W g V L s.adv → Calls Tryd.prog 82 #[rp g] W (MPost W g V L (mny L s.adv).1 (mny L s.adv).2)) := fun W hW => many_any W g V L s.adv hW h0
  obtain ⟨x, hx⟩ : ∃ x, (mny L s.adv).1 = x := ⟨_, rfl⟩
  obtain ⟨s2, hs2⟩ : ∃ s2, (mny L s.adv).2 = s2 := ⟨_, rfl⟩
  rw [hx, hs2] at HP ⊢
  obtain ⟨p, cap, rfl⟩ : ∃ p cap, mv = .slice p r.m.length cap := by
    obtain ⟨p, cap, e⟩ := hr.r3.shape
    rw [List.length_map] at e
    exact ⟨p, cap, e⟩
  obtain ⟨n, hn⟩ : ∃ n, r.m.length = n := ⟨_, rfl⟩
  have HNN : Hid (r.m.length = n) := hn
  have HLN : Hid ((r.m.map encM).length ≤ 800) := by show _ ≤ 800; rw [List.length_map]; omega
  obtain ⟨n', hn'⟩ : ∃ n', n + 1 = n' := ⟨_, rfl⟩
  have HNX : Hid ((r.m.map encM).length + 1 = n') := by show _ + 1 = n'; rw [List.length_map]; omega
  rw [hn] at HC0
  clear a1 a2 a3 a4 hx hs2 h hr hg h0 hlen hn hn' hb_T1 hb_T2 hb_T3
  go_enter Tryd.func70, Tryd.ntmps70
  go_wp2_with (first
      | (go_at_call_of 39 (Value.string ⟨#[119, 104, 101, 110]⟩); refine (T1.out _ HC0.out.1).mono ?_; rintro e w1 ⟨rfl, he_, hf_⟩; have HC1 : Hid (Cs w w1 g V L s U col r wv tv (.slice p n cap) kv ev) := HC0.out.call he_ hf_ HG.out; clear he_ hf_)
      | (go_at_call_of 39 (Value.string ⟨#[110, 111, 116]⟩); refine (T2.out _ HC1.out.1).mono ?_; rintro e w2 ⟨rfl, he_, hf_⟩; have HC2 : Hid (Cs w w2 g V L s U col r wv tv (.slice p n cap) kv ev) := HC1.out.call he_ hf_ HG.out; clear he_ hf_)
      | (go_at_call_of 39 (Value.string ⟨#[109, 97, 110, 121]⟩); refine (T3.out _ HC2.out.1).mono ?_; rintro e wa ⟨rfl, he_, hf_⟩; have HCa : Hid (Cs w wa g V L s.adv U col r wv tv (.slice p n cap) kv ev) := HC2.out.call he_ hf_ HG.out; clear he_ hf_))
  obtain ⟨c2, hc2⟩ : ∃ c2, paint col wa.heap.size 3 = c2 := ⟨_, rfl⟩
  have HPG : Hid (∀ i, wa.heap.size ≤ i → c2 i = 3) := fun i hi => by rw [← hc2]; exact paint_ge hi
  have HCd : Hid (Cs w wa.drew g V L s.adv U c2 r wv tv (.slice p n cap) kv ev) := by
    have h1 : Cs w wa g V L s.adv U (paint col wa.heap.size 3) r wv tv (.slice p n cap) kv ev := ⟨HCa.out.1, HCa.out.2.1.paint 3, HCa.out.2.2⟩
    rw [hc2] at h1
    exact h1.drew
  have HUW : Hid (U < wa.heap.size) := blk_lt HCa.out.2.1.blk
  have ca : wa.cell? ⟨U, 3, none⟩ = some (.slice p n cap) := by rw [cell_of_blk HCa.out.2.1.blk]; rfl
  clear hc2
  go_region_law (first
    | (refine step_call 82 ent_many (by rfl) _ _ (by rfl) (rp g) (by rfl) _ (HP.out _ HCd.out.1) ?_; rintro e wq ⟨p5, cap5, rfl, hhq, heq, hfq⟩; refine ⟨_, rfl, ?_⟩; have HCq : Hid (Cs w wq g V L s2 U c2 r wv tv (.slice p n cap) kv ev) := HCd.out.call heq hfq HG.out; have HHq : Hid (HoldsL wq (fun i => Sc U c2 3 i ∧ (Value.slice p n cap).ownBlock ≠ some i) (encM x) (mnC x.c x.f x.p.va x.p.ty x.p.c.k (.slice p5 x.p.c.sb.length cap5) x.p.c.l x.p.c.r x.p.w x.p.n)) := (holdsM (m := x) (hhq.mono (fun i hi hl => ⟨⟨⟨Nat.lt_of_lt_of_le HUW.out hi, HPG.out i hi⟩, fun h8 => by { have h9 := HCd.out.2.1.r3.own_lt h8; have h7 : wa.drew.heap.size ≤ i := hi; omega }⟩, rfl⟩))); have cq : wq.cell? ⟨U, 3, none⟩ = some (.slice p n cap) := by { rw [cell_of_blk HCq.out.2.1.blk]; rfl }; have cqa : ∀ o, (wq.alloc o).cell? ⟨U, 3, none⟩ = some (.slice p n cap) := fun o => by { rw [World.cell?_alloc_past _ _ _ (blk_lt HCq.out.2.1.blk), cell_of_blk HCq.out.2.1.blk]; rfl }; have HBQ : Hid (Sc U c2 3 (wq.heap.size + 1)) := ⟨by { have := blk_lt HCq.out.2.1.blk; omega }, HPG.out _ (by { have h7 : wa.drew.heap.size ≤ wq.heap.size := hfq.size; have h6 : wa.drew.heap.size = wa.heap.size := rfl; omega })⟩; clear hhq heq hfq)
    | (refine step_app (by rfl) _ _ 71 (by rfl) 98 i0 zM 20 248 Tryd.underlying71 HI.out.1 HI.out.2.1 HI.out.2.2.1 HI.out.2.2.2 rfl (by omega) (Sc U c2 3) (.slice p n cap) (r.m.map encM) (by rfl) (HCq.out.2.1.r3.alloc _) (encM x) (mnC x.c x.f x.p.va x.p.ty x.p.c.k (.slice p5 x.p.c.sb.length cap5) x.p.c.l x.p.c.r x.p.w x.p.n) ⟨wq.heap.size, 0, none⟩ (by rfl) (by rfl) (World.news_of_block (heap_alloc_new _ _)) (by rfl) (HHq.out.on ((Fr.refl _ _).alloc _)) (by simpa using HBQ.out) HLN.out (by omega) n' HNX.out ?_; intro p' cap' w5 hrw hgb hown; have HRW5 : Hid (Row w5 (Sc U c2 3) 98 20 (.slice p' n' cap') (r.m.map encM ++ [encM x])) := hrw; have HGB : Hid ((wq.alloc (.cells (mnC x.c x.f x.p.va x.p.ty x.p.c.k (.slice p5 x.p.c.sb.length cap5) x.p.c.l x.p.c.r x.p.w x.p.n).toArray 98)).grownBy w5 (Value.slice p n cap).ownBlock ∧ ∀ k, (Value.slice p n cap).ownBlock = some k → Sc U c2 3 k) := ⟨hgb, hown⟩; have HB5 : Hid (w5.heap[U]? = some (.cells #[.string r.n, wv, tv, .slice p n cap, kv, .string r.e.ty, ev] 77 (0, 0))) := (hgb.block U (by { have := blk_lt HCq.out.2.1.blk; simp; omega }) (fun e => by { have := (hown U e.symm).1; omega })).trans ((Below.heap_alloc _ _ _ (blk_lt HCq.out.2.1.blk)).trans HCq.out.2.1.blk); have c5 : w5.cell? ⟨U, 3, none⟩ = some (.slice p n cap) := by { rw [cell_of_blk HB5.out]; rfl }; have f5 := free_of_blk HB5.out 3; clear hrw hgb hown))
  all_goals
    go_wp2_with fail
    go_end0
    exact ⟨rfl, _, _, _, _, _, _, Cs.app3 HCq.out _ HGB.out.1 HGB.out.2 HRW5.out HB5.out HG.out⟩
end Go.Proofs.YtngbobnodecloaaDoor
