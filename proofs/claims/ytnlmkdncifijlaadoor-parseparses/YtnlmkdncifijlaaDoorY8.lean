/-
  The reference reads a part of a rule: a when, a not, a many.
-/
import Derived.Test.YtnlmkdncifijlaaDoorY7
import Derived.Test.YtnlmkdncifijlaaDoorY
import Derived.Deep.LoopGhost
namespace Go.Proofs.YtnlmkdncifijlaaDoor.Ref
open Go.ChangeShapes Go.WideShapes Go.ChangeAt Go.RowKit Go.Maps
set_option linter.unusedVariables false
set_option linter.unusedSimpArgs false
set_option maxRecDepth 20000
theorem Pst.fin {w0 w w' : World} {g B U R : Nat} {V : Value} {L : List Tk} {s : St} {col : Nat → Nat} {r : Rl} {wv tv mv kv ev : Value} (h : Pst w0 w g V L s B U R col r wv tv mv kv ev) (hf : Fr (fun i => i = R) w w') : RR w' B col r wv tv mv kv ev ∧ Env w' g V L s ∧ Fr (fun i => i = g ∨ B ≤ i) w0 w' := by
  have hlo := h.lo
  have h0 := h.c0
  have hg := blk_lt h.env.blk
  exact ⟨h.rr.mono fun i hi hc hl => ⟨rfl, hf.block i hl (by show ¬ i = R; rintro rfl; omega)⟩, h.env.on hf.size (fun k hk => hf.block k (by omega) (by show ¬ k = R; omega)) ((hf.block g hg (by show ¬ g = R; omega)).trans h.env.blk) h.env.pos, h.fr.stored hf (.inl (.inr (by omega)))⟩
theorem Row.own_in {w : World} {S : Nat → Prop} {e z : Nat} {v : Value} {l : List (List Dat)} (h : Row w S e z v l) : ∀ k, v.ownBlock = some k → S k := by
  obtain ⟨xs, _, h2, _⟩ := h
  exact h2
theorem pcol2_old {col : Nat → Nat} {N0 N M j i : Nat} (h0 : ∀ i, N0 ≤ i → col i = 0) (hN : N0 ≤ N) (hi : 1 ≤ col i) : pcol2 col N M j i = col i := by
  have : i < N0 := by
    rcases Nat.lt_or_ge i N0 with c | c
    · exact c
    · have := h0 i c; omega
  unfold pcol2
  rw [if_pos (by omega)]
theorem pcol2_zero {col : Nat → Nat} {N0 N M j i : Nat} (h0 : ∀ i, N0 ≤ i → col i = 0) (hi : N0 ≤ i) (hN : i < N) : pcol2 col N M j i = 0 := by
  unfold pcol2
  rw [if_pos hN]
  exact h0 i hi
theorem pcol2_new {col : Nat → Nat} {N M j i : Nat} (hN : N ≤ i) (hM : i ≠ M) : pcol2 col N M j i = j := by
  unfold pcol2
  rw [if_neg (by omega), if_neg hM]
theorem pcol2_mid {col : Nat → Nat} {N M j : Nat} (hN : N ≤ M) : pcol2 col N M j M = 0 := by
  unfold pcol2
  rw [if_neg (by omega), if_pos rfl]
theorem col_old {col : Nat → Nat} {N0 i : Nat} (h0 : ∀ i, N0 ≤ i → col i = 0) (hi : 1 ≤ col i) : i < N0 := by
  rcases Nat.lt_or_ge i N0 with c | c
  · exact c
  · have := h0 i c; omega
set_option maxHeartbeats 8000000 in
theorem part_not (w : World) (g : Nat) (V : Value) (L : List Tk) (s : St) (B : Nat) (col : Nat → Nat) (r : Rl) (wv tv mv kv ev : Value) (h : Env w g V L s) (hr : RR w B col r wv tv mv kv ev) (hg : g < B) (hB : B ≤ w.heap.size) (h0 : s.o = 0) (hlen : r.w.length ≤ 700 ∧ r.t.length ≤ 700 ∧ r.m.length ≤ 700 ∧ r.k.length ≤ 700) (hb_T1 : see L [119, 104, 101, 110] s = false) (hb_T2 : see L [110, 111, 116] s = true) : Calls Tryd.prog 23 #[rp g, .agg #[.string r.n, wv, tv, mv, kv, .string r.e.ty, ev]] w (PartPost w g V L B { r with t := r.t ++ [(pat L s.adv).1] } (wnt L [59] (pat L s.adv).2)) := by
  obtain ⟨q1, k1, e1⟩ := hr.r1.shape
  obtain ⟨l1, hl1⟩ : ∃ l, (r.w.map encP).length = l := ⟨_, rfl⟩
  rw [hl1] at e1
  subst e1
  obtain ⟨q2, k2, e2⟩ := hr.r2.shape
  obtain ⟨l2, hl2⟩ : ∃ l, (r.t.map encP).length = l := ⟨_, rfl⟩
  rw [hl2] at e2
  subst e2
  obtain ⟨q3, k3, e3⟩ := hr.r3.shape
  obtain ⟨l3, hl3⟩ : ∃ l, (r.m.map encM).length = l := ⟨_, rfl⟩
  rw [hl3] at e3
  subst e3
  obtain ⟨q4, k4, e4⟩ := hr.r4.shape
  obtain ⟨l4, hl4⟩ : ∃ l, (r.k.map encK).length = l := ⟨_, rfl⟩
  rw [hl4] at e4
  subst e4
  obtain ⟨q5, k5, e5⟩ := hr.r5.shape
  obtain ⟨l5, hl5⟩ : ∃ l, (r.e.v.map encO).length = l := ⟨_, rfl⟩
  rw [hl5] at e5
  subst e5
  obtain ⟨c0, hc0⟩ : ∃ c0, pcol col w.heap.size = c0 := ⟨_, rfl⟩
  have HC0 : Hid (∀ i, w.heap.size ≤ i → c0 i = 0) := fun i hi => by rw [← hc0]; unfold pcol; exact if_neg (by omega)
  have hst := pst_start h hr hg hB
  rw [hc0] at hst
  have HLN : Hid ((r.t.map encP).length ≤ 800) := by show _ ≤ 800; rw [List.length_map]; omega
  clear hl1 hl2 hl3 hl4 hl5
  obtain ⟨i0, a1, a2, a3, a4⟩ := info_parts infoP
  have HI : Hid (Tryd.prog.info? 54 = some i0 ∧ i0.zero = some zP ∧ i0.size = 18 ∧ i0.bytes = 224) := ⟨a1, a2, a3, a4⟩
  clear a1 a2 a3 a4
  have T1 : Hid (∀ W, Env W g V L s → Calls Tryd.prog 20 #[rp g, .int .i64 1, .string ⟨#[119, 104, 101, 110]⟩] W fun e w' => e = .returned (.bool false) ∧ Env w' g V L s ∧ Fr (fun i => i = g) W w') := fun W hW => by
    have := is_any W g V L s 1 [119, 104, 101, 110] (.inl ⟨rfl, by kernel_rfl⟩) hW
    unfold tks at this
    rw [hb_T1] at this
    exact this
  have T2 : Hid (∀ W, Env W g V L s → Calls Tryd.prog 20 #[rp g, .int .i64 1, .string ⟨#[110, 111, 116]⟩] W fun e w' => e = .returned (.bool true) ∧ Env w' g V L s.adv ∧ Fr (fun i => i = g) W w') := fun W hW => by
    have := is_any W g V L s 1 [110, 111, 116] (.inl ⟨rfl, by kernel_rfl⟩) hW
    unfold tks at this
    rw [hb_T2] at this
    exact this
  obtain ⟨⟨⟨a, b, ⟨ck, csb, cl, cr⟩, tw, tn⟩, s2⟩, hpt⟩ : ∃ q, pat L s.adv = q := ⟨_, rfl⟩
  obtain ⟨n1, hn1⟩ : ∃ n1, csb.length = n1 := ⟨_, rfl⟩
  have HS : Hid (∀ W, Env W g V L s.adv → Calls Tryd.prog 48 #[rp g] W fun e w' => ∃ p cap u, e = .returned u ∧ u.cells = (ptC a b ck (.slice p n1 cap) cl cr tw tn).toArray ∧ Holds w' (fun i => W.heap.size ≤ i) (.row 52 14 csb) (.slice p n1 cap) ∧ Env w' g V L s2 ∧ Fr (fun i => i = g) W w') := fun W hW => by
    refine (shape_any W g V L s.adv hW h0).mono ?_
    rw [hpt]
    rintro e w' ⟨p, cap, rfl, q1, q2, q3⟩
    simp only [hn1] at q1 ⊢
    exact ⟨p, cap, _, rfl, rfl, q1, q2, q3⟩
  have HN1 : Hid (csb.length = n1) := hn1
  rw [hpt]
  obtain ⟨s3, h_s3⟩ : ∃ s3, wnt L [59] s2 = s3 := ⟨_, rfl⟩
  simp only
  rw [h_s3]
  have HWE : Hid (∀ W, Env W g V L s2 → Calls Tryd.prog 22 #[rp g, .int .i64 4, .string ⟨#[59]⟩] W fun e w' => e = .returned (.tuple #[]) ∧ Env w' g V L s3 ∧ Fr (fun i => i = g) W w') := fun W hW => by
    have := want_any W g V L s2 4 [59] (.inr ⟨rfl, by decide⟩) hW
    rw [h_s3] at this
    exact this
  have P0 : Hid (Pst w ((w.alloc (.cells (ruC r.n (.slice q1 l1 k1) (.slice q2 l2 k2) (.slice q3 l3 k3) (.slice q4 l4 k4) r.e.ty (.slice q5 l5 k5)).toArray 44)).alloc (.cells ru0.toArray 44)) g V L s B w.heap.size (w.heap.size + 1) c0 r (.slice q1 l1 k1) (.slice q2 l2 k2) (.slice q3 l3 k3) (.slice q4 l4 k4) (.slice q5 l5 k5)) := hst
  have HOW : Hid (∀ k, (Value.slice q2 l2 k2).ownBlock = some k → k < w.heap.size) := fun k hk => by
    have h1 := Row.own_in P0.out.rr.r2 k hk
    exact col_old HC0.out (by rw [h1.2]; omega)
  have HGB : Hid (g < B ∧ B ≤ w.heap.size) := ⟨hg, hB⟩
  clear h hr hg hB h0 hlen hc0 hst hb_T1 hb_T2 hpt hn1 h_s3
  go_enter Tryd.func23, Tryd.ntmps23
  go_wp2_with (first
      | (at_builtin; refine wp_appS (by rfl) _ _ 37 (by rfl) 54 i0 zP 18 224 Tryd.underlying37 HI.out.1 HI.out.2.1 HI.out.2.2.1 HI.out.2.2.2 rfl (by omega) (Cq B (pcol2 c0 wb.heap.size w1.heap.size 2) 2) (.slice q2 l2 k2) (r.t.map encP) (by rfl) (PC.out.rr.r2.alloc _) (HSZ.out _) (encP ⟨a, b, ⟨ck, csb, cl, cr⟩, tw, tn⟩) (ptC a b ck (.slice p1 n1 cap1) cl cr tw tn) ⟨w2.heap.size, 0, none⟩ (by rfl) (by rfl) (World.news_of_block (heap_alloc_new _ _)) (by rfl) ((holdsP (t := ⟨a, b, ⟨ck, csb, cl, cr⟩, tw, tn⟩) (HH_w2.out.mono (fun i hi _ => ⟨⟨⟨by { have := HWA.out; have := HGB.out; omega }, pcol2_new hi.1 (by { omega })⟩, fun e => by { have h1 := HOW.out _ e; have := HWA.out; omega }⟩, rfl⟩))).on ((Fr.refl _ _).alloc _)) HLN.out (by omega) ?_; intro v5 w5 hrw hgb hown; obtain ⟨p5, cap5, e5⟩ := Row.shape hrw; obtain ⟨n5, hn5⟩ : ∃ n5, (r.t.map encP ++ [encP ⟨a, b, ⟨ck, csb, cl, cr⟩, tw, tn⟩]).length = n5 := ⟨_, rfl⟩; rw [hn5] at e5; subst e5; have HU5 : Hid (w5.heap[w.heap.size]? = some (.cells (ruC r.n (.slice q1 l1 k1) (.slice q2 l2 k2) (.slice q3 l3 k3) (.slice q4 l4 k4) r.e.ty (.slice q5 l5 k5)).toArray 44 (0, 0))) := (hgb.block w.heap.size (by { have := blk_lt (PC.out.alloc (.cells (ptC a b ck (.slice p1 n1 cap1) cl cr tw tn).toArray 54)).blk; exact this }) (fun e => by { have h1 := (hown _ e.symm).2; have h2 := PC.out.c0.1; omega })).trans (PC.out.alloc (.cells (ptC a b ck (.slice p1 n1 cap1) cl cr tw tn).toArray 54)).blk; have f5 := free_of_blk HU5.out 2; have c5 : w5.cell? ⟨w.heap.size, 2, none⟩ = some (.slice q2 l2 k2) := by { rw [cell_of_blk HU5.out]; rfl }; have PD : Hid (Pst w (w5.setCell ⟨w.heap.size, 2, none⟩ (.slice p5 n5 cap5)) g V L s2 B w.heap.size (w.heap.size + 1) (pcol2 c0 wb.heap.size w1.heap.size 2) { r with t := r.t ++ [⟨a, b, ⟨ck, csb, cl, cr⟩, tw, tn⟩] } (.slice q1 l1 k1) (.slice p5 n5 cap5) (.slice q3 l3 k3) (.slice q4 l4 k4) (.slice q5 l5 k5)) := (PC.out.alloc (.cells (ptC a b ck (.slice p1 n1 cap1) cl cr tw tn).toArray 54)).app2 hgb hown (fun _ _ _ _ => rfl) PC.out.c0 hrw; clear hrw hgb hown hn5)
      | (go_at_call_of 22 (Value.string ⟨#[59]⟩); refine (HWE.out _ PD.out.env).mono ?_; rintro e wz ⟨rfl, he_, hf_⟩; have PZ : Hid (Pst w wz g V L s3 B w.heap.size (w.heap.size + 1) (pcol2 c0 wb.heap.size w1.heap.size 2) { r with t := r.t ++ [⟨a, b, ⟨ck, csb, cl, cr⟩, tw, tn⟩] } (.slice q1 l1 k1) (.slice p5 n5 cap5) (.slice q3 l3 k3) (.slice q4 l4 k4) (.slice q5 l5 k5)) := PD.out.call he_ hf_; clear he_ hf_)
      | ((with_reducible show wpList _ _ _ (Oper.mk _ (.load _ _) _ _ _ _ :: _) _ _); refine wp_ld (by rfl) 44 _ (by rfl) w.heap.size (ruC r.n (.slice q1 l1 k1) (.slice p5 n5 cap5) (.slice q3 l3 k3) (.slice q4 l4 k4) r.e.ty (.slice q5 l5 k5)) 44 _ (by rfl) PZ.out.blk Tryd.underlying44 rfl (by kernel_rfl) ?_)
      | ((with_reducible show wpList _ _ _ (Oper.mk _ (.store _ _ _) _ _ _ _ :: _) _ _); refine wp_st (by rfl) 44 _ _ (by rfl) (w.heap.size + 1) 0 ru0 44 (.agg #[.string r.n, (.slice q1 l1 k1), (.slice p5 n5 cap5), (.slice q3 l3 k3), (.slice q4 l4 k4), .string r.e.ty, (.slice q5 l5 k5)]) (ruC r.n (.slice q1 l1 k1) (.slice p5 n5 cap5) (.slice q3 l3 k3) (.slice q4 l4 k4) r.e.ty (.slice q5 l5 k5)) (by rfl) (by rfl) (by rfl) PZ.out.res (Nat.le_of_ble_eq_true rfl) (by kernel_rfl) (by rfl) ?_; intro w9 hw9 hf9; have H9 : Hid (w9.heap[(w.heap.size + 1)]? = some (.cells (ruC r.n (.slice q1 l1 k1) (.slice p5 n5 cap5) (.slice q3 l3 k3) (.slice q4 l4 k4) r.e.ty (.slice q5 l5 k5)).toArray 44 (0, 0)) ∧ RR w9 B (pcol2 c0 wb.heap.size w1.heap.size 2) { r with t := r.t ++ [⟨a, b, ⟨ck, csb, cl, cr⟩, tw, tn⟩] } (.slice q1 l1 k1) (.slice p5 n5 cap5) (.slice q3 l3 k3) (.slice q4 l4 k4) (.slice q5 l5 k5) ∧ Env w9 g V L s3 ∧ Fr (fun i => i = g ∨ B ≤ i) w w9) := ⟨hw9, PZ.out.fin hf9⟩; clear hw9 hf9)
      | ((with_reducible show wpList _ _ _ (Oper.mk _ (.load _ _) _ _ _ _ :: _) _ _); refine wp_ld (by rfl) 54 _ (by rfl) w1.heap.size (ptC a b ck (.slice p1 n1 cap1) cl cr tw tn) 54 _ (by rfl) HM2.out Tryd.underlying54 rfl (by kernel_rfl) ?_)
      | ((with_reducible show wpList _ _ _ (Oper.mk _ (.store _ _ _) _ _ _ _ :: _) _ _); refine wp_st (by rfl) 54 _ _ (by rfl) w1.heap.size 0 pt0 54 u1 (ptC a b ck (.slice p1 n1 cap1) cl cr tw tn) (by rfl) (by rfl) HU1.out (heap_alloc_new _ _) (Nat.le_of_ble_eq_true rfl) (by kernel_rfl) (by rfl) ?_; intro w2 hw2 hf2; have HM2 : Hid (w2.heap[w1.heap.size]? = some (.cells (ptC a b ck (.slice p1 n1 cap1) cl cr tw tn).toArray 54 (0, 0))) := hw2; have PB : Hid (Pst w w2 g V L s2 B w.heap.size (w.heap.size + 1) c0 r (.slice q1 l1 k1) (.slice q2 l2 k2) (.slice q3 l3 k3) (.slice q4 l4 k4) (.slice q5 l5 k5)) := PBa.out.st hf2 (HC0.out _ (by { have := HWA.out; omega })) (by { have := HWA.out; omega }); have HH_w2 : Hid (Holds w2 (fun i => wb.heap.size ≤ i ∧ i < w1.heap.size) (.row 52 14 csb) (.slice p1 n1 cap1)) := HH1.out.mono (fun i hi hl => ⟨hi, hf2.block i hl (by { show ¬ i = w1.heap.size; omega })⟩); have HMX : Hid (w2.heap[w1.heap.size]? = some (.cells (ptC a b ck (.slice p1 n1 cap1) cl cr tw tn).toArray 54 (0, 0))) := HM2.out; have PC : Hid (Pst w w2 g V L s2 B w.heap.size (w.heap.size + 1) (pcol2 c0 wb.heap.size w1.heap.size 2) r (.slice q1 l1 k1) (.slice q2 l2 k2) (.slice q3 l3 k3) (.slice q4 l4 k4) (.slice q5 l5 k5)) := PB.out.recol (fun i _ h1 _ => pcol2_old HC0.out (by { have := HWA.out; omega }) h1) ⟨pcol2_zero HC0.out (Nat.le_refl _) (by { have := HWA.out; omega }), pcol2_zero HC0.out (Nat.le_succ _) (by { have := HWA.out; omega })⟩; have HSZ : Hid (∀ o, Cq B (pcol2 c0 wb.heap.size w1.heap.size 2) 2 (w2.alloc o).heap.size) := fun o => ⟨by { have h1 := blk_lt PC.out.res; have := HGB.out; simp; omega }, pcol2_new (by { have h1 := HWA.out; have h2 := blk_lt HMX.out; simp; omega }) (by { have h2 := blk_lt HMX.out; simp; omega })⟩; have cU : w2.cell? ⟨w.heap.size, 2, none⟩ = some (.slice q2 l2 k2) := PB.out.cell 2; clear hw2 hf2)
      | (go_at_call_of 20 (Value.string ⟨#[119, 104, 101, 110]⟩); refine (T1.out _ P0.out.env).mono ?_; rintro e wa ⟨rfl, he_, hf_⟩; have PA : Hid (Pst w wa g V L s B w.heap.size (w.heap.size + 1) c0 r (.slice q1 l1 k1) (.slice q2 l2 k2) (.slice q3 l3 k3) (.slice q4 l4 k4) (.slice q5 l5 k5)) := P0.out.call he_ hf_; clear he_ hf_)
      | (go_at_call_of 20 (Value.string ⟨#[110, 111, 116]⟩); refine (T2.out _ PA.out.env).mono ?_; rintro e wb ⟨rfl, he_, hf_⟩; have PAb : Hid (Pst w wb g V L s.adv B w.heap.size (w.heap.size + 1) c0 r (.slice q1 l1 k1) (.slice q2 l2 k2) (.slice q3 l3 k3) (.slice q4 l4 k4) (.slice q5 l5 k5)) := PA.out.call he_ hf_; clear he_ hf_)
      | (go_at_call 48; refine (HS.out _ PAb.out.env).mono ?_; rintro e w1 ⟨p1, cap1, u1, rfl, hu1, hh1, he1, hf1⟩; have HU1 : Hid (u1.cells = (ptC a b ck (.slice p1 n1 cap1) cl cr tw tn).toArray) := hu1; have PBa : Hid (Pst w (w1.alloc (.cells pt0.toArray 54)) g V L s2 B w.heap.size (w.heap.size + 1) c0 r (.slice q1 l1 k1) (.slice q2 l2 k2) (.slice q3 l3 k3) (.slice q4 l4 k4) (.slice q5 l5 k5)) := (PAb.out.call he1 hf1).alloc _; have HWA : Hid ((w.heap.size + 1) < wb.heap.size ∧ wb.heap.size ≤ w1.heap.size) := ⟨blk_lt PAb.out.res, hf1.size⟩; have HH1 : Hid (Holds (w1.alloc (.cells pt0.toArray 54)) (fun i => wb.heap.size ≤ i ∧ i < w1.heap.size) (.row 52 14 csb) (.slice p1 n1 cap1)) := hh1.mono (fun i hi hl => ⟨⟨hi, hl⟩, Below.heap_alloc _ _ _ hl⟩); clear hu1 hh1 he1 hf1))
  refine ret_loc (w.heap.size + 1) _ _ _ H9.out.1 rfl rfl (by rfl) Tryd.underlying44 rfl (by kernel_rfl) ?_
  exact ⟨(pcol2 c0 wb.heap.size w1.heap.size 2), (.slice q1 l1 k1), (.slice p5 n5 cap5), (.slice q3 l3 k3), (.slice q4 l4 k4), (.slice q5 l5 k5), rfl, H9.out.2⟩
set_option maxHeartbeats 8000000 in
theorem part_when0 (w : World) (g : Nat) (V : Value) (L : List Tk) (s : St) (B : Nat) (col : Nat → Nat) (r : Rl) (wv tv mv kv ev : Value) (h : Env w g V L s) (hr : RR w B col r wv tv mv kv ev) (hg : g < B) (hB : B ≤ w.heap.size) (h0 : s.o = 0) (hlen : r.w.length ≤ 700 ∧ r.t.length ≤ 700 ∧ r.m.length ≤ 700 ∧ r.k.length ≤ 700) (hb_T1 : see L [119, 104, 101, 110] s = true) (a b : ByteArray) (ck : Int) (csb : List (List Dat)) (cl cr : Opd) (tw tn : Int) (s2 : St) (hpt : pat L s.adv = (⟨a, b, ⟨ck, csb, cl, cr⟩, tw, tn⟩, s2)) (hb_T2 : see L [111, 118, 101, 114] s2 = false) (sE : St) (h_sE : wnt L [59] s2 = sE) : Calls Tryd.prog 23 #[rp g, .agg #[.string r.n, wv, tv, mv, kv, .string r.e.ty, ev]] w (PartPost w g V L B { r with w := r.w ++ [⟨a, b, ⟨ck, csb, cl, cr⟩, tw, tn⟩] } sE) := by
  obtain ⟨q1, k1, e1⟩ := hr.r1.shape
  obtain ⟨l1, hl1⟩ : ∃ l, (r.w.map encP).length = l := ⟨_, rfl⟩
  rw [hl1] at e1
  subst e1
  obtain ⟨q2, k2, e2⟩ := hr.r2.shape
  obtain ⟨l2, hl2⟩ : ∃ l, (r.t.map encP).length = l := ⟨_, rfl⟩
  rw [hl2] at e2
  subst e2
  obtain ⟨q3, k3, e3⟩ := hr.r3.shape
  obtain ⟨l3, hl3⟩ : ∃ l, (r.m.map encM).length = l := ⟨_, rfl⟩
  rw [hl3] at e3
  subst e3
  obtain ⟨q4, k4, e4⟩ := hr.r4.shape
  obtain ⟨l4, hl4⟩ : ∃ l, (r.k.map encK).length = l := ⟨_, rfl⟩
  rw [hl4] at e4
  subst e4
  obtain ⟨q5, k5, e5⟩ := hr.r5.shape
  obtain ⟨l5, hl5⟩ : ∃ l, (r.e.v.map encO).length = l := ⟨_, rfl⟩
  rw [hl5] at e5
  subst e5
  obtain ⟨c0, hc0⟩ : ∃ c0, pcol col w.heap.size = c0 := ⟨_, rfl⟩
  have HC0 : Hid (∀ i, w.heap.size ≤ i → c0 i = 0) := fun i hi => by rw [← hc0]; unfold pcol; exact if_neg (by omega)
  have hst := pst_start h hr hg hB
  rw [hc0] at hst
  have HLN : Hid ((r.w.map encP).length ≤ 800) := by show _ ≤ 800; rw [List.length_map]; omega
  clear hl1 hl2 hl3 hl4 hl5
  obtain ⟨i0, a1, a2, a3, a4⟩ := info_parts infoP
  have HI : Hid (Tryd.prog.info? 54 = some i0 ∧ i0.zero = some zP ∧ i0.size = 18 ∧ i0.bytes = 224) := ⟨a1, a2, a3, a4⟩
  clear a1 a2 a3 a4
  have T1 : Hid (∀ W, Env W g V L s → Calls Tryd.prog 20 #[rp g, .int .i64 1, .string ⟨#[119, 104, 101, 110]⟩] W fun e w' => e = .returned (.bool true) ∧ Env w' g V L s.adv ∧ Fr (fun i => i = g) W w') := fun W hW => by
    have := is_any W g V L s 1 [119, 104, 101, 110] (.inl ⟨rfl, by kernel_rfl⟩) hW
    unfold tks at this
    rw [hb_T1] at this
    exact this
  obtain ⟨n1, hn1⟩ : ∃ n1, csb.length = n1 := ⟨_, rfl⟩
  have HS : Hid (∀ W, Env W g V L s.adv → Calls Tryd.prog 48 #[rp g] W fun e w' => ∃ p cap u, e = .returned u ∧ u.cells = (ptC a b ck (.slice p n1 cap) cl cr tw tn).toArray ∧ Holds w' (fun i => W.heap.size ≤ i) (.row 52 14 csb) (.slice p n1 cap) ∧ Env w' g V L s2 ∧ Fr (fun i => i = g) W w') := fun W hW => by
    refine (shape_any W g V L s.adv hW h0).mono ?_
    rw [hpt]
    rintro e w' ⟨p, cap, rfl, q1, q2, q3⟩
    simp only [hn1] at q1 ⊢
    exact ⟨p, cap, _, rfl, rfl, q1, q2, q3⟩
  have HN1 : Hid (csb.length = n1) := hn1
  have T2 : Hid (∀ W, Env W g V L s2 → Calls Tryd.prog 20 #[rp g, .int .i64 1, .string ⟨#[111, 118, 101, 114]⟩] W fun e w' => e = .returned (.bool false) ∧ Env w' g V L s2 ∧ Fr (fun i => i = g) W w') := fun W hW => by
    have := is_any W g V L s2 1 [111, 118, 101, 114] (.inl ⟨rfl, by kernel_rfl⟩) hW
    unfold tks at this
    rw [hb_T2] at this
    exact this
  have HWE : Hid (∀ W, Env W g V L s2 → Calls Tryd.prog 22 #[rp g, .int .i64 4, .string ⟨#[59]⟩] W fun e w' => e = .returned (.tuple #[]) ∧ Env w' g V L sE ∧ Fr (fun i => i = g) W w') := fun W hW => by
    have := want_any W g V L s2 4 [59] (.inr ⟨rfl, by decide⟩) hW
    rw [h_sE] at this
    exact this
  have P0 : Hid (Pst w ((w.alloc (.cells (ruC r.n (.slice q1 l1 k1) (.slice q2 l2 k2) (.slice q3 l3 k3) (.slice q4 l4 k4) r.e.ty (.slice q5 l5 k5)).toArray 44)).alloc (.cells ru0.toArray 44)) g V L s B w.heap.size (w.heap.size + 1) c0 r (.slice q1 l1 k1) (.slice q2 l2 k2) (.slice q3 l3 k3) (.slice q4 l4 k4) (.slice q5 l5 k5)) := hst
  have HOW : Hid (∀ k, (Value.slice q1 l1 k1).ownBlock = some k → k < w.heap.size) := fun k hk => by
    have h1 := Row.own_in P0.out.rr.r1 k hk
    exact col_old HC0.out (by rw [h1.2]; omega)
  have HGB : Hid (g < B ∧ B ≤ w.heap.size) := ⟨hg, hB⟩
  clear h hr hg hB h0 hlen hc0 hst hb_T1 hpt hn1 h_sE hb_T2
  go_enter Tryd.func23, Tryd.ntmps23
  go_wp2_with (first
      | (at_builtin; refine wp_appS (by rfl) _ _ 37 (by rfl) 54 i0 zP 18 224 Tryd.underlying37 HI.out.1 HI.out.2.1 HI.out.2.2.1 HI.out.2.2.2 rfl (by omega) (Cq B (pcol2 c0 wa.heap.size w1.heap.size 1) 1) (.slice q1 l1 k1) (r.w.map encP) (by rfl) (PC.out.rr.r1.alloc _) (HSZ.out _) (encP ⟨a, b, ⟨ck, csb, cl, cr⟩, tw, tn⟩) (ptC a b ck (.slice p1 n1 cap1) cl cr tw tn) ⟨w3.heap.size, 0, none⟩ (by rfl) (by rfl) (World.news_of_block (heap_alloc_new _ _)) (by rfl) ((holdsP (t := ⟨a, b, ⟨ck, csb, cl, cr⟩, tw, tn⟩) (HH_w3.out.mono (fun i hi _ => ⟨⟨⟨by { have := HWA.out; have := HGB.out; omega }, pcol2_new hi.1 (by { omega })⟩, fun e => by { have h1 := HOW.out _ e; have := HWA.out; omega }⟩, rfl⟩))).on ((Fr.refl _ _).alloc _)) HLN.out (by omega) ?_; intro v5 w5 hrw hgb hown; obtain ⟨p5, cap5, e5⟩ := Row.shape hrw; obtain ⟨n5, hn5⟩ : ∃ n5, (r.w.map encP ++ [encP ⟨a, b, ⟨ck, csb, cl, cr⟩, tw, tn⟩]).length = n5 := ⟨_, rfl⟩; rw [hn5] at e5; subst e5; have HU5 : Hid (w5.heap[w.heap.size]? = some (.cells (ruC r.n (.slice q1 l1 k1) (.slice q2 l2 k2) (.slice q3 l3 k3) (.slice q4 l4 k4) r.e.ty (.slice q5 l5 k5)).toArray 44 (0, 0))) := (hgb.block w.heap.size (by { have := blk_lt (PC.out.alloc (.cells (ptC a b ck (.slice p1 n1 cap1) cl cr tw tn).toArray 54)).blk; exact this }) (fun e => by { have h1 := (hown _ e.symm).2; have h2 := PC.out.c0.1; omega })).trans (PC.out.alloc (.cells (ptC a b ck (.slice p1 n1 cap1) cl cr tw tn).toArray 54)).blk; have f5 := free_of_blk HU5.out 1; have c5 : w5.cell? ⟨w.heap.size, 1, none⟩ = some (.slice q1 l1 k1) := by { rw [cell_of_blk HU5.out]; rfl }; have PD : Hid (Pst w (w5.setCell ⟨w.heap.size, 1, none⟩ (.slice p5 n5 cap5)) g V L s2 B w.heap.size (w.heap.size + 1) (pcol2 c0 wa.heap.size w1.heap.size 1) { r with w := r.w ++ [⟨a, b, ⟨ck, csb, cl, cr⟩, tw, tn⟩] } (.slice p5 n5 cap5) (.slice q2 l2 k2) (.slice q3 l3 k3) (.slice q4 l4 k4) (.slice q5 l5 k5)) := (PC.out.alloc (.cells (ptC a b ck (.slice p1 n1 cap1) cl cr tw tn).toArray 54)).app1 hgb hown (fun _ _ _ _ => rfl) PC.out.c0 hrw; clear hrw hgb hown hn5)
      | (go_at_call_of 22 (Value.string ⟨#[59]⟩); refine (HWE.out _ PD.out.env).mono ?_; rintro e wz ⟨rfl, he_, hf_⟩; have PZ : Hid (Pst w wz g V L sE B w.heap.size (w.heap.size + 1) (pcol2 c0 wa.heap.size w1.heap.size 1) { r with w := r.w ++ [⟨a, b, ⟨ck, csb, cl, cr⟩, tw, tn⟩] } (.slice p5 n5 cap5) (.slice q2 l2 k2) (.slice q3 l3 k3) (.slice q4 l4 k4) (.slice q5 l5 k5)) := PD.out.call he_ hf_; clear he_ hf_)
      | ((with_reducible show wpList _ _ _ (Oper.mk _ (.load _ _) _ _ _ _ :: _) _ _); refine wp_ld (by rfl) 44 _ (by rfl) w.heap.size (ruC r.n (.slice p5 n5 cap5) (.slice q2 l2 k2) (.slice q3 l3 k3) (.slice q4 l4 k4) r.e.ty (.slice q5 l5 k5)) 44 _ (by rfl) PZ.out.blk Tryd.underlying44 rfl (by kernel_rfl) ?_)
      | ((with_reducible show wpList _ _ _ (Oper.mk _ (.store _ _ _) _ _ _ _ :: _) _ _); refine wp_st (by rfl) 44 _ _ (by rfl) (w.heap.size + 1) 0 ru0 44 (.agg #[.string r.n, (.slice p5 n5 cap5), (.slice q2 l2 k2), (.slice q3 l3 k3), (.slice q4 l4 k4), .string r.e.ty, (.slice q5 l5 k5)]) (ruC r.n (.slice p5 n5 cap5) (.slice q2 l2 k2) (.slice q3 l3 k3) (.slice q4 l4 k4) r.e.ty (.slice q5 l5 k5)) (by rfl) (by rfl) (by rfl) PZ.out.res (Nat.le_of_ble_eq_true rfl) (by kernel_rfl) (by rfl) ?_; intro w9 hw9 hf9; have H9 : Hid (w9.heap[(w.heap.size + 1)]? = some (.cells (ruC r.n (.slice p5 n5 cap5) (.slice q2 l2 k2) (.slice q3 l3 k3) (.slice q4 l4 k4) r.e.ty (.slice q5 l5 k5)).toArray 44 (0, 0)) ∧ RR w9 B (pcol2 c0 wa.heap.size w1.heap.size 1) { r with w := r.w ++ [⟨a, b, ⟨ck, csb, cl, cr⟩, tw, tn⟩] } (.slice p5 n5 cap5) (.slice q2 l2 k2) (.slice q3 l3 k3) (.slice q4 l4 k4) (.slice q5 l5 k5) ∧ Env w9 g V L sE ∧ Fr (fun i => i = g ∨ B ≤ i) w w9) := ⟨hw9, PZ.out.fin hf9⟩; clear hw9 hf9)
      | ((with_reducible show wpList _ _ _ (Oper.mk _ (.load _ _) _ _ _ _ :: _) _ _); refine wp_ld (by rfl) 54 _ (by rfl) w1.heap.size (ptC a b ck (.slice p1 n1 cap1) cl cr tw tn) 54 _ (by rfl) HMX.out Tryd.underlying54 rfl (by kernel_rfl) ?_)
      | (go_at_call_of 20 (Value.string ⟨#[111, 118, 101, 114]⟩); refine (T2.out _ PB_w2.out.env).mono ?_; rintro e w3 ⟨rfl, he_, hf_⟩; have PB_w3 : Hid (Pst w w3 g V L s2 B w.heap.size (w.heap.size + 1) c0 r (.slice q1 l1 k1) (.slice q2 l2 k2) (.slice q3 l3 k3) (.slice q4 l4 k4) (.slice q5 l5 k5)) := PB_w2.out.call he_ hf_; have HM_w3 : Hid (w3.heap[w1.heap.size]? = some (.cells (ptC a b ck (.slice p1 n1 cap1) cl cr tw tn).toArray 54 (0, 0))) := (hf_.block _ (blk_lt HM_w2.out) (by { show ¬ _ = g; have := HWA.out; have := HGB.out; omega })).trans HM_w2.out; have HH_w3 : Hid (Holds w3 (fun i => wa.heap.size ≤ i ∧ i < w1.heap.size) (.row 52 14 csb) (.slice p1 n1 cap1)) := HH_w2.out.mono (fun i hi hl => ⟨hi, hf_.block i hl (by { show ¬ i = g; have := HWA.out; have := HGB.out; omega })⟩); have HMX : Hid (w3.heap[w1.heap.size]? = some (.cells (ptC a b ck (.slice p1 n1 cap1) cl cr tw tn).toArray 54 (0, 0))) := HM_w3.out; have PC : Hid (Pst w w3 g V L s2 B w.heap.size (w.heap.size + 1) (pcol2 c0 wa.heap.size w1.heap.size 1) r (.slice q1 l1 k1) (.slice q2 l2 k2) (.slice q3 l3 k3) (.slice q4 l4 k4) (.slice q5 l5 k5)) := PB_w3.out.recol (fun i _ h1 _ => pcol2_old HC0.out (by { have := HWA.out; omega }) h1) ⟨pcol2_zero HC0.out (Nat.le_refl _) (by { have := HWA.out; omega }), pcol2_zero HC0.out (Nat.le_succ _) (by { have := HWA.out; omega })⟩; have HSZ : Hid (∀ o, Cq B (pcol2 c0 wa.heap.size w1.heap.size 1) 1 (w3.alloc o).heap.size) := fun o => ⟨by { have h1 := blk_lt PC.out.res; have := HGB.out; simp; omega }, pcol2_new (by { have h1 := HWA.out; have h2 := blk_lt HMX.out; simp; omega }) (by { have h2 := blk_lt HMX.out; simp; omega })⟩; have cU : w3.cell? ⟨w.heap.size, 1, none⟩ = some (.slice q1 l1 k1) := PB_w3.out.cell 1; clear he_ hf_)
      | ((with_reducible show wpList _ _ _ (Oper.mk _ (.store _ _ _) _ _ _ _ :: _) _ _); refine wp_st (by rfl) 54 _ _ (by rfl) w1.heap.size 0 pt0 54 u1 (ptC a b ck (.slice p1 n1 cap1) cl cr tw tn) (by rfl) (by rfl) HU1.out (heap_alloc_new _ _) (Nat.le_of_ble_eq_true rfl) (by kernel_rfl) (by rfl) ?_; intro w2 hw2 hf2; have HM2 : Hid (w2.heap[w1.heap.size]? = some (.cells (ptC a b ck (.slice p1 n1 cap1) cl cr tw tn).toArray 54 (0, 0))) := hw2; have PB : Hid (Pst w w2 g V L s2 B w.heap.size (w.heap.size + 1) c0 r (.slice q1 l1 k1) (.slice q2 l2 k2) (.slice q3 l3 k3) (.slice q4 l4 k4) (.slice q5 l5 k5)) := PBa.out.st hf2 (HC0.out _ (by { have := HWA.out; omega })) (by { have := HWA.out; omega }); have HH_w2 : Hid (Holds w2 (fun i => wa.heap.size ≤ i ∧ i < w1.heap.size) (.row 52 14 csb) (.slice p1 n1 cap1)) := HH1.out.mono (fun i hi hl => ⟨hi, hf2.block i hl (by { show ¬ i = w1.heap.size; omega })⟩); have PB_w2 : Hid (Pst w w2 g V L s2 B w.heap.size (w.heap.size + 1) c0 r (.slice q1 l1 k1) (.slice q2 l2 k2) (.slice q3 l3 k3) (.slice q4 l4 k4) (.slice q5 l5 k5)) := PB.out; have HM_w2 : Hid (w2.heap[w1.heap.size]? = some (.cells (ptC a b ck (.slice p1 n1 cap1) cl cr tw tn).toArray 54 (0, 0))) := HM2.out; clear hw2 hf2)
      | (go_at_call_of 20 (Value.string ⟨#[119, 104, 101, 110]⟩); refine (T1.out _ P0.out.env).mono ?_; rintro e wa ⟨rfl, he_, hf_⟩; have PA : Hid (Pst w wa g V L s.adv B w.heap.size (w.heap.size + 1) c0 r (.slice q1 l1 k1) (.slice q2 l2 k2) (.slice q3 l3 k3) (.slice q4 l4 k4) (.slice q5 l5 k5)) := P0.out.call he_ hf_; clear he_ hf_)
      | (go_at_call 48; refine (HS.out _ PA.out.env).mono ?_; rintro e w1 ⟨p1, cap1, u1, rfl, hu1, hh1, he1, hf1⟩; have HU1 : Hid (u1.cells = (ptC a b ck (.slice p1 n1 cap1) cl cr tw tn).toArray) := hu1; have PBa : Hid (Pst w (w1.alloc (.cells pt0.toArray 54)) g V L s2 B w.heap.size (w.heap.size + 1) c0 r (.slice q1 l1 k1) (.slice q2 l2 k2) (.slice q3 l3 k3) (.slice q4 l4 k4) (.slice q5 l5 k5)) := (PA.out.call he1 hf1).alloc _; have HWA : Hid ((w.heap.size + 1) < wa.heap.size ∧ wa.heap.size ≤ w1.heap.size) := ⟨blk_lt PA.out.res, hf1.size⟩; have HH1 : Hid (Holds (w1.alloc (.cells pt0.toArray 54)) (fun i => wa.heap.size ≤ i ∧ i < w1.heap.size) (.row 52 14 csb) (.slice p1 n1 cap1)) := hh1.mono (fun i hi hl => ⟨⟨hi, hl⟩, Below.heap_alloc _ _ _ hl⟩); clear hu1 hh1 he1 hf1))
  refine ret_loc (w.heap.size + 1) _ _ _ H9.out.1 rfl rfl (by rfl) Tryd.underlying44 rfl (by kernel_rfl) ?_
  exact ⟨(pcol2 c0 wa.heap.size w1.heap.size 1), (.slice p5 n5 cap5), (.slice q2 l2 k2), (.slice q3 l3 k3), (.slice q4 l4 k4), (.slice q5 l5 k5), rfl, H9.out.2⟩
set_option maxHeartbeats 8000000 in
theorem part_when1 (w : World) (g : Nat) (V : Value) (L : List Tk) (s : St) (B : Nat) (col : Nat → Nat) (r : Rl) (wv tv mv kv ev : Value) (h : Env w g V L s) (hr : RR w B col r wv tv mv kv ev) (hg : g < B) (hB : B ≤ w.heap.size) (h0 : s.o = 0) (hlen : r.w.length ≤ 700 ∧ r.t.length ≤ 700 ∧ r.m.length ≤ 700 ∧ r.k.length ≤ 700) (hb_T1 : see L [119, 104, 101, 110] s = true) (a b : ByteArray) (ck : Int) (csb : List (List Dat)) (cl cr : Opd) (tw tn : Int) (s2 : St) (hpt : pat L s.adv = (⟨a, b, ⟨ck, csb, cl, cr⟩, tw, tn⟩, s2)) (hb_T2 : see L [111, 118, 101, 114] s2 = true) (hb_T3 : see L [108, 97, 115, 116] s2.adv = true) (d : Int) (s3 : St) (h_d : (num L s2.adv.adv).1 = d) (h_s3 : (num L s2.adv.adv).2 = s3) (sE : St) (h_sE : wnt L [59] s3 = sE) : Calls Tryd.prog 23 #[rp g, .agg #[.string r.n, wv, tv, mv, kv, .string r.e.ty, ev]] w (PartPost w g V L B { r with w := r.w ++ [⟨a, b, ⟨ck, csb, cl, cr⟩, 2, d⟩] } sE) := by
  obtain ⟨q1, k1, e1⟩ := hr.r1.shape
  obtain ⟨l1, hl1⟩ : ∃ l, (r.w.map encP).length = l := ⟨_, rfl⟩
  rw [hl1] at e1
  subst e1
  obtain ⟨q2, k2, e2⟩ := hr.r2.shape
  obtain ⟨l2, hl2⟩ : ∃ l, (r.t.map encP).length = l := ⟨_, rfl⟩
  rw [hl2] at e2
  subst e2
  obtain ⟨q3, k3, e3⟩ := hr.r3.shape
  obtain ⟨l3, hl3⟩ : ∃ l, (r.m.map encM).length = l := ⟨_, rfl⟩
  rw [hl3] at e3
  subst e3
  obtain ⟨q4, k4, e4⟩ := hr.r4.shape
  obtain ⟨l4, hl4⟩ : ∃ l, (r.k.map encK).length = l := ⟨_, rfl⟩
  rw [hl4] at e4
  subst e4
  obtain ⟨q5, k5, e5⟩ := hr.r5.shape
  obtain ⟨l5, hl5⟩ : ∃ l, (r.e.v.map encO).length = l := ⟨_, rfl⟩
  rw [hl5] at e5
  subst e5
  obtain ⟨c0, hc0⟩ : ∃ c0, pcol col w.heap.size = c0 := ⟨_, rfl⟩
  have HC0 : Hid (∀ i, w.heap.size ≤ i → c0 i = 0) := fun i hi => by rw [← hc0]; unfold pcol; exact if_neg (by omega)
  have hst := pst_start h hr hg hB
  rw [hc0] at hst
  have HLN : Hid ((r.w.map encP).length ≤ 800) := by show _ ≤ 800; rw [List.length_map]; omega
  clear hl1 hl2 hl3 hl4 hl5
  obtain ⟨i0, a1, a2, a3, a4⟩ := info_parts infoP
  have HI : Hid (Tryd.prog.info? 54 = some i0 ∧ i0.zero = some zP ∧ i0.size = 18 ∧ i0.bytes = 224) := ⟨a1, a2, a3, a4⟩
  clear a1 a2 a3 a4
  have T1 : Hid (∀ W, Env W g V L s → Calls Tryd.prog 20 #[rp g, .int .i64 1, .string ⟨#[119, 104, 101, 110]⟩] W fun e w' => e = .returned (.bool true) ∧ Env w' g V L s.adv ∧ Fr (fun i => i = g) W w') := fun W hW => by
    have := is_any W g V L s 1 [119, 104, 101, 110] (.inl ⟨rfl, by kernel_rfl⟩) hW
    unfold tks at this
    rw [hb_T1] at this
    exact this
  obtain ⟨n1, hn1⟩ : ∃ n1, csb.length = n1 := ⟨_, rfl⟩
  have HS : Hid (∀ W, Env W g V L s.adv → Calls Tryd.prog 48 #[rp g] W fun e w' => ∃ p cap u, e = .returned u ∧ u.cells = (ptC a b ck (.slice p n1 cap) cl cr tw tn).toArray ∧ Holds w' (fun i => W.heap.size ≤ i) (.row 52 14 csb) (.slice p n1 cap) ∧ Env w' g V L s2 ∧ Fr (fun i => i = g) W w') := fun W hW => by
    refine (shape_any W g V L s.adv hW h0).mono ?_
    rw [hpt]
    rintro e w' ⟨p, cap, rfl, q1, q2, q3⟩
    simp only [hn1] at q1 ⊢
    exact ⟨p, cap, _, rfl, rfl, q1, q2, q3⟩
  have HN1 : Hid (csb.length = n1) := hn1
  have T2 : Hid (∀ W, Env W g V L s2 → Calls Tryd.prog 20 #[rp g, .int .i64 1, .string ⟨#[111, 118, 101, 114]⟩] W fun e w' => e = .returned (.bool true) ∧ Env w' g V L s2.adv ∧ Fr (fun i => i = g) W w') := fun W hW => by
    have := is_any W g V L s2 1 [111, 118, 101, 114] (.inl ⟨rfl, by kernel_rfl⟩) hW
    unfold tks at this
    rw [hb_T2] at this
    exact this
  have T3 : Hid (∀ W, Env W g V L s2.adv → Calls Tryd.prog 20 #[rp g, .int .i64 1, .string ⟨#[108, 97, 115, 116]⟩] W fun e w' => e = .returned (.bool true) ∧ Env w' g V L s2.adv.adv ∧ Fr (fun i => i = g) W w') := fun W hW => by
    have := is_any W g V L s2.adv 1 [108, 97, 115, 116] (.inl ⟨rfl, by kernel_rfl⟩) hW
    unfold tks at this
    rw [hb_T3] at this
    exact this
  have HNU : Hid (∀ W, Env W g V L s2.adv.adv → Calls Tryd.prog 49 #[rp g] W fun e w' => e = .returned (.int .i64 d) ∧ Env w' g V L s3 ∧ Fr (fun i => i = g) W w') := fun W hW => by
    have := num_any W g V L s2.adv.adv hW
    rw [h_d, h_s3] at this
    exact this
  have HWE : Hid (∀ W, Env W g V L s3 → Calls Tryd.prog 22 #[rp g, .int .i64 4, .string ⟨#[59]⟩] W fun e w' => e = .returned (.tuple #[]) ∧ Env w' g V L sE ∧ Fr (fun i => i = g) W w') := fun W hW => by
    have := want_any W g V L s3 4 [59] (.inr ⟨rfl, by decide⟩) hW
    rw [h_sE] at this
    exact this
  have P0 : Hid (Pst w ((w.alloc (.cells (ruC r.n (.slice q1 l1 k1) (.slice q2 l2 k2) (.slice q3 l3 k3) (.slice q4 l4 k4) r.e.ty (.slice q5 l5 k5)).toArray 44)).alloc (.cells ru0.toArray 44)) g V L s B w.heap.size (w.heap.size + 1) c0 r (.slice q1 l1 k1) (.slice q2 l2 k2) (.slice q3 l3 k3) (.slice q4 l4 k4) (.slice q5 l5 k5)) := hst
  have HOW : Hid (∀ k, (Value.slice q1 l1 k1).ownBlock = some k → k < w.heap.size) := fun k hk => by
    have h1 := Row.own_in P0.out.rr.r1 k hk
    exact col_old HC0.out (by rw [h1.2]; omega)
  have HGB : Hid (g < B ∧ B ≤ w.heap.size) := ⟨hg, hB⟩
  clear h hr hg hB h0 hlen hc0 hst hb_T1 hpt hn1 h_sE hb_T2 hb_T3 h_d h_s3
  go_enter Tryd.func23, Tryd.ntmps23
  go_wp2_with (first
      | (at_builtin; refine wp_appS (by rfl) _ _ 37 (by rfl) 54 i0 zP 18 224 Tryd.underlying37 HI.out.1 HI.out.2.1 HI.out.2.2.1 HI.out.2.2.2 rfl (by omega) (Cq B (pcol2 c0 wa.heap.size w1.heap.size 1) 1) (.slice q1 l1 k1) (r.w.map encP) (by rfl) (PC.out.rr.r1.alloc _) (HSZ.out _) (encP ⟨a, b, ⟨ck, csb, cl, cr⟩, 2, d⟩) (ptC a b ck (.slice p1 n1 cap1) cl cr 2 d) ⟨w7.heap.size, 0, none⟩ (by rfl) (by rfl) (World.news_of_block (heap_alloc_new _ _)) (by rfl) ((holdsP (t := ⟨a, b, ⟨ck, csb, cl, cr⟩, 2, d⟩) (HH_w7.out.mono (fun i hi _ => ⟨⟨⟨by { have := HWA.out; have := HGB.out; omega }, pcol2_new hi.1 (by { omega })⟩, fun e => by { have h1 := HOW.out _ e; have := HWA.out; omega }⟩, rfl⟩))).on ((Fr.refl _ _).alloc _)) HLN.out (by omega) ?_; intro v5 w5 hrw hgb hown; obtain ⟨p5, cap5, e5⟩ := Row.shape hrw; obtain ⟨n5, hn5⟩ : ∃ n5, (r.w.map encP ++ [encP ⟨a, b, ⟨ck, csb, cl, cr⟩, 2, d⟩]).length = n5 := ⟨_, rfl⟩; rw [hn5] at e5; subst e5; have HU5 : Hid (w5.heap[w.heap.size]? = some (.cells (ruC r.n (.slice q1 l1 k1) (.slice q2 l2 k2) (.slice q3 l3 k3) (.slice q4 l4 k4) r.e.ty (.slice q5 l5 k5)).toArray 44 (0, 0))) := (hgb.block w.heap.size (by { have := blk_lt (PC.out.alloc (.cells (ptC a b ck (.slice p1 n1 cap1) cl cr 2 d).toArray 54)).blk; exact this }) (fun e => by { have h1 := (hown _ e.symm).2; have h2 := PC.out.c0.1; omega })).trans (PC.out.alloc (.cells (ptC a b ck (.slice p1 n1 cap1) cl cr 2 d).toArray 54)).blk; have f5 := free_of_blk HU5.out 1; have c5 : w5.cell? ⟨w.heap.size, 1, none⟩ = some (.slice q1 l1 k1) := by { rw [cell_of_blk HU5.out]; rfl }; have PD : Hid (Pst w (w5.setCell ⟨w.heap.size, 1, none⟩ (.slice p5 n5 cap5)) g V L s3 B w.heap.size (w.heap.size + 1) (pcol2 c0 wa.heap.size w1.heap.size 1) { r with w := r.w ++ [⟨a, b, ⟨ck, csb, cl, cr⟩, 2, d⟩] } (.slice p5 n5 cap5) (.slice q2 l2 k2) (.slice q3 l3 k3) (.slice q4 l4 k4) (.slice q5 l5 k5)) := (PC.out.alloc (.cells (ptC a b ck (.slice p1 n1 cap1) cl cr 2 d).toArray 54)).app1 hgb hown (fun _ _ _ _ => rfl) PC.out.c0 hrw; clear hrw hgb hown hn5)
      | (go_at_call_of 22 (Value.string ⟨#[59]⟩); refine (HWE.out _ PD.out.env).mono ?_; rintro e wz ⟨rfl, he_, hf_⟩; have PZ : Hid (Pst w wz g V L sE B w.heap.size (w.heap.size + 1) (pcol2 c0 wa.heap.size w1.heap.size 1) { r with w := r.w ++ [⟨a, b, ⟨ck, csb, cl, cr⟩, 2, d⟩] } (.slice p5 n5 cap5) (.slice q2 l2 k2) (.slice q3 l3 k3) (.slice q4 l4 k4) (.slice q5 l5 k5)) := PD.out.call he_ hf_; clear he_ hf_)
      | ((with_reducible show wpList _ _ _ (Oper.mk _ (.load _ _) _ _ _ _ :: _) _ _); refine wp_ld (by rfl) 44 _ (by rfl) w.heap.size (ruC r.n (.slice p5 n5 cap5) (.slice q2 l2 k2) (.slice q3 l3 k3) (.slice q4 l4 k4) r.e.ty (.slice q5 l5 k5)) 44 _ (by rfl) PZ.out.blk Tryd.underlying44 rfl (by kernel_rfl) ?_)
      | ((with_reducible show wpList _ _ _ (Oper.mk _ (.store _ _ _) _ _ _ _ :: _) _ _); refine wp_st (by rfl) 44 _ _ (by rfl) (w.heap.size + 1) 0 ru0 44 (.agg #[.string r.n, (.slice p5 n5 cap5), (.slice q2 l2 k2), (.slice q3 l3 k3), (.slice q4 l4 k4), .string r.e.ty, (.slice q5 l5 k5)]) (ruC r.n (.slice p5 n5 cap5) (.slice q2 l2 k2) (.slice q3 l3 k3) (.slice q4 l4 k4) r.e.ty (.slice q5 l5 k5)) (by rfl) (by rfl) (by rfl) PZ.out.res (Nat.le_of_ble_eq_true rfl) (by kernel_rfl) (by rfl) ?_; intro w9 hw9 hf9; have H9 : Hid (w9.heap[(w.heap.size + 1)]? = some (.cells (ruC r.n (.slice p5 n5 cap5) (.slice q2 l2 k2) (.slice q3 l3 k3) (.slice q4 l4 k4) r.e.ty (.slice q5 l5 k5)).toArray 44 (0, 0)) ∧ RR w9 B (pcol2 c0 wa.heap.size w1.heap.size 1) { r with w := r.w ++ [⟨a, b, ⟨ck, csb, cl, cr⟩, 2, d⟩] } (.slice p5 n5 cap5) (.slice q2 l2 k2) (.slice q3 l3 k3) (.slice q4 l4 k4) (.slice q5 l5 k5) ∧ Env w9 g V L sE ∧ Fr (fun i => i = g ∨ B ≤ i) w w9) := ⟨hw9, PZ.out.fin hf9⟩; clear hw9 hf9)
      | ((with_reducible show wpList _ _ _ (Oper.mk _ (.load _ _) _ _ _ _ :: _) _ _); refine wp_ld (by rfl) 54 _ (by rfl) w1.heap.size (ptC a b ck (.slice p1 n1 cap1) cl cr 2 d) 54 _ (by rfl) HMX.out Tryd.underlying54 rfl (by kernel_rfl) ?_)
      | ((with_reducible show wpList _ _ _ (Oper.mk _ (.store _ _ _) _ _ _ _ :: _) _ _); refine wp_st (by rfl) 3 _ _ (by rfl) w1.heap.size 17 (ptC a b ck (.slice p1 n1 cap1) cl cr 2 tn) 54 (.int .i64 d) [(.int .i64 d)] (by rfl) (by rfl) (by rfl) HM_w6.out (Nat.le_of_ble_eq_true rfl) (by kernel_rfl) (by rfl) ?_; intro w7 hw_ hf_; have HM_w7 : Hid (w7.heap[w1.heap.size]? = some (.cells (ptC a b ck (.slice p1 n1 cap1) cl cr 2 d).toArray 54 (0, 0))) := hw_; have PB_w7 : Hid (Pst w w7 g V L s3 B w.heap.size (w.heap.size + 1) c0 r (.slice q1 l1 k1) (.slice q2 l2 k2) (.slice q3 l3 k3) (.slice q4 l4 k4) (.slice q5 l5 k5)) := PB_w6.out.st hf_ (HC0.out _ (by { have := HWA.out; omega })) (by { have := HWA.out; omega }); have HH_w7 : Hid (Holds w7 (fun i => wa.heap.size ≤ i ∧ i < w1.heap.size) (.row 52 14 csb) (.slice p1 n1 cap1)) := HH_w6.out.mono (fun i hi hl => ⟨hi, hf_.block i hl (by { show ¬ i = w1.heap.size; omega })⟩); have HMX : Hid (w7.heap[w1.heap.size]? = some (.cells (ptC a b ck (.slice p1 n1 cap1) cl cr 2 d).toArray 54 (0, 0))) := HM_w7.out; have PC : Hid (Pst w w7 g V L s3 B w.heap.size (w.heap.size + 1) (pcol2 c0 wa.heap.size w1.heap.size 1) r (.slice q1 l1 k1) (.slice q2 l2 k2) (.slice q3 l3 k3) (.slice q4 l4 k4) (.slice q5 l5 k5)) := PB_w7.out.recol (fun i _ h1 _ => pcol2_old HC0.out (by { have := HWA.out; omega }) h1) ⟨pcol2_zero HC0.out (Nat.le_refl _) (by { have := HWA.out; omega }), pcol2_zero HC0.out (Nat.le_succ _) (by { have := HWA.out; omega })⟩; have HSZ : Hid (∀ o, Cq B (pcol2 c0 wa.heap.size w1.heap.size 1) 1 (w7.alloc o).heap.size) := fun o => ⟨by { have h1 := blk_lt PC.out.res; have := HGB.out; simp; omega }, pcol2_new (by { have h1 := HWA.out; have h2 := blk_lt HMX.out; simp; omega }) (by { have h2 := blk_lt HMX.out; simp; omega })⟩; have cU : w7.cell? ⟨w.heap.size, 1, none⟩ = some (.slice q1 l1 k1) := PB_w7.out.cell 1; clear hw_ hf_)
      | (go_at_call 49; refine (HNU.out _ PB_w5.out.env).mono ?_; rintro e w6 ⟨rfl, he_, hf_⟩; have PB_w6 : Hid (Pst w w6 g V L s3 B w.heap.size (w.heap.size + 1) c0 r (.slice q1 l1 k1) (.slice q2 l2 k2) (.slice q3 l3 k3) (.slice q4 l4 k4) (.slice q5 l5 k5)) := PB_w5.out.call he_ hf_; have HM_w6 : Hid (w6.heap[w1.heap.size]? = some (.cells (ptC a b ck (.slice p1 n1 cap1) cl cr 2 tn).toArray 54 (0, 0))) := (hf_.block _ (blk_lt HM_w5.out) (by { show ¬ _ = g; have := HWA.out; have := HGB.out; omega })).trans HM_w5.out; have HH_w6 : Hid (Holds w6 (fun i => wa.heap.size ≤ i ∧ i < w1.heap.size) (.row 52 14 csb) (.slice p1 n1 cap1)) := HH_w5.out.mono (fun i hi hl => ⟨hi, hf_.block i hl (by { show ¬ i = g; have := HWA.out; have := HGB.out; omega })⟩); clear he_ hf_)
      | (go_at_call_of 20 (Value.string ⟨#[108, 97, 115, 116]⟩); refine (T3.out _ PB_w4.out.env).mono ?_; rintro e w5 ⟨rfl, he_, hf_⟩; have PB_w5 : Hid (Pst w w5 g V L s2.adv.adv B w.heap.size (w.heap.size + 1) c0 r (.slice q1 l1 k1) (.slice q2 l2 k2) (.slice q3 l3 k3) (.slice q4 l4 k4) (.slice q5 l5 k5)) := PB_w4.out.call he_ hf_; have HM_w5 : Hid (w5.heap[w1.heap.size]? = some (.cells (ptC a b ck (.slice p1 n1 cap1) cl cr 2 tn).toArray 54 (0, 0))) := (hf_.block _ (blk_lt HM_w4.out) (by { show ¬ _ = g; have := HWA.out; have := HGB.out; omega })).trans HM_w4.out; have HH_w5 : Hid (Holds w5 (fun i => wa.heap.size ≤ i ∧ i < w1.heap.size) (.row 52 14 csb) (.slice p1 n1 cap1)) := HH_w4.out.mono (fun i hi hl => ⟨hi, hf_.block i hl (by { show ¬ i = g; have := HWA.out; have := HGB.out; omega })⟩); clear he_ hf_)
      | ((with_reducible show wpList _ _ _ (Oper.mk _ (.store _ _ _) _ _ _ _ :: _) _ _); refine wp_st (by rfl) 3 _ _ (by rfl) w1.heap.size 16 (ptC a b ck (.slice p1 n1 cap1) cl cr tw tn) 54 (.int .i64 2) [(.int .i64 2)] (by rfl) (by rfl) (by rfl) HM_w3.out (Nat.le_of_ble_eq_true rfl) (by kernel_rfl) (by rfl) ?_; intro w4 hw_ hf_; have HM_w4 : Hid (w4.heap[w1.heap.size]? = some (.cells (ptC a b ck (.slice p1 n1 cap1) cl cr 2 tn).toArray 54 (0, 0))) := hw_; have PB_w4 : Hid (Pst w w4 g V L s2.adv B w.heap.size (w.heap.size + 1) c0 r (.slice q1 l1 k1) (.slice q2 l2 k2) (.slice q3 l3 k3) (.slice q4 l4 k4) (.slice q5 l5 k5)) := PB_w3.out.st hf_ (HC0.out _ (by { have := HWA.out; omega })) (by { have := HWA.out; omega }); have HH_w4 : Hid (Holds w4 (fun i => wa.heap.size ≤ i ∧ i < w1.heap.size) (.row 52 14 csb) (.slice p1 n1 cap1)) := HH_w3.out.mono (fun i hi hl => ⟨hi, hf_.block i hl (by { show ¬ i = w1.heap.size; omega })⟩); clear hw_ hf_)
      | (go_at_call_of 20 (Value.string ⟨#[111, 118, 101, 114]⟩); refine (T2.out _ PB_w2.out.env).mono ?_; rintro e w3 ⟨rfl, he_, hf_⟩; have PB_w3 : Hid (Pst w w3 g V L s2.adv B w.heap.size (w.heap.size + 1) c0 r (.slice q1 l1 k1) (.slice q2 l2 k2) (.slice q3 l3 k3) (.slice q4 l4 k4) (.slice q5 l5 k5)) := PB_w2.out.call he_ hf_; have HM_w3 : Hid (w3.heap[w1.heap.size]? = some (.cells (ptC a b ck (.slice p1 n1 cap1) cl cr tw tn).toArray 54 (0, 0))) := (hf_.block _ (blk_lt HM_w2.out) (by { show ¬ _ = g; have := HWA.out; have := HGB.out; omega })).trans HM_w2.out; have HH_w3 : Hid (Holds w3 (fun i => wa.heap.size ≤ i ∧ i < w1.heap.size) (.row 52 14 csb) (.slice p1 n1 cap1)) := HH_w2.out.mono (fun i hi hl => ⟨hi, hf_.block i hl (by { show ¬ i = g; have := HWA.out; have := HGB.out; omega })⟩); clear he_ hf_)
      | ((with_reducible show wpList _ _ _ (Oper.mk _ (.store _ _ _) _ _ _ _ :: _) _ _); refine wp_st (by rfl) 54 _ _ (by rfl) w1.heap.size 0 pt0 54 u1 (ptC a b ck (.slice p1 n1 cap1) cl cr tw tn) (by rfl) (by rfl) HU1.out (heap_alloc_new _ _) (Nat.le_of_ble_eq_true rfl) (by kernel_rfl) (by rfl) ?_; intro w2 hw2 hf2; have HM2 : Hid (w2.heap[w1.heap.size]? = some (.cells (ptC a b ck (.slice p1 n1 cap1) cl cr tw tn).toArray 54 (0, 0))) := hw2; have PB : Hid (Pst w w2 g V L s2 B w.heap.size (w.heap.size + 1) c0 r (.slice q1 l1 k1) (.slice q2 l2 k2) (.slice q3 l3 k3) (.slice q4 l4 k4) (.slice q5 l5 k5)) := PBa.out.st hf2 (HC0.out _ (by { have := HWA.out; omega })) (by { have := HWA.out; omega }); have HH_w2 : Hid (Holds w2 (fun i => wa.heap.size ≤ i ∧ i < w1.heap.size) (.row 52 14 csb) (.slice p1 n1 cap1)) := HH1.out.mono (fun i hi hl => ⟨hi, hf2.block i hl (by { show ¬ i = w1.heap.size; omega })⟩); have PB_w2 : Hid (Pst w w2 g V L s2 B w.heap.size (w.heap.size + 1) c0 r (.slice q1 l1 k1) (.slice q2 l2 k2) (.slice q3 l3 k3) (.slice q4 l4 k4) (.slice q5 l5 k5)) := PB.out; have HM_w2 : Hid (w2.heap[w1.heap.size]? = some (.cells (ptC a b ck (.slice p1 n1 cap1) cl cr tw tn).toArray 54 (0, 0))) := HM2.out; clear hw2 hf2)
      | (go_at_call_of 20 (Value.string ⟨#[119, 104, 101, 110]⟩); refine (T1.out _ P0.out.env).mono ?_; rintro e wa ⟨rfl, he_, hf_⟩; have PA : Hid (Pst w wa g V L s.adv B w.heap.size (w.heap.size + 1) c0 r (.slice q1 l1 k1) (.slice q2 l2 k2) (.slice q3 l3 k3) (.slice q4 l4 k4) (.slice q5 l5 k5)) := P0.out.call he_ hf_; clear he_ hf_)
      | (go_at_call 48; refine (HS.out _ PA.out.env).mono ?_; rintro e w1 ⟨p1, cap1, u1, rfl, hu1, hh1, he1, hf1⟩; have HU1 : Hid (u1.cells = (ptC a b ck (.slice p1 n1 cap1) cl cr tw tn).toArray) := hu1; have PBa : Hid (Pst w (w1.alloc (.cells pt0.toArray 54)) g V L s2 B w.heap.size (w.heap.size + 1) c0 r (.slice q1 l1 k1) (.slice q2 l2 k2) (.slice q3 l3 k3) (.slice q4 l4 k4) (.slice q5 l5 k5)) := (PA.out.call he1 hf1).alloc _; have HWA : Hid ((w.heap.size + 1) < wa.heap.size ∧ wa.heap.size ≤ w1.heap.size) := ⟨blk_lt PA.out.res, hf1.size⟩; have HH1 : Hid (Holds (w1.alloc (.cells pt0.toArray 54)) (fun i => wa.heap.size ≤ i ∧ i < w1.heap.size) (.row 52 14 csb) (.slice p1 n1 cap1)) := hh1.mono (fun i hi hl => ⟨⟨hi, hl⟩, Below.heap_alloc _ _ _ hl⟩); clear hu1 hh1 he1 hf1))
  refine ret_loc (w.heap.size + 1) _ _ _ H9.out.1 rfl rfl (by rfl) Tryd.underlying44 rfl (by kernel_rfl) ?_
  exact ⟨(pcol2 c0 wa.heap.size w1.heap.size 1), (.slice p5 n5 cap5), (.slice q2 l2 k2), (.slice q3 l3 k3), (.slice q4 l4 k4), (.slice q5 l5 k5), rfl, H9.out.2⟩
set_option maxHeartbeats 8000000 in
theorem part_when2 (w : World) (g : Nat) (V : Value) (L : List Tk) (s : St) (B : Nat) (col : Nat → Nat) (r : Rl) (wv tv mv kv ev : Value) (h : Env w g V L s) (hr : RR w B col r wv tv mv kv ev) (hg : g < B) (hB : B ≤ w.heap.size) (h0 : s.o = 0) (hlen : r.w.length ≤ 700 ∧ r.t.length ≤ 700 ∧ r.m.length ≤ 700 ∧ r.k.length ≤ 700) (hb_T1 : see L [119, 104, 101, 110] s = true) (a b : ByteArray) (ck : Int) (csb : List (List Dat)) (cl cr : Opd) (tw tn : Int) (s2 : St) (hpt : pat L s.adv = (⟨a, b, ⟨ck, csb, cl, cr⟩, tw, tn⟩, s2)) (hb_T2 : see L [111, 118, 101, 114] s2 = true) (hb_T3 : see L [108, 97, 115, 116] s2.adv = false) (s4 : St) (h_s4 : wnt L [116, 105, 109, 101] s2.adv = s4) (d : Int) (s3 : St) (h_d : (num L s4).1 = d) (h_s3 : (num L s4).2 = s3) (sE : St) (h_sE : wnt L [59] s3 = sE) : Calls Tryd.prog 23 #[rp g, .agg #[.string r.n, wv, tv, mv, kv, .string r.e.ty, ev]] w (PartPost w g V L B { r with w := r.w ++ [⟨a, b, ⟨ck, csb, cl, cr⟩, 1, d⟩] } sE) := by
  obtain ⟨q1, k1, e1⟩ := hr.r1.shape
  obtain ⟨l1, hl1⟩ : ∃ l, (r.w.map encP).length = l := ⟨_, rfl⟩
  rw [hl1] at e1
  subst e1
  obtain ⟨q2, k2, e2⟩ := hr.r2.shape
  obtain ⟨l2, hl2⟩ : ∃ l, (r.t.map encP).length = l := ⟨_, rfl⟩
  rw [hl2] at e2
  subst e2
  obtain ⟨q3, k3, e3⟩ := hr.r3.shape
  obtain ⟨l3, hl3⟩ : ∃ l, (r.m.map encM).length = l := ⟨_, rfl⟩
  rw [hl3] at e3
  subst e3
  obtain ⟨q4, k4, e4⟩ := hr.r4.shape
  obtain ⟨l4, hl4⟩ : ∃ l, (r.k.map encK).length = l := ⟨_, rfl⟩
  rw [hl4] at e4
  subst e4
  obtain ⟨q5, k5, e5⟩ := hr.r5.shape
  obtain ⟨l5, hl5⟩ : ∃ l, (r.e.v.map encO).length = l := ⟨_, rfl⟩
  rw [hl5] at e5
  subst e5
  obtain ⟨c0, hc0⟩ : ∃ c0, pcol col w.heap.size = c0 := ⟨_, rfl⟩
  have HC0 : Hid (∀ i, w.heap.size ≤ i → c0 i = 0) := fun i hi => by rw [← hc0]; unfold pcol; exact if_neg (by omega)
  have hst := pst_start h hr hg hB
  rw [hc0] at hst
  have HLN : Hid ((r.w.map encP).length ≤ 800) := by show _ ≤ 800; rw [List.length_map]; omega
  clear hl1 hl2 hl3 hl4 hl5
  obtain ⟨i0, a1, a2, a3, a4⟩ := info_parts infoP
  have HI : Hid (Tryd.prog.info? 54 = some i0 ∧ i0.zero = some zP ∧ i0.size = 18 ∧ i0.bytes = 224) := ⟨a1, a2, a3, a4⟩
  clear a1 a2 a3 a4
  have T1 : Hid (∀ W, Env W g V L s → Calls Tryd.prog 20 #[rp g, .int .i64 1, .string ⟨#[119, 104, 101, 110]⟩] W fun e w' => e = .returned (.bool true) ∧ Env w' g V L s.adv ∧ Fr (fun i => i = g) W w') := fun W hW => by
    have := is_any W g V L s 1 [119, 104, 101, 110] (.inl ⟨rfl, by kernel_rfl⟩) hW
    unfold tks at this
    rw [hb_T1] at this
    exact this
  obtain ⟨n1, hn1⟩ : ∃ n1, csb.length = n1 := ⟨_, rfl⟩
  have HS : Hid (∀ W, Env W g V L s.adv → Calls Tryd.prog 48 #[rp g] W fun e w' => ∃ p cap u, e = .returned u ∧ u.cells = (ptC a b ck (.slice p n1 cap) cl cr tw tn).toArray ∧ Holds w' (fun i => W.heap.size ≤ i) (.row 52 14 csb) (.slice p n1 cap) ∧ Env w' g V L s2 ∧ Fr (fun i => i = g) W w') := fun W hW => by
    refine (shape_any W g V L s.adv hW h0).mono ?_
    rw [hpt]
    rintro e w' ⟨p, cap, rfl, q1, q2, q3⟩
    simp only [hn1] at q1 ⊢
    exact ⟨p, cap, _, rfl, rfl, q1, q2, q3⟩
  have HN1 : Hid (csb.length = n1) := hn1
  have T2 : Hid (∀ W, Env W g V L s2 → Calls Tryd.prog 20 #[rp g, .int .i64 1, .string ⟨#[111, 118, 101, 114]⟩] W fun e w' => e = .returned (.bool true) ∧ Env w' g V L s2.adv ∧ Fr (fun i => i = g) W w') := fun W hW => by
    have := is_any W g V L s2 1 [111, 118, 101, 114] (.inl ⟨rfl, by kernel_rfl⟩) hW
    unfold tks at this
    rw [hb_T2] at this
    exact this
  have T3 : Hid (∀ W, Env W g V L s2.adv → Calls Tryd.prog 20 #[rp g, .int .i64 1, .string ⟨#[108, 97, 115, 116]⟩] W fun e w' => e = .returned (.bool false) ∧ Env w' g V L s2.adv ∧ Fr (fun i => i = g) W w') := fun W hW => by
    have := is_any W g V L s2.adv 1 [108, 97, 115, 116] (.inl ⟨rfl, by kernel_rfl⟩) hW
    unfold tks at this
    rw [hb_T3] at this
    exact this
  have HWT : Hid (∀ W, Env W g V L s2.adv → Calls Tryd.prog 22 #[rp g, .int .i64 1, .string ⟨#[116, 105, 109, 101]⟩] W fun e w' => e = .returned (.tuple #[]) ∧ Env w' g V L s4 ∧ Fr (fun i => i = g) W w') := fun W hW => by
    have := want_any W g V L s2.adv 1 [116, 105, 109, 101] (.inl ⟨rfl, by kernel_rfl⟩) hW
    rw [h_s4] at this
    exact this
  have HNU : Hid (∀ W, Env W g V L s4 → Calls Tryd.prog 49 #[rp g] W fun e w' => e = .returned (.int .i64 d) ∧ Env w' g V L s3 ∧ Fr (fun i => i = g) W w') := fun W hW => by
    have := num_any W g V L s4 hW
    rw [h_d, h_s3] at this
    exact this
  have HWE : Hid (∀ W, Env W g V L s3 → Calls Tryd.prog 22 #[rp g, .int .i64 4, .string ⟨#[59]⟩] W fun e w' => e = .returned (.tuple #[]) ∧ Env w' g V L sE ∧ Fr (fun i => i = g) W w') := fun W hW => by
    have := want_any W g V L s3 4 [59] (.inr ⟨rfl, by decide⟩) hW
    rw [h_sE] at this
    exact this
  have P0 : Hid (Pst w ((w.alloc (.cells (ruC r.n (.slice q1 l1 k1) (.slice q2 l2 k2) (.slice q3 l3 k3) (.slice q4 l4 k4) r.e.ty (.slice q5 l5 k5)).toArray 44)).alloc (.cells ru0.toArray 44)) g V L s B w.heap.size (w.heap.size + 1) c0 r (.slice q1 l1 k1) (.slice q2 l2 k2) (.slice q3 l3 k3) (.slice q4 l4 k4) (.slice q5 l5 k5)) := hst
  have HOW : Hid (∀ k, (Value.slice q1 l1 k1).ownBlock = some k → k < w.heap.size) := fun k hk => by
    have h1 := Row.own_in P0.out.rr.r1 k hk
    exact col_old HC0.out (by rw [h1.2]; omega)
  have HGB : Hid (g < B ∧ B ≤ w.heap.size) := ⟨hg, hB⟩
  clear h hr hg hB h0 hlen hc0 hst hb_T1 hpt hn1 h_sE hb_T2 hb_T3 h_d h_s3 h_s4
  go_enter Tryd.func23, Tryd.ntmps23
  go_wp2_with (first
      | (at_builtin; refine wp_appS (by rfl) _ _ 37 (by rfl) 54 i0 zP 18 224 Tryd.underlying37 HI.out.1 HI.out.2.1 HI.out.2.2.1 HI.out.2.2.2 rfl (by omega) (Cq B (pcol2 c0 wa.heap.size w1.heap.size 1) 1) (.slice q1 l1 k1) (r.w.map encP) (by rfl) (PC.out.rr.r1.alloc _) (HSZ.out _) (encP ⟨a, b, ⟨ck, csb, cl, cr⟩, 1, d⟩) (ptC a b ck (.slice p1 n1 cap1) cl cr 1 d) ⟨w9a.heap.size, 0, none⟩ (by rfl) (by rfl) (World.news_of_block (heap_alloc_new _ _)) (by rfl) ((holdsP (t := ⟨a, b, ⟨ck, csb, cl, cr⟩, 1, d⟩) (HH_w9a.out.mono (fun i hi _ => ⟨⟨⟨by { have := HWA.out; have := HGB.out; omega }, pcol2_new hi.1 (by { omega })⟩, fun e => by { have h1 := HOW.out _ e; have := HWA.out; omega }⟩, rfl⟩))).on ((Fr.refl _ _).alloc _)) HLN.out (by omega) ?_; intro v5 w5 hrw hgb hown; obtain ⟨p5, cap5, e5⟩ := Row.shape hrw; obtain ⟨n5, hn5⟩ : ∃ n5, (r.w.map encP ++ [encP ⟨a, b, ⟨ck, csb, cl, cr⟩, 1, d⟩]).length = n5 := ⟨_, rfl⟩; rw [hn5] at e5; subst e5; have HU5 : Hid (w5.heap[w.heap.size]? = some (.cells (ruC r.n (.slice q1 l1 k1) (.slice q2 l2 k2) (.slice q3 l3 k3) (.slice q4 l4 k4) r.e.ty (.slice q5 l5 k5)).toArray 44 (0, 0))) := (hgb.block w.heap.size (by { have := blk_lt (PC.out.alloc (.cells (ptC a b ck (.slice p1 n1 cap1) cl cr 1 d).toArray 54)).blk; exact this }) (fun e => by { have h1 := (hown _ e.symm).2; have h2 := PC.out.c0.1; omega })).trans (PC.out.alloc (.cells (ptC a b ck (.slice p1 n1 cap1) cl cr 1 d).toArray 54)).blk; have f5 := free_of_blk HU5.out 1; have c5 : w5.cell? ⟨w.heap.size, 1, none⟩ = some (.slice q1 l1 k1) := by { rw [cell_of_blk HU5.out]; rfl }; have PD : Hid (Pst w (w5.setCell ⟨w.heap.size, 1, none⟩ (.slice p5 n5 cap5)) g V L s3 B w.heap.size (w.heap.size + 1) (pcol2 c0 wa.heap.size w1.heap.size 1) { r with w := r.w ++ [⟨a, b, ⟨ck, csb, cl, cr⟩, 1, d⟩] } (.slice p5 n5 cap5) (.slice q2 l2 k2) (.slice q3 l3 k3) (.slice q4 l4 k4) (.slice q5 l5 k5)) := (PC.out.alloc (.cells (ptC a b ck (.slice p1 n1 cap1) cl cr 1 d).toArray 54)).app1 hgb hown (fun _ _ _ _ => rfl) PC.out.c0 hrw; clear hrw hgb hown hn5)
      | (go_at_call_of 22 (Value.string ⟨#[59]⟩); refine (HWE.out _ PD.out.env).mono ?_; rintro e wz ⟨rfl, he_, hf_⟩; have PZ : Hid (Pst w wz g V L sE B w.heap.size (w.heap.size + 1) (pcol2 c0 wa.heap.size w1.heap.size 1) { r with w := r.w ++ [⟨a, b, ⟨ck, csb, cl, cr⟩, 1, d⟩] } (.slice p5 n5 cap5) (.slice q2 l2 k2) (.slice q3 l3 k3) (.slice q4 l4 k4) (.slice q5 l5 k5)) := PD.out.call he_ hf_; clear he_ hf_)
      | ((with_reducible show wpList _ _ _ (Oper.mk _ (.load _ _) _ _ _ _ :: _) _ _); refine wp_ld (by rfl) 44 _ (by rfl) w.heap.size (ruC r.n (.slice p5 n5 cap5) (.slice q2 l2 k2) (.slice q3 l3 k3) (.slice q4 l4 k4) r.e.ty (.slice q5 l5 k5)) 44 _ (by rfl) PZ.out.blk Tryd.underlying44 rfl (by kernel_rfl) ?_)
      | ((with_reducible show wpList _ _ _ (Oper.mk _ (.store _ _ _) _ _ _ _ :: _) _ _); refine wp_st (by rfl) 44 _ _ (by rfl) (w.heap.size + 1) 0 ru0 44 (.agg #[.string r.n, (.slice p5 n5 cap5), (.slice q2 l2 k2), (.slice q3 l3 k3), (.slice q4 l4 k4), .string r.e.ty, (.slice q5 l5 k5)]) (ruC r.n (.slice p5 n5 cap5) (.slice q2 l2 k2) (.slice q3 l3 k3) (.slice q4 l4 k4) r.e.ty (.slice q5 l5 k5)) (by rfl) (by rfl) (by rfl) PZ.out.res (Nat.le_of_ble_eq_true rfl) (by kernel_rfl) (by rfl) ?_; intro w9 hw9 hf9; have H9 : Hid (w9.heap[(w.heap.size + 1)]? = some (.cells (ruC r.n (.slice p5 n5 cap5) (.slice q2 l2 k2) (.slice q3 l3 k3) (.slice q4 l4 k4) r.e.ty (.slice q5 l5 k5)).toArray 44 (0, 0)) ∧ RR w9 B (pcol2 c0 wa.heap.size w1.heap.size 1) { r with w := r.w ++ [⟨a, b, ⟨ck, csb, cl, cr⟩, 1, d⟩] } (.slice p5 n5 cap5) (.slice q2 l2 k2) (.slice q3 l3 k3) (.slice q4 l4 k4) (.slice q5 l5 k5) ∧ Env w9 g V L sE ∧ Fr (fun i => i = g ∨ B ≤ i) w w9) := ⟨hw9, PZ.out.fin hf9⟩; clear hw9 hf9)
      | ((with_reducible show wpList _ _ _ (Oper.mk _ (.load _ _) _ _ _ _ :: _) _ _); refine wp_ld (by rfl) 54 _ (by rfl) w1.heap.size (ptC a b ck (.slice p1 n1 cap1) cl cr 1 d) 54 _ (by rfl) HMX.out Tryd.underlying54 rfl (by kernel_rfl) ?_)
      | ((with_reducible show wpList _ _ _ (Oper.mk _ (.store _ _ _) _ _ _ _ :: _) _ _); refine wp_st (by rfl) 3 _ _ (by rfl) w1.heap.size 17 (ptC a b ck (.slice p1 n1 cap1) cl cr 1 tn) 54 (.int .i64 d) [(.int .i64 d)] (by rfl) (by rfl) (by rfl) HM_w8.out (Nat.le_of_ble_eq_true rfl) (by kernel_rfl) (by rfl) ?_; intro w9a hw_ hf_; have HM_w9a : Hid (w9a.heap[w1.heap.size]? = some (.cells (ptC a b ck (.slice p1 n1 cap1) cl cr 1 d).toArray 54 (0, 0))) := hw_; have PB_w9a : Hid (Pst w w9a g V L s3 B w.heap.size (w.heap.size + 1) c0 r (.slice q1 l1 k1) (.slice q2 l2 k2) (.slice q3 l3 k3) (.slice q4 l4 k4) (.slice q5 l5 k5)) := PB_w8.out.st hf_ (HC0.out _ (by { have := HWA.out; omega })) (by { have := HWA.out; omega }); have HH_w9a : Hid (Holds w9a (fun i => wa.heap.size ≤ i ∧ i < w1.heap.size) (.row 52 14 csb) (.slice p1 n1 cap1)) := HH_w8.out.mono (fun i hi hl => ⟨hi, hf_.block i hl (by { show ¬ i = w1.heap.size; omega })⟩); have HMX : Hid (w9a.heap[w1.heap.size]? = some (.cells (ptC a b ck (.slice p1 n1 cap1) cl cr 1 d).toArray 54 (0, 0))) := HM_w9a.out; have PC : Hid (Pst w w9a g V L s3 B w.heap.size (w.heap.size + 1) (pcol2 c0 wa.heap.size w1.heap.size 1) r (.slice q1 l1 k1) (.slice q2 l2 k2) (.slice q3 l3 k3) (.slice q4 l4 k4) (.slice q5 l5 k5)) := PB_w9a.out.recol (fun i _ h1 _ => pcol2_old HC0.out (by { have := HWA.out; omega }) h1) ⟨pcol2_zero HC0.out (Nat.le_refl _) (by { have := HWA.out; omega }), pcol2_zero HC0.out (Nat.le_succ _) (by { have := HWA.out; omega })⟩; have HSZ : Hid (∀ o, Cq B (pcol2 c0 wa.heap.size w1.heap.size 1) 1 (w9a.alloc o).heap.size) := fun o => ⟨by { have h1 := blk_lt PC.out.res; have := HGB.out; simp; omega }, pcol2_new (by { have h1 := HWA.out; have h2 := blk_lt HMX.out; simp; omega }) (by { have h2 := blk_lt HMX.out; simp; omega })⟩; have cU : w9a.cell? ⟨w.heap.size, 1, none⟩ = some (.slice q1 l1 k1) := PB_w9a.out.cell 1; clear hw_ hf_)
      | (go_at_call 49; refine (HNU.out _ PB_w7.out.env).mono ?_; rintro e w8 ⟨rfl, he_, hf_⟩; have PB_w8 : Hid (Pst w w8 g V L s3 B w.heap.size (w.heap.size + 1) c0 r (.slice q1 l1 k1) (.slice q2 l2 k2) (.slice q3 l3 k3) (.slice q4 l4 k4) (.slice q5 l5 k5)) := PB_w7.out.call he_ hf_; have HM_w8 : Hid (w8.heap[w1.heap.size]? = some (.cells (ptC a b ck (.slice p1 n1 cap1) cl cr 1 tn).toArray 54 (0, 0))) := (hf_.block _ (blk_lt HM_w7.out) (by { show ¬ _ = g; have := HWA.out; have := HGB.out; omega })).trans HM_w7.out; have HH_w8 : Hid (Holds w8 (fun i => wa.heap.size ≤ i ∧ i < w1.heap.size) (.row 52 14 csb) (.slice p1 n1 cap1)) := HH_w7.out.mono (fun i hi hl => ⟨hi, hf_.block i hl (by { show ¬ i = g; have := HWA.out; have := HGB.out; omega })⟩); clear he_ hf_)
      | (go_at_call_of 22 (Value.string ⟨#[116, 105, 109, 101]⟩); refine (HWT.out _ PB_w6.out.env).mono ?_; rintro e w7 ⟨rfl, he_, hf_⟩; have PB_w7 : Hid (Pst w w7 g V L s4 B w.heap.size (w.heap.size + 1) c0 r (.slice q1 l1 k1) (.slice q2 l2 k2) (.slice q3 l3 k3) (.slice q4 l4 k4) (.slice q5 l5 k5)) := PB_w6.out.call he_ hf_; have HM_w7 : Hid (w7.heap[w1.heap.size]? = some (.cells (ptC a b ck (.slice p1 n1 cap1) cl cr 1 tn).toArray 54 (0, 0))) := (hf_.block _ (blk_lt HM_w6.out) (by { show ¬ _ = g; have := HWA.out; have := HGB.out; omega })).trans HM_w6.out; have HH_w7 : Hid (Holds w7 (fun i => wa.heap.size ≤ i ∧ i < w1.heap.size) (.row 52 14 csb) (.slice p1 n1 cap1)) := HH_w6.out.mono (fun i hi hl => ⟨hi, hf_.block i hl (by { show ¬ i = g; have := HWA.out; have := HGB.out; omega })⟩); clear he_ hf_)
      | ((with_reducible show wpList _ _ _ (Oper.mk _ (.store _ _ _) _ _ _ _ :: _) _ _); refine wp_st (by rfl) 3 _ _ (by rfl) w1.heap.size 16 (ptC a b ck (.slice p1 n1 cap1) cl cr 2 tn) 54 (.int .i64 1) [(.int .i64 1)] (by rfl) (by rfl) (by rfl) HM_w5.out (Nat.le_of_ble_eq_true rfl) (by kernel_rfl) (by rfl) ?_; intro w6 hw_ hf_; have HM_w6 : Hid (w6.heap[w1.heap.size]? = some (.cells (ptC a b ck (.slice p1 n1 cap1) cl cr 1 tn).toArray 54 (0, 0))) := hw_; have PB_w6 : Hid (Pst w w6 g V L s2.adv B w.heap.size (w.heap.size + 1) c0 r (.slice q1 l1 k1) (.slice q2 l2 k2) (.slice q3 l3 k3) (.slice q4 l4 k4) (.slice q5 l5 k5)) := PB_w5.out.st hf_ (HC0.out _ (by { have := HWA.out; omega })) (by { have := HWA.out; omega }); have HH_w6 : Hid (Holds w6 (fun i => wa.heap.size ≤ i ∧ i < w1.heap.size) (.row 52 14 csb) (.slice p1 n1 cap1)) := HH_w5.out.mono (fun i hi hl => ⟨hi, hf_.block i hl (by { show ¬ i = w1.heap.size; omega })⟩); clear hw_ hf_)
      | (go_at_call_of 20 (Value.string ⟨#[108, 97, 115, 116]⟩); refine (T3.out _ PB_w4.out.env).mono ?_; rintro e w5 ⟨rfl, he_, hf_⟩; have PB_w5 : Hid (Pst w w5 g V L s2.adv B w.heap.size (w.heap.size + 1) c0 r (.slice q1 l1 k1) (.slice q2 l2 k2) (.slice q3 l3 k3) (.slice q4 l4 k4) (.slice q5 l5 k5)) := PB_w4.out.call he_ hf_; have HM_w5 : Hid (w5.heap[w1.heap.size]? = some (.cells (ptC a b ck (.slice p1 n1 cap1) cl cr 2 tn).toArray 54 (0, 0))) := (hf_.block _ (blk_lt HM_w4.out) (by { show ¬ _ = g; have := HWA.out; have := HGB.out; omega })).trans HM_w4.out; have HH_w5 : Hid (Holds w5 (fun i => wa.heap.size ≤ i ∧ i < w1.heap.size) (.row 52 14 csb) (.slice p1 n1 cap1)) := HH_w4.out.mono (fun i hi hl => ⟨hi, hf_.block i hl (by { show ¬ i = g; have := HWA.out; have := HGB.out; omega })⟩); clear he_ hf_)
      | ((with_reducible show wpList _ _ _ (Oper.mk _ (.store _ _ _) _ _ _ _ :: _) _ _); refine wp_st (by rfl) 3 _ _ (by rfl) w1.heap.size 16 (ptC a b ck (.slice p1 n1 cap1) cl cr tw tn) 54 (.int .i64 2) [(.int .i64 2)] (by rfl) (by rfl) (by rfl) HM_w3.out (Nat.le_of_ble_eq_true rfl) (by kernel_rfl) (by rfl) ?_; intro w4 hw_ hf_; have HM_w4 : Hid (w4.heap[w1.heap.size]? = some (.cells (ptC a b ck (.slice p1 n1 cap1) cl cr 2 tn).toArray 54 (0, 0))) := hw_; have PB_w4 : Hid (Pst w w4 g V L s2.adv B w.heap.size (w.heap.size + 1) c0 r (.slice q1 l1 k1) (.slice q2 l2 k2) (.slice q3 l3 k3) (.slice q4 l4 k4) (.slice q5 l5 k5)) := PB_w3.out.st hf_ (HC0.out _ (by { have := HWA.out; omega })) (by { have := HWA.out; omega }); have HH_w4 : Hid (Holds w4 (fun i => wa.heap.size ≤ i ∧ i < w1.heap.size) (.row 52 14 csb) (.slice p1 n1 cap1)) := HH_w3.out.mono (fun i hi hl => ⟨hi, hf_.block i hl (by { show ¬ i = w1.heap.size; omega })⟩); clear hw_ hf_)
      | (go_at_call_of 20 (Value.string ⟨#[111, 118, 101, 114]⟩); refine (T2.out _ PB_w2.out.env).mono ?_; rintro e w3 ⟨rfl, he_, hf_⟩; have PB_w3 : Hid (Pst w w3 g V L s2.adv B w.heap.size (w.heap.size + 1) c0 r (.slice q1 l1 k1) (.slice q2 l2 k2) (.slice q3 l3 k3) (.slice q4 l4 k4) (.slice q5 l5 k5)) := PB_w2.out.call he_ hf_; have HM_w3 : Hid (w3.heap[w1.heap.size]? = some (.cells (ptC a b ck (.slice p1 n1 cap1) cl cr tw tn).toArray 54 (0, 0))) := (hf_.block _ (blk_lt HM_w2.out) (by { show ¬ _ = g; have := HWA.out; have := HGB.out; omega })).trans HM_w2.out; have HH_w3 : Hid (Holds w3 (fun i => wa.heap.size ≤ i ∧ i < w1.heap.size) (.row 52 14 csb) (.slice p1 n1 cap1)) := HH_w2.out.mono (fun i hi hl => ⟨hi, hf_.block i hl (by { show ¬ i = g; have := HWA.out; have := HGB.out; omega })⟩); clear he_ hf_)
      | ((with_reducible show wpList _ _ _ (Oper.mk _ (.store _ _ _) _ _ _ _ :: _) _ _); refine wp_st (by rfl) 54 _ _ (by rfl) w1.heap.size 0 pt0 54 u1 (ptC a b ck (.slice p1 n1 cap1) cl cr tw tn) (by rfl) (by rfl) HU1.out (heap_alloc_new _ _) (Nat.le_of_ble_eq_true rfl) (by kernel_rfl) (by rfl) ?_; intro w2 hw2 hf2; have HM2 : Hid (w2.heap[w1.heap.size]? = some (.cells (ptC a b ck (.slice p1 n1 cap1) cl cr tw tn).toArray 54 (0, 0))) := hw2; have PB : Hid (Pst w w2 g V L s2 B w.heap.size (w.heap.size + 1) c0 r (.slice q1 l1 k1) (.slice q2 l2 k2) (.slice q3 l3 k3) (.slice q4 l4 k4) (.slice q5 l5 k5)) := PBa.out.st hf2 (HC0.out _ (by { have := HWA.out; omega })) (by { have := HWA.out; omega }); have HH_w2 : Hid (Holds w2 (fun i => wa.heap.size ≤ i ∧ i < w1.heap.size) (.row 52 14 csb) (.slice p1 n1 cap1)) := HH1.out.mono (fun i hi hl => ⟨hi, hf2.block i hl (by { show ¬ i = w1.heap.size; omega })⟩); have PB_w2 : Hid (Pst w w2 g V L s2 B w.heap.size (w.heap.size + 1) c0 r (.slice q1 l1 k1) (.slice q2 l2 k2) (.slice q3 l3 k3) (.slice q4 l4 k4) (.slice q5 l5 k5)) := PB.out; have HM_w2 : Hid (w2.heap[w1.heap.size]? = some (.cells (ptC a b ck (.slice p1 n1 cap1) cl cr tw tn).toArray 54 (0, 0))) := HM2.out; clear hw2 hf2)
      | (go_at_call_of 20 (Value.string ⟨#[119, 104, 101, 110]⟩); refine (T1.out _ P0.out.env).mono ?_; rintro e wa ⟨rfl, he_, hf_⟩; have PA : Hid (Pst w wa g V L s.adv B w.heap.size (w.heap.size + 1) c0 r (.slice q1 l1 k1) (.slice q2 l2 k2) (.slice q3 l3 k3) (.slice q4 l4 k4) (.slice q5 l5 k5)) := P0.out.call he_ hf_; clear he_ hf_)
      | (go_at_call 48; refine (HS.out _ PA.out.env).mono ?_; rintro e w1 ⟨p1, cap1, u1, rfl, hu1, hh1, he1, hf1⟩; have HU1 : Hid (u1.cells = (ptC a b ck (.slice p1 n1 cap1) cl cr tw tn).toArray) := hu1; have PBa : Hid (Pst w (w1.alloc (.cells pt0.toArray 54)) g V L s2 B w.heap.size (w.heap.size + 1) c0 r (.slice q1 l1 k1) (.slice q2 l2 k2) (.slice q3 l3 k3) (.slice q4 l4 k4) (.slice q5 l5 k5)) := (PA.out.call he1 hf1).alloc _; have HWA : Hid ((w.heap.size + 1) < wa.heap.size ∧ wa.heap.size ≤ w1.heap.size) := ⟨blk_lt PA.out.res, hf1.size⟩; have HH1 : Hid (Holds (w1.alloc (.cells pt0.toArray 54)) (fun i => wa.heap.size ≤ i ∧ i < w1.heap.size) (.row 52 14 csb) (.slice p1 n1 cap1)) := hh1.mono (fun i hi hl => ⟨⟨hi, hl⟩, Below.heap_alloc _ _ _ hl⟩); clear hu1 hh1 he1 hf1))
  refine ret_loc (w.heap.size + 1) _ _ _ H9.out.1 rfl rfl (by rfl) Tryd.underlying44 rfl (by kernel_rfl) ?_
  exact ⟨(pcol2 c0 wa.heap.size w1.heap.size 1), (.slice p5 n5 cap5), (.slice q2 l2 k2), (.slice q3 l3 k3), (.slice q4 l4 k4), (.slice q5 l5 k5), rfl, H9.out.2⟩
theorem build_many (c : Int) (f a b : ByteArray) (k : Int) (v : Value) (l r : Opd) (x n : Int) (w : World) : (Instr.build 107 #[(0, .int .i64 c), (1, .string f), (2, .agg (ptC a b k v l r x n).toArray)]).run Tryd.prog w = .ok (mnV c f a b k v l r x n) w := by kernel_rfl
set_option maxHeartbeats 8000000 in
theorem part_many0 (w : World) (g : Nat) (V : Value) (L : List Tk) (s : St) (B : Nat) (col : Nat → Nat) (r : Rl) (wv tv mv kv ev : Value) (h : Env w g V L s) (hr : RR w B col r wv tv mv kv ev) (hg : g < B) (hB : B ≤ w.heap.size) (h0 : s.o = 0) (hlen : r.w.length ≤ 700 ∧ r.t.length ≤ 700 ∧ r.m.length ≤ 700 ∧ r.k.length ≤ 700) (hb_T1 : see L [119, 104, 101, 110] s = false) (hb_T2 : see L [110, 111, 116] s = false) (hb_T3 : see L [109, 97, 110, 121] s = true) (c : Int) (s1 : St) (h_c : (num L s.adv).1 = c) (h_s1 : (num L s.adv).2 = s1) (hb_T4 : see L [111, 102] s1 = false) (a b : ByteArray) (ck : Int) (csb : List (List Dat)) (cl cr : Opd) (tw tn : Int) (s2 : St) (h01 : s1.o = 0) (hpt : pat L s1 = (⟨a, b, ⟨ck, csb, cl, cr⟩, tw, tn⟩, s2)) (s3 : St) (h_s3 : wnt L [119, 105, 116, 104, 105, 110] s2 = s3) (d : Int) (s5 : St) (h_d : (num L s3).1 = d) (h_s5 : (num L s3).2 = s5) (sE : St) (h_sE : wnt L [59] s5 = sE) : Calls Tryd.prog 23 #[rp g, .agg #[.string r.n, wv, tv, mv, kv, .string r.e.ty, ev]] w (PartPost w g V L B { r with m := r.m ++ [⟨c, (txt []), ⟨a, b, ⟨ck, csb, cl, cr⟩, 1, d⟩⟩] } sE) := by
  obtain ⟨q1, k1, e1⟩ := hr.r1.shape
  obtain ⟨l1, hl1⟩ : ∃ l, (r.w.map encP).length = l := ⟨_, rfl⟩
  rw [hl1] at e1
  subst e1
  obtain ⟨q2, k2, e2⟩ := hr.r2.shape
  obtain ⟨l2, hl2⟩ : ∃ l, (r.t.map encP).length = l := ⟨_, rfl⟩
  rw [hl2] at e2
  subst e2
  obtain ⟨q3, k3, e3⟩ := hr.r3.shape
  obtain ⟨l3, hl3⟩ : ∃ l, (r.m.map encM).length = l := ⟨_, rfl⟩
  rw [hl3] at e3
  subst e3
  obtain ⟨q4, k4, e4⟩ := hr.r4.shape
  obtain ⟨l4, hl4⟩ : ∃ l, (r.k.map encK).length = l := ⟨_, rfl⟩
  rw [hl4] at e4
  subst e4
  obtain ⟨q5, k5, e5⟩ := hr.r5.shape
  obtain ⟨l5, hl5⟩ : ∃ l, (r.e.v.map encO).length = l := ⟨_, rfl⟩
  rw [hl5] at e5
  subst e5
  obtain ⟨c0, hc0⟩ : ∃ c0, pcol col w.heap.size = c0 := ⟨_, rfl⟩
  have HC0 : Hid (∀ i, w.heap.size ≤ i → c0 i = 0) := fun i hi => by rw [← hc0]; unfold pcol; exact if_neg (by omega)
  have hst := pst_start h hr hg hB
  rw [hc0] at hst
  have HLN : Hid ((r.m.map encM).length ≤ 800) := by show _ ≤ 800; rw [List.length_map]; omega
  clear hl1 hl2 hl3 hl4 hl5
  obtain ⟨i0, a1, a2, a3, a4⟩ := info_parts infoM
  have HI : Hid (Tryd.prog.info? 107 = some i0 ∧ i0.zero = some zM ∧ i0.size = 20 ∧ i0.bytes = 248) := ⟨a1, a2, a3, a4⟩
  clear a1 a2 a3 a4
  have T1 : Hid (∀ W, Env W g V L s → Calls Tryd.prog 20 #[rp g, .int .i64 1, .string ⟨#[119, 104, 101, 110]⟩] W fun e w' => e = .returned (.bool false) ∧ Env w' g V L s ∧ Fr (fun i => i = g) W w') := fun W hW => by
    have := is_any W g V L s 1 [119, 104, 101, 110] (.inl ⟨rfl, by kernel_rfl⟩) hW
    unfold tks at this
    rw [hb_T1] at this
    exact this
  have T2 : Hid (∀ W, Env W g V L s → Calls Tryd.prog 20 #[rp g, .int .i64 1, .string ⟨#[110, 111, 116]⟩] W fun e w' => e = .returned (.bool false) ∧ Env w' g V L s ∧ Fr (fun i => i = g) W w') := fun W hW => by
    have := is_any W g V L s 1 [110, 111, 116] (.inl ⟨rfl, by kernel_rfl⟩) hW
    unfold tks at this
    rw [hb_T2] at this
    exact this
  have T3 : Hid (∀ W, Env W g V L s → Calls Tryd.prog 20 #[rp g, .int .i64 1, .string ⟨#[109, 97, 110, 121]⟩] W fun e w' => e = .returned (.bool true) ∧ Env w' g V L s.adv ∧ Fr (fun i => i = g) W w') := fun W hW => by
    have := is_any W g V L s 1 [109, 97, 110, 121] (.inl ⟨rfl, by kernel_rfl⟩) hW
    unfold tks at this
    rw [hb_T3] at this
    exact this
  have HNC : Hid (∀ W, Env W g V L s.adv → Calls Tryd.prog 49 #[rp g] W fun e w' => e = .returned (.int .i64 c) ∧ Env w' g V L s1 ∧ Fr (fun i => i = g) W w') := fun W hW => by
    have := num_any W g V L s.adv hW
    rw [h_c, h_s1] at this
    exact this
  have T4 : Hid (∀ W, Env W g V L s1 → Calls Tryd.prog 20 #[rp g, .int .i64 1, .string ⟨#[111, 102]⟩] W fun e w' => e = .returned (.bool false) ∧ Env w' g V L s1 ∧ Fr (fun i => i = g) W w') := fun W hW => by
    have := is_any W g V L s1 1 [111, 102] (.inl ⟨rfl, by kernel_rfl⟩) hW
    unfold tks at this
    rw [hb_T4] at this
    exact this
  obtain ⟨n1, hn1⟩ : ∃ n1, csb.length = n1 := ⟨_, rfl⟩
  have HS : Hid (∀ W, Env W g V L s1 → Calls Tryd.prog 48 #[rp g] W fun e w' => ∃ p cap u, e = .returned u ∧ u.cells = (ptC a b ck (.slice p n1 cap) cl cr tw tn).toArray ∧ Holds w' (fun i => W.heap.size ≤ i) (.row 52 14 csb) (.slice p n1 cap) ∧ Env w' g V L s2 ∧ Fr (fun i => i = g) W w') := fun W hW => by
    refine (shape_any W g V L s1 hW h01).mono ?_
    rw [hpt]
    rintro e w' ⟨p, cap, rfl, q1, q2, q3⟩
    simp only [hn1] at q1 ⊢
    exact ⟨p, cap, _, rfl, rfl, q1, q2, q3⟩
  have HN1 : Hid (csb.length = n1) := hn1
  have HWI : Hid (∀ W, Env W g V L s2 → Calls Tryd.prog 22 #[rp g, .int .i64 1, .string ⟨#[119, 105, 116, 104, 105, 110]⟩] W fun e w' => e = .returned (.tuple #[]) ∧ Env w' g V L s3 ∧ Fr (fun i => i = g) W w') := fun W hW => by
    have := want_any W g V L s2 1 [119, 105, 116, 104, 105, 110] (.inl ⟨rfl, by kernel_rfl⟩) hW
    rw [h_s3] at this
    exact this
  have HND : Hid (∀ W, Env W g V L s3 → Calls Tryd.prog 49 #[rp g] W fun e w' => e = .returned (.int .i64 d) ∧ Env w' g V L s5 ∧ Fr (fun i => i = g) W w') := fun W hW => by
    have := num_any W g V L s3 hW
    rw [h_d, h_s5] at this
    exact this
  have HWE : Hid (∀ W, Env W g V L s5 → Calls Tryd.prog 22 #[rp g, .int .i64 4, .string ⟨#[59]⟩] W fun e w' => e = .returned (.tuple #[]) ∧ Env w' g V L sE ∧ Fr (fun i => i = g) W w') := fun W hW => by
    have := want_any W g V L s5 4 [59] (.inr ⟨rfl, by decide⟩) hW
    rw [h_sE] at this
    exact this
  have P0 : Hid (Pst w ((w.alloc (.cells (ruC r.n (.slice q1 l1 k1) (.slice q2 l2 k2) (.slice q3 l3 k3) (.slice q4 l4 k4) r.e.ty (.slice q5 l5 k5)).toArray 44)).alloc (.cells ru0.toArray 44)) g V L s B w.heap.size (w.heap.size + 1) c0 r (.slice q1 l1 k1) (.slice q2 l2 k2) (.slice q3 l3 k3) (.slice q4 l4 k4) (.slice q5 l5 k5)) := hst
  have HOW : Hid (∀ k, (Value.slice q3 l3 k3).ownBlock = some k → k < w.heap.size) := fun k hk => by
    have h1 := Row.own_in P0.out.rr.r3 k hk
    exact col_old HC0.out (by rw [h1.2]; omega)
  have HGB : Hid (g < B ∧ B ≤ w.heap.size) := ⟨hg, hB⟩
  clear h hr hg hB h0 hlen hc0 hst hb_T1 hb_T2 hb_T3 hpt hn1 h_sE h_c h_s1 h_s3 h_d h_s5 h01 hb_T4
  go_enter Tryd.func23, Tryd.ntmps23
  go_wp2_with (first
      | (at_builtin; refine wp_appS (by rfl) _ _ 38 (by rfl) 107 i0 zM 20 248 Tryd.underlying38 HI.out.1 HI.out.2.1 HI.out.2.2.1 HI.out.2.2.2 rfl (by omega) (Cq B (pcol2 c0 we.heap.size w1.heap.size 3) 3) (.slice q3 l3 k3) (r.m.map encM) (by rfl) (PC.out.rr.r3.alloc _) (HSZ.out _) (encM ⟨c, (txt []), ⟨a, b, ⟨ck, csb, cl, cr⟩, 1, d⟩⟩) (mnC c (txt []) a b ck (.slice p1 n1 cap1) cl cr 1 d) ⟨w6.heap.size, 0, none⟩ (by rfl) (by rfl) (World.news_of_block (heap_alloc_new _ _)) (by rfl) ((holdsM (m := ⟨c, (txt []), ⟨a, b, ⟨ck, csb, cl, cr⟩, 1, d⟩⟩) (HH_w6.out.mono (fun i hi _ => ⟨⟨⟨by { have := HWA.out; have := HGB.out; omega }, pcol2_new hi.1 (by { omega })⟩, fun e => by { have h1 := HOW.out _ e; have := HWA.out; omega }⟩, rfl⟩))).on ((Fr.refl _ _).alloc _)) HLN.out (by omega) ?_; intro v5 w5 hrw hgb hown; obtain ⟨p5, cap5, e5⟩ := Row.shape hrw; obtain ⟨n5, hn5⟩ : ∃ n5, (r.m.map encM ++ [encM ⟨c, (txt []), ⟨a, b, ⟨ck, csb, cl, cr⟩, 1, d⟩⟩]).length = n5 := ⟨_, rfl⟩; rw [hn5] at e5; subst e5; have HU5 : Hid (w5.heap[w.heap.size]? = some (.cells (ruC r.n (.slice q1 l1 k1) (.slice q2 l2 k2) (.slice q3 l3 k3) (.slice q4 l4 k4) r.e.ty (.slice q5 l5 k5)).toArray 44 (0, 0))) := (hgb.block w.heap.size (by { have := blk_lt (PC.out.alloc (.cells (mnC c (txt []) a b ck (.slice p1 n1 cap1) cl cr 1 d).toArray 107)).blk; exact this }) (fun e => by { have h1 := (hown _ e.symm).2; have h2 := PC.out.c0.1; omega })).trans (PC.out.alloc (.cells (mnC c (txt []) a b ck (.slice p1 n1 cap1) cl cr 1 d).toArray 107)).blk; have f5 := free_of_blk HU5.out 3; have c5 : w5.cell? ⟨w.heap.size, 3, none⟩ = some (.slice q3 l3 k3) := by { rw [cell_of_blk HU5.out]; rfl }; have PD : Hid (Pst w (w5.setCell ⟨w.heap.size, 3, none⟩ (.slice p5 n5 cap5)) g V L s5 B w.heap.size (w.heap.size + 1) (pcol2 c0 we.heap.size w1.heap.size 3) { r with m := r.m ++ [⟨c, (txt []), ⟨a, b, ⟨ck, csb, cl, cr⟩, 1, d⟩⟩] } (.slice q1 l1 k1) (.slice q2 l2 k2) (.slice p5 n5 cap5) (.slice q4 l4 k4) (.slice q5 l5 k5)) := (PC.out.alloc (.cells (mnC c (txt []) a b ck (.slice p1 n1 cap1) cl cr 1 d).toArray 107)).app3 hgb hown (fun _ _ _ _ => rfl) PC.out.c0 hrw; clear hrw hgb hown hn5)
      | ((with_reducible show wpList _ _ _ (Oper.mk _ (.build _ _) _ _ _ _ :: _) _ _); refine wp_bd (by rfl) 107 _ (by rfl) (mnV c (txt []) a b ck (.slice p1 n1 cap1) cl cr 1 d) #[(0, .int .i64 c), (1, .string (txt [])), (2, .agg (ptC a b ck (.slice p1 n1 cap1) cl cr 1 d).toArray)] (by first | (simp [Act.eval, Act.put]; done) | (simp [Act.eval, Act.put]; rfl)) (build_many c (txt []) a b ck _ cl cr 1 d _) ?_)
      | (go_at_call_of 22 (Value.string ⟨#[59]⟩); refine (HWE.out _ PD.out.env).mono ?_; rintro e wz ⟨rfl, he_, hf_⟩; have PZ : Hid (Pst w wz g V L sE B w.heap.size (w.heap.size + 1) (pcol2 c0 we.heap.size w1.heap.size 3) { r with m := r.m ++ [⟨c, (txt []), ⟨a, b, ⟨ck, csb, cl, cr⟩, 1, d⟩⟩] } (.slice q1 l1 k1) (.slice q2 l2 k2) (.slice p5 n5 cap5) (.slice q4 l4 k4) (.slice q5 l5 k5)) := PD.out.call he_ hf_; clear he_ hf_)
      | ((with_reducible show wpList _ _ _ (Oper.mk _ (.load _ _) _ _ _ _ :: _) _ _); refine wp_ld (by rfl) 44 _ (by rfl) w.heap.size (ruC r.n (.slice q1 l1 k1) (.slice q2 l2 k2) (.slice p5 n5 cap5) (.slice q4 l4 k4) r.e.ty (.slice q5 l5 k5)) 44 _ (by rfl) PZ.out.blk Tryd.underlying44 rfl (by kernel_rfl) ?_)
      | ((with_reducible show wpList _ _ _ (Oper.mk _ (.store _ _ _) _ _ _ _ :: _) _ _); refine wp_st (by rfl) 44 _ _ (by rfl) (w.heap.size + 1) 0 ru0 44 (.agg #[.string r.n, (.slice q1 l1 k1), (.slice q2 l2 k2), (.slice p5 n5 cap5), (.slice q4 l4 k4), .string r.e.ty, (.slice q5 l5 k5)]) (ruC r.n (.slice q1 l1 k1) (.slice q2 l2 k2) (.slice p5 n5 cap5) (.slice q4 l4 k4) r.e.ty (.slice q5 l5 k5)) (by rfl) (by rfl) (by rfl) PZ.out.res (Nat.le_of_ble_eq_true rfl) (by kernel_rfl) (by rfl) ?_; intro w9 hw9 hf9; have H9 : Hid (w9.heap[(w.heap.size + 1)]? = some (.cells (ruC r.n (.slice q1 l1 k1) (.slice q2 l2 k2) (.slice p5 n5 cap5) (.slice q4 l4 k4) r.e.ty (.slice q5 l5 k5)).toArray 44 (0, 0)) ∧ RR w9 B (pcol2 c0 we.heap.size w1.heap.size 3) { r with m := r.m ++ [⟨c, (txt []), ⟨a, b, ⟨ck, csb, cl, cr⟩, 1, d⟩⟩] } (.slice q1 l1 k1) (.slice q2 l2 k2) (.slice p5 n5 cap5) (.slice q4 l4 k4) (.slice q5 l5 k5) ∧ Env w9 g V L sE ∧ Fr (fun i => i = g ∨ B ≤ i) w w9) := ⟨hw9, PZ.out.fin hf9⟩; clear hw9 hf9)
      | ((with_reducible show wpList _ _ _ (Oper.mk _ (.load _ _) _ _ _ _ :: _) _ _); refine wp_ld (by rfl) 54 _ (by rfl) w1.heap.size (ptC a b ck (.slice p1 n1 cap1) cl cr 1 d) 54 _ (by rfl) HMX.out Tryd.underlying54 rfl (by kernel_rfl) ?_)
      | ((with_reducible show wpList _ _ _ (Oper.mk _ (.store _ _ _) _ _ _ _ :: _) _ _); refine wp_st (by rfl) 3 _ _ (by rfl) w1.heap.size 17 (ptC a b ck (.slice p1 n1 cap1) cl cr 1 tn) 54 (.int .i64 d) [(.int .i64 d)] (by rfl) (by rfl) (by rfl) HM_w5x.out (Nat.le_of_ble_eq_true rfl) (by kernel_rfl) (by rfl) ?_; intro w6 hw_ hf_; have HM_w6 : Hid (w6.heap[w1.heap.size]? = some (.cells (ptC a b ck (.slice p1 n1 cap1) cl cr 1 d).toArray 54 (0, 0))) := hw_; have PB_w6 : Hid (Pst w w6 g V L s5 B w.heap.size (w.heap.size + 1) c0 r (.slice q1 l1 k1) (.slice q2 l2 k2) (.slice q3 l3 k3) (.slice q4 l4 k4) (.slice q5 l5 k5)) := PB_w5x.out.st hf_ (HC0.out _ (by { have := HWA.out; omega })) (by { have := HWA.out; omega }); have HH_w6 : Hid (Holds w6 (fun i => we.heap.size ≤ i ∧ i < w1.heap.size) (.row 52 14 csb) (.slice p1 n1 cap1)) := HH_w5x.out.mono (fun i hi hl => ⟨hi, hf_.block i hl (by { show ¬ i = w1.heap.size; omega })⟩); have HMX : Hid (w6.heap[w1.heap.size]? = some (.cells (ptC a b ck (.slice p1 n1 cap1) cl cr 1 d).toArray 54 (0, 0))) := HM_w6.out; have PC : Hid (Pst w w6 g V L s5 B w.heap.size (w.heap.size + 1) (pcol2 c0 we.heap.size w1.heap.size 3) r (.slice q1 l1 k1) (.slice q2 l2 k2) (.slice q3 l3 k3) (.slice q4 l4 k4) (.slice q5 l5 k5)) := PB_w6.out.recol (fun i _ h1 _ => pcol2_old HC0.out (by { have := HWA.out; omega }) h1) ⟨pcol2_zero HC0.out (Nat.le_refl _) (by { have := HWA.out; omega }), pcol2_zero HC0.out (Nat.le_succ _) (by { have := HWA.out; omega })⟩; have HSZ : Hid (∀ o, Cq B (pcol2 c0 we.heap.size w1.heap.size 3) 3 (w6.alloc o).heap.size) := fun o => ⟨by { have h1 := blk_lt PC.out.res; have := HGB.out; simp; omega }, pcol2_new (by { have h1 := HWA.out; have h2 := blk_lt HMX.out; simp; omega }) (by { have h2 := blk_lt HMX.out; simp; omega })⟩; have cU : w6.cell? ⟨w.heap.size, 3, none⟩ = some (.slice q3 l3 k3) := PB_w6.out.cell 3; clear hw_ hf_)
      | (go_at_call 49; refine (HND.out _ PB_w4.out.env).mono ?_; rintro e w5x ⟨rfl, he_, hf_⟩; have PB_w5x : Hid (Pst w w5x g V L s5 B w.heap.size (w.heap.size + 1) c0 r (.slice q1 l1 k1) (.slice q2 l2 k2) (.slice q3 l3 k3) (.slice q4 l4 k4) (.slice q5 l5 k5)) := PB_w4.out.call he_ hf_; have HM_w5x : Hid (w5x.heap[w1.heap.size]? = some (.cells (ptC a b ck (.slice p1 n1 cap1) cl cr 1 tn).toArray 54 (0, 0))) := (hf_.block _ (blk_lt HM_w4.out) (by { show ¬ _ = g; have := HWA.out; have := HGB.out; omega })).trans HM_w4.out; have HH_w5x : Hid (Holds w5x (fun i => we.heap.size ≤ i ∧ i < w1.heap.size) (.row 52 14 csb) (.slice p1 n1 cap1)) := HH_w4.out.mono (fun i hi hl => ⟨hi, hf_.block i hl (by { show ¬ i = g; have := HWA.out; have := HGB.out; omega })⟩); clear he_ hf_)
      | ((with_reducible show wpList _ _ _ (Oper.mk _ (.store _ _ _) _ _ _ _ :: _) _ _); refine wp_st (by rfl) 3 _ _ (by rfl) w1.heap.size 16 (ptC a b ck (.slice p1 n1 cap1) cl cr tw tn) 54 (.int .i64 1) [(.int .i64 1)] (by rfl) (by rfl) (by rfl) HM_w3.out (Nat.le_of_ble_eq_true rfl) (by kernel_rfl) (by rfl) ?_; intro w4 hw_ hf_; have HM_w4 : Hid (w4.heap[w1.heap.size]? = some (.cells (ptC a b ck (.slice p1 n1 cap1) cl cr 1 tn).toArray 54 (0, 0))) := hw_; have PB_w4 : Hid (Pst w w4 g V L s3 B w.heap.size (w.heap.size + 1) c0 r (.slice q1 l1 k1) (.slice q2 l2 k2) (.slice q3 l3 k3) (.slice q4 l4 k4) (.slice q5 l5 k5)) := PB_w3.out.st hf_ (HC0.out _ (by { have := HWA.out; omega })) (by { have := HWA.out; omega }); have HH_w4 : Hid (Holds w4 (fun i => we.heap.size ≤ i ∧ i < w1.heap.size) (.row 52 14 csb) (.slice p1 n1 cap1)) := HH_w3.out.mono (fun i hi hl => ⟨hi, hf_.block i hl (by { show ¬ i = w1.heap.size; omega })⟩); clear hw_ hf_)
      | (go_at_call_of 22 (Value.string ⟨#[119, 105, 116, 104, 105, 110]⟩); refine (HWI.out _ PB_w2.out.env).mono ?_; rintro e w3 ⟨rfl, he_, hf_⟩; have PB_w3 : Hid (Pst w w3 g V L s3 B w.heap.size (w.heap.size + 1) c0 r (.slice q1 l1 k1) (.slice q2 l2 k2) (.slice q3 l3 k3) (.slice q4 l4 k4) (.slice q5 l5 k5)) := PB_w2.out.call he_ hf_; have HM_w3 : Hid (w3.heap[w1.heap.size]? = some (.cells (ptC a b ck (.slice p1 n1 cap1) cl cr tw tn).toArray 54 (0, 0))) := (hf_.block _ (blk_lt HM_w2.out) (by { show ¬ _ = g; have := HWA.out; have := HGB.out; omega })).trans HM_w2.out; have HH_w3 : Hid (Holds w3 (fun i => we.heap.size ≤ i ∧ i < w1.heap.size) (.row 52 14 csb) (.slice p1 n1 cap1)) := HH_w2.out.mono (fun i hi hl => ⟨hi, hf_.block i hl (by { show ¬ i = g; have := HWA.out; have := HGB.out; omega })⟩); clear he_ hf_)
      | ((with_reducible show wpList _ _ _ (Oper.mk _ (.store _ _ _) _ _ _ _ :: _) _ _); refine wp_st (by rfl) 54 _ _ (by rfl) w1.heap.size 0 pt0 54 u1 (ptC a b ck (.slice p1 n1 cap1) cl cr tw tn) (by rfl) (by rfl) HU1.out (heap_alloc_new _ _) (Nat.le_of_ble_eq_true rfl) (by kernel_rfl) (by rfl) ?_; intro w2 hw2 hf2; have HM2 : Hid (w2.heap[w1.heap.size]? = some (.cells (ptC a b ck (.slice p1 n1 cap1) cl cr tw tn).toArray 54 (0, 0))) := hw2; have PB : Hid (Pst w w2 g V L s2 B w.heap.size (w.heap.size + 1) c0 r (.slice q1 l1 k1) (.slice q2 l2 k2) (.slice q3 l3 k3) (.slice q4 l4 k4) (.slice q5 l5 k5)) := PBa.out.st hf2 (HC0.out _ (by { have := HWA.out; omega })) (by { have := HWA.out; omega }); have HH_w2 : Hid (Holds w2 (fun i => we.heap.size ≤ i ∧ i < w1.heap.size) (.row 52 14 csb) (.slice p1 n1 cap1)) := HH1.out.mono (fun i hi hl => ⟨hi, hf2.block i hl (by { show ¬ i = w1.heap.size; omega })⟩); have PB_w2 : Hid (Pst w w2 g V L s2 B w.heap.size (w.heap.size + 1) c0 r (.slice q1 l1 k1) (.slice q2 l2 k2) (.slice q3 l3 k3) (.slice q4 l4 k4) (.slice q5 l5 k5)) := PB.out; have HM_w2 : Hid (w2.heap[w1.heap.size]? = some (.cells (ptC a b ck (.slice p1 n1 cap1) cl cr tw tn).toArray 54 (0, 0))) := HM2.out; clear hw2 hf2)
      | (go_at_call 48; refine (HS.out _ PAe.out.env).mono ?_; rintro e w1 ⟨p1, cap1, u1, rfl, hu1, hh1, he1, hf1⟩; have HU1 : Hid (u1.cells = (ptC a b ck (.slice p1 n1 cap1) cl cr tw tn).toArray) := hu1; have PBa : Hid (Pst w (w1.alloc (.cells pt0.toArray 54)) g V L s2 B w.heap.size (w.heap.size + 1) c0 r (.slice q1 l1 k1) (.slice q2 l2 k2) (.slice q3 l3 k3) (.slice q4 l4 k4) (.slice q5 l5 k5)) := (PAe.out.call he1 hf1).alloc _; have HWA : Hid ((w.heap.size + 1) < we.heap.size ∧ we.heap.size ≤ w1.heap.size) := ⟨blk_lt PAe.out.res, hf1.size⟩; have HH1 : Hid (Holds (w1.alloc (.cells pt0.toArray 54)) (fun i => we.heap.size ≤ i ∧ i < w1.heap.size) (.row 52 14 csb) (.slice p1 n1 cap1)) := hh1.mono (fun i hi hl => ⟨⟨hi, hl⟩, Below.heap_alloc _ _ _ hl⟩); clear hu1 hh1 he1 hf1)
      | (go_at_call_of 20 (Value.string ⟨#[111, 102]⟩); refine (T4.out _ PAd.out.env).mono ?_; rintro e we ⟨rfl, he_, hf_⟩; have PAe : Hid (Pst w we g V L s1 B w.heap.size (w.heap.size + 1) c0 r (.slice q1 l1 k1) (.slice q2 l2 k2) (.slice q3 l3 k3) (.slice q4 l4 k4) (.slice q5 l5 k5)) := PAd.out.call he_ hf_; clear he_ hf_)
      | (go_at_call 49; refine (HNC.out _ PAc.out.env).mono ?_; rintro e wd ⟨rfl, he_, hf_⟩; have PAd : Hid (Pst w wd g V L s1 B w.heap.size (w.heap.size + 1) c0 r (.slice q1 l1 k1) (.slice q2 l2 k2) (.slice q3 l3 k3) (.slice q4 l4 k4) (.slice q5 l5 k5)) := PAc.out.call he_ hf_; clear he_ hf_)
      | (go_at_call_of 20 (Value.string ⟨#[109, 97, 110, 121]⟩); refine (T3.out _ PAb.out.env).mono ?_; rintro e wc ⟨rfl, he_, hf_⟩; have PAc : Hid (Pst w wc g V L s.adv B w.heap.size (w.heap.size + 1) c0 r (.slice q1 l1 k1) (.slice q2 l2 k2) (.slice q3 l3 k3) (.slice q4 l4 k4) (.slice q5 l5 k5)) := PAb.out.call he_ hf_; clear he_ hf_)
      | (go_at_call_of 20 (Value.string ⟨#[110, 111, 116]⟩); refine (T2.out _ PA.out.env).mono ?_; rintro e wb ⟨rfl, he_, hf_⟩; have PAb : Hid (Pst w wb g V L s B w.heap.size (w.heap.size + 1) c0 r (.slice q1 l1 k1) (.slice q2 l2 k2) (.slice q3 l3 k3) (.slice q4 l4 k4) (.slice q5 l5 k5)) := PA.out.call he_ hf_; clear he_ hf_)
      | (go_at_call_of 20 (Value.string ⟨#[119, 104, 101, 110]⟩); refine (T1.out _ P0.out.env).mono ?_; rintro e wa ⟨rfl, he_, hf_⟩; have PA : Hid (Pst w wa g V L s B w.heap.size (w.heap.size + 1) c0 r (.slice q1 l1 k1) (.slice q2 l2 k2) (.slice q3 l3 k3) (.slice q4 l4 k4) (.slice q5 l5 k5)) := P0.out.call he_ hf_; clear he_ hf_))
  refine ret_loc (w.heap.size + 1) _ _ _ H9.out.1 rfl rfl (by rfl) Tryd.underlying44 rfl (by kernel_rfl) ?_
  exact ⟨(pcol2 c0 we.heap.size w1.heap.size 3), (.slice q1 l1 k1), (.slice q2 l2 k2), (.slice p5 n5 cap5), (.slice q4 l4 k4), (.slice q5 l5 k5), rfl, H9.out.2⟩
set_option maxHeartbeats 8000000 in
theorem part_many1 (w : World) (g : Nat) (V : Value) (L : List Tk) (s : St) (B : Nat) (col : Nat → Nat) (r : Rl) (wv tv mv kv ev : Value) (h : Env w g V L s) (hr : RR w B col r wv tv mv kv ev) (hg : g < B) (hB : B ≤ w.heap.size) (h0 : s.o = 0) (hlen : r.w.length ≤ 700 ∧ r.t.length ≤ 700 ∧ r.m.length ≤ 700 ∧ r.k.length ≤ 700) (hb_T1 : see L [119, 104, 101, 110] s = false) (hb_T2 : see L [110, 111, 116] s = false) (hb_T3 : see L [109, 97, 110, 121] s = true) (c : Int) (s1 : St) (h_c : (num L s.adv).1 = c) (h_s1 : (num L s.adv).2 = s1) (hb_T4 : see L [111, 102] s1 = true) (f : ByteArray) (s1b : St) (h_f : (nam L s1.adv).1 = f) (h_s1b : (nam L s1.adv).2 = s1b) (a b : ByteArray) (ck : Int) (csb : List (List Dat)) (cl cr : Opd) (tw tn : Int) (s2 : St) (h01 : s1b.o = 0) (hpt : pat L s1b = (⟨a, b, ⟨ck, csb, cl, cr⟩, tw, tn⟩, s2)) (s3 : St) (h_s3 : wnt L [119, 105, 116, 104, 105, 110] s2 = s3) (d : Int) (s5 : St) (h_d : (num L s3).1 = d) (h_s5 : (num L s3).2 = s5) (sE : St) (h_sE : wnt L [59] s5 = sE) : Calls Tryd.prog 23 #[rp g, .agg #[.string r.n, wv, tv, mv, kv, .string r.e.ty, ev]] w (PartPost w g V L B { r with m := r.m ++ [⟨c, f, ⟨a, b, ⟨ck, csb, cl, cr⟩, 1, d⟩⟩] } sE) := by
  obtain ⟨q1, k1, e1⟩ := hr.r1.shape
  obtain ⟨l1, hl1⟩ : ∃ l, (r.w.map encP).length = l := ⟨_, rfl⟩
  rw [hl1] at e1
  subst e1
  obtain ⟨q2, k2, e2⟩ := hr.r2.shape
  obtain ⟨l2, hl2⟩ : ∃ l, (r.t.map encP).length = l := ⟨_, rfl⟩
  rw [hl2] at e2
  subst e2
  obtain ⟨q3, k3, e3⟩ := hr.r3.shape
  obtain ⟨l3, hl3⟩ : ∃ l, (r.m.map encM).length = l := ⟨_, rfl⟩
  rw [hl3] at e3
  subst e3
  obtain ⟨q4, k4, e4⟩ := hr.r4.shape
  obtain ⟨l4, hl4⟩ : ∃ l, (r.k.map encK).length = l := ⟨_, rfl⟩
  rw [hl4] at e4
  subst e4
  obtain ⟨q5, k5, e5⟩ := hr.r5.shape
  obtain ⟨l5, hl5⟩ : ∃ l, (r.e.v.map encO).length = l := ⟨_, rfl⟩
  rw [hl5] at e5
  subst e5
  obtain ⟨c0, hc0⟩ : ∃ c0, pcol col w.heap.size = c0 := ⟨_, rfl⟩
  have HC0 : Hid (∀ i, w.heap.size ≤ i → c0 i = 0) := fun i hi => by rw [← hc0]; unfold pcol; exact if_neg (by omega)
  have hst := pst_start h hr hg hB
  rw [hc0] at hst
  have HLN : Hid ((r.m.map encM).length ≤ 800) := by show _ ≤ 800; rw [List.length_map]; omega
  clear hl1 hl2 hl3 hl4 hl5
  obtain ⟨i0, a1, a2, a3, a4⟩ := info_parts infoM
  have HI : Hid (Tryd.prog.info? 107 = some i0 ∧ i0.zero = some zM ∧ i0.size = 20 ∧ i0.bytes = 248) := ⟨a1, a2, a3, a4⟩
  clear a1 a2 a3 a4
  have T1 : Hid (∀ W, Env W g V L s → Calls Tryd.prog 20 #[rp g, .int .i64 1, .string ⟨#[119, 104, 101, 110]⟩] W fun e w' => e = .returned (.bool false) ∧ Env w' g V L s ∧ Fr (fun i => i = g) W w') := fun W hW => by
    have := is_any W g V L s 1 [119, 104, 101, 110] (.inl ⟨rfl, by kernel_rfl⟩) hW
    unfold tks at this
    rw [hb_T1] at this
    exact this
  have T2 : Hid (∀ W, Env W g V L s → Calls Tryd.prog 20 #[rp g, .int .i64 1, .string ⟨#[110, 111, 116]⟩] W fun e w' => e = .returned (.bool false) ∧ Env w' g V L s ∧ Fr (fun i => i = g) W w') := fun W hW => by
    have := is_any W g V L s 1 [110, 111, 116] (.inl ⟨rfl, by kernel_rfl⟩) hW
    unfold tks at this
    rw [hb_T2] at this
    exact this
  have T3 : Hid (∀ W, Env W g V L s → Calls Tryd.prog 20 #[rp g, .int .i64 1, .string ⟨#[109, 97, 110, 121]⟩] W fun e w' => e = .returned (.bool true) ∧ Env w' g V L s.adv ∧ Fr (fun i => i = g) W w') := fun W hW => by
    have := is_any W g V L s 1 [109, 97, 110, 121] (.inl ⟨rfl, by kernel_rfl⟩) hW
    unfold tks at this
    rw [hb_T3] at this
    exact this
  have HNC : Hid (∀ W, Env W g V L s.adv → Calls Tryd.prog 49 #[rp g] W fun e w' => e = .returned (.int .i64 c) ∧ Env w' g V L s1 ∧ Fr (fun i => i = g) W w') := fun W hW => by
    have := num_any W g V L s.adv hW
    rw [h_c, h_s1] at this
    exact this
  have T4 : Hid (∀ W, Env W g V L s1 → Calls Tryd.prog 20 #[rp g, .int .i64 1, .string ⟨#[111, 102]⟩] W fun e w' => e = .returned (.bool true) ∧ Env w' g V L s1.adv ∧ Fr (fun i => i = g) W w') := fun W hW => by
    have := is_any W g V L s1 1 [111, 102] (.inl ⟨rfl, by kernel_rfl⟩) hW
    unfold tks at this
    rw [hb_T4] at this
    exact this
  have HNF : Hid (∀ W, Env W g V L s1.adv → Calls Tryd.prog 21 #[rp g] W fun e w' => e = .returned (.string f) ∧ Env w' g V L s1b ∧ Fr (fun i => i = g) W w') := fun W hW => by
    have := ident_any W g V L s1.adv hW
    rw [h_f, h_s1b] at this
    exact this
  obtain ⟨n1, hn1⟩ : ∃ n1, csb.length = n1 := ⟨_, rfl⟩
  have HS : Hid (∀ W, Env W g V L s1b → Calls Tryd.prog 48 #[rp g] W fun e w' => ∃ p cap u, e = .returned u ∧ u.cells = (ptC a b ck (.slice p n1 cap) cl cr tw tn).toArray ∧ Holds w' (fun i => W.heap.size ≤ i) (.row 52 14 csb) (.slice p n1 cap) ∧ Env w' g V L s2 ∧ Fr (fun i => i = g) W w') := fun W hW => by
    refine (shape_any W g V L s1b hW h01).mono ?_
    rw [hpt]
    rintro e w' ⟨p, cap, rfl, q1, q2, q3⟩
    simp only [hn1] at q1 ⊢
    exact ⟨p, cap, _, rfl, rfl, q1, q2, q3⟩
  have HN1 : Hid (csb.length = n1) := hn1
  have HWI : Hid (∀ W, Env W g V L s2 → Calls Tryd.prog 22 #[rp g, .int .i64 1, .string ⟨#[119, 105, 116, 104, 105, 110]⟩] W fun e w' => e = .returned (.tuple #[]) ∧ Env w' g V L s3 ∧ Fr (fun i => i = g) W w') := fun W hW => by
    have := want_any W g V L s2 1 [119, 105, 116, 104, 105, 110] (.inl ⟨rfl, by kernel_rfl⟩) hW
    rw [h_s3] at this
    exact this
  have HND : Hid (∀ W, Env W g V L s3 → Calls Tryd.prog 49 #[rp g] W fun e w' => e = .returned (.int .i64 d) ∧ Env w' g V L s5 ∧ Fr (fun i => i = g) W w') := fun W hW => by
    have := num_any W g V L s3 hW
    rw [h_d, h_s5] at this
    exact this
  have HWE : Hid (∀ W, Env W g V L s5 → Calls Tryd.prog 22 #[rp g, .int .i64 4, .string ⟨#[59]⟩] W fun e w' => e = .returned (.tuple #[]) ∧ Env w' g V L sE ∧ Fr (fun i => i = g) W w') := fun W hW => by
    have := want_any W g V L s5 4 [59] (.inr ⟨rfl, by decide⟩) hW
    rw [h_sE] at this
    exact this
  have P0 : Hid (Pst w ((w.alloc (.cells (ruC r.n (.slice q1 l1 k1) (.slice q2 l2 k2) (.slice q3 l3 k3) (.slice q4 l4 k4) r.e.ty (.slice q5 l5 k5)).toArray 44)).alloc (.cells ru0.toArray 44)) g V L s B w.heap.size (w.heap.size + 1) c0 r (.slice q1 l1 k1) (.slice q2 l2 k2) (.slice q3 l3 k3) (.slice q4 l4 k4) (.slice q5 l5 k5)) := hst
  have HOW : Hid (∀ k, (Value.slice q3 l3 k3).ownBlock = some k → k < w.heap.size) := fun k hk => by
    have h1 := Row.own_in P0.out.rr.r3 k hk
    exact col_old HC0.out (by rw [h1.2]; omega)
  have HGB : Hid (g < B ∧ B ≤ w.heap.size) := ⟨hg, hB⟩
  clear h hr hg hB h0 hlen hc0 hst hb_T1 hb_T2 hb_T3 hpt hn1 h_sE h_c h_s1 h_s3 h_d h_s5 h01 hb_T4 h_f h_s1b
  go_enter Tryd.func23, Tryd.ntmps23
  go_wp2_with (first
      | (at_builtin; refine wp_appS (by rfl) _ _ 38 (by rfl) 107 i0 zM 20 248 Tryd.underlying38 HI.out.1 HI.out.2.1 HI.out.2.2.1 HI.out.2.2.2 rfl (by omega) (Cq B (pcol2 c0 wf.heap.size w1.heap.size 3) 3) (.slice q3 l3 k3) (r.m.map encM) (by rfl) (PC.out.rr.r3.alloc _) (HSZ.out _) (encM ⟨c, f, ⟨a, b, ⟨ck, csb, cl, cr⟩, 1, d⟩⟩) (mnC c f a b ck (.slice p1 n1 cap1) cl cr 1 d) ⟨w6.heap.size, 0, none⟩ (by rfl) (by rfl) (World.news_of_block (heap_alloc_new _ _)) (by rfl) ((holdsM (m := ⟨c, f, ⟨a, b, ⟨ck, csb, cl, cr⟩, 1, d⟩⟩) (HH_w6.out.mono (fun i hi _ => ⟨⟨⟨by { have := HWA.out; have := HGB.out; omega }, pcol2_new hi.1 (by { omega })⟩, fun e => by { have h1 := HOW.out _ e; have := HWA.out; omega }⟩, rfl⟩))).on ((Fr.refl _ _).alloc _)) HLN.out (by omega) ?_; intro v5 w5 hrw hgb hown; obtain ⟨p5, cap5, e5⟩ := Row.shape hrw; obtain ⟨n5, hn5⟩ : ∃ n5, (r.m.map encM ++ [encM ⟨c, f, ⟨a, b, ⟨ck, csb, cl, cr⟩, 1, d⟩⟩]).length = n5 := ⟨_, rfl⟩; rw [hn5] at e5; subst e5; have HU5 : Hid (w5.heap[w.heap.size]? = some (.cells (ruC r.n (.slice q1 l1 k1) (.slice q2 l2 k2) (.slice q3 l3 k3) (.slice q4 l4 k4) r.e.ty (.slice q5 l5 k5)).toArray 44 (0, 0))) := (hgb.block w.heap.size (by { have := blk_lt (PC.out.alloc (.cells (mnC c f a b ck (.slice p1 n1 cap1) cl cr 1 d).toArray 107)).blk; exact this }) (fun e => by { have h1 := (hown _ e.symm).2; have h2 := PC.out.c0.1; omega })).trans (PC.out.alloc (.cells (mnC c f a b ck (.slice p1 n1 cap1) cl cr 1 d).toArray 107)).blk; have f5 := free_of_blk HU5.out 3; have c5 : w5.cell? ⟨w.heap.size, 3, none⟩ = some (.slice q3 l3 k3) := by { rw [cell_of_blk HU5.out]; rfl }; have PD : Hid (Pst w (w5.setCell ⟨w.heap.size, 3, none⟩ (.slice p5 n5 cap5)) g V L s5 B w.heap.size (w.heap.size + 1) (pcol2 c0 wf.heap.size w1.heap.size 3) { r with m := r.m ++ [⟨c, f, ⟨a, b, ⟨ck, csb, cl, cr⟩, 1, d⟩⟩] } (.slice q1 l1 k1) (.slice q2 l2 k2) (.slice p5 n5 cap5) (.slice q4 l4 k4) (.slice q5 l5 k5)) := (PC.out.alloc (.cells (mnC c f a b ck (.slice p1 n1 cap1) cl cr 1 d).toArray 107)).app3 hgb hown (fun _ _ _ _ => rfl) PC.out.c0 hrw; clear hrw hgb hown hn5)
      | ((with_reducible show wpList _ _ _ (Oper.mk _ (.build _ _) _ _ _ _ :: _) _ _); refine wp_bd (by rfl) 107 _ (by rfl) (mnV c f a b ck (.slice p1 n1 cap1) cl cr 1 d) #[(0, .int .i64 c), (1, .string f), (2, .agg (ptC a b ck (.slice p1 n1 cap1) cl cr 1 d).toArray)] (by first | (simp [Act.eval, Act.put]; done) | (simp [Act.eval, Act.put]; rfl)) (build_many c f a b ck _ cl cr 1 d _) ?_)
      | (go_at_call_of 22 (Value.string ⟨#[59]⟩); refine (HWE.out _ PD.out.env).mono ?_; rintro e wz ⟨rfl, he_, hf_⟩; have PZ : Hid (Pst w wz g V L sE B w.heap.size (w.heap.size + 1) (pcol2 c0 wf.heap.size w1.heap.size 3) { r with m := r.m ++ [⟨c, f, ⟨a, b, ⟨ck, csb, cl, cr⟩, 1, d⟩⟩] } (.slice q1 l1 k1) (.slice q2 l2 k2) (.slice p5 n5 cap5) (.slice q4 l4 k4) (.slice q5 l5 k5)) := PD.out.call he_ hf_; clear he_ hf_)
      | ((with_reducible show wpList _ _ _ (Oper.mk _ (.load _ _) _ _ _ _ :: _) _ _); refine wp_ld (by rfl) 44 _ (by rfl) w.heap.size (ruC r.n (.slice q1 l1 k1) (.slice q2 l2 k2) (.slice p5 n5 cap5) (.slice q4 l4 k4) r.e.ty (.slice q5 l5 k5)) 44 _ (by rfl) PZ.out.blk Tryd.underlying44 rfl (by kernel_rfl) ?_)
      | ((with_reducible show wpList _ _ _ (Oper.mk _ (.store _ _ _) _ _ _ _ :: _) _ _); refine wp_st (by rfl) 44 _ _ (by rfl) (w.heap.size + 1) 0 ru0 44 (.agg #[.string r.n, (.slice q1 l1 k1), (.slice q2 l2 k2), (.slice p5 n5 cap5), (.slice q4 l4 k4), .string r.e.ty, (.slice q5 l5 k5)]) (ruC r.n (.slice q1 l1 k1) (.slice q2 l2 k2) (.slice p5 n5 cap5) (.slice q4 l4 k4) r.e.ty (.slice q5 l5 k5)) (by rfl) (by rfl) (by rfl) PZ.out.res (Nat.le_of_ble_eq_true rfl) (by kernel_rfl) (by rfl) ?_; intro w9 hw9 hf9; have H9 : Hid (w9.heap[(w.heap.size + 1)]? = some (.cells (ruC r.n (.slice q1 l1 k1) (.slice q2 l2 k2) (.slice p5 n5 cap5) (.slice q4 l4 k4) r.e.ty (.slice q5 l5 k5)).toArray 44 (0, 0)) ∧ RR w9 B (pcol2 c0 wf.heap.size w1.heap.size 3) { r with m := r.m ++ [⟨c, f, ⟨a, b, ⟨ck, csb, cl, cr⟩, 1, d⟩⟩] } (.slice q1 l1 k1) (.slice q2 l2 k2) (.slice p5 n5 cap5) (.slice q4 l4 k4) (.slice q5 l5 k5) ∧ Env w9 g V L sE ∧ Fr (fun i => i = g ∨ B ≤ i) w w9) := ⟨hw9, PZ.out.fin hf9⟩; clear hw9 hf9)
      | ((with_reducible show wpList _ _ _ (Oper.mk _ (.load _ _) _ _ _ _ :: _) _ _); refine wp_ld (by rfl) 54 _ (by rfl) w1.heap.size (ptC a b ck (.slice p1 n1 cap1) cl cr 1 d) 54 _ (by rfl) HMX.out Tryd.underlying54 rfl (by kernel_rfl) ?_)
      | ((with_reducible show wpList _ _ _ (Oper.mk _ (.store _ _ _) _ _ _ _ :: _) _ _); refine wp_st (by rfl) 3 _ _ (by rfl) w1.heap.size 17 (ptC a b ck (.slice p1 n1 cap1) cl cr 1 tn) 54 (.int .i64 d) [(.int .i64 d)] (by rfl) (by rfl) (by rfl) HM_w5x.out (Nat.le_of_ble_eq_true rfl) (by kernel_rfl) (by rfl) ?_; intro w6 hw_ hf_; have HM_w6 : Hid (w6.heap[w1.heap.size]? = some (.cells (ptC a b ck (.slice p1 n1 cap1) cl cr 1 d).toArray 54 (0, 0))) := hw_; have PB_w6 : Hid (Pst w w6 g V L s5 B w.heap.size (w.heap.size + 1) c0 r (.slice q1 l1 k1) (.slice q2 l2 k2) (.slice q3 l3 k3) (.slice q4 l4 k4) (.slice q5 l5 k5)) := PB_w5x.out.st hf_ (HC0.out _ (by { have := HWA.out; omega })) (by { have := HWA.out; omega }); have HH_w6 : Hid (Holds w6 (fun i => wf.heap.size ≤ i ∧ i < w1.heap.size) (.row 52 14 csb) (.slice p1 n1 cap1)) := HH_w5x.out.mono (fun i hi hl => ⟨hi, hf_.block i hl (by { show ¬ i = w1.heap.size; omega })⟩); have HMX : Hid (w6.heap[w1.heap.size]? = some (.cells (ptC a b ck (.slice p1 n1 cap1) cl cr 1 d).toArray 54 (0, 0))) := HM_w6.out; have PC : Hid (Pst w w6 g V L s5 B w.heap.size (w.heap.size + 1) (pcol2 c0 wf.heap.size w1.heap.size 3) r (.slice q1 l1 k1) (.slice q2 l2 k2) (.slice q3 l3 k3) (.slice q4 l4 k4) (.slice q5 l5 k5)) := PB_w6.out.recol (fun i _ h1 _ => pcol2_old HC0.out (by { have := HWA.out; omega }) h1) ⟨pcol2_zero HC0.out (Nat.le_refl _) (by { have := HWA.out; omega }), pcol2_zero HC0.out (Nat.le_succ _) (by { have := HWA.out; omega })⟩; have HSZ : Hid (∀ o, Cq B (pcol2 c0 wf.heap.size w1.heap.size 3) 3 (w6.alloc o).heap.size) := fun o => ⟨by { have h1 := blk_lt PC.out.res; have := HGB.out; simp; omega }, pcol2_new (by { have h1 := HWA.out; have h2 := blk_lt HMX.out; simp; omega }) (by { have h2 := blk_lt HMX.out; simp; omega })⟩; have cU : w6.cell? ⟨w.heap.size, 3, none⟩ = some (.slice q3 l3 k3) := PB_w6.out.cell 3; clear hw_ hf_)
      | (go_at_call 49; refine (HND.out _ PB_w4.out.env).mono ?_; rintro e w5x ⟨rfl, he_, hf_⟩; have PB_w5x : Hid (Pst w w5x g V L s5 B w.heap.size (w.heap.size + 1) c0 r (.slice q1 l1 k1) (.slice q2 l2 k2) (.slice q3 l3 k3) (.slice q4 l4 k4) (.slice q5 l5 k5)) := PB_w4.out.call he_ hf_; have HM_w5x : Hid (w5x.heap[w1.heap.size]? = some (.cells (ptC a b ck (.slice p1 n1 cap1) cl cr 1 tn).toArray 54 (0, 0))) := (hf_.block _ (blk_lt HM_w4.out) (by { show ¬ _ = g; have := HWA.out; have := HGB.out; omega })).trans HM_w4.out; have HH_w5x : Hid (Holds w5x (fun i => wf.heap.size ≤ i ∧ i < w1.heap.size) (.row 52 14 csb) (.slice p1 n1 cap1)) := HH_w4.out.mono (fun i hi hl => ⟨hi, hf_.block i hl (by { show ¬ i = g; have := HWA.out; have := HGB.out; omega })⟩); clear he_ hf_)
      | ((with_reducible show wpList _ _ _ (Oper.mk _ (.store _ _ _) _ _ _ _ :: _) _ _); refine wp_st (by rfl) 3 _ _ (by rfl) w1.heap.size 16 (ptC a b ck (.slice p1 n1 cap1) cl cr tw tn) 54 (.int .i64 1) [(.int .i64 1)] (by rfl) (by rfl) (by rfl) HM_w3.out (Nat.le_of_ble_eq_true rfl) (by kernel_rfl) (by rfl) ?_; intro w4 hw_ hf_; have HM_w4 : Hid (w4.heap[w1.heap.size]? = some (.cells (ptC a b ck (.slice p1 n1 cap1) cl cr 1 tn).toArray 54 (0, 0))) := hw_; have PB_w4 : Hid (Pst w w4 g V L s3 B w.heap.size (w.heap.size + 1) c0 r (.slice q1 l1 k1) (.slice q2 l2 k2) (.slice q3 l3 k3) (.slice q4 l4 k4) (.slice q5 l5 k5)) := PB_w3.out.st hf_ (HC0.out _ (by { have := HWA.out; omega })) (by { have := HWA.out; omega }); have HH_w4 : Hid (Holds w4 (fun i => wf.heap.size ≤ i ∧ i < w1.heap.size) (.row 52 14 csb) (.slice p1 n1 cap1)) := HH_w3.out.mono (fun i hi hl => ⟨hi, hf_.block i hl (by { show ¬ i = w1.heap.size; omega })⟩); clear hw_ hf_)
      | (go_at_call_of 22 (Value.string ⟨#[119, 105, 116, 104, 105, 110]⟩); refine (HWI.out _ PB_w2.out.env).mono ?_; rintro e w3 ⟨rfl, he_, hf_⟩; have PB_w3 : Hid (Pst w w3 g V L s3 B w.heap.size (w.heap.size + 1) c0 r (.slice q1 l1 k1) (.slice q2 l2 k2) (.slice q3 l3 k3) (.slice q4 l4 k4) (.slice q5 l5 k5)) := PB_w2.out.call he_ hf_; have HM_w3 : Hid (w3.heap[w1.heap.size]? = some (.cells (ptC a b ck (.slice p1 n1 cap1) cl cr tw tn).toArray 54 (0, 0))) := (hf_.block _ (blk_lt HM_w2.out) (by { show ¬ _ = g; have := HWA.out; have := HGB.out; omega })).trans HM_w2.out; have HH_w3 : Hid (Holds w3 (fun i => wf.heap.size ≤ i ∧ i < w1.heap.size) (.row 52 14 csb) (.slice p1 n1 cap1)) := HH_w2.out.mono (fun i hi hl => ⟨hi, hf_.block i hl (by { show ¬ i = g; have := HWA.out; have := HGB.out; omega })⟩); clear he_ hf_)
      | ((with_reducible show wpList _ _ _ (Oper.mk _ (.store _ _ _) _ _ _ _ :: _) _ _); refine wp_st (by rfl) 54 _ _ (by rfl) w1.heap.size 0 pt0 54 u1 (ptC a b ck (.slice p1 n1 cap1) cl cr tw tn) (by rfl) (by rfl) HU1.out (heap_alloc_new _ _) (Nat.le_of_ble_eq_true rfl) (by kernel_rfl) (by rfl) ?_; intro w2 hw2 hf2; have HM2 : Hid (w2.heap[w1.heap.size]? = some (.cells (ptC a b ck (.slice p1 n1 cap1) cl cr tw tn).toArray 54 (0, 0))) := hw2; have PB : Hid (Pst w w2 g V L s2 B w.heap.size (w.heap.size + 1) c0 r (.slice q1 l1 k1) (.slice q2 l2 k2) (.slice q3 l3 k3) (.slice q4 l4 k4) (.slice q5 l5 k5)) := PBa.out.st hf2 (HC0.out _ (by { have := HWA.out; omega })) (by { have := HWA.out; omega }); have HH_w2 : Hid (Holds w2 (fun i => wf.heap.size ≤ i ∧ i < w1.heap.size) (.row 52 14 csb) (.slice p1 n1 cap1)) := HH1.out.mono (fun i hi hl => ⟨hi, hf2.block i hl (by { show ¬ i = w1.heap.size; omega })⟩); have PB_w2 : Hid (Pst w w2 g V L s2 B w.heap.size (w.heap.size + 1) c0 r (.slice q1 l1 k1) (.slice q2 l2 k2) (.slice q3 l3 k3) (.slice q4 l4 k4) (.slice q5 l5 k5)) := PB.out; have HM_w2 : Hid (w2.heap[w1.heap.size]? = some (.cells (ptC a b ck (.slice p1 n1 cap1) cl cr tw tn).toArray 54 (0, 0))) := HM2.out; clear hw2 hf2)
      | (go_at_call 48; refine (HS.out _ PAf.out.env).mono ?_; rintro e w1 ⟨p1, cap1, u1, rfl, hu1, hh1, he1, hf1⟩; have HU1 : Hid (u1.cells = (ptC a b ck (.slice p1 n1 cap1) cl cr tw tn).toArray) := hu1; have PBa : Hid (Pst w (w1.alloc (.cells pt0.toArray 54)) g V L s2 B w.heap.size (w.heap.size + 1) c0 r (.slice q1 l1 k1) (.slice q2 l2 k2) (.slice q3 l3 k3) (.slice q4 l4 k4) (.slice q5 l5 k5)) := (PAf.out.call he1 hf1).alloc _; have HWA : Hid ((w.heap.size + 1) < wf.heap.size ∧ wf.heap.size ≤ w1.heap.size) := ⟨blk_lt PAf.out.res, hf1.size⟩; have HH1 : Hid (Holds (w1.alloc (.cells pt0.toArray 54)) (fun i => wf.heap.size ≤ i ∧ i < w1.heap.size) (.row 52 14 csb) (.slice p1 n1 cap1)) := hh1.mono (fun i hi hl => ⟨⟨hi, hl⟩, Below.heap_alloc _ _ _ hl⟩); clear hu1 hh1 he1 hf1)
      | (go_at_call 21; refine (HNF.out _ PAe.out.env).mono ?_; rintro e wf ⟨rfl, he_, hf_⟩; have PAf : Hid (Pst w wf g V L s1b B w.heap.size (w.heap.size + 1) c0 r (.slice q1 l1 k1) (.slice q2 l2 k2) (.slice q3 l3 k3) (.slice q4 l4 k4) (.slice q5 l5 k5)) := PAe.out.call he_ hf_; clear he_ hf_)
      | (go_at_call_of 20 (Value.string ⟨#[111, 102]⟩); refine (T4.out _ PAd.out.env).mono ?_; rintro e we ⟨rfl, he_, hf_⟩; have PAe : Hid (Pst w we g V L s1.adv B w.heap.size (w.heap.size + 1) c0 r (.slice q1 l1 k1) (.slice q2 l2 k2) (.slice q3 l3 k3) (.slice q4 l4 k4) (.slice q5 l5 k5)) := PAd.out.call he_ hf_; clear he_ hf_)
      | (go_at_call 49; refine (HNC.out _ PAc.out.env).mono ?_; rintro e wd ⟨rfl, he_, hf_⟩; have PAd : Hid (Pst w wd g V L s1 B w.heap.size (w.heap.size + 1) c0 r (.slice q1 l1 k1) (.slice q2 l2 k2) (.slice q3 l3 k3) (.slice q4 l4 k4) (.slice q5 l5 k5)) := PAc.out.call he_ hf_; clear he_ hf_)
      | (go_at_call_of 20 (Value.string ⟨#[109, 97, 110, 121]⟩); refine (T3.out _ PAb.out.env).mono ?_; rintro e wc ⟨rfl, he_, hf_⟩; have PAc : Hid (Pst w wc g V L s.adv B w.heap.size (w.heap.size + 1) c0 r (.slice q1 l1 k1) (.slice q2 l2 k2) (.slice q3 l3 k3) (.slice q4 l4 k4) (.slice q5 l5 k5)) := PAb.out.call he_ hf_; clear he_ hf_)
      | (go_at_call_of 20 (Value.string ⟨#[110, 111, 116]⟩); refine (T2.out _ PA.out.env).mono ?_; rintro e wb ⟨rfl, he_, hf_⟩; have PAb : Hid (Pst w wb g V L s B w.heap.size (w.heap.size + 1) c0 r (.slice q1 l1 k1) (.slice q2 l2 k2) (.slice q3 l3 k3) (.slice q4 l4 k4) (.slice q5 l5 k5)) := PA.out.call he_ hf_; clear he_ hf_)
      | (go_at_call_of 20 (Value.string ⟨#[119, 104, 101, 110]⟩); refine (T1.out _ P0.out.env).mono ?_; rintro e wa ⟨rfl, he_, hf_⟩; have PA : Hid (Pst w wa g V L s B w.heap.size (w.heap.size + 1) c0 r (.slice q1 l1 k1) (.slice q2 l2 k2) (.slice q3 l3 k3) (.slice q4 l4 k4) (.slice q5 l5 k5)) := P0.out.call he_ hf_; clear he_ hf_))
  refine ret_loc (w.heap.size + 1) _ _ _ H9.out.1 rfl rfl (by rfl) Tryd.underlying44 rfl (by kernel_rfl) ?_
  exact ⟨(pcol2 c0 wf.heap.size w1.heap.size 3), (.slice q1 l1 k1), (.slice q2 l2 k2), (.slice p5 n5 cap5), (.slice q4 l4 k4), (.slice q5 l5 k5), rfl, H9.out.2⟩
set_option maxHeartbeats 8000000 in
theorem part_bada (w : World) (g : Nat) (V : Value) (L : List Tk) (s : St) (B : Nat) (col : Nat → Nat) (r : Rl) (wv tv mv kv ev : Value) (h : Env w g V L s) (hr : RR w B col r wv tv mv kv ev) (hg : g < B) (hB : B ≤ w.heap.size) (h0 : s.o = 0) (hlen : r.w.length ≤ 700 ∧ r.t.length ≤ 700 ∧ r.m.length ≤ 700 ∧ r.k.length ≤ 700) (hb_T1 : see L [119, 104, 101, 110] s = false) (hb_T2 : see L [110, 111, 116] s = false) (hb_T3 : see L [109, 97, 110, 121] s = false) (hb_T4 : see L [119, 104, 101, 114, 101] s = false) (hty : r.e.ty.data.toList = []) (hb_T5 : see L [101, 109, 105, 116] s = false) (s1 sE : St) (h_s1 : fal L s = s1) (h_sE : wnt L [59] s1 = sE) : Calls Tryd.prog 23 #[rp g, .agg #[.string r.n, wv, tv, mv, kv, .string r.e.ty, ev]] w (PartPost w g V L B r sE) := by
  obtain ⟨q1, k1, e1⟩ := hr.r1.shape
  obtain ⟨l1, hl1⟩ : ∃ l, (r.w.map encP).length = l := ⟨_, rfl⟩
  rw [hl1] at e1
  subst e1
  obtain ⟨q2, k2, e2⟩ := hr.r2.shape
  obtain ⟨l2, hl2⟩ : ∃ l, (r.t.map encP).length = l := ⟨_, rfl⟩
  rw [hl2] at e2
  subst e2
  obtain ⟨q3, k3, e3⟩ := hr.r3.shape
  obtain ⟨l3, hl3⟩ : ∃ l, (r.m.map encM).length = l := ⟨_, rfl⟩
  rw [hl3] at e3
  subst e3
  obtain ⟨q4, k4, e4⟩ := hr.r4.shape
  obtain ⟨l4, hl4⟩ : ∃ l, (r.k.map encK).length = l := ⟨_, rfl⟩
  rw [hl4] at e4
  subst e4
  obtain ⟨q5, k5, e5⟩ := hr.r5.shape
  obtain ⟨l5, hl5⟩ : ∃ l, (r.e.v.map encO).length = l := ⟨_, rfl⟩
  rw [hl5] at e5
  subst e5
  obtain ⟨c0, hc0⟩ : ∃ c0, pcol col w.heap.size = c0 := ⟨_, rfl⟩
  have HC0 : Hid (∀ i, w.heap.size ≤ i → c0 i = 0) := fun i hi => by rw [← hc0]; unfold pcol; exact if_neg (by omega)
  have hst := pst_start h hr hg hB
  rw [hc0] at hst
  clear hl1 hl2 hl3 hl4 hl5
  have T1 : Hid (∀ W, Env W g V L s → Calls Tryd.prog 20 #[rp g, .int .i64 1, .string ⟨#[119, 104, 101, 110]⟩] W fun e w' => e = .returned (.bool false) ∧ Env w' g V L s ∧ Fr (fun i => i = g) W w') := fun W hW => by
    have := is_any W g V L s 1 [119, 104, 101, 110] (.inl ⟨rfl, by kernel_rfl⟩) hW
    unfold tks at this
    rw [hb_T1] at this
    exact this
  have T2 : Hid (∀ W, Env W g V L s → Calls Tryd.prog 20 #[rp g, .int .i64 1, .string ⟨#[110, 111, 116]⟩] W fun e w' => e = .returned (.bool false) ∧ Env w' g V L s ∧ Fr (fun i => i = g) W w') := fun W hW => by
    have := is_any W g V L s 1 [110, 111, 116] (.inl ⟨rfl, by kernel_rfl⟩) hW
    unfold tks at this
    rw [hb_T2] at this
    exact this
  have T3 : Hid (∀ W, Env W g V L s → Calls Tryd.prog 20 #[rp g, .int .i64 1, .string ⟨#[109, 97, 110, 121]⟩] W fun e w' => e = .returned (.bool false) ∧ Env w' g V L s ∧ Fr (fun i => i = g) W w') := fun W hW => by
    have := is_any W g V L s 1 [109, 97, 110, 121] (.inl ⟨rfl, by kernel_rfl⟩) hW
    unfold tks at this
    rw [hb_T3] at this
    exact this
  have T4 : Hid (∀ W, Env W g V L s → Calls Tryd.prog 20 #[rp g, .int .i64 1, .string ⟨#[119, 104, 101, 114, 101]⟩] W fun e w' => e = .returned (.bool false) ∧ Env w' g V L s ∧ Fr (fun i => i = g) W w') := fun W hW => by
    have := is_any W g V L s 1 [119, 104, 101, 114, 101] (.inl ⟨rfl, by kernel_rfl⟩) hW
    unfold tks at this
    rw [hb_T4] at this
    exact this
  have T5 : Hid (∀ W, Env W g V L s → Calls Tryd.prog 20 #[rp g, .int .i64 1, .string ⟨#[101, 109, 105, 116]⟩] W fun e w' => e = .returned (.bool false) ∧ Env w' g V L s ∧ Fr (fun i => i = g) W w') := fun W hW => by
    have := is_any W g V L s 1 [101, 109, 105, 116] (.inl ⟨rfl, by kernel_rfl⟩) hW
    unfold tks at this
    rw [hb_T5] at this
    exact this
  have hq1 : (r.e.ty.toList == []) = true := by rw [Lib.toList_data]; simpa using hty
  have hq2 : r.e.ty.toList = [] := by rw [Lib.toList_data]; exact hty
  have HWR : Hid (∀ W, Env W g V L s → Calls Tryd.prog 24 #[rp g] W fun e w' => e = .returned (.tuple #[]) ∧ Env w' g V L s1 ∧ Fr (fun i => i = g) W w') := fun W hW => by
    have := wrong_any W g V L s hW
    rw [h_s1] at this
    exact this
  have HWE : Hid (∀ W, Env W g V L s1 → Calls Tryd.prog 22 #[rp g, .int .i64 4, .string ⟨#[59]⟩] W fun e w' => e = .returned (.tuple #[]) ∧ Env w' g V L sE ∧ Fr (fun i => i = g) W w') := fun W hW => by
    have := want_any W g V L s1 4 [59] (.inr ⟨rfl, by decide⟩) hW
    rw [h_sE] at this
    exact this
  have P0 : Hid (Pst w ((w.alloc (.cells (ruC r.n (.slice q1 l1 k1) (.slice q2 l2 k2) (.slice q3 l3 k3) (.slice q4 l4 k4) r.e.ty (.slice q5 l5 k5)).toArray 44)).alloc (.cells ru0.toArray 44)) g V L s B w.heap.size (w.heap.size + 1) c0 r (.slice q1 l1 k1) (.slice q2 l2 k2) (.slice q3 l3 k3) (.slice q4 l4 k4) (.slice q5 l5 k5)) := hst
  have e5 : ∀ W, Pst w W g V L s B w.heap.size (w.heap.size + 1) c0 r (.slice q1 l1 k1) (.slice q2 l2 k2) (.slice q3 l3 k3) (.slice q4 l4 k4) (.slice q5 l5 k5) → W.cell? ⟨w.heap.size, 5, none⟩ = some (.string r.e.ty) := fun W hW => hW.cell 5
  have E5 : Hid (∀ W, Pst w W g V L s B w.heap.size (w.heap.size + 1) c0 r (.slice q1 l1 k1) (.slice q2 l2 k2) (.slice q3 l3 k3) (.slice q4 l4 k4) (.slice q5 l5 k5) → W.cell? ⟨w.heap.size, 5, none⟩ = some (.string r.e.ty)) := e5
  clear h hr hg hB h0 hlen hc0 hst hb_T1 hb_T2 hb_T3 hb_T4 h_s1 h_sE e5 hb_T5 hty
  go_enter Tryd.func23, Tryd.ntmps23
  go_wp2_with (first
      | (go_at_call_of 22 (Value.string ⟨#[59]⟩); refine (HWE.out _ PW.out.env).mono ?_; rintro e wz ⟨rfl, he_, hf_⟩; have PZ : Hid (Pst w wz g V L sE B w.heap.size (w.heap.size + 1) c0 r (.slice q1 l1 k1) (.slice q2 l2 k2) (.slice q3 l3 k3) (.slice q4 l4 k4) (.slice q5 l5 k5)) := PW.out.call he_ hf_; clear he_ hf_)
      | ((with_reducible show wpList _ _ _ (Oper.mk _ (.load _ _) _ _ _ _ :: _) _ _); refine wp_ld (by rfl) 44 _ (by rfl) w.heap.size (ruC r.n (.slice q1 l1 k1) (.slice q2 l2 k2) (.slice q3 l3 k3) (.slice q4 l4 k4) r.e.ty (.slice q5 l5 k5)) 44 _ (by rfl) PZ.out.blk Tryd.underlying44 rfl (by kernel_rfl) ?_)
      | ((with_reducible show wpList _ _ _ (Oper.mk _ (.store _ _ _) _ _ _ _ :: _) _ _); refine wp_st (by rfl) 44 _ _ (by rfl) (w.heap.size + 1) 0 ru0 44 (.agg #[.string r.n, (.slice q1 l1 k1), (.slice q2 l2 k2), (.slice q3 l3 k3), (.slice q4 l4 k4), .string r.e.ty, (.slice q5 l5 k5)]) (ruC r.n (.slice q1 l1 k1) (.slice q2 l2 k2) (.slice q3 l3 k3) (.slice q4 l4 k4) r.e.ty (.slice q5 l5 k5)) (by rfl) (by rfl) (by rfl) PZ.out.res (Nat.le_of_ble_eq_true rfl) (by kernel_rfl) (by rfl) ?_; intro w9 hw9 hf9; have H9 : Hid (w9.heap[(w.heap.size + 1)]? = some (.cells (ruC r.n (.slice q1 l1 k1) (.slice q2 l2 k2) (.slice q3 l3 k3) (.slice q4 l4 k4) r.e.ty (.slice q5 l5 k5)).toArray 44 (0, 0)) ∧ RR w9 B c0 r (.slice q1 l1 k1) (.slice q2 l2 k2) (.slice q3 l3 k3) (.slice q4 l4 k4) (.slice q5 l5 k5) ∧ Env w9 g V L sE ∧ Fr (fun i => i = g ∨ B ≤ i) w w9) := ⟨hw9, PZ.out.fin hf9⟩; clear hw9 hf9)
      | (go_at_call 24; refine (HWR.out _ PAe.out.env).mono ?_; rintro e wx ⟨rfl, he_, hf_⟩; have PW : Hid (Pst w wx g V L s1 B w.heap.size (w.heap.size + 1) c0 r (.slice q1 l1 k1) (.slice q2 l2 k2) (.slice q3 l3 k3) (.slice q4 l4 k4) (.slice q5 l5 k5)) := PAe.out.call he_ hf_; clear he_ hf_)
      | (go_at_call_of 20 (Value.string ⟨#[101, 109, 105, 116]⟩); refine (T5.out _ PAd.out.env).mono ?_; rintro e we ⟨rfl, he_, hf_⟩; have PAe : Hid (Pst w we g V L s B w.heap.size (w.heap.size + 1) c0 r (.slice q1 l1 k1) (.slice q2 l2 k2) (.slice q3 l3 k3) (.slice q4 l4 k4) (.slice q5 l5 k5)) := PAd.out.call he_ hf_; clear he_ hf_)
      | (go_at_call_of 20 (Value.string ⟨#[119, 104, 101, 114, 101]⟩); refine (T4.out _ PAc.out.env).mono ?_; rintro e wd ⟨rfl, he_, hf_⟩; have PAd : Hid (Pst w wd g V L s B w.heap.size (w.heap.size + 1) c0 r (.slice q1 l1 k1) (.slice q2 l2 k2) (.slice q3 l3 k3) (.slice q4 l4 k4) (.slice q5 l5 k5)) := PAc.out.call he_ hf_; clear he_ hf_; have c5 := E5.out _ PAd.out)
      | (go_at_call_of 20 (Value.string ⟨#[109, 97, 110, 121]⟩); refine (T3.out _ PAb.out.env).mono ?_; rintro e wc ⟨rfl, he_, hf_⟩; have PAc : Hid (Pst w wc g V L s B w.heap.size (w.heap.size + 1) c0 r (.slice q1 l1 k1) (.slice q2 l2 k2) (.slice q3 l3 k3) (.slice q4 l4 k4) (.slice q5 l5 k5)) := PAb.out.call he_ hf_; clear he_ hf_)
      | (go_at_call_of 20 (Value.string ⟨#[110, 111, 116]⟩); refine (T2.out _ PA.out.env).mono ?_; rintro e wb ⟨rfl, he_, hf_⟩; have PAb : Hid (Pst w wb g V L s B w.heap.size (w.heap.size + 1) c0 r (.slice q1 l1 k1) (.slice q2 l2 k2) (.slice q3 l3 k3) (.slice q4 l4 k4) (.slice q5 l5 k5)) := PA.out.call he_ hf_; clear he_ hf_)
      | (go_at_call_of 20 (Value.string ⟨#[119, 104, 101, 110]⟩); refine (T1.out _ P0.out.env).mono ?_; rintro e wa ⟨rfl, he_, hf_⟩; have PA : Hid (Pst w wa g V L s B w.heap.size (w.heap.size + 1) c0 r (.slice q1 l1 k1) (.slice q2 l2 k2) (.slice q3 l3 k3) (.slice q4 l4 k4) (.slice q5 l5 k5)) := P0.out.call he_ hf_; clear he_ hf_))
  refine ret_loc (w.heap.size + 1) _ _ _ H9.out.1 rfl rfl (by rfl) Tryd.underlying44 rfl (by kernel_rfl) ?_
  exact ⟨c0, (.slice q1 l1 k1), (.slice q2 l2 k2), (.slice q3 l3 k3), (.slice q4 l4 k4), (.slice q5 l5 k5), rfl, H9.out.2⟩
set_option maxHeartbeats 8000000 in
theorem part_badb (w : World) (g : Nat) (V : Value) (L : List Tk) (s : St) (B : Nat) (col : Nat → Nat) (r : Rl) (wv tv mv kv ev : Value) (h : Env w g V L s) (hr : RR w B col r wv tv mv kv ev) (hg : g < B) (hB : B ≤ w.heap.size) (h0 : s.o = 0) (hlen : r.w.length ≤ 700 ∧ r.t.length ≤ 700 ∧ r.m.length ≤ 700 ∧ r.k.length ≤ 700) (hb_T1 : see L [119, 104, 101, 110] s = false) (hb_T2 : see L [110, 111, 116] s = false) (hb_T3 : see L [109, 97, 110, 121] s = false) (hb_T4 : see L [119, 104, 101, 114, 101] s = false) (hty : ¬ r.e.ty.data.toList = []) (s1 sE : St) (h_s1 : fal L s = s1) (h_sE : wnt L [59] s1 = sE) : Calls Tryd.prog 23 #[rp g, .agg #[.string r.n, wv, tv, mv, kv, .string r.e.ty, ev]] w (PartPost w g V L B r sE) := by
  obtain ⟨q1, k1, e1⟩ := hr.r1.shape
  obtain ⟨l1, hl1⟩ : ∃ l, (r.w.map encP).length = l := ⟨_, rfl⟩
  rw [hl1] at e1
  subst e1
  obtain ⟨q2, k2, e2⟩ := hr.r2.shape
  obtain ⟨l2, hl2⟩ : ∃ l, (r.t.map encP).length = l := ⟨_, rfl⟩
  rw [hl2] at e2
  subst e2
  obtain ⟨q3, k3, e3⟩ := hr.r3.shape
  obtain ⟨l3, hl3⟩ : ∃ l, (r.m.map encM).length = l := ⟨_, rfl⟩
  rw [hl3] at e3
  subst e3
  obtain ⟨q4, k4, e4⟩ := hr.r4.shape
  obtain ⟨l4, hl4⟩ : ∃ l, (r.k.map encK).length = l := ⟨_, rfl⟩
  rw [hl4] at e4
  subst e4
  obtain ⟨q5, k5, e5⟩ := hr.r5.shape
  obtain ⟨l5, hl5⟩ : ∃ l, (r.e.v.map encO).length = l := ⟨_, rfl⟩
  rw [hl5] at e5
  subst e5
  obtain ⟨c0, hc0⟩ : ∃ c0, pcol col w.heap.size = c0 := ⟨_, rfl⟩
  have HC0 : Hid (∀ i, w.heap.size ≤ i → c0 i = 0) := fun i hi => by rw [← hc0]; unfold pcol; exact if_neg (by omega)
  have hst := pst_start h hr hg hB
  rw [hc0] at hst
  clear hl1 hl2 hl3 hl4 hl5
  have T1 : Hid (∀ W, Env W g V L s → Calls Tryd.prog 20 #[rp g, .int .i64 1, .string ⟨#[119, 104, 101, 110]⟩] W fun e w' => e = .returned (.bool false) ∧ Env w' g V L s ∧ Fr (fun i => i = g) W w') := fun W hW => by
    have := is_any W g V L s 1 [119, 104, 101, 110] (.inl ⟨rfl, by kernel_rfl⟩) hW
    unfold tks at this
    rw [hb_T1] at this
    exact this
  have T2 : Hid (∀ W, Env W g V L s → Calls Tryd.prog 20 #[rp g, .int .i64 1, .string ⟨#[110, 111, 116]⟩] W fun e w' => e = .returned (.bool false) ∧ Env w' g V L s ∧ Fr (fun i => i = g) W w') := fun W hW => by
    have := is_any W g V L s 1 [110, 111, 116] (.inl ⟨rfl, by kernel_rfl⟩) hW
    unfold tks at this
    rw [hb_T2] at this
    exact this
  have T3 : Hid (∀ W, Env W g V L s → Calls Tryd.prog 20 #[rp g, .int .i64 1, .string ⟨#[109, 97, 110, 121]⟩] W fun e w' => e = .returned (.bool false) ∧ Env w' g V L s ∧ Fr (fun i => i = g) W w') := fun W hW => by
    have := is_any W g V L s 1 [109, 97, 110, 121] (.inl ⟨rfl, by kernel_rfl⟩) hW
    unfold tks at this
    rw [hb_T3] at this
    exact this
  have T4 : Hid (∀ W, Env W g V L s → Calls Tryd.prog 20 #[rp g, .int .i64 1, .string ⟨#[119, 104, 101, 114, 101]⟩] W fun e w' => e = .returned (.bool false) ∧ Env w' g V L s ∧ Fr (fun i => i = g) W w') := fun W hW => by
    have := is_any W g V L s 1 [119, 104, 101, 114, 101] (.inl ⟨rfl, by kernel_rfl⟩) hW
    unfold tks at this
    rw [hb_T4] at this
    exact this
  have hq1 : (r.e.ty.toList == []) = false := by rw [Lib.toList_data]; simpa using hty
  have hq2 : ¬ r.e.ty.toList = [] := by rw [Lib.toList_data]; exact hty
  have HWR : Hid (∀ W, Env W g V L s → Calls Tryd.prog 24 #[rp g] W fun e w' => e = .returned (.tuple #[]) ∧ Env w' g V L s1 ∧ Fr (fun i => i = g) W w') := fun W hW => by
    have := wrong_any W g V L s hW
    rw [h_s1] at this
    exact this
  have HWE : Hid (∀ W, Env W g V L s1 → Calls Tryd.prog 22 #[rp g, .int .i64 4, .string ⟨#[59]⟩] W fun e w' => e = .returned (.tuple #[]) ∧ Env w' g V L sE ∧ Fr (fun i => i = g) W w') := fun W hW => by
    have := want_any W g V L s1 4 [59] (.inr ⟨rfl, by decide⟩) hW
    rw [h_sE] at this
    exact this
  have P0 : Hid (Pst w ((w.alloc (.cells (ruC r.n (.slice q1 l1 k1) (.slice q2 l2 k2) (.slice q3 l3 k3) (.slice q4 l4 k4) r.e.ty (.slice q5 l5 k5)).toArray 44)).alloc (.cells ru0.toArray 44)) g V L s B w.heap.size (w.heap.size + 1) c0 r (.slice q1 l1 k1) (.slice q2 l2 k2) (.slice q3 l3 k3) (.slice q4 l4 k4) (.slice q5 l5 k5)) := hst
  have e5 : ∀ W, Pst w W g V L s B w.heap.size (w.heap.size + 1) c0 r (.slice q1 l1 k1) (.slice q2 l2 k2) (.slice q3 l3 k3) (.slice q4 l4 k4) (.slice q5 l5 k5) → W.cell? ⟨w.heap.size, 5, none⟩ = some (.string r.e.ty) := fun W hW => hW.cell 5
  have E5 : Hid (∀ W, Pst w W g V L s B w.heap.size (w.heap.size + 1) c0 r (.slice q1 l1 k1) (.slice q2 l2 k2) (.slice q3 l3 k3) (.slice q4 l4 k4) (.slice q5 l5 k5) → W.cell? ⟨w.heap.size, 5, none⟩ = some (.string r.e.ty)) := e5
  clear h hr hg hB h0 hlen hc0 hst hb_T1 hb_T2 hb_T3 hb_T4 h_s1 h_sE e5 hty
  go_enter Tryd.func23, Tryd.ntmps23
  go_wp2_with (first
      | (go_at_call_of 22 (Value.string ⟨#[59]⟩); refine (HWE.out _ PW.out.env).mono ?_; rintro e wz ⟨rfl, he_, hf_⟩; have PZ : Hid (Pst w wz g V L sE B w.heap.size (w.heap.size + 1) c0 r (.slice q1 l1 k1) (.slice q2 l2 k2) (.slice q3 l3 k3) (.slice q4 l4 k4) (.slice q5 l5 k5)) := PW.out.call he_ hf_; clear he_ hf_)
      | ((with_reducible show wpList _ _ _ (Oper.mk _ (.load _ _) _ _ _ _ :: _) _ _); refine wp_ld (by rfl) 44 _ (by rfl) w.heap.size (ruC r.n (.slice q1 l1 k1) (.slice q2 l2 k2) (.slice q3 l3 k3) (.slice q4 l4 k4) r.e.ty (.slice q5 l5 k5)) 44 _ (by rfl) PZ.out.blk Tryd.underlying44 rfl (by kernel_rfl) ?_)
      | ((with_reducible show wpList _ _ _ (Oper.mk _ (.store _ _ _) _ _ _ _ :: _) _ _); refine wp_st (by rfl) 44 _ _ (by rfl) (w.heap.size + 1) 0 ru0 44 (.agg #[.string r.n, (.slice q1 l1 k1), (.slice q2 l2 k2), (.slice q3 l3 k3), (.slice q4 l4 k4), .string r.e.ty, (.slice q5 l5 k5)]) (ruC r.n (.slice q1 l1 k1) (.slice q2 l2 k2) (.slice q3 l3 k3) (.slice q4 l4 k4) r.e.ty (.slice q5 l5 k5)) (by rfl) (by rfl) (by rfl) PZ.out.res (Nat.le_of_ble_eq_true rfl) (by kernel_rfl) (by rfl) ?_; intro w9 hw9 hf9; have H9 : Hid (w9.heap[(w.heap.size + 1)]? = some (.cells (ruC r.n (.slice q1 l1 k1) (.slice q2 l2 k2) (.slice q3 l3 k3) (.slice q4 l4 k4) r.e.ty (.slice q5 l5 k5)).toArray 44 (0, 0)) ∧ RR w9 B c0 r (.slice q1 l1 k1) (.slice q2 l2 k2) (.slice q3 l3 k3) (.slice q4 l4 k4) (.slice q5 l5 k5) ∧ Env w9 g V L sE ∧ Fr (fun i => i = g ∨ B ≤ i) w w9) := ⟨hw9, PZ.out.fin hf9⟩; clear hw9 hf9)
      | (go_at_call 24; refine (HWR.out _ PAd.out.env).mono ?_; rintro e wx ⟨rfl, he_, hf_⟩; have PW : Hid (Pst w wx g V L s1 B w.heap.size (w.heap.size + 1) c0 r (.slice q1 l1 k1) (.slice q2 l2 k2) (.slice q3 l3 k3) (.slice q4 l4 k4) (.slice q5 l5 k5)) := PAd.out.call he_ hf_; clear he_ hf_)
      | (go_at_call_of 20 (Value.string ⟨#[119, 104, 101, 114, 101]⟩); refine (T4.out _ PAc.out.env).mono ?_; rintro e wd ⟨rfl, he_, hf_⟩; have PAd : Hid (Pst w wd g V L s B w.heap.size (w.heap.size + 1) c0 r (.slice q1 l1 k1) (.slice q2 l2 k2) (.slice q3 l3 k3) (.slice q4 l4 k4) (.slice q5 l5 k5)) := PAc.out.call he_ hf_; clear he_ hf_; have c5 := E5.out _ PAd.out)
      | (go_at_call_of 20 (Value.string ⟨#[109, 97, 110, 121]⟩); refine (T3.out _ PAb.out.env).mono ?_; rintro e wc ⟨rfl, he_, hf_⟩; have PAc : Hid (Pst w wc g V L s B w.heap.size (w.heap.size + 1) c0 r (.slice q1 l1 k1) (.slice q2 l2 k2) (.slice q3 l3 k3) (.slice q4 l4 k4) (.slice q5 l5 k5)) := PAb.out.call he_ hf_; clear he_ hf_)
      | (go_at_call_of 20 (Value.string ⟨#[110, 111, 116]⟩); refine (T2.out _ PA.out.env).mono ?_; rintro e wb ⟨rfl, he_, hf_⟩; have PAb : Hid (Pst w wb g V L s B w.heap.size (w.heap.size + 1) c0 r (.slice q1 l1 k1) (.slice q2 l2 k2) (.slice q3 l3 k3) (.slice q4 l4 k4) (.slice q5 l5 k5)) := PA.out.call he_ hf_; clear he_ hf_)
      | (go_at_call_of 20 (Value.string ⟨#[119, 104, 101, 110]⟩); refine (T1.out _ P0.out.env).mono ?_; rintro e wa ⟨rfl, he_, hf_⟩; have PA : Hid (Pst w wa g V L s B w.heap.size (w.heap.size + 1) c0 r (.slice q1 l1 k1) (.slice q2 l2 k2) (.slice q3 l3 k3) (.slice q4 l4 k4) (.slice q5 l5 k5)) := P0.out.call he_ hf_; clear he_ hf_))
  refine ret_loc (w.heap.size + 1) _ _ _ H9.out.1 rfl rfl (by rfl) Tryd.underlying44 rfl (by kernel_rfl) ?_
  exact ⟨c0, (.slice q1 l1 k1), (.slice q2 l2 k2), (.slice q3 l3 k3), (.slice q4 l4 k4), (.slice q5 l5 k5), rfl, H9.out.2⟩
end Go.Proofs.YtnlmkdncifijlaaDoor.Ref
