/-
  The reference reads a part of a rule: a link, an emit.
-/
import Derived.Test.YtnlmkdncifijlaaDoorY8
import Derived.Deep.LoopGhost
namespace Go.Proofs.YtnlmkdncifijlaaDoor.Ref
open Go.ChangeShapes Go.WideShapes Go.ChangeAt Go.RowKit Go.Maps
set_option linter.unusedVariables false
set_option linter.unusedSimpArgs false
set_option maxRecDepth 20000
theorem Pst.grown {w0 w w' : World} {g B U R : Nat} {V : Value} {L : List Tk} {s : St} {col : Nat → Nat} {r : Rl} {wv tv mv kv ev : Value} {row : Option Nat} (h : Pst w0 w g V L s B U R col r wv tv mv kv ev) (hg : w.grownBy w' row) (hr : ∀ k, row = some k → R < k ∧ col k = 0) : Pst w0 w' g V L s B U R col r wv tv mv kv ev := by
  have hlo := h.lo
  refine ⟨h.env.grown hg (fun k hk => by have := (hr k hk).1; exact Nat.le_of_lt (by omega : B < k)) hlo.1, h.rr.mono fun i hi h1 hl => ⟨rfl, hg.block i hl fun e => by have := (hr i e.symm).2; omega⟩, (hg.block U (blk_lt h.blk) fun e => by have := (hr U e.symm).1; omega).trans h.blk, (hg.block R (blk_lt h.res) fun e => by have := (hr R e.symm).1; omega).trans h.res, h.fr.grown hg (fun k hk => .inl (.inr (by have := (hr k hk).1; omega))), hlo, h.c0⟩
set_option maxHeartbeats 8000000 in
theorem part_where (w : World) (g : Nat) (V : Value) (L : List Tk) (s : St) (B : Nat) (col : Nat → Nat) (r : Rl) (wv tv mv kv ev : Value) (h : Env w g V L s) (hr : RR w B col r wv tv mv kv ev) (hg : g < B) (hB : B ≤ w.heap.size) (h0 : s.o = 0) (hlen : r.w.length ≤ 700 ∧ r.t.length ≤ 700 ∧ r.m.length ≤ 700 ∧ r.k.length ≤ 700) (hb_T1 : see L [119, 104, 101, 110] s = false) (hb_T2 : see L [110, 111, 116] s = false) (hb_T3 : see L [109, 97, 110, 121] s = false) (hb_T4 : see L [119, 104, 101, 114, 101] s = true) (a : ByteArray) (s1 : St) (h_a : (nam L s.adv).1 = a) (h_s1 : (nam L s.adv).2 = s1) (os : List Op3) (s2 : St) (hos : sep L [111, 114] (opt L) L.length (opt L s1).2 [(opt L s1).1] = (os, s2)) (b : ByteArray) (s3 : St) (h_b : (nam L s2).1 = b) (h_s3 : (nam L s2).2 = s3) (sE : St) (h_sE : wnt L [59] s3 = sE) : Calls Tryd.prog 23 #[rp g, .agg #[.string r.n, wv, tv, mv, kv, .string r.e.ty, ev]] w (PartPost w g V L B { r with k := r.k ++ [⟨a, os, b⟩] } sE) := by
  obtain ⟨q1, k1, e1⟩ := hr.r1.shape
  obtain ⟨l1, hl1⟩ : ∃ l, (r.w.map encP).length = l := ⟨_, rfl⟩
  rw [hl1] at e1
  subst e1
  obtain ⟨q2, k2, e2⟩ := hr.r2.shape
  obtain ⟨l2, hl2⟩ : ∃ l, (r.t.map encP).length = l := ⟨_, rfl⟩
  rw [hl2] at e2
  subst e2
  obtain ⟨q3, k3, e3⟩ := hr.r3.shape
  obtain ⟨l3, hl3⟩ : ∃ l, (r.m.map encM).length = l := ⟨_, rfl⟩
  rw [hl3] at e3
  subst e3
  obtain ⟨q4, k4, e4⟩ := hr.r4.shape
  obtain ⟨l4, hl4⟩ : ∃ l, (r.k.map encK).length = l := ⟨_, rfl⟩
  rw [hl4] at e4
  subst e4
  obtain ⟨q5, k5, e5⟩ := hr.r5.shape
  obtain ⟨l5, hl5⟩ : ∃ l, (r.e.v.map encO).length = l := ⟨_, rfl⟩
  rw [hl5] at e5
  subst e5
  obtain ⟨c0, hc0⟩ : ∃ c0, pcol col w.heap.size = c0 := ⟨_, rfl⟩
  have HC0 : Hid (∀ i, w.heap.size ≤ i → c0 i = 0) := fun i hi => by rw [← hc0]; unfold pcol; exact if_neg (by omega)
  have hst := pst_start h hr hg hB
  rw [hc0] at hst
  have HLN : Hid ((r.k.map encK).length ≤ 800) := by show _ ≤ 800; rw [List.length_map]; omega
  clear hl1 hl2 hl3 hl4 hl5
  obtain ⟨i0, a1, a2, a3, a4⟩ := info_parts infoK
  have HI : Hid (Tryd.prog.info? 62 = some i0 ∧ i0.zero = some (.agg #[.string ByteArray.empty, .slice none 0 0, .string ByteArray.empty]) ∧ i0.size = 3 ∧ i0.bytes = 56) := ⟨a1, a2, a3, a4⟩
  clear a1 a2 a3 a4
  obtain ⟨j0, d1, d2, d3, d4⟩ := info_parts infoQ
  have HJ : Hid (Tryd.prog.info? 59 = some j0 ∧ j0.zero = some (.agg #[.int .i64 0, .int .i64 0, .int .i64 0]) ∧ j0.size = 3 ∧ j0.bytes = 24) := ⟨d1, d2, d3, d4⟩
  clear d1 d2 d3 d4
  have T1 : Hid (∀ W, Env W g V L s → Calls Tryd.prog 20 #[rp g, .int .i64 1, .string ⟨#[119, 104, 101, 110]⟩] W fun e w' => e = .returned (.bool false) ∧ Env w' g V L s ∧ Fr (fun i => i = g) W w') := fun W hW => by
    have := is_any W g V L s 1 [119, 104, 101, 110] (.inl ⟨rfl, by kernel_rfl⟩) hW
    unfold tks at this
    rw [hb_T1] at this
    exact this
  have T2 : Hid (∀ W, Env W g V L s → Calls Tryd.prog 20 #[rp g, .int .i64 1, .string ⟨#[110, 111, 116]⟩] W fun e w' => e = .returned (.bool false) ∧ Env w' g V L s ∧ Fr (fun i => i = g) W w') := fun W hW => by
    have := is_any W g V L s 1 [110, 111, 116] (.inl ⟨rfl, by kernel_rfl⟩) hW
    unfold tks at this
    rw [hb_T2] at this
    exact this
  have T3 : Hid (∀ W, Env W g V L s → Calls Tryd.prog 20 #[rp g, .int .i64 1, .string ⟨#[109, 97, 110, 121]⟩] W fun e w' => e = .returned (.bool false) ∧ Env w' g V L s ∧ Fr (fun i => i = g) W w') := fun W hW => by
    have := is_any W g V L s 1 [109, 97, 110, 121] (.inl ⟨rfl, by kernel_rfl⟩) hW
    unfold tks at this
    rw [hb_T3] at this
    exact this
  have T4 : Hid (∀ W, Env W g V L s → Calls Tryd.prog 20 #[rp g, .int .i64 1, .string ⟨#[119, 104, 101, 114, 101]⟩] W fun e w' => e = .returned (.bool true) ∧ Env w' g V L s.adv ∧ Fr (fun i => i = g) W w') := fun W hW => by
    have := is_any W g V L s 1 [119, 104, 101, 114, 101] (.inl ⟨rfl, by kernel_rfl⟩) hW
    unfold tks at this
    rw [hb_T4] at this
    exact this
  have HNA : Hid (∀ W, Env W g V L s.adv → Calls Tryd.prog 21 #[rp g] W fun e w' => e = .returned (.string a) ∧ Env w' g V L s1 ∧ Fr (fun i => i = g) W w') := fun W hW => by
    have := ident_any W g V L s.adv hW
    rw [h_a, h_s1] at this
    exact this
  have HNB : Hid (∀ W, Env W g V L s2 → Calls Tryd.prog 21 #[rp g] W fun e w' => e = .returned (.string b) ∧ Env w' g V L s3 ∧ Fr (fun i => i = g) W w') := fun W hW => by
    have := ident_any W g V L s2 hW
    rw [h_b, h_s3] at this
    exact this
  have HWE : Hid (∀ W, Env W g V L s3 → Calls Tryd.prog 22 #[rp g, .int .i64 4, .string ⟨#[59]⟩] W fun e w' => e = .returned (.tuple #[]) ∧ Env w' g V L sE ∧ Fr (fun i => i = g) W w') := fun W hW => by
    have := want_any W g V L s3 4 [59] (.inr ⟨rfl, by decide⟩) hW
    rw [h_sE] at this
    exact this
  have P0 : Hid (Pst w ((w.alloc (.cells (ruC r.n (.slice q1 l1 k1) (.slice q2 l2 k2) (.slice q3 l3 k3) (.slice q4 l4 k4) r.e.ty (.slice q5 l5 k5)).toArray 44)).alloc (.cells ru0.toArray 44)) g V L s B w.heap.size (w.heap.size + 1) c0 r (.slice q1 l1 k1) (.slice q2 l2 k2) (.slice q3 l3 k3) (.slice q4 l4 k4) (.slice q5 l5 k5)) := hst
  have HOW : Hid (∀ k, (Value.slice q4 l4 k4).ownBlock = some k → k < w.heap.size) := fun k hk => by
    have h1 := Row.own_in P0.out.rr.r4 k hk
    exact col_old HC0.out (by rw [h1.2]; omega)
  have HGB : Hid (g < B ∧ B ≤ w.heap.size) := ⟨hg, hB⟩
  have HLEN : Hid (L.length ≤ 700) := h.len
  have HOS : Hid (sep L [111, 114] (opt L) L.length (opt L s1).2 [(opt L s1).1] = (os, s2)) := hos
  have HWAY : Hid (∀ W st, Env W g V L st → Calls Tryd.prog 50 #[rp g] W fun e w' => e = .returned (.agg #[.int .i64 (opt L st).1.r, .int .i64 (opt L st).1.lo, .int .i64 (opt L st).1.hi]) ∧ Env w' g V L (opt L st).2 ∧ Fr (fun i => i = g) W w') := fun W st hW => way_any W g V L st hW
  clear h hr hg hB h0 hlen hc0 hst hb_T1 hb_T2 hb_T3 hb_T4 h_a h_s1 h_b h_s3 h_sE hos
  go_enter Tryd.func23, Tryd.ntmps23
  go_wp2_with (first
      | ((with_reducible show wpList _ _ _ (Oper.mk _ (.store _ _ _) _ _ _ _ :: _) _ _); refine wp_st (by rfl) 9 _ _ (by rfl) wd.heap.size 0 lk0 62 (.string a) [.string a] (by rfl) (by rfl) (by rfl) HM1.out (Nat.le_of_ble_eq_true rfl) (by kernel_rfl) (by rfl) ?_; intro wf hw_ hf_; have HM2 : Hid (wf.heap[wd.heap.size]? = some (.cells (lkC a (.slice none 0 0) (txt [])).toArray 62 (0, 0))) := hw_; have PF : Hid (Pst w wf g V L s1 B w.heap.size (w.heap.size + 1) c0 r (.slice q1 l1 k1) (.slice q2 l2 k2) (.slice q3 l3 k3) (.slice q4 l4 k4) (.slice q5 l5 k5)) := PE.out.st hf_ (HC0.out _ (by { have := HWD.out; omega })) HWD.out; clear hw_ hf_)
      | (go_at_call 21; refine (HNA.out _ PD1.out.env).mono ?_; rintro e we ⟨rfl, he_, hf_⟩; have PE : Hid (Pst w we g V L s1 B w.heap.size (w.heap.size + 1) c0 r (.slice q1 l1 k1) (.slice q2 l2 k2) (.slice q3 l3 k3) (.slice q4 l4 k4) (.slice q5 l5 k5)) := PD1.out.call he_ hf_; have HM1 : Hid (we.heap[wd.heap.size]? = some (.cells lk0.toArray 62 (0, 0))) := (hf_.block _ (by { simp }) (by { show ¬ _ = g; have := HWD.out; have := HGB.out; omega })).trans (heap_alloc_new _ _); clear he_ hf_)
      | (go_at_call_of 20 (Value.string ⟨#[119, 104, 101, 114, 101]⟩); refine (T4.out _ PAc.out.env).mono ?_; rintro e wd ⟨rfl, he_, hf_⟩; have PAd : Hid (Pst w wd g V L s.adv B w.heap.size (w.heap.size + 1) c0 r (.slice q1 l1 k1) (.slice q2 l2 k2) (.slice q3 l3 k3) (.slice q4 l4 k4) (.slice q5 l5 k5)) := PAc.out.call he_ hf_; clear he_ hf_; have PD1 : Hid (Pst w (wd.alloc (.cells lk0.toArray 62)) g V L s.adv B w.heap.size (w.heap.size + 1) c0 r (.slice q1 l1 k1) (.slice q2 l2 k2) (.slice q3 l3 k3) (.slice q4 l4 k4) (.slice q5 l5 k5)) := PAd.out.alloc _; have HWD : Hid ((w.heap.size + 1) < wd.heap.size) := blk_lt PAd.out.res)
      | (go_at_call_of 20 (Value.string ⟨#[109, 97, 110, 121]⟩); refine (T3.out _ PAb.out.env).mono ?_; rintro e wc ⟨rfl, he_, hf_⟩; have PAc : Hid (Pst w wc g V L s B w.heap.size (w.heap.size + 1) c0 r (.slice q1 l1 k1) (.slice q2 l2 k2) (.slice q3 l3 k3) (.slice q4 l4 k4) (.slice q5 l5 k5)) := PAb.out.call he_ hf_; clear he_ hf_)
      | (go_at_call_of 20 (Value.string ⟨#[110, 111, 116]⟩); refine (T2.out _ PA.out.env).mono ?_; rintro e wb ⟨rfl, he_, hf_⟩; have PAb : Hid (Pst w wb g V L s B w.heap.size (w.heap.size + 1) c0 r (.slice q1 l1 k1) (.slice q2 l2 k2) (.slice q3 l3 k3) (.slice q4 l4 k4) (.slice q5 l5 k5)) := PA.out.call he_ hf_; clear he_ hf_)
      | (go_at_call_of 20 (Value.string ⟨#[119, 104, 101, 110]⟩); refine (T1.out _ P0.out.env).mono ?_; rintro e wa ⟨rfl, he_, hf_⟩; have PA : Hid (Pst w wa g V L s B w.heap.size (w.heap.size + 1) c0 r (.slice q1 l1 k1) (.slice q2 l2 k2) (.slice q3 l3 k3) (.slice q4 l4 k4) (.slice q5 l5 k5)) := P0.out.call he_ hf_; clear he_ hf_))
  obtain ⟨M, hM⟩ : ∃ M, wd.heap.size = M := ⟨_, rfl⟩
  have HMR : Hid (w.heap.size + 1 < M) := by rw [← hM]; exact HWD.out
  rw [hM] at HM2 ⊢
  clear HWD PE PD1 PAd PAc PAb PA P0 HM1 hM
  go_loopg [11, 12] (L.length + 1) (fun gn v o wr => ∃ (acc : List Op3) (st : St) (po : Option Addr) (no co : Nat), Pst w wr g V L st B w.heap.size (w.heap.size + 1) c0 r (.slice q1 l1 k1) (.slice q2 l2 k2) (.slice q3 l3 k3) (.slice q4 l4 k4) (.slice q5 l5 k5) ∧ wr.heap[M]? = some (.cells (lkC a (.slice po no co) (txt [])).toArray 62 (0, 0)) ∧ Row wr (fun i => M < i) 59 3 (.slice po no co) (acc.map encQ) ∧ acc.length ≤ 701 ∧ ((v = .bool true ∧ ∃ k, gn = k + 1 ∧ acc.length + k ≤ 700 ∧ L.length ≤ (opt L st).2.i + k ∧ sep L [111, 114] (opt L) k (opt L st).2 (acc ++ [(opt L st).1]) = (os, s2)) ∨ (v = .bool false ∧ (acc, st) = (os, s2))))
  case atStart => exact ⟨[], s1, none, 0, 0, PF.out, HM2.out, Row.nil _ _ _ _, by simp, .inl ⟨rfl, L.length, rfl, by have := HLEN.out; simp; omega, by omega, HOS.out⟩⟩
  case round =>
    obtain ⟨acc, st, po, no, co, hpst, hMb, hrow, hac, hcase⟩ := hrel
    have PL : Hid (Pst w wr g V L st B w.heap.size (w.heap.size + 1) c0 r (.slice q1 l1 k1) (.slice q2 l2 k2) (.slice q3 l3 k3) (.slice q4 l4 k4) (.slice q5 l5 k5)) := hpst
    have HML : Hid (wr.heap[M]? = some (.cells (lkC a (.slice po no co) (txt [])).toArray 62 (0, 0))) := hMb
    have HRW : Hid (Row wr (fun i => M < i) 59 3 (.slice po no co) (acc.map encQ)) := hrow
    clear hpst hMb hrow PF HM2
    rcases hcase with ⟨rfl, k, rfl, hk1, hk2, hsep⟩ | ⟨rfl, he⟩
    · obtain ⟨⟨⟨xr, xl, xh⟩, st1⟩, hx⟩ : ∃ p, opt L st = p := ⟨_, rfl⟩
      have HX : Hid (∀ W, Env W g V L st → Calls Tryd.prog 50 #[rp g] W fun e w' => e = .returned (.agg #[.int .i64 xr, .int .i64 xl, .int .i64 xh]) ∧ Env w' g V L st1 ∧ Fr (fun i => i = g) W w') := fun W hW => by
        have := HWAY.out W st hW
        rw [hx] at this
        exact this
      rw [hx] at hk2 hsep
      simp only at hk2 hsep
      have HLA : Hid ((acc.map encQ).length ≤ 800) := by show _ ≤ 800; rw [List.length_map]; omega
      have HK : Hid (acc.length + k ≤ 700 ∧ L.length ≤ st1.i + k ∧ sep L [111, 114] (opt L) k st1 (acc ++ [⟨xr, xl, xh⟩]) = (os, s2)) := ⟨hk1, hk2, hsep⟩
      cases hb_TO : see L [111, 114] st1
      · have hend : (acc ++ [(⟨xr, xl, xh⟩ : Op3)], st1) = (os, s2) := by rw [sep_stop hb_TO] at hsep; exact hsep
        have HEND : Hid ((acc ++ [(⟨xr, xl, xh⟩ : Op3)], st1) = (os, s2)) := hend
        have TO : Hid (∀ W, Env W g V L st1 → Calls Tryd.prog 20 #[rp g, .int .i64 1, .string ⟨#[111, 114]⟩] W fun e w' => e = .returned (.bool false) ∧ Env w' g V L st1 ∧ Fr (fun i => i = g) W w') := fun W hW => by
          have := is_any W g V L st1 1 [111, 114] (.inl ⟨rfl, by kernel_rfl⟩) hW
          unfold tks at this
          rw [hb_TO] at this
          exact this
        clear hend hsep hk1 hk2 hx hb_TO hac
        go_wp2_with (first
      | (go_at_call_of 20 (Value.string ⟨#[111, 114]⟩); refine (TO.out _ PH.out.env).mono ?_; rintro e wi ⟨rfl, he_, hf_⟩; have PI : Hid (Pst w wi g V L st1 B w.heap.size (w.heap.size + 1) c0 r (.slice q1 l1 k1) (.slice q2 l2 k2) (.slice q3 l3 k3) (.slice q4 l4 k4) (.slice q5 l5 k5)) := PH.out.call he_ hf_; have HMI : Hid (wi.heap[M]? = some (.cells (lkC a (.slice p5 n5 c5) (txt [])).toArray 62 (0, 0))) := (hf_.block _ (blk_lt HMH.out) (by { show ¬ _ = g; have := HMR.out; have := HGB.out; omega })).trans HMH.out; have HRI : Hid (Row wi (fun i => M < i) 59 3 (.slice p5 n5 c5) ((acc ++ [(⟨xr, xl, xh⟩ : Op3)]).map encQ)) := HRH.out.mono (fun i hi hl => ⟨hi, hf_.block i hl (by { show ¬ i = g; have h1 : M < i := hi; have := HMR.out; have := HGB.out; omega })⟩); clear he_ hf_)
      | (at_builtin; refine wp_appS (by rfl) _ _ 60 (by rfl) 59 j0 (.agg #[.int .i64 0, .int .i64 0, .int .i64 0]) 3 24 Tryd.underlying60 HJ.out.1 HJ.out.2.1 HJ.out.2.2.1 HJ.out.2.2.2 rfl (by omega) (fun i => M < i) (.slice po no co) (acc.map encQ) (by rfl) (HR1.out.alloc _) (by { have := blk_lt HM1.out; simp at this ⊢; omega }) (encQ ⟨xr, xl, xh⟩) [.int .i64 xr, .int .i64 xl, .int .i64 xh] ⟨w1.heap.size + 1, 0, none⟩ (by rfl) (by rfl) (by { have h1 := World.news_of_block (heap_alloc_new (w1.alloc (.cells #[.int .i64 xr, .int .i64 xl, .int .i64 xh] 59)) (.cells #[.int .i64 xr, .int .i64 xl, .int .i64 xh] 59)); simpa using h1 }) (by rfl) (.cons (.lit _) (.cons (.lit _) (.cons (.lit _) (.nil _ _)))) HLA.out (by omega) ?_; intro v5 w5 hrw hgb hown; obtain ⟨p5, c5, e5⟩ := Row.shape hrw; obtain ⟨n5, hn5⟩ : ∃ n5, (acc.map encQ ++ [encQ ⟨xr, xl, xh⟩]).length = n5 := ⟨_, rfl⟩; rw [hn5] at e5; subst e5; have HM5 : Hid (w5.heap[M]? = some (.cells (lkC a (.slice po no co) (txt [])).toArray 62 (0, 0))) := (hgb.block M (by { have := blk_lt HM1.out; simp at this ⊢; omega }) (fun e => by { have h1 : M < M := hown _ e.symm; omega })).trans ((Below.heap_alloc _ _ _ (by { have := blk_lt HM1.out; omega })).trans HM1.out); have f5 := free_of_blk HM5.out 1; have m5 : w5.cell? ⟨M, 1, none⟩ = some (.slice po no co) := by { rw [cell_of_blk HM5.out]; rfl }; have P5 : Hid (Pst w w5 g V L st1 B w.heap.size (w.heap.size + 1) c0 r (.slice q1 l1 k1) (.slice q2 l2 k2) (.slice q3 l3 k3) (.slice q4 l4 k4) (.slice q5 l5 k5)) := (P1.out.alloc _).grown hgb (fun k hk => ⟨by { have h1 : M < k := hown k hk; have := HMR.out; omega }, HC0.out _ (by { have h1 : M < k := hown k hk; have := HMR.out; omega })⟩); have PH : Hid (Pst w (w5.setCell ⟨M, 1, none⟩ (.slice p5 n5 c5)) g V L st1 B w.heap.size (w.heap.size + 1) c0 r (.slice q1 l1 k1) (.slice q2 l2 k2) (.slice q3 l3 k3) (.slice q4 l4 k4) (.slice q5 l5 k5)) := P5.out.st (fr_put w5 M 1 _) (HC0.out _ (by { have := HMR.out; omega })) HMR.out; have HMH : Hid ((w5.setCell ⟨M, 1, none⟩ (.slice p5 n5 c5)).heap[M]? = some (.cells (lkC a (.slice p5 n5 c5) (txt [])).toArray 62 (0, 0))) := by { rw [blk_set HM5.out]; rfl }; have HRH : Hid (Row (w5.setCell ⟨M, 1, none⟩ (.slice p5 n5 c5)) (fun i => M < i) 59 3 (.slice p5 n5 c5) ((acc ++ [(⟨xr, xl, xh⟩ : Op3)]).map encQ)) := by { rw [List.map_append]; exact hrw.mono (fun i hi hl => ⟨hi, Below.heap_setCell _ _ _ _ (by { have h1 : M < i := hi; show i ≠ M; omega })⟩) }; clear hgb hown hn5)
      | (go_at_call 50; refine (HX.out _ PL.out.env).mono ?_; rintro e w1 ⟨rfl, he_, hf_⟩; have P1 : Hid (Pst w (w1.alloc (.cells #[.int .i64 xr, .int .i64 xl, .int .i64 xh] 59)) g V L st1 B w.heap.size (w.heap.size + 1) c0 r (.slice q1 l1 k1) (.slice q2 l2 k2) (.slice q3 l3 k3) (.slice q4 l4 k4) (.slice q5 l5 k5)) := (PL.out.call he_ hf_).alloc _; have HM1 : Hid ((w1.alloc (.cells #[.int .i64 xr, .int .i64 xl, .int .i64 xh] 59)).heap[M]? = some (.cells (lkC a (.slice po no co) (txt [])).toArray 62 (0, 0))) := (Below.heap_alloc _ _ _ (Nat.lt_of_lt_of_le (blk_lt HML.out) hf_.size)).trans ((hf_.block _ (blk_lt HML.out) (by { show ¬ _ = g; have := HMR.out; have := HGB.out; omega })).trans HML.out); have HR1 : Hid (Row (w1.alloc (.cells #[.int .i64 xr, .int .i64 xl, .int .i64 xh] 59)) (fun i => M < i) 59 3 (.slice po no co) (acc.map encQ)) := (HRW.out.mono (fun i hi hl => ⟨hi, hf_.block i hl (by { show ¬ i = g; have h1 : M < i := hi; have := HMR.out; have := HGB.out; omega })⟩)).alloc _; have m1 : (w1.alloc (.cells #[.int .i64 xr, .int .i64 xl, .int .i64 xh] 59)).cell? ⟨M, 1, none⟩ = some (.slice po no co) := by { rw [cell_of_blk HM1.out]; rfl }; clear he_ hf_))
        go_roundg k
        case measure => omega
        case rel =>
          refine ⟨acc ++ [⟨xr, xl, xh⟩], st1, p5, n5, c5, PI.out, HMI.out, HRI.out, by have := HK.out.1; simp; omega, .inr ⟨rfl, HEND.out⟩⟩
      · have hlt := (see_lt hb_TO).2
        obtain ⟨kk, rfl⟩ : ∃ kk, k = kk + 1 := ⟨k - 1, by omega⟩
        rw [sep_step hb_TO] at hsep
        have hg2 := opt_g L st1.adv
        have HK2 : Hid (acc.length + 1 + kk ≤ 700 ∧ L.length ≤ (opt L st1.adv).2.i + kk ∧ sep L [111, 114] (opt L) kk (opt L st1.adv).2 (acc ++ [⟨xr, xl, xh⟩] ++ [(opt L st1.adv).1]) = (os, s2)) := ⟨by omega, by have e1 : st1.adv.i = st1.i + 1 := rfl; omega, hsep⟩
        have TO : Hid (∀ W, Env W g V L st1 → Calls Tryd.prog 20 #[rp g, .int .i64 1, .string ⟨#[111, 114]⟩] W fun e w' => e = .returned (.bool true) ∧ Env w' g V L st1.adv ∧ Fr (fun i => i = g) W w') := fun W hW => by
          have := is_any W g V L st1 1 [111, 114] (.inl ⟨rfl, by kernel_rfl⟩) hW
          unfold tks at this
          rw [hb_TO] at this
          exact this
        clear hsep hk1 hk2 hx hb_TO hac hlt hg2 HK
        go_wp2_with (first
      | (go_at_call_of 20 (Value.string ⟨#[111, 114]⟩); refine (TO.out _ PH.out.env).mono ?_; rintro e wi ⟨rfl, he_, hf_⟩; have PI : Hid (Pst w wi g V L st1.adv B w.heap.size (w.heap.size + 1) c0 r (.slice q1 l1 k1) (.slice q2 l2 k2) (.slice q3 l3 k3) (.slice q4 l4 k4) (.slice q5 l5 k5)) := PH.out.call he_ hf_; have HMI : Hid (wi.heap[M]? = some (.cells (lkC a (.slice p5 n5 c5) (txt [])).toArray 62 (0, 0))) := (hf_.block _ (blk_lt HMH.out) (by { show ¬ _ = g; have := HMR.out; have := HGB.out; omega })).trans HMH.out; have HRI : Hid (Row wi (fun i => M < i) 59 3 (.slice p5 n5 c5) ((acc ++ [(⟨xr, xl, xh⟩ : Op3)]).map encQ)) := HRH.out.mono (fun i hi hl => ⟨hi, hf_.block i hl (by { show ¬ i = g; have h1 : M < i := hi; have := HMR.out; have := HGB.out; omega })⟩); clear he_ hf_)
      | (at_builtin; refine wp_appS (by rfl) _ _ 60 (by rfl) 59 j0 (.agg #[.int .i64 0, .int .i64 0, .int .i64 0]) 3 24 Tryd.underlying60 HJ.out.1 HJ.out.2.1 HJ.out.2.2.1 HJ.out.2.2.2 rfl (by omega) (fun i => M < i) (.slice po no co) (acc.map encQ) (by rfl) (HR1.out.alloc _) (by { have := blk_lt HM1.out; simp at this ⊢; omega }) (encQ ⟨xr, xl, xh⟩) [.int .i64 xr, .int .i64 xl, .int .i64 xh] ⟨w1.heap.size + 1, 0, none⟩ (by rfl) (by rfl) (by { have h1 := World.news_of_block (heap_alloc_new (w1.alloc (.cells #[.int .i64 xr, .int .i64 xl, .int .i64 xh] 59)) (.cells #[.int .i64 xr, .int .i64 xl, .int .i64 xh] 59)); simpa using h1 }) (by rfl) (.cons (.lit _) (.cons (.lit _) (.cons (.lit _) (.nil _ _)))) HLA.out (by omega) ?_; intro v5 w5 hrw hgb hown; obtain ⟨p5, c5, e5⟩ := Row.shape hrw; obtain ⟨n5, hn5⟩ : ∃ n5, (acc.map encQ ++ [encQ ⟨xr, xl, xh⟩]).length = n5 := ⟨_, rfl⟩; rw [hn5] at e5; subst e5; have HM5 : Hid (w5.heap[M]? = some (.cells (lkC a (.slice po no co) (txt [])).toArray 62 (0, 0))) := (hgb.block M (by { have := blk_lt HM1.out; simp at this ⊢; omega }) (fun e => by { have h1 : M < M := hown _ e.symm; omega })).trans ((Below.heap_alloc _ _ _ (by { have := blk_lt HM1.out; omega })).trans HM1.out); have f5 := free_of_blk HM5.out 1; have m5 : w5.cell? ⟨M, 1, none⟩ = some (.slice po no co) := by { rw [cell_of_blk HM5.out]; rfl }; have P5 : Hid (Pst w w5 g V L st1 B w.heap.size (w.heap.size + 1) c0 r (.slice q1 l1 k1) (.slice q2 l2 k2) (.slice q3 l3 k3) (.slice q4 l4 k4) (.slice q5 l5 k5)) := (P1.out.alloc _).grown hgb (fun k hk => ⟨by { have h1 : M < k := hown k hk; have := HMR.out; omega }, HC0.out _ (by { have h1 : M < k := hown k hk; have := HMR.out; omega })⟩); have PH : Hid (Pst w (w5.setCell ⟨M, 1, none⟩ (.slice p5 n5 c5)) g V L st1 B w.heap.size (w.heap.size + 1) c0 r (.slice q1 l1 k1) (.slice q2 l2 k2) (.slice q3 l3 k3) (.slice q4 l4 k4) (.slice q5 l5 k5)) := P5.out.st (fr_put w5 M 1 _) (HC0.out _ (by { have := HMR.out; omega })) HMR.out; have HMH : Hid ((w5.setCell ⟨M, 1, none⟩ (.slice p5 n5 c5)).heap[M]? = some (.cells (lkC a (.slice p5 n5 c5) (txt [])).toArray 62 (0, 0))) := by { rw [blk_set HM5.out]; rfl }; have HRH : Hid (Row (w5.setCell ⟨M, 1, none⟩ (.slice p5 n5 c5)) (fun i => M < i) 59 3 (.slice p5 n5 c5) ((acc ++ [(⟨xr, xl, xh⟩ : Op3)]).map encQ)) := by { rw [List.map_append]; exact hrw.mono (fun i hi hl => ⟨hi, Below.heap_setCell _ _ _ _ (by { have h1 : M < i := hi; show i ≠ M; omega })⟩) }; clear hgb hown hn5)
      | (go_at_call 50; refine (HX.out _ PL.out.env).mono ?_; rintro e w1 ⟨rfl, he_, hf_⟩; have P1 : Hid (Pst w (w1.alloc (.cells #[.int .i64 xr, .int .i64 xl, .int .i64 xh] 59)) g V L st1 B w.heap.size (w.heap.size + 1) c0 r (.slice q1 l1 k1) (.slice q2 l2 k2) (.slice q3 l3 k3) (.slice q4 l4 k4) (.slice q5 l5 k5)) := (PL.out.call he_ hf_).alloc _; have HM1 : Hid ((w1.alloc (.cells #[.int .i64 xr, .int .i64 xl, .int .i64 xh] 59)).heap[M]? = some (.cells (lkC a (.slice po no co) (txt [])).toArray 62 (0, 0))) := (Below.heap_alloc _ _ _ (Nat.lt_of_lt_of_le (blk_lt HML.out) hf_.size)).trans ((hf_.block _ (blk_lt HML.out) (by { show ¬ _ = g; have := HMR.out; have := HGB.out; omega })).trans HML.out); have HR1 : Hid (Row (w1.alloc (.cells #[.int .i64 xr, .int .i64 xl, .int .i64 xh] 59)) (fun i => M < i) 59 3 (.slice po no co) (acc.map encQ)) := (HRW.out.mono (fun i hi hl => ⟨hi, hf_.block i hl (by { show ¬ i = g; have h1 : M < i := hi; have := HMR.out; have := HGB.out; omega })⟩)).alloc _; have m1 : (w1.alloc (.cells #[.int .i64 xr, .int .i64 xl, .int .i64 xh] 59)).cell? ⟨M, 1, none⟩ = some (.slice po no co) := by { rw [cell_of_blk HM1.out]; rfl }; clear he_ hf_))
        go_roundg (kk + 1)
        case measure => omega
        case rel =>
          have h2 := HK2.out
          refine ⟨acc ++ [⟨xr, xl, xh⟩], st1.adv, p5, n5, c5, PI.out, HMI.out, HRI.out, by simp; omega, .inl ⟨rfl, kk, rfl, by simp; omega, h2.2.1, h2.2.2⟩⟩
    · simp only [Prod.mk.injEq] at he
      obtain ⟨rfl, rfl⟩ := he
      have HH0 : Hid (Holds wr (fun i => M < i) (.row 59 3 (acc.map encQ)) (.slice po no co)) := HRW.out.holds
      clear hac HRW HWAY HOS HJ
      go_wp2_with (first
      | (at_builtin; refine wp_appS (by rfl) _ _ 39 (by rfl) 62 i0 (.agg #[.string ByteArray.empty, .slice none 0 0, .string ByteArray.empty]) 3 56 Tryd.underlying39 HI.out.1 HI.out.2.1 HI.out.2.2.1 HI.out.2.2.2 rfl (by omega) (Cq B (pcol2 c0 M M 4) 4) (.slice q4 l4 k4) (r.k.map encK) (by rfl) (PC.out.rr.r4.alloc _) (HSZ.out _) (encK ⟨a, acc, b⟩) (lkC a (.slice po no co) b) ⟨wm.heap.size, 0, none⟩ (by rfl) (by rfl) (World.news_of_block (heap_alloc_new _ _)) (by rfl) ((holdsK (k := ⟨a, acc, b⟩) (HHm.out.mono (fun i hi _ => ⟨⟨⟨by { have h1 : M < i := hi; have := HMR.out; have := HGB.out; omega }, pcol2_new (by { have h1 : M < i := hi; omega }) (by { have h1 : M < i := hi; omega })⟩, fun e => by { have h2 := HOW.out _ e; have h1 : M < i := hi; have := HMR.out; omega }⟩, rfl⟩))).on ((Fr.refl _ _).alloc _)) HLN.out (by omega) ?_; intro v5 w5 hrw hgb hown; obtain ⟨p5, cap5, e5⟩ := Row.shape hrw; obtain ⟨n5, hn5⟩ : ∃ n5, (r.k.map encK ++ [encK ⟨a, acc, b⟩]).length = n5 := ⟨_, rfl⟩; rw [hn5] at e5; subst e5; have HU5 : Hid (w5.heap[w.heap.size]? = some (.cells (ruC r.n (.slice q1 l1 k1) (.slice q2 l2 k2) (.slice q3 l3 k3) (.slice q4 l4 k4) r.e.ty (.slice q5 l5 k5)).toArray 44 (0, 0))) := (hgb.block w.heap.size (by { have := blk_lt (PC.out.alloc (.cells (lkC a (.slice po no co) b).toArray 62)).blk; exact this }) (fun e => by { have h1 := (hown _ e.symm).2; have h2 := PC.out.c0.1; omega })).trans (PC.out.alloc (.cells (lkC a (.slice po no co) b).toArray 62)).blk; have f5 := free_of_blk HU5.out 4; have c5 : w5.cell? ⟨w.heap.size, 4, none⟩ = some (.slice q4 l4 k4) := by { rw [cell_of_blk HU5.out]; rfl }; have PD : Hid (Pst w (w5.setCell ⟨w.heap.size, 4, none⟩ (.slice p5 n5 cap5)) g V L s3 B w.heap.size (w.heap.size + 1) (pcol2 c0 M M 4) { r with k := r.k ++ [⟨a, acc, b⟩] } (.slice q1 l1 k1) (.slice q2 l2 k2) (.slice q3 l3 k3) (.slice p5 n5 cap5) (.slice q5 l5 k5)) := (PC.out.alloc (.cells (lkC a (.slice po no co) b).toArray 62)).app4 hgb hown (fun _ _ _ _ => rfl) PC.out.c0 hrw; clear hrw hgb hown hn5)
      | (go_at_call_of 22 (Value.string ⟨#[59]⟩); refine (HWE.out _ PD.out.env).mono ?_; rintro e wz ⟨rfl, he_, hf_⟩; have PZ : Hid (Pst w wz g V L sE B w.heap.size (w.heap.size + 1) (pcol2 c0 M M 4) { r with k := r.k ++ [⟨a, acc, b⟩] } (.slice q1 l1 k1) (.slice q2 l2 k2) (.slice q3 l3 k3) (.slice p5 n5 cap5) (.slice q5 l5 k5)) := PD.out.call he_ hf_; clear he_ hf_)
      | ((with_reducible show wpList _ _ _ (Oper.mk _ (.load _ _) _ _ _ _ :: _) _ _); refine wp_ld (by rfl) 44 _ (by rfl) w.heap.size (ruC r.n (.slice q1 l1 k1) (.slice q2 l2 k2) (.slice q3 l3 k3) (.slice p5 n5 cap5) r.e.ty (.slice q5 l5 k5)) 44 _ (by rfl) PZ.out.blk Tryd.underlying44 rfl (by kernel_rfl) ?_)
      | ((with_reducible show wpList _ _ _ (Oper.mk _ (.store _ _ _) _ _ _ _ :: _) _ _); refine wp_st (by rfl) 44 _ _ (by rfl) (w.heap.size + 1) 0 ru0 44 (.agg #[.string r.n, (.slice q1 l1 k1), (.slice q2 l2 k2), (.slice q3 l3 k3), (.slice p5 n5 cap5), .string r.e.ty, (.slice q5 l5 k5)]) (ruC r.n (.slice q1 l1 k1) (.slice q2 l2 k2) (.slice q3 l3 k3) (.slice p5 n5 cap5) r.e.ty (.slice q5 l5 k5)) (by rfl) (by rfl) (by rfl) PZ.out.res (Nat.le_of_ble_eq_true rfl) (by kernel_rfl) (by rfl) ?_; intro w9 hw9 hf9; have H9 : Hid (w9.heap[(w.heap.size + 1)]? = some (.cells (ruC r.n (.slice q1 l1 k1) (.slice q2 l2 k2) (.slice q3 l3 k3) (.slice p5 n5 cap5) r.e.ty (.slice q5 l5 k5)).toArray 44 (0, 0)) ∧ RR w9 B (pcol2 c0 M M 4) { r with k := r.k ++ [⟨a, acc, b⟩] } (.slice q1 l1 k1) (.slice q2 l2 k2) (.slice q3 l3 k3) (.slice p5 n5 cap5) (.slice q5 l5 k5) ∧ Env w9 g V L sE ∧ Fr (fun i => i = g ∨ B ≤ i) w w9) := ⟨hw9, PZ.out.fin hf9⟩; clear hw9 hf9)
      | ((with_reducible show wpList _ _ _ (Oper.mk _ (.load _ _) _ _ _ _ :: _) _ _); refine wp_ld (by rfl) 62 _ (by rfl) M (lkC a (.slice po no co) b) 62 _ (by rfl) HMm.out Tryd.underlying62 rfl (by kernel_rfl) ?_)
      | ((with_reducible show wpList _ _ _ (Oper.mk _ (.store _ _ _) _ _ _ _ :: _) _ _); refine wp_st (by rfl) 9 _ _ (by rfl) M 2 (lkC a (.slice po no co) (txt [])) 62 (.string b) [.string b] (by rfl) (by rfl) (by rfl) HMk.out (Nat.le_of_ble_eq_true rfl) (by kernel_rfl) (by rfl) ?_; intro wm hw_ hf_; have HMm : Hid (wm.heap[M]? = some (.cells (lkC a (.slice po no co) b).toArray 62 (0, 0))) := hw_; have PM : Hid (Pst w wm g V L s3 B w.heap.size (w.heap.size + 1) c0 r (.slice q1 l1 k1) (.slice q2 l2 k2) (.slice q3 l3 k3) (.slice q4 l4 k4) (.slice q5 l5 k5)) := PK.out.st hf_ (HC0.out _ (by { have := HMR.out; omega })) HMR.out; have HHm : Hid (Holds wm (fun i => M < i) (.row 59 3 (acc.map encQ)) (.slice po no co)) := HHk.out.mono (fun i hi hl => ⟨hi, hf_.block i hl (by { have h1 : M < i := hi; show ¬ i = M; omega })⟩); have PC : Hid (Pst w wm g V L s3 B w.heap.size (w.heap.size + 1) (pcol2 c0 M M 4) r (.slice q1 l1 k1) (.slice q2 l2 k2) (.slice q3 l3 k3) (.slice q4 l4 k4) (.slice q5 l5 k5)) := PM.out.recol (fun i _ h1 _ => pcol2_old HC0.out (by { have := HMR.out; omega }) h1) ⟨pcol2_zero HC0.out (Nat.le_refl _) (by { have := HMR.out; omega }), pcol2_zero HC0.out (Nat.le_succ _) (by { have := HMR.out; omega })⟩; have HSZ : Hid (∀ o, Cq B (pcol2 c0 M M 4) 4 (wm.alloc o).heap.size) := fun o => ⟨by { have h1 := blk_lt PC.out.res; have := HGB.out; simp; omega }, pcol2_new (by { have h2 := blk_lt HMm.out; simp; omega }) (by { have h2 := blk_lt HMm.out; simp; omega })⟩; have cU : wm.cell? ⟨w.heap.size, 4, none⟩ = some (.slice q4 l4 k4) := PM.out.cell 4; clear hw_ hf_)
      | (go_at_call 21; refine (HNB.out _ PL.out.env).mono ?_; rintro e wk ⟨rfl, he_, hf_⟩; have PK : Hid (Pst w wk g V L s3 B w.heap.size (w.heap.size + 1) c0 r (.slice q1 l1 k1) (.slice q2 l2 k2) (.slice q3 l3 k3) (.slice q4 l4 k4) (.slice q5 l5 k5)) := PL.out.call he_ hf_; have HMk : Hid (wk.heap[M]? = some (.cells (lkC a (.slice po no co) (txt [])).toArray 62 (0, 0))) := (hf_.block _ (blk_lt HML.out) (by { show ¬ _ = g; have := HMR.out; have := HGB.out; omega })).trans HML.out; have HHk : Hid (Holds wk (fun i => M < i) (.row 59 3 (acc.map encQ)) (.slice po no co)) := HH0.out.mono (fun i hi hl => ⟨hi, hf_.block i hl (by { have h1 : M < i := hi; show ¬ i = g; have := HMR.out; have := HGB.out; omega })⟩); clear he_ hf_))
      refine ret_loc (w.heap.size + 1) _ _ _ H9.out.1 rfl rfl (by rfl) Tryd.underlying44 rfl (by kernel_rfl) ?_
      exact ⟨(pcol2 c0 M M 4), (.slice q1 l1 k1), (.slice q2 l2 k2), (.slice q3 l3 k3), (.slice p5 n5 cap5), (.slice q5 l5 k5), rfl, H9.out.2⟩
end Go.Proofs.YtnlmkdncifijlaaDoor.Ref
