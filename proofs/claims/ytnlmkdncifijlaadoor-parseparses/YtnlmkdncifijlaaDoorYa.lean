/-
  The reference reads a part of a rule: an emit.
-/
import Derived.Test.YtnlmkdncifijlaaDoorY9
import Derived.Deep.LoopGhost
namespace Go.Proofs.YtnlmkdncifijlaaDoor.Ref
open Go.ChangeShapes Go.WideShapes Go.ChangeAt Go.RowKit Go.Maps
set_option linter.unusedVariables false
set_option linter.unusedSimpArgs false
set_option maxRecDepth 20000
theorem Pst.ty {w0 w : World} {g B U R : Nat} {V : Value} {L : List Tk} {s : St} {col : Nat → Nat} {r : Rl} {wv tv mv kv ev : Value} (h : Pst w0 w g V L s B U R col r wv tv mv kv ev) (a : ByteArray) : Pst w0 (w.setCell ⟨U, 5, none⟩ (.string a)) g V L s B U R col { r with e := ⟨a, r.e.v⟩ } wv tv mv kv ev := by
  have hlo := h.lo
  have h0 := h.c0
  have hset : ∀ i, i ≠ U → (w.setCell ⟨U, 5, none⟩ (.string a)).heap[i]? = w.heap[i]? := fun i hi => Below.heap_setCell _ _ _ _ hi
  have hr : RR (w.setCell ⟨U, 5, none⟩ (.string a)) B col r wv tv mv kv ev := h.rr.mono fun i hi h1 hl => ⟨rfl, hset i (fun e => by rw [e, h0.1] at h1; omega)⟩
  refine ⟨h.env.setCell _ (by show g < U; omega) _, ⟨hr.r1, hr.r2, hr.r3, hr.r4, hr.r5⟩, ?_, (hset R (by omega)).trans h.res, h.fr.setCell (p := ⟨U, 5, none⟩) (.inl (.inr hlo.2.1)) _, hlo, h0⟩
  rw [blk_set h.blk]
  rfl
set_option maxHeartbeats 8000000 in
theorem part_emit0 (w : World) (g : Nat) (V : Value) (L : List Tk) (s : St) (B : Nat) (col : Nat → Nat) (r : Rl) (wv tv mv kv ev : Value) (h : Env w g V L s) (hr : RR w B col r wv tv mv kv ev) (hg : g < B) (hB : B ≤ w.heap.size) (h0 : s.o = 0) (hlen : r.w.length ≤ 700 ∧ r.t.length ≤ 700 ∧ r.m.length ≤ 700 ∧ r.k.length ≤ 700) (hb_T1 : see L [119, 104, 101, 110] s = false) (hb_T2 : see L [110, 111, 116] s = false) (hb_T3 : see L [109, 97, 110, 121] s = false) (hb_T4 : see L [119, 104, 101, 114, 101] s = false) (hty : r.e.ty.data.toList = []) (hev : r.e.v = []) (hb_T5 : see L [101, 109, 105, 116] s = true) (a : ByteArray) (s1 : St) (h_a : (nam L s.adv).1 = a) (h_s1 : (nam L s.adv).2 = s1) (s2 : St) (h_s2 : wnt L [40] s1 = s2) (hb_TC : see L [41] s2 = true) (sE : St) (h_sE : wnt L [59] s2.adv = sE) : Calls Tryd.prog 23 #[rp g, .agg #[.string r.n, wv, tv, mv, kv, .string r.e.ty, ev]] w (PartPost w g V L B { r with e := ⟨a, []⟩ } sE) := by
  obtain ⟨q1, k1, e1⟩ := hr.r1.shape
  obtain ⟨l1, hl1⟩ : ∃ l, (r.w.map encP).length = l := ⟨_, rfl⟩
  rw [hl1] at e1
  subst e1
  obtain ⟨q2, k2, e2⟩ := hr.r2.shape
  obtain ⟨l2, hl2⟩ : ∃ l, (r.t.map encP).length = l := ⟨_, rfl⟩
  rw [hl2] at e2
  subst e2
  obtain ⟨q3, k3, e3⟩ := hr.r3.shape
  obtain ⟨l3, hl3⟩ : ∃ l, (r.m.map encM).length = l := ⟨_, rfl⟩
  rw [hl3] at e3
  subst e3
  obtain ⟨q4, k4, e4⟩ := hr.r4.shape
  obtain ⟨l4, hl4⟩ : ∃ l, (r.k.map encK).length = l := ⟨_, rfl⟩
  rw [hl4] at e4
  subst e4
  obtain ⟨q5, k5, e5⟩ := hr.r5.shape
  obtain ⟨l5, hl5⟩ : ∃ l, (r.e.v.map encO).length = l := ⟨_, rfl⟩
  rw [hl5] at e5
  subst e5
  obtain ⟨c0, hc0⟩ : ∃ c0, pcol col w.heap.size = c0 := ⟨_, rfl⟩
  have HC0 : Hid (∀ i, w.heap.size ≤ i → c0 i = 0) := fun i hi => by rw [← hc0]; unfold pcol; exact if_neg (by omega)
  have hst := pst_start h hr hg hB
  rw [hc0] at hst
  clear hl1 hl2 hl3 hl4 hl5
  have T1 : Hid (∀ W, Env W g V L s → Calls Tryd.prog 20 #[rp g, .int .i64 1, .string ⟨#[119, 104, 101, 110]⟩] W fun e w' => e = .returned (.bool false) ∧ Env w' g V L s ∧ Fr (fun i => i = g) W w') := fun W hW => by
    have := is_any W g V L s 1 [119, 104, 101, 110] (.inl ⟨rfl, by kernel_rfl⟩) hW
    unfold tks at this
    rw [hb_T1] at this
    exact this
  have T2 : Hid (∀ W, Env W g V L s → Calls Tryd.prog 20 #[rp g, .int .i64 1, .string ⟨#[110, 111, 116]⟩] W fun e w' => e = .returned (.bool false) ∧ Env w' g V L s ∧ Fr (fun i => i = g) W w') := fun W hW => by
    have := is_any W g V L s 1 [110, 111, 116] (.inl ⟨rfl, by kernel_rfl⟩) hW
    unfold tks at this
    rw [hb_T2] at this
    exact this
  have T3 : Hid (∀ W, Env W g V L s → Calls Tryd.prog 20 #[rp g, .int .i64 1, .string ⟨#[109, 97, 110, 121]⟩] W fun e w' => e = .returned (.bool false) ∧ Env w' g V L s ∧ Fr (fun i => i = g) W w') := fun W hW => by
    have := is_any W g V L s 1 [109, 97, 110, 121] (.inl ⟨rfl, by kernel_rfl⟩) hW
    unfold tks at this
    rw [hb_T3] at this
    exact this
  have T4 : Hid (∀ W, Env W g V L s → Calls Tryd.prog 20 #[rp g, .int .i64 1, .string ⟨#[119, 104, 101, 114, 101]⟩] W fun e w' => e = .returned (.bool false) ∧ Env w' g V L s ∧ Fr (fun i => i = g) W w') := fun W hW => by
    have := is_any W g V L s 1 [119, 104, 101, 114, 101] (.inl ⟨rfl, by kernel_rfl⟩) hW
    unfold tks at this
    rw [hb_T4] at this
    exact this
  have T5 : Hid (∀ W, Env W g V L s → Calls Tryd.prog 20 #[rp g, .int .i64 1, .string ⟨#[101, 109, 105, 116]⟩] W fun e w' => e = .returned (.bool true) ∧ Env w' g V L s.adv ∧ Fr (fun i => i = g) W w') := fun W hW => by
    have := is_any W g V L s 1 [101, 109, 105, 116] (.inl ⟨rfl, by kernel_rfl⟩) hW
    unfold tks at this
    rw [hb_T5] at this
    exact this
  have HNA : Hid (∀ W, Env W g V L s.adv → Calls Tryd.prog 21 #[rp g] W fun e w' => e = .returned (.string a) ∧ Env w' g V L s1 ∧ Fr (fun i => i = g) W w') := fun W hW => by
    have := ident_any W g V L s.adv hW
    rw [h_a, h_s1] at this
    exact this
  have HWO : Hid (∀ W, Env W g V L s1 → Calls Tryd.prog 22 #[rp g, .int .i64 4, .string ⟨#[40]⟩] W fun e w' => e = .returned (.tuple #[]) ∧ Env w' g V L s2 ∧ Fr (fun i => i = g) W w') := fun W hW => by
    have := want_any W g V L s1 4 [40] (.inr ⟨rfl, by decide⟩) hW
    rw [h_s2] at this
    exact this
  have hq1 : (r.e.ty.toList == []) = true := by rw [Lib.toList_data]; simpa using hty
  have hq2 : r.e.ty.toList = [] := by rw [Lib.toList_data]; exact hty
  have TC : Hid (∀ W, Env W g V L s2 → Calls Tryd.prog 20 #[rp g, .int .i64 4, .string ⟨#[41]⟩] W fun e w' => e = .returned (.bool true) ∧ Env w' g V L s2.adv ∧ Fr (fun i => i = g) W w') := fun W hW => by
    have := is_any W g V L s2 4 [41] (.inr ⟨rfl, by decide⟩) hW
    unfold tks at this
    rw [hb_TC] at this
    exact this
  have HWE : Hid (∀ W, Env W g V L s2.adv → Calls Tryd.prog 22 #[rp g, .int .i64 4, .string ⟨#[59]⟩] W fun e w' => e = .returned (.tuple #[]) ∧ Env w' g V L sE ∧ Fr (fun i => i = g) W w') := fun W hW => by
    have := want_any W g V L s2.adv 4 [59] (.inr ⟨rfl, by decide⟩) hW
    rw [h_sE] at this
    exact this
  have P0 : Hid (Pst w ((w.alloc (.cells (ruC r.n (.slice q1 l1 k1) (.slice q2 l2 k2) (.slice q3 l3 k3) (.slice q4 l4 k4) r.e.ty (.slice q5 l5 k5)).toArray 44)).alloc (.cells ru0.toArray 44)) g V L s B w.heap.size (w.heap.size + 1) c0 r (.slice q1 l1 k1) (.slice q2 l2 k2) (.slice q3 l3 k3) (.slice q4 l4 k4) (.slice q5 l5 k5)) := hst
  have E5 : Hid (∀ W st, Pst w W g V L st B w.heap.size (w.heap.size + 1) c0 r (.slice q1 l1 k1) (.slice q2 l2 k2) (.slice q3 l3 k3) (.slice q4 l4 k4) (.slice q5 l5 k5) → W.cell? ⟨w.heap.size, 5, none⟩ = some (.string r.e.ty) ∧ W.frozen? ⟨w.heap.size, 5, none⟩ = false) := fun W st hW => ⟨hW.cell 5, hW.fz 5⟩
  have HEV : Hid (r.e.v = []) := hev
  clear h hr hg hB h0 hlen hc0 hst hb_T1 hb_T2 hb_T3 hb_T4 hb_T5 h_a h_s1 h_s2 hty hev hb_TC h_sE
  go_enter Tryd.func23, Tryd.ntmps23
  go_wp2_with (first
      | (go_at_call_of 22 (Value.string ⟨#[59]⟩); refine (HWE.out _ PV.out.env).mono ?_; rintro e wz ⟨rfl, he_, hf_⟩; have PZ : Hid (Pst w wz g V L sE B w.heap.size (w.heap.size + 1) c0 { r with e := ⟨a, r.e.v⟩ } (.slice q1 l1 k1) (.slice q2 l2 k2) (.slice q3 l3 k3) (.slice q4 l4 k4) (.slice q5 l5 k5)) := PV.out.call he_ hf_; clear he_ hf_)
      | ((with_reducible show wpList _ _ _ (Oper.mk _ (.load _ _) _ _ _ _ :: _) _ _); refine wp_ld (by rfl) 44 _ (by rfl) w.heap.size (ruC r.n (.slice q1 l1 k1) (.slice q2 l2 k2) (.slice q3 l3 k3) (.slice q4 l4 k4) a (.slice q5 l5 k5)) 44 _ (by rfl) PZ.out.blk Tryd.underlying44 rfl (by kernel_rfl) ?_)
      | ((with_reducible show wpList _ _ _ (Oper.mk _ (.store _ _ _) _ _ _ _ :: _) _ _); refine wp_st (by rfl) 44 _ _ (by rfl) (w.heap.size + 1) 0 ru0 44 (.agg #[.string r.n, (.slice q1 l1 k1), (.slice q2 l2 k2), (.slice q3 l3 k3), (.slice q4 l4 k4), .string a, (.slice q5 l5 k5)]) (ruC r.n (.slice q1 l1 k1) (.slice q2 l2 k2) (.slice q3 l3 k3) (.slice q4 l4 k4) a (.slice q5 l5 k5)) (by rfl) (by rfl) (by rfl) PZ.out.res (Nat.le_of_ble_eq_true rfl) (by kernel_rfl) (by rfl) ?_; intro w9 hw9 hf9; have H9 : Hid (w9.heap[(w.heap.size + 1)]? = some (.cells (ruC r.n (.slice q1 l1 k1) (.slice q2 l2 k2) (.slice q3 l3 k3) (.slice q4 l4 k4) a (.slice q5 l5 k5)).toArray 44 (0, 0)) ∧ RR w9 B c0 { r with e := ⟨a, r.e.v⟩ } (.slice q1 l1 k1) (.slice q2 l2 k2) (.slice q3 l3 k3) (.slice q4 l4 k4) (.slice q5 l5 k5) ∧ Env w9 g V L sE ∧ Fr (fun i => i = g ∨ B ≤ i) w w9) := ⟨hw9, PZ.out.fin hf9⟩; clear hw9 hf9)
      | (go_at_call_of 20 (Value.string ⟨#[41]⟩); refine (TC.out _ PU.out.env).mono ?_; rintro e w8 ⟨rfl, he_, hf_⟩; have PV : Hid (Pst w w8 g V L s2.adv B w.heap.size (w.heap.size + 1) c0 { r with e := ⟨a, r.e.v⟩ } (.slice q1 l1 k1) (.slice q2 l2 k2) (.slice q3 l3 k3) (.slice q4 l4 k4) (.slice q5 l5 k5)) := PU.out.call he_ hf_; clear he_ hf_)
      | (go_at_call_of 22 (Value.string ⟨#[40]⟩); refine (HWO.out _ PT.out.env).mono ?_; rintro e w7 ⟨rfl, he_, hf_⟩; have PU : Hid (Pst w w7 g V L s2 B w.heap.size (w.heap.size + 1) c0 { r with e := ⟨a, r.e.v⟩ } (.slice q1 l1 k1) (.slice q2 l2 k2) (.slice q3 l3 k3) (.slice q4 l4 k4) (.slice q5 l5 k5)) := PT.out.call he_ hf_; clear he_ hf_)
      | (go_at_call 21; refine (HNA.out _ PAe.out.env).mono ?_; rintro e w6 ⟨rfl, he_, hf_⟩; have PS : Hid (Pst w w6 g V L s1 B w.heap.size (w.heap.size + 1) c0 r (.slice q1 l1 k1) (.slice q2 l2 k2) (.slice q3 l3 k3) (.slice q4 l4 k4) (.slice q5 l5 k5)) := PAe.out.call he_ hf_; have c6 := (E5.out _ _ PS.out).1; have f6 := (E5.out _ _ PS.out).2; have PT : Hid (Pst w (w6.setCell ⟨w.heap.size, 5, none⟩ (.string a)) g V L s1 B w.heap.size (w.heap.size + 1) c0 { r with e := ⟨a, r.e.v⟩ } (.slice q1 l1 k1) (.slice q2 l2 k2) (.slice q3 l3 k3) (.slice q4 l4 k4) (.slice q5 l5 k5)) := PS.out.ty a; clear he_ hf_)
      | (go_at_call_of 20 (Value.string ⟨#[101, 109, 105, 116]⟩); refine (T5.out _ PAd.out.env).mono ?_; rintro e we ⟨rfl, he_, hf_⟩; have PAe : Hid (Pst w we g V L s.adv B w.heap.size (w.heap.size + 1) c0 r (.slice q1 l1 k1) (.slice q2 l2 k2) (.slice q3 l3 k3) (.slice q4 l4 k4) (.slice q5 l5 k5)) := PAd.out.call he_ hf_; clear he_ hf_)
      | (go_at_call_of 20 (Value.string ⟨#[119, 104, 101, 114, 101]⟩); refine (T4.out _ PAc.out.env).mono ?_; rintro e wd ⟨rfl, he_, hf_⟩; have PAd : Hid (Pst w wd g V L s B w.heap.size (w.heap.size + 1) c0 r (.slice q1 l1 k1) (.slice q2 l2 k2) (.slice q3 l3 k3) (.slice q4 l4 k4) (.slice q5 l5 k5)) := PAc.out.call he_ hf_; clear he_ hf_; have c5 := (E5.out _ _ PAd.out).1)
      | (go_at_call_of 20 (Value.string ⟨#[109, 97, 110, 121]⟩); refine (T3.out _ PAb.out.env).mono ?_; rintro e wc ⟨rfl, he_, hf_⟩; have PAc : Hid (Pst w wc g V L s B w.heap.size (w.heap.size + 1) c0 r (.slice q1 l1 k1) (.slice q2 l2 k2) (.slice q3 l3 k3) (.slice q4 l4 k4) (.slice q5 l5 k5)) := PAb.out.call he_ hf_; clear he_ hf_)
      | (go_at_call_of 20 (Value.string ⟨#[110, 111, 116]⟩); refine (T2.out _ PA.out.env).mono ?_; rintro e wb ⟨rfl, he_, hf_⟩; have PAb : Hid (Pst w wb g V L s B w.heap.size (w.heap.size + 1) c0 r (.slice q1 l1 k1) (.slice q2 l2 k2) (.slice q3 l3 k3) (.slice q4 l4 k4) (.slice q5 l5 k5)) := PA.out.call he_ hf_; clear he_ hf_)
      | (go_at_call_of 20 (Value.string ⟨#[119, 104, 101, 110]⟩); refine (T1.out _ P0.out.env).mono ?_; rintro e wa ⟨rfl, he_, hf_⟩; have PA : Hid (Pst w wa g V L s B w.heap.size (w.heap.size + 1) c0 r (.slice q1 l1 k1) (.slice q2 l2 k2) (.slice q3 l3 k3) (.slice q4 l4 k4) (.slice q5 l5 k5)) := P0.out.call he_ hf_; clear he_ hf_))
  refine ret_loc (w.heap.size + 1) _ _ _ H9.out.1 rfl rfl (by rfl) Tryd.underlying44 rfl (by kernel_rfl) ?_
  have h9 := H9.out.2
  rw [HEV.out] at h9
  exact ⟨c0, (.slice q1 l1 k1), (.slice q2 l2 k2), (.slice q3 l3 k3), (.slice q4 l4 k4), (.slice q5 l5 k5), rfl, h9⟩
set_option maxHeartbeats 8000000 in
theorem part_emit1 (w : World) (g : Nat) (V : Value) (L : List Tk) (s : St) (B : Nat) (col : Nat → Nat) (r : Rl) (wv tv mv kv ev : Value) (h : Env w g V L s) (hr : RR w B col r wv tv mv kv ev) (hg : g < B) (hB : B ≤ w.heap.size) (h0 : s.o = 0) (hlen : r.w.length ≤ 700 ∧ r.t.length ≤ 700 ∧ r.m.length ≤ 700 ∧ r.k.length ≤ 700) (hb_T1 : see L [119, 104, 101, 110] s = false) (hb_T2 : see L [110, 111, 116] s = false) (hb_T3 : see L [109, 97, 110, 121] s = false) (hb_T4 : see L [119, 104, 101, 114, 101] s = false) (hty : r.e.ty.data.toList = []) (hev : r.e.v = []) (hb_T5 : see L [101, 109, 105, 116] s = true) (a : ByteArray) (s1 : St) (h_a : (nam L s.adv).1 = a) (h_s1 : (nam L s.adv).2 = s1) (s2 : St) (h_s2 : wnt L [40] s1 = s2) (hb_TC : see L [41] s2 = false) (os : List Opd) (s3 : St) (hos : sep L [44] (sde L) L.length (sde L s2).2 [(sde L s2).1] = (os, s3)) (s4 : St) (h_s4 : wnt L [41] s3 = s4) (sE : St) (h_sE : wnt L [59] s4 = sE) : Calls Tryd.prog 23 #[rp g, .agg #[.string r.n, wv, tv, mv, kv, .string r.e.ty, ev]] w (PartPost w g V L B { r with e := ⟨a, os⟩ } sE) := by
  obtain ⟨q1, k1, e1⟩ := hr.r1.shape
  obtain ⟨l1, hl1⟩ : ∃ l, (r.w.map encP).length = l := ⟨_, rfl⟩
  rw [hl1] at e1
  subst e1
  obtain ⟨q2, k2, e2⟩ := hr.r2.shape
  obtain ⟨l2, hl2⟩ : ∃ l, (r.t.map encP).length = l := ⟨_, rfl⟩
  rw [hl2] at e2
  subst e2
  obtain ⟨q3, k3, e3⟩ := hr.r3.shape
  obtain ⟨l3, hl3⟩ : ∃ l, (r.m.map encM).length = l := ⟨_, rfl⟩
  rw [hl3] at e3
  subst e3
  obtain ⟨q4, k4, e4⟩ := hr.r4.shape
  obtain ⟨l4, hl4⟩ : ∃ l, (r.k.map encK).length = l := ⟨_, rfl⟩
  rw [hl4] at e4
  subst e4
  obtain ⟨q5, k5, e5⟩ := hr.r5.shape
  obtain ⟨l5, hl5⟩ : ∃ l, (r.e.v.map encO).length = l := ⟨_, rfl⟩
  rw [hl5] at e5
  subst e5
  obtain ⟨c0, hc0⟩ : ∃ c0, pcol col w.heap.size = c0 := ⟨_, rfl⟩
  have HC0 : Hid (∀ i, w.heap.size ≤ i → c0 i = 0) := fun i hi => by rw [← hc0]; unfold pcol; exact if_neg (by omega)
  have hst := pst_start h hr hg hB
  rw [hc0] at hst
  clear hl1 hl2 hl3 hl4 hl5
  obtain ⟨j0, d1, d2, d3, d4⟩ := info_parts infoO
  have HJ : Hid (Tryd.prog.info? 50 = some j0 ∧ j0.zero = some zO ∧ j0.size = 6 ∧ j0.bytes = 72) := ⟨d1, d2, d3, d4⟩
  clear d1 d2 d3 d4
  have T1 : Hid (∀ W, Env W g V L s → Calls Tryd.prog 20 #[rp g, .int .i64 1, .string ⟨#[119, 104, 101, 110]⟩] W fun e w' => e = .returned (.bool false) ∧ Env w' g V L s ∧ Fr (fun i => i = g) W w') := fun W hW => by
    have := is_any W g V L s 1 [119, 104, 101, 110] (.inl ⟨rfl, by kernel_rfl⟩) hW
    unfold tks at this
    rw [hb_T1] at this
    exact this
  have T2 : Hid (∀ W, Env W g V L s → Calls Tryd.prog 20 #[rp g, .int .i64 1, .string ⟨#[110, 111, 116]⟩] W fun e w' => e = .returned (.bool false) ∧ Env w' g V L s ∧ Fr (fun i => i = g) W w') := fun W hW => by
    have := is_any W g V L s 1 [110, 111, 116] (.inl ⟨rfl, by kernel_rfl⟩) hW
    unfold tks at this
    rw [hb_T2] at this
    exact this
  have T3 : Hid (∀ W, Env W g V L s → Calls Tryd.prog 20 #[rp g, .int .i64 1, .string ⟨#[109, 97, 110, 121]⟩] W fun e w' => e = .returned (.bool false) ∧ Env w' g V L s ∧ Fr (fun i => i = g) W w') := fun W hW => by
    have := is_any W g V L s 1 [109, 97, 110, 121] (.inl ⟨rfl, by kernel_rfl⟩) hW
    unfold tks at this
    rw [hb_T3] at this
    exact this
  have T4 : Hid (∀ W, Env W g V L s → Calls Tryd.prog 20 #[rp g, .int .i64 1, .string ⟨#[119, 104, 101, 114, 101]⟩] W fun e w' => e = .returned (.bool false) ∧ Env w' g V L s ∧ Fr (fun i => i = g) W w') := fun W hW => by
    have := is_any W g V L s 1 [119, 104, 101, 114, 101] (.inl ⟨rfl, by kernel_rfl⟩) hW
    unfold tks at this
    rw [hb_T4] at this
    exact this
  have T5 : Hid (∀ W, Env W g V L s → Calls Tryd.prog 20 #[rp g, .int .i64 1, .string ⟨#[101, 109, 105, 116]⟩] W fun e w' => e = .returned (.bool true) ∧ Env w' g V L s.adv ∧ Fr (fun i => i = g) W w') := fun W hW => by
    have := is_any W g V L s 1 [101, 109, 105, 116] (.inl ⟨rfl, by kernel_rfl⟩) hW
    unfold tks at this
    rw [hb_T5] at this
    exact this
  have HNA : Hid (∀ W, Env W g V L s.adv → Calls Tryd.prog 21 #[rp g] W fun e w' => e = .returned (.string a) ∧ Env w' g V L s1 ∧ Fr (fun i => i = g) W w') := fun W hW => by
    have := ident_any W g V L s.adv hW
    rw [h_a, h_s1] at this
    exact this
  have HWO : Hid (∀ W, Env W g V L s1 → Calls Tryd.prog 22 #[rp g, .int .i64 4, .string ⟨#[40]⟩] W fun e w' => e = .returned (.tuple #[]) ∧ Env w' g V L s2 ∧ Fr (fun i => i = g) W w') := fun W hW => by
    have := want_any W g V L s1 4 [40] (.inr ⟨rfl, by decide⟩) hW
    rw [h_s2] at this
    exact this
  have hq1 : (r.e.ty.toList == []) = true := by rw [Lib.toList_data]; simpa using hty
  have hq2 : r.e.ty.toList = [] := by rw [Lib.toList_data]; exact hty
  have TC : Hid (∀ W, Env W g V L s2 → Calls Tryd.prog 20 #[rp g, .int .i64 4, .string ⟨#[41]⟩] W fun e w' => e = .returned (.bool false) ∧ Env w' g V L s2 ∧ Fr (fun i => i = g) W w') := fun W hW => by
    have := is_any W g V L s2 4 [41] (.inr ⟨rfl, by decide⟩) hW
    unfold tks at this
    rw [hb_TC] at this
    exact this
  have HWC : Hid (∀ W, Env W g V L s3 → Calls Tryd.prog 22 #[rp g, .int .i64 4, .string ⟨#[41]⟩] W fun e w' => e = .returned (.tuple #[]) ∧ Env w' g V L s4 ∧ Fr (fun i => i = g) W w') := fun W hW => by
    have := want_any W g V L s3 4 [41] (.inr ⟨rfl, by decide⟩) hW
    rw [h_s4] at this
    exact this
  have HWE : Hid (∀ W, Env W g V L s4 → Calls Tryd.prog 22 #[rp g, .int .i64 4, .string ⟨#[59]⟩] W fun e w' => e = .returned (.tuple #[]) ∧ Env w' g V L sE ∧ Fr (fun i => i = g) W w') := fun W hW => by
    have := want_any W g V L s4 4 [59] (.inr ⟨rfl, by decide⟩) hW
    rw [h_sE] at this
    exact this
  have P0 : Hid (Pst w ((w.alloc (.cells (ruC r.n (.slice q1 l1 k1) (.slice q2 l2 k2) (.slice q3 l3 k3) (.slice q4 l4 k4) r.e.ty (.slice q5 l5 k5)).toArray 44)).alloc (.cells ru0.toArray 44)) g V L s B w.heap.size (w.heap.size + 1) c0 r (.slice q1 l1 k1) (.slice q2 l2 k2) (.slice q3 l3 k3) (.slice q4 l4 k4) (.slice q5 l5 k5)) := hst
  have E5 : Hid (∀ W st, Pst w W g V L st B w.heap.size (w.heap.size + 1) c0 r (.slice q1 l1 k1) (.slice q2 l2 k2) (.slice q3 l3 k3) (.slice q4 l4 k4) (.slice q5 l5 k5) → W.cell? ⟨w.heap.size, 5, none⟩ = some (.string r.e.ty) ∧ W.frozen? ⟨w.heap.size, 5, none⟩ = false) := fun W st hW => ⟨hW.cell 5, hW.fz 5⟩
  have HEV : Hid (r.e.v = []) := hev
  have HGB : Hid (g < B ∧ B ≤ w.heap.size) := ⟨hg, hB⟩
  have HLEN : Hid (L.length ≤ 700) := h.len
  have HOS : Hid (sep L [44] (sde L) L.length (sde L s2).2 [(sde L s2).1] = (os, s3)) := hos
  have HSD : Hid (∀ W st, Env W g V L st → Calls Tryd.prog 51 #[rp g] W fun e w' => e = .returned (opV (sde L st).1) ∧ Env w' g V L (sde L st).2 ∧ Fr (fun i => i = g) W w') := fun W st hW => side_any W g V L st hW
  clear h hr hg hB h0 hlen hc0 hst hb_T1 hb_T2 hb_T3 hb_T4 hb_T5 h_a h_s1 h_s2 hty hev hb_TC h_s4 h_sE hos
  go_enter Tryd.func23, Tryd.ntmps23
  go_wp2_with (first
      | (go_at_call_of 20 (Value.string ⟨#[41]⟩); refine (TC.out _ PU.out.env).mono ?_; rintro e w8 ⟨rfl, he_, hf_⟩; have PV : Hid (Pst w w8 g V L s2 B w.heap.size (w.heap.size + 1) c0 { r with e := ⟨a, r.e.v⟩ } (.slice q1 l1 k1) (.slice q2 l2 k2) (.slice q3 l3 k3) (.slice q4 l4 k4) (.slice q5 l5 k5)) := PU.out.call he_ hf_; clear he_ hf_)
      | (go_at_call_of 22 (Value.string ⟨#[40]⟩); refine (HWO.out _ PT.out.env).mono ?_; rintro e w7 ⟨rfl, he_, hf_⟩; have PU : Hid (Pst w w7 g V L s2 B w.heap.size (w.heap.size + 1) c0 { r with e := ⟨a, r.e.v⟩ } (.slice q1 l1 k1) (.slice q2 l2 k2) (.slice q3 l3 k3) (.slice q4 l4 k4) (.slice q5 l5 k5)) := PT.out.call he_ hf_; clear he_ hf_)
      | (go_at_call 21; refine (HNA.out _ PAe.out.env).mono ?_; rintro e w6 ⟨rfl, he_, hf_⟩; have PS : Hid (Pst w w6 g V L s1 B w.heap.size (w.heap.size + 1) c0 r (.slice q1 l1 k1) (.slice q2 l2 k2) (.slice q3 l3 k3) (.slice q4 l4 k4) (.slice q5 l5 k5)) := PAe.out.call he_ hf_; have c6 := (E5.out _ _ PS.out).1; have f6 := (E5.out _ _ PS.out).2; have PT : Hid (Pst w (w6.setCell ⟨w.heap.size, 5, none⟩ (.string a)) g V L s1 B w.heap.size (w.heap.size + 1) c0 { r with e := ⟨a, r.e.v⟩ } (.slice q1 l1 k1) (.slice q2 l2 k2) (.slice q3 l3 k3) (.slice q4 l4 k4) (.slice q5 l5 k5)) := PS.out.ty a; clear he_ hf_)
      | (go_at_call_of 20 (Value.string ⟨#[101, 109, 105, 116]⟩); refine (T5.out _ PAd.out.env).mono ?_; rintro e we ⟨rfl, he_, hf_⟩; have PAe : Hid (Pst w we g V L s.adv B w.heap.size (w.heap.size + 1) c0 r (.slice q1 l1 k1) (.slice q2 l2 k2) (.slice q3 l3 k3) (.slice q4 l4 k4) (.slice q5 l5 k5)) := PAd.out.call he_ hf_; clear he_ hf_)
      | (go_at_call_of 20 (Value.string ⟨#[119, 104, 101, 114, 101]⟩); refine (T4.out _ PAc.out.env).mono ?_; rintro e wd ⟨rfl, he_, hf_⟩; have PAd : Hid (Pst w wd g V L s B w.heap.size (w.heap.size + 1) c0 r (.slice q1 l1 k1) (.slice q2 l2 k2) (.slice q3 l3 k3) (.slice q4 l4 k4) (.slice q5 l5 k5)) := PAc.out.call he_ hf_; clear he_ hf_; have c5 := (E5.out _ _ PAd.out).1)
      | (go_at_call_of 20 (Value.string ⟨#[109, 97, 110, 121]⟩); refine (T3.out _ PAb.out.env).mono ?_; rintro e wc ⟨rfl, he_, hf_⟩; have PAc : Hid (Pst w wc g V L s B w.heap.size (w.heap.size + 1) c0 r (.slice q1 l1 k1) (.slice q2 l2 k2) (.slice q3 l3 k3) (.slice q4 l4 k4) (.slice q5 l5 k5)) := PAb.out.call he_ hf_; clear he_ hf_)
      | (go_at_call_of 20 (Value.string ⟨#[110, 111, 116]⟩); refine (T2.out _ PA.out.env).mono ?_; rintro e wb ⟨rfl, he_, hf_⟩; have PAb : Hid (Pst w wb g V L s B w.heap.size (w.heap.size + 1) c0 r (.slice q1 l1 k1) (.slice q2 l2 k2) (.slice q3 l3 k3) (.slice q4 l4 k4) (.slice q5 l5 k5)) := PA.out.call he_ hf_; clear he_ hf_)
      | (go_at_call_of 20 (Value.string ⟨#[119, 104, 101, 110]⟩); refine (T1.out _ P0.out.env).mono ?_; rintro e wa ⟨rfl, he_, hf_⟩; have PA : Hid (Pst w wa g V L s B w.heap.size (w.heap.size + 1) c0 r (.slice q1 l1 k1) (.slice q2 l2 k2) (.slice q3 l3 k3) (.slice q4 l4 k4) (.slice q5 l5 k5)) := P0.out.call he_ hf_; clear he_ hf_))
  clear PU PT PS PAe PAd PAc PAb PA P0 E5
  go_loopg [13, 14] (L.length + 1) (fun gn v o wr => ∃ (acc : List Opd) (st : St) (c' : Nat → Nat) (pe : Option Addr) (ne ce : Nat), Pst w wr g V L st B w.heap.size (w.heap.size + 1) c' { r with e := ⟨a, acc⟩ } (.slice q1 l1 k1) (.slice q2 l2 k2) (.slice q3 l3 k3) (.slice q4 l4 k4) (.slice pe ne ce) ∧ acc.length ≤ 701 ∧ ((v = .bool true ∧ ∃ k, gn = k + 1 ∧ acc.length + k ≤ 700 ∧ L.length ≤ (sde L st).2.i + k ∧ sep L [44] (sde L) k (sde L st).2 (acc ++ [(sde L st).1]) = (os, s3)) ∨ (v = .bool false ∧ (acc, st) = (os, s3))))
  case atStart =>
    have h1 := PV.out
    rw [HEV.out] at h1
    exact ⟨[], s2, c0, q5, l5, k5, h1, by simp, .inl ⟨rfl, L.length, rfl, by have := HLEN.out; simp; omega, by omega, HOS.out⟩⟩
  case round =>
    obtain ⟨acc, st, c', pe, ne, ce, hpst, hac, hcase⟩ := hrel
    have PL : Hid (Pst w wr g V L st B w.heap.size (w.heap.size + 1) c' { r with e := ⟨a, acc⟩ } (.slice q1 l1 k1) (.slice q2 l2 k2) (.slice q3 l3 k3) (.slice q4 l4 k4) (.slice pe ne ce)) := hpst
    clear hpst PV
    rcases hcase with ⟨rfl, k, rfl, hk1, hk2, hsep⟩ | ⟨rfl, he⟩
    · obtain ⟨⟨⟨xk, xvk, xvi, xvt, xva, xfd⟩, st1⟩, hx⟩ : ∃ p, sde L st = p := ⟨_, rfl⟩
      have HX : Hid (∀ W, Env W g V L st → Calls Tryd.prog 51 #[rp g] W fun e w' => e = .returned (opV ⟨xk, xvk, xvi, xvt, xva, xfd⟩) ∧ Env w' g V L st1 ∧ Fr (fun i => i = g) W w') := fun W hW => by
        have := HSD.out W st hW
        rw [hx] at this
        exact this
      rw [hx] at hk2 hsep
      simp only at hk2 hsep
      have HLA : Hid ((acc.map encO).length ≤ 800) := by show _ ≤ 800; rw [List.length_map]; omega
      have HK : Hid (acc.length + k ≤ 700 ∧ L.length ≤ st1.i + k) := ⟨hk1, hk2⟩
      cases hb_TO : see L [44] st1
      · have HEND : Hid ((acc ++ [(⟨xk, xvk, xvi, xvt, xva, xfd⟩ : Opd)], st1) = (os, s3)) := by rw [sep_stop hb_TO] at hsep; exact hsep
        have TO : Hid (∀ W, Env W g V L st1 → Calls Tryd.prog 20 #[rp g, .int .i64 4, .string ⟨#[44]⟩] W fun e w' => e = .returned (.bool false) ∧ Env w' g V L st1 ∧ Fr (fun i => i = g) W w') := fun W hW => by
          have := is_any W g V L st1 4 [44] (.inr ⟨rfl, by decide⟩) hW
          unfold tks at this
          rw [hb_TO] at this
          exact this
        clear hsep hk1 hk2 hx hb_TO hac
        go_wp2_with (first
      | (go_at_call_of 20 (Value.string ⟨#[44]⟩); refine (TO.out _ PH.out.env).mono ?_; rintro e wi ⟨rfl, he_, hf_⟩; have PI : Hid (Pst w wi g V L st1 B w.heap.size (w.heap.size + 1) (pcol2 c' w1.heap.size w1.heap.size 5) { r with e := ⟨a, acc ++ [⟨xk, xvk, xvi, xvt, xva, xfd⟩]⟩ } (.slice q1 l1 k1) (.slice q2 l2 k2) (.slice q3 l3 k3) (.slice q4 l4 k4) (.slice p5 n5 c5)) := PH.out.call he_ hf_; clear he_ hf_)
      | (at_builtin; refine wp_appS (by rfl) _ _ 40 (by rfl) 50 j0 zO 6 72 Tryd.underlying40 HJ.out.1 HJ.out.2.1 HJ.out.2.2.1 HJ.out.2.2.2 rfl (by omega) (Cq B (pcol2 c' w1.heap.size w1.heap.size 5) 5) (.slice pe ne ce) (acc.map encO) (by rfl) (P1.out.rr.r5.alloc _) HSZ.out (encO ⟨xk, xvk, xvi, xvt, xva, xfd⟩) (opC ⟨xk, xvk, xvi, xvt, xva, xfd⟩) ⟨w1.heap.size + 1, 0, none⟩ (by rfl) (by rfl) (by { have h1 := World.news_of_block (heap_alloc_new (w1.alloc (.cells (opC ⟨xk, xvk, xvi, xvt, xva, xfd⟩).toArray 50)) (.cells (opC ⟨xk, xvk, xvi, xvt, xva, xfd⟩).toArray 50)); simpa using h1 }) (by rfl) (holdsO _ _ ⟨xk, xvk, xvi, xvt, xva, xfd⟩) HLA.out (by omega) ?_; intro v5 w5 hrw hgb hown; obtain ⟨p5, c5, e5⟩ := Row.shape hrw; obtain ⟨n5, hn5⟩ : ∃ n5, (acc.map encO ++ [encO ⟨xk, xvk, xvi, xvt, xva, xfd⟩]).length = n5 := ⟨_, rfl⟩; rw [hn5] at e5; subst e5; have HU5 : Hid (w5.heap[w.heap.size]? = some (.cells (ruC r.n (.slice q1 l1 k1) (.slice q2 l2 k2) (.slice q3 l3 k3) (.slice q4 l4 k4) a (.slice pe ne ce)).toArray 44 (0, 0))) := (hgb.block w.heap.size (blk_lt (P1.out.alloc (.cells (opC ⟨xk, xvk, xvi, xvt, xva, xfd⟩).toArray 50)).blk) (fun e => by { have h1 := (hown _ e.symm).2; have h2 := P1.out.c0.1; omega })).trans (P1.out.alloc (.cells (opC ⟨xk, xvk, xvi, xvt, xva, xfd⟩).toArray 50)).blk; have f5 := free_of_blk HU5.out 6; have m5 : w5.cell? ⟨w.heap.size, 6, none⟩ = some (.slice pe ne ce) := by { rw [cell_of_blk HU5.out]; rfl }; have PH : Hid (Pst w (w5.setCell ⟨w.heap.size, 6, none⟩ (.slice p5 n5 c5)) g V L st1 B w.heap.size (w.heap.size + 1) (pcol2 c' w1.heap.size w1.heap.size 5) { r with e := ⟨a, acc ++ [⟨xk, xvk, xvi, xvt, xva, xfd⟩]⟩ } (.slice q1 l1 k1) (.slice q2 l2 k2) (.slice q3 l3 k3) (.slice q4 l4 k4) (.slice p5 n5 c5)) := (P1.out.alloc (.cells (opC ⟨xk, xvk, xvi, xvt, xva, xfd⟩).toArray 50)).app5 hgb hown (fun _ _ _ _ => rfl) P1.out.c0 hrw; clear hrw hgb hown hn5)
      | ((with_reducible show wpList _ _ _ (Oper.mk _ (.load _ _) _ _ _ _ :: _) _ _); refine wp_ld (by rfl) 50 _ (by rfl) w1.heap.size (opC ⟨xk, xvk, xvi, xvt, xva, xfd⟩) 50 _ (by rfl) (heap_alloc_new _ _) Tryd.underlying50 rfl (by kernel_rfl) ?_)
      | (go_at_call 51; refine (HX.out _ PL.out.env).mono ?_; rintro e w1 ⟨rfl, he_, hf_⟩; have P1 : Hid (Pst w (w1.alloc (.cells (opC ⟨xk, xvk, xvi, xvt, xva, xfd⟩).toArray 50)) g V L st1 B w.heap.size (w.heap.size + 1) (pcol2 c' w1.heap.size w1.heap.size 5) { r with e := ⟨a, acc⟩ } (.slice q1 l1 k1) (.slice q2 l2 k2) (.slice q3 l3 k3) (.slice q4 l4 k4) (.slice pe ne ce)) := ((PL.out.call he_ hf_).recol (fun i _ _ hl => if_pos hl) ⟨(if_pos (blk_lt (PL.out.call he_ hf_).blk)).trans PL.out.c0.1, (if_pos (blk_lt (PL.out.call he_ hf_).res)).trans PL.out.c0.2⟩).alloc _; have HSZ : Hid (Cq B (pcol2 c' w1.heap.size w1.heap.size 5) 5 ((w1.alloc (.cells (opC ⟨xk, xvk, xvi, xvt, xva, xfd⟩).toArray 50)).alloc (.cells (opC ⟨xk, xvk, xvi, xvt, xva, xfd⟩).toArray 50)).heap.size) := ⟨by { have h1 := blk_lt P1.out.res; have := HGB.out; simp at h1 ⊢; omega }, pcol2_new (by { simp; omega }) (by { simp; omega })⟩; have cU : (w1.alloc (.cells (opC ⟨xk, xvk, xvi, xvt, xva, xfd⟩).toArray 50)).cell? ⟨w.heap.size, 6, none⟩ = some (.slice pe ne ce) := P1.out.cell 6; clear he_ hf_))
        go_roundg k
        case measure => omega
        case rel =>
          exact ⟨acc ++ [⟨xk, xvk, xvi, xvt, xva, xfd⟩], st1, _, p5, n5, c5, PI.out, by have := HK.out.1; simp; omega, .inr ⟨rfl, HEND.out⟩⟩
      · have hlt := (see_lt hb_TO).2
        obtain ⟨kk, rfl⟩ : ∃ kk, k = kk + 1 := ⟨k - 1, by omega⟩
        rw [sep_step hb_TO] at hsep
        have hg2 := sde_g L st1.adv
        have HK2 : Hid (acc.length + 1 + kk ≤ 700 ∧ L.length ≤ (sde L st1.adv).2.i + kk ∧ sep L [44] (sde L) kk (sde L st1.adv).2 (acc ++ [⟨xk, xvk, xvi, xvt, xva, xfd⟩] ++ [(sde L st1.adv).1]) = (os, s3)) := ⟨by omega, by have e1 : st1.adv.i = st1.i + 1 := rfl; omega, hsep⟩
        have TO : Hid (∀ W, Env W g V L st1 → Calls Tryd.prog 20 #[rp g, .int .i64 4, .string ⟨#[44]⟩] W fun e w' => e = .returned (.bool true) ∧ Env w' g V L st1.adv ∧ Fr (fun i => i = g) W w') := fun W hW => by
          have := is_any W g V L st1 4 [44] (.inr ⟨rfl, by decide⟩) hW
          unfold tks at this
          rw [hb_TO] at this
          exact this
        clear hsep hk1 hk2 hx hb_TO hac hlt hg2 HK
        go_wp2_with (first
      | (go_at_call_of 20 (Value.string ⟨#[44]⟩); refine (TO.out _ PH.out.env).mono ?_; rintro e wi ⟨rfl, he_, hf_⟩; have PI : Hid (Pst w wi g V L st1.adv B w.heap.size (w.heap.size + 1) (pcol2 c' w1.heap.size w1.heap.size 5) { r with e := ⟨a, acc ++ [⟨xk, xvk, xvi, xvt, xva, xfd⟩]⟩ } (.slice q1 l1 k1) (.slice q2 l2 k2) (.slice q3 l3 k3) (.slice q4 l4 k4) (.slice p5 n5 c5)) := PH.out.call he_ hf_; clear he_ hf_)
      | (at_builtin; refine wp_appS (by rfl) _ _ 40 (by rfl) 50 j0 zO 6 72 Tryd.underlying40 HJ.out.1 HJ.out.2.1 HJ.out.2.2.1 HJ.out.2.2.2 rfl (by omega) (Cq B (pcol2 c' w1.heap.size w1.heap.size 5) 5) (.slice pe ne ce) (acc.map encO) (by rfl) (P1.out.rr.r5.alloc _) HSZ.out (encO ⟨xk, xvk, xvi, xvt, xva, xfd⟩) (opC ⟨xk, xvk, xvi, xvt, xva, xfd⟩) ⟨w1.heap.size + 1, 0, none⟩ (by rfl) (by rfl) (by { have h1 := World.news_of_block (heap_alloc_new (w1.alloc (.cells (opC ⟨xk, xvk, xvi, xvt, xva, xfd⟩).toArray 50)) (.cells (opC ⟨xk, xvk, xvi, xvt, xva, xfd⟩).toArray 50)); simpa using h1 }) (by rfl) (holdsO _ _ ⟨xk, xvk, xvi, xvt, xva, xfd⟩) HLA.out (by omega) ?_; intro v5 w5 hrw hgb hown; obtain ⟨p5, c5, e5⟩ := Row.shape hrw; obtain ⟨n5, hn5⟩ : ∃ n5, (acc.map encO ++ [encO ⟨xk, xvk, xvi, xvt, xva, xfd⟩]).length = n5 := ⟨_, rfl⟩; rw [hn5] at e5; subst e5; have HU5 : Hid (w5.heap[w.heap.size]? = some (.cells (ruC r.n (.slice q1 l1 k1) (.slice q2 l2 k2) (.slice q3 l3 k3) (.slice q4 l4 k4) a (.slice pe ne ce)).toArray 44 (0, 0))) := (hgb.block w.heap.size (blk_lt (P1.out.alloc (.cells (opC ⟨xk, xvk, xvi, xvt, xva, xfd⟩).toArray 50)).blk) (fun e => by { have h1 := (hown _ e.symm).2; have h2 := P1.out.c0.1; omega })).trans (P1.out.alloc (.cells (opC ⟨xk, xvk, xvi, xvt, xva, xfd⟩).toArray 50)).blk; have f5 := free_of_blk HU5.out 6; have m5 : w5.cell? ⟨w.heap.size, 6, none⟩ = some (.slice pe ne ce) := by { rw [cell_of_blk HU5.out]; rfl }; have PH : Hid (Pst w (w5.setCell ⟨w.heap.size, 6, none⟩ (.slice p5 n5 c5)) g V L st1 B w.heap.size (w.heap.size + 1) (pcol2 c' w1.heap.size w1.heap.size 5) { r with e := ⟨a, acc ++ [⟨xk, xvk, xvi, xvt, xva, xfd⟩]⟩ } (.slice q1 l1 k1) (.slice q2 l2 k2) (.slice q3 l3 k3) (.slice q4 l4 k4) (.slice p5 n5 c5)) := (P1.out.alloc (.cells (opC ⟨xk, xvk, xvi, xvt, xva, xfd⟩).toArray 50)).app5 hgb hown (fun _ _ _ _ => rfl) P1.out.c0 hrw; clear hrw hgb hown hn5)
      | ((with_reducible show wpList _ _ _ (Oper.mk _ (.load _ _) _ _ _ _ :: _) _ _); refine wp_ld (by rfl) 50 _ (by rfl) w1.heap.size (opC ⟨xk, xvk, xvi, xvt, xva, xfd⟩) 50 _ (by rfl) (heap_alloc_new _ _) Tryd.underlying50 rfl (by kernel_rfl) ?_)
      | (go_at_call 51; refine (HX.out _ PL.out.env).mono ?_; rintro e w1 ⟨rfl, he_, hf_⟩; have P1 : Hid (Pst w (w1.alloc (.cells (opC ⟨xk, xvk, xvi, xvt, xva, xfd⟩).toArray 50)) g V L st1 B w.heap.size (w.heap.size + 1) (pcol2 c' w1.heap.size w1.heap.size 5) { r with e := ⟨a, acc⟩ } (.slice q1 l1 k1) (.slice q2 l2 k2) (.slice q3 l3 k3) (.slice q4 l4 k4) (.slice pe ne ce)) := ((PL.out.call he_ hf_).recol (fun i _ _ hl => if_pos hl) ⟨(if_pos (blk_lt (PL.out.call he_ hf_).blk)).trans PL.out.c0.1, (if_pos (blk_lt (PL.out.call he_ hf_).res)).trans PL.out.c0.2⟩).alloc _; have HSZ : Hid (Cq B (pcol2 c' w1.heap.size w1.heap.size 5) 5 ((w1.alloc (.cells (opC ⟨xk, xvk, xvi, xvt, xva, xfd⟩).toArray 50)).alloc (.cells (opC ⟨xk, xvk, xvi, xvt, xva, xfd⟩).toArray 50)).heap.size) := ⟨by { have h1 := blk_lt P1.out.res; have := HGB.out; simp at h1 ⊢; omega }, pcol2_new (by { simp; omega }) (by { simp; omega })⟩; have cU : (w1.alloc (.cells (opC ⟨xk, xvk, xvi, xvt, xva, xfd⟩).toArray 50)).cell? ⟨w.heap.size, 6, none⟩ = some (.slice pe ne ce) := P1.out.cell 6; clear he_ hf_))
        go_roundg (kk + 1)
        case measure => omega
        case rel =>
          have h2 := HK2.out
          exact ⟨acc ++ [⟨xk, xvk, xvi, xvt, xva, xfd⟩], st1.adv, _, p5, n5, c5, PI.out, by simp; omega, .inl ⟨rfl, kk, rfl, by simp; omega, h2.2.1, h2.2.2⟩⟩
    · simp only [Prod.mk.injEq] at he
      obtain ⟨rfl, rfl⟩ := he
      clear hac HSD HOS HJ
      go_wp2_with (first
      | (go_at_call_of 22 (Value.string ⟨#[59]⟩); refine (HWE.out _ PQ.out.env).mono ?_; rintro e wz ⟨rfl, he_, hf_⟩; have PZ : Hid (Pst w wz g V L sE B w.heap.size (w.heap.size + 1) c' { r with e := ⟨a, acc⟩ } (.slice q1 l1 k1) (.slice q2 l2 k2) (.slice q3 l3 k3) (.slice q4 l4 k4) (.slice pe ne ce)) := PQ.out.call he_ hf_; clear he_ hf_)
      | ((with_reducible show wpList _ _ _ (Oper.mk _ (.load _ _) _ _ _ _ :: _) _ _); refine wp_ld (by rfl) 44 _ (by rfl) w.heap.size (ruC r.n (.slice q1 l1 k1) (.slice q2 l2 k2) (.slice q3 l3 k3) (.slice q4 l4 k4) a (.slice pe ne ce)) 44 _ (by rfl) PZ.out.blk Tryd.underlying44 rfl (by kernel_rfl) ?_)
      | ((with_reducible show wpList _ _ _ (Oper.mk _ (.store _ _ _) _ _ _ _ :: _) _ _); refine wp_st (by rfl) 44 _ _ (by rfl) (w.heap.size + 1) 0 ru0 44 (.agg #[.string r.n, (.slice q1 l1 k1), (.slice q2 l2 k2), (.slice q3 l3 k3), (.slice q4 l4 k4), .string a, (.slice pe ne ce)]) (ruC r.n (.slice q1 l1 k1) (.slice q2 l2 k2) (.slice q3 l3 k3) (.slice q4 l4 k4) a (.slice pe ne ce)) (by rfl) (by rfl) (by rfl) PZ.out.res (Nat.le_of_ble_eq_true rfl) (by kernel_rfl) (by rfl) ?_; intro w9 hw9 hf9; have H9 : Hid (w9.heap[(w.heap.size + 1)]? = some (.cells (ruC r.n (.slice q1 l1 k1) (.slice q2 l2 k2) (.slice q3 l3 k3) (.slice q4 l4 k4) a (.slice pe ne ce)).toArray 44 (0, 0)) ∧ RR w9 B c' { r with e := ⟨a, acc⟩ } (.slice q1 l1 k1) (.slice q2 l2 k2) (.slice q3 l3 k3) (.slice q4 l4 k4) (.slice pe ne ce) ∧ Env w9 g V L sE ∧ Fr (fun i => i = g ∨ B ≤ i) w w9) := ⟨hw9, PZ.out.fin hf9⟩; clear hw9 hf9)
      | (go_at_call_of 22 (Value.string ⟨#[41]⟩); refine (HWC.out _ PL.out.env).mono ?_; rintro e wq ⟨rfl, he_, hf_⟩; have PQ : Hid (Pst w wq g V L s4 B w.heap.size (w.heap.size + 1) c' { r with e := ⟨a, acc⟩ } (.slice q1 l1 k1) (.slice q2 l2 k2) (.slice q3 l3 k3) (.slice q4 l4 k4) (.slice pe ne ce)) := PL.out.call he_ hf_; clear he_ hf_))
      refine ret_loc (w.heap.size + 1) _ _ _ H9.out.1 rfl rfl (by rfl) Tryd.underlying44 rfl (by kernel_rfl) ?_
      exact ⟨c', (.slice q1 l1 k1), (.slice q2 l2 k2), (.slice q3 l3 k3), (.slice q4 l4 k4), (.slice pe ne ce), rfl, H9.out.2⟩
theorem part_any (w : World) (g : Nat) (V : Value) (L : List Tk) (s : St) (B : Nat) (col : Nat → Nat) (r : Rl) (wv tv mv kv ev : Value) (h : Env w g V L s) (hr : RR w B col r wv tv mv kv ev) (hg : g < B) (hB : B ≤ w.heap.size) (h0 : s.o = 0) (hlen : r.w.length ≤ 700 ∧ r.t.length ≤ 700 ∧ r.m.length ≤ 700 ∧ r.k.length ≤ 700) (hem : r.e.ty.data.toList = [] → r.e.v = []) : Calls Tryd.prog 23 #[rp g, .agg #[.string r.n, wv, tv, mv, kv, .string r.e.ty, ev]] w (PartPost w g V L B (cla' L r s).1 (wnt L [59] (cla' L r s).2)) := by
  unfold cla'
  cases hb1 : see L [119, 104, 101, 110] s
  · simp only [Bool.false_eq_true, if_false]
    cases hb2 : see L [110, 111, 116] s
    · simp only [Bool.false_eq_true, if_false]
      cases hb3 : see L [109, 97, 110, 121] s
      · simp only [Bool.false_eq_true, if_false]
        cases hb4 : see L [119, 104, 101, 114, 101] s
        · simp only [Bool.false_eq_true, if_false]
          by_cases hty : r.e.ty.data.toList = []
          · cases hb5 : see L [101, 109, 105, 116] s
            · rw [if_neg (by rintro ⟨_, c⟩; cases c)]
              exact part_bada w g V L s B col r wv tv mv kv ev h hr hg hB h0 hlen hb1 hb2 hb3 hb4 hty hb5 _ _ rfl rfl
            · rw [if_pos ⟨hty, rfl⟩]
              simp only [emt, lst]
              cases hbc : see L [41] (wnt L [40] (nam L s.adv).2)
              · simp only [Bool.false_eq_true, if_false]
                obtain ⟨⟨os, s3⟩, hos⟩ : ∃ q, sep L [44] (sde L) L.length (sde L (wnt L [40] (nam L s.adv).2)).2 [(sde L (wnt L [40] (nam L s.adv).2)).1] = q := ⟨_, rfl⟩
                rw [hos]
                exact part_emit1 w g V L s B col r wv tv mv kv ev h hr hg hB h0 hlen hb1 hb2 hb3 hb4 hty (hem hty) hb5 _ _ rfl rfl _ rfl hbc os s3 hos _ rfl _ rfl
              · simp only [if_true]
                exact part_emit0 w g V L s B col r wv tv mv kv ev h hr hg hB h0 hlen hb1 hb2 hb3 hb4 hty (hem hty) hb5 _ _ rfl rfl _ rfl hbc _ rfl
          · rw [if_neg (by rintro ⟨c, _⟩; exact hty c)]
            exact part_badb w g V L s B col r wv tv mv kv ev h hr hg hB h0 hlen hb1 hb2 hb3 hb4 hty _ _ rfl rfl
        · simp only [if_true]
          simp only [lnk]
          obtain ⟨⟨os, s2⟩, hos⟩ : ∃ q, sep L [111, 114] (opt L) L.length (opt L (nam L s.adv).2).2 [(opt L (nam L s.adv).2).1] = q := ⟨_, rfl⟩
          rw [hos]
          exact part_where w g V L s B col r wv tv mv kv ev h hr hg hB h0 hlen hb1 hb2 hb3 hb4 _ _ rfl rfl os s2 hos _ _ rfl rfl _ rfl
      · simp only [if_true]
        simp only [mny]
        have ho1 : (num L s.adv).2.o = 0 := (num_g L s.adv).2.trans h0
        cases hb4 : see L [111, 102] (num L s.adv).2
        · simp only [Bool.false_eq_true, if_false]
          obtain ⟨⟨⟨a, b, ⟨ck, csb, cl, cr⟩, tw, tn⟩, s2⟩, hpt⟩ : ∃ q, pat L (num L s.adv).2 = q := ⟨_, rfl⟩
          rw [hpt]
          exact part_many0 w g V L s B col r wv tv mv kv ev h hr hg hB h0 hlen hb1 hb2 hb3 _ _ rfl rfl hb4 a b ck csb cl cr tw tn s2 ho1 hpt _ rfl _ _ rfl rfl _ rfl
        · simp only [if_true]
          have ho2 : (nam L (num L s.adv).2.adv).2.o = 0 := (nam_g L (num L s.adv).2.adv).2.trans ho1
          obtain ⟨⟨⟨a, b, ⟨ck, csb, cl, cr⟩, tw, tn⟩, s2⟩, hpt⟩ : ∃ q, pat L (nam L (num L s.adv).2.adv).2 = q := ⟨_, rfl⟩
          rw [hpt]
          exact part_many1 w g V L s B col r wv tv mv kv ev h hr hg hB h0 hlen hb1 hb2 hb3 _ _ rfl rfl hb4 _ _ rfl rfl a b ck csb cl cr tw tn s2 ho2 hpt _ rfl _ _ rfl rfl _ rfl
    · simp only [if_true]
      exact part_not w g V L s B col r wv tv mv kv ev h hr hg hB h0 hlen hb1 hb2
  · simp only [if_true]
    obtain ⟨⟨⟨a, b, ⟨ck, csb, cl, cr⟩, tw, tn⟩, s2⟩, hpt⟩ : ∃ q, pat L s.adv = q := ⟨_, rfl⟩
    simp only [whn', hpt]
    cases hbo : see L [111, 118, 101, 114] s2
    · simp only [Bool.false_eq_true, if_false]
      exact part_when0 w g V L s B col r wv tv mv kv ev h hr hg hB h0 hlen hb1 a b ck csb cl cr tw tn s2 hpt hbo _ rfl
    · simp only [if_true]
      cases hbl : see L [108, 97, 115, 116] s2.adv
      · simp only [Bool.false_eq_true, if_false]
        exact part_when2 w g V L s B col r wv tv mv kv ev h hr hg hB h0 hlen hb1 a b ck csb cl cr tw tn s2 hpt hbo hbl _ rfl _ _ rfl rfl _ rfl
      · simp only [if_true]
        exact part_when1 w g V L s B col r wv tv mv kv ev h hr hg hB h0 hlen hb1 a b ck csb cl cr tw tn s2 hpt hbo hbl _ _ rfl rfl _ rfl
end Go.Proofs.YtnlmkdncifijlaaDoor.Ref
