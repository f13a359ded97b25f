/-
  Parts of a condition with a word between them.
-/
import Derived.Test.YtnlmkdncifijlaaDoorG
import Derived.Deep.LoopGhost
namespace Go.Proofs.YtnlmkdncifijlaaDoor
open Go.ChangeShapes Go.WideShapes Go.ChangeAt Go.RowKit Go.Maps
set_option linter.unusedVariables false
set_option linter.unusedSimpArgs false
set_option maxHeartbeats 8000000 in
theorem joined_not (g : Nat) (V : Value) (L : List Tk) (P : St → Cn × St) (ok : Nat) (hP : GoodA ok P)
    (hpart : ∀ W s, Env W g V L s → s.o = ok → Calls Tryd.prog 155 #[rp g] W (CPost W g V L (P s).1 (P s).2)) (w : World) (s : St) (h : Env w g V L s) (ho : s.o = ok) :
    Calls Tryd.prog 147 #[rp g, .int .i64 1, .string ⟨#[97, 110, 100]⟩, .func (.func 155) #[rp g] #[]] w (CPost w g V L (jnd L 1 [97, 110, 100] P s).1 (jnd L 1 [97, 110, 100] P s).2) := by
  have HP : Hid (∀ W s, Env W g V L s → s.o = ok → Calls Tryd.prog 155 #[rp g] W (CPost W g V L (P s).1 (P s).2)) := hpart
  have HG : Hid (GoodA ok P) := hP
  have HO : Hid (s.o = ok) := ho
  have HL0 : Hid (Loc w g V L (w.alloc (.cells cm0.toArray 52)) s w.heap.size cm0 52) := Loc.start h cm0 _
  obtain ⟨i0, a1, a2, a3, a4⟩ := info_parts infoC
  have HI : Hid (Tryd.prog.info? 52 = some i0 ∧ i0.zero = some zC ∧ i0.size = 14 ∧ i0.bytes = 176) := ⟨a1, a2, a3, a4⟩
  have HLEN : Hid (L.length ≤ 700) := h.len
  unfold jnd
  obtain ⟨F, hF⟩ : ∃ F, sep L [97, 110, 100] P L.length (P s).2 [(P s).1] = F := ⟨_, rfl⟩
  rw [hF]
  obtain ⟨B, hB⟩ : ∃ B, w.heap.size + 1 = B := ⟨_, rfl⟩
  obtain ⟨c, hc⟩ : ∃ c, (P s).1 = c := ⟨_, rfl⟩
  obtain ⟨s1, hs1⟩ : ∃ s1, (P s).2 = s1 := ⟨_, rfl⟩
  have hg1 := hP s ho
  have HP1 := hpart _ s HL0.out.env ho
  rw [hc, hs1] at HP1
  rw [hs1] at hg1
  rw [hc, hs1] at hF
  have HP2 : Hid (Calls Tryd.prog 155 #[rp g] (w.alloc (.cells cm0.toArray 52)) (CPost (w.alloc (.cells cm0.toArray 52)) g V L c s1)) := HP1
  have HF0 : Hid (sep L [97, 110, 100] P L.length s1 [c] = F) := hF
  have HB : Hid (w.heap.size + 1 = B ∧ g < w.heap.size) := ⟨hB, blk_lt h.blk⟩
  have HG1 : Hid (s.i ≤ s1.i ∧ s1.o = s.o) := hg1
  clear hpart hP ho a1 a2 a3 a4 hF hB hc hs1 HP1 h hg1
  obtain ⟨ck, csb, cl, cr⟩ := c
  obtain ⟨n1, hn1⟩ : ∃ n1, csb.length = n1 := ⟨_, rfl⟩
  unfold CPost at HP2
  simp only [hn1] at HP2
  have HN1 : Hid (csb.length = n1) := hn1
  clear hn1
  go_enter Tryd.func147, Tryd.ntmps147
  go_wp2_with (go_at_call 155; refine HP2.out.mono ?_; rintro e w1 ⟨p1, cap1, rfl, hh1, he1, hf1⟩; have HH1 : Hid (Holds w1 (fun i => (w.alloc (.cells cm0.toArray 52)).heap.size ≤ i) (.row 52 14 csb) (.slice p1 n1 cap1)) := hh1; have HL1 : Hid (Loc w g V L w1 s1 w.heap.size cm0 52) := HL0.out.call he1 hf1; clear hh1 he1 hf1)
  have HR1 : Hid (Row (w1.alloc (.cells (cnC ck (.slice p1 n1 cap1) cl cr).toArray 52)) (fun i => B ≤ i) 52 14 (.slice (some ⟨w1.heap.size, 0, none⟩) 1 1) ([(⟨ck, csb, cl, cr⟩ : Cn)].map encC)) := by
    have hb := HB.out.1
    have hsz := HL1.out.fr.size
    have hlt := blk_lt HL1.out.blk
    refine Row.new (by omega) rfl (holdsC (c := ⟨ck, csb, cl, cr⟩) ?_)
    refine HH1.out.low ?_
    simp
    omega
  have HL2 : Hid (Loc w g V L (w1.alloc (.cells (cnC ck (.slice p1 n1 cap1) cl cr).toArray 52)) s1 w.heap.size cm0 52) := HL1.out.alloc _
  obtain ⟨R, hR⟩ : ∃ R, w.heap.size = R := ⟨_, rfl⟩
  have HRR : Hid (w.heap.size = R) := hR
  rw [hR] at HL2 ⊢
  clear HL1 HL0 HH1 hR
  go_loopg [9] L.length (fun k v wr => ∃ (acc : List Cn) (st : St), Loc w g V L wr st R cm0 52 ∧ Row wr (fun i => B ≤ i) 52 14 v (acc.map encC) ∧ sep L [97, 110, 100] P k st acc = F ∧ acc.length + k ≤ 701 ∧ L.length ≤ st.i + k ∧ st.o = ok ∧ acc ≠ [])
  case atStart => exact ⟨_, s1, HL2.out, HR1.out, HF0.out, by have := HLEN.out; simp; omega, by omega, by rw [HG1.out.2]; exact HO.out, by simp⟩
  case round =>
    obtain ⟨acc, st, hlo, hrow, hsp, hk1, hk2, hso, hne⟩ := hrel
    obtain ⟨p, cap, rfl⟩ := hrow.shape
    rw [List.length_map] at hrow ⊢
    obtain ⟨n, hn⟩ : ∃ n, acc.length = n := ⟨_, rfl⟩
    have HNN : Hid (acc.length = n) := hn
    rw [hn] at hrow hk1 ⊢
    have HLr : Hid (Loc w g V L wr st R cm0 52) := hlo
    have HRW : Hid (Row wr (fun i => B ≤ i) 52 14 (.slice p n cap) (acc.map encC)) := hrow
    have HT := takes_any wr g V L st [97, 110, 100] hlo.env
    have HK : Hid (n + gk ≤ 701 ∧ L.length ≤ st.i + gk ∧ st.o = ok ∧ acc ≠ []) := ⟨hk1, hk2, hso, hne⟩
    unfold tks at HT
    clear hlo hrow hn hk1 hne HL2 HR1 HF0
    cases hm : see L [97, 110, 100] st
    · rw [hm] at HT
      simp only [Bool.false_eq_true, if_false] at HT
      have HT2 : Hid (Calls Tryd.prog 40 #[rp g, .string ⟨#[97, 110, 100]⟩] wr fun e w' => e = .returned (.bool false) ∧ Env w' g V L st ∧ Fr (fun i => i = g) wr w') := HT
      rw [sep_stop hm] at hsp
      subst hsp
      clear HT hm hk2 hso
      by_cases h1 : n = 1
      · have hb1 : ((n : Int) == 1) = true := by simp; omega
        obtain ⟨d, hd⟩ : ∃ d, acc = [d] := List.length_eq_one_iff.1 (HNN.out.trans h1)
        subst hd
        subst h1
        have hw : ∀ w2, Fr (fun i => i = g) wr w2 → ∃ gb cap' p2 cap2, (Value.slice p 1 cap) = .slice (some ⟨gb, 0, none⟩) 1 cap' ∧ w2.rangeAt gb 0 (cnC d.k (.slice p2 d.sb.length cap2) d.l d.r) ∧ Holds w2 (fun i => B ≤ i) (.row 52 14 d.sb) (.slice p2 d.sb.length cap2) := fun w2 hf => by
          have hr := HRW.out.fr hf (by have := HB.out; omega)
          obtain ⟨gb, cap', xs, e1, e2, e3⟩ := Row.only hr
          obtain ⟨p2, cap2, rfl, e4⟩ := encC_cells e3
          exact ⟨gb, cap', p2, cap2, e1, e2, e4⟩
        have HW : Hid (∀ w2, Fr (fun i => i = g) wr w2 → ∃ gb cap' p2 cap2, (Value.slice p 1 cap) = .slice (some ⟨gb, 0, none⟩) 1 cap' ∧ w2.rangeAt gb 0 (cnC d.k (.slice p2 d.sb.length cap2) d.l d.r) ∧ Holds w2 (fun i => B ≤ i) (.row 52 14 d.sb) (.slice p2 d.sb.length cap2)) := hw
        obtain ⟨dk, dsb, dl, dr⟩ := d
        obtain ⟨m1, hm1⟩ : ∃ m1, dsb.length = m1 := ⟨_, rfl⟩
        simp only [hm1] at HW
        have HM1 : Hid (dsb.length = m1) := hm1
        clear hw hm1
        go_wp2_with (first
          | (go_at_call 40; refine HT2.out.mono ?_; rintro e w2 ⟨rfl, he2, hf2⟩; obtain ⟨gb, cap', p2, cap2, hee, hrg, hho⟩ := HW.out w2 hf2; simp only [Value.slice.injEq, true_and] at hee; obtain ⟨rfl, rfl⟩ := hee; have HRG : Hid (w2.rangeAt gb 0 (cnC dk (.slice p2 m1 cap2) dl dr)) := hrg; have HHO : Hid (Holds w2 (fun i => B ≤ i) (.row 52 14 dsb) (.slice p2 m1 cap2)) := hho; have HL3 : Hid (Loc w g V L w2 st R cm0 52) := HLr.out.call he2 hf2; clear he2 hf2 hrg hho)
          | (refine wpList_load_mid (by rfl) 52 _ (by rfl) gb 0 (by rfl) (cnC dk (.slice p2 m1 cap2) dl dr) _ HRG.out Tryd.underlying52 rfl (by kernel_rfl) ?_)
          | (refine wp_st (by rfl) 52 _ _ (by rfl) R 0 cm0 52 (cnV dk (.slice p2 m1 cap2) dl dr) (cnC dk (.slice p2 m1 cap2) dl dr) (by rfl) (by rfl) (by rfl) HL3.out.blk (Nat.le_of_ble_eq_true rfl) (by kernel_rfl) (by rfl) ?_; intro w9 hw_w9 hf_w9; have HL9 : Hid (Loc w g V L w9 st R (cnC dk (.slice p2 m1 cap2) dl dr) 52) := HL3.out.st hw_w9 hf_w9; have HH9 : Hid (Holds w9 (fun i => B ≤ i) (.row 52 14 dsb) (.slice p2 m1 cap2)) := HHO.out.fr hf_w9 (by { have := HB.out; have := HRR.out; omega }); clear hw_w9 hf_w9))
        refine ret_loc R _ _ _ HL9.out.blk rfl rfl (by rfl) Tryd.underlying52 rfl (by kernel_rfl) ?_
        have e1 : one 1 [(⟨dk, dsb, dl, dr⟩ : Cn)] = ⟨dk, dsb, dl, dr⟩ := rfl
        rw [e1]
        refine ⟨p2, cap2, ?_, ?_, HL9.out.env, HL9.out.fr⟩
        · simp only [HM1.out]
        · simp only [HM1.out]
          exact HH9.out.low (by have := HB.out; omega)
      · have hb1 : ((n : Int) == 1) = false := by simp; omega
        have H1 : Hid (n ≠ 1) := h1
        clear h1
        go_wp2_with (first
          | (go_at_call 40; refine HT2.out.mono ?_; rintro e w2 ⟨rfl, he2, hf2⟩; have HRW2 : Hid (Row w2 (fun i => B ≤ i) 52 14 (.slice p n cap) (acc.map encC)) := HRW.out.fr hf2 (by { have := HB.out; omega }); have HL3 : Hid (Loc w g V L w2 st R cm0 52) := HLr.out.call he2 hf2; clear he2 hf2)
          | (refine wp_st (by rfl) 52 _ _ (by rfl) R 0 cm0 52 (cnV 1 (.slice p n cap) opd0 opd0) (cnC 1 (.slice p n cap) opd0 opd0) (by rfl) (by rfl) (by rfl) HL3.out.blk (Nat.le_of_ble_eq_true rfl) (by kernel_rfl) (by rfl) ?_; intro w9 hw_w9 hf_w9; have HL9 : Hid (Loc w g V L w9 st R (cnC 1 (.slice p n cap) opd0 opd0) 52) := HL3.out.st hw_w9 hf_w9; have HH9 : Hid (Holds w9 (fun i => B ≤ i) (.row 52 14 (acc.map encC)) (.slice p n cap)) := HRW2.out.holds.fr hf_w9 (by { have := HB.out; have := HRR.out; omega }); clear hw_w9 hf_w9))
        refine ret_loc R _ _ _ HL9.out.blk rfl rfl (by rfl) Tryd.underlying52 rfl (by kernel_rfl) ?_
        have e1 : one 1 acc = ⟨1, acc.map encC, opd0, opd0⟩ := by
          have hh := HNN.out
          have hq := H1.out
          match acc, hh with
          | [], _ => rfl
          | [c], hh => exact absurd hh.symm hq
          | c :: d :: r, _ => rfl
        rw [e1]
        refine ⟨p, cap, ?_, ?_, HL9.out.env, HL9.out.fr⟩
        · simp only [List.length_map, HNN.out]
        · simp only [List.length_map, HNN.out]
          exact HH9.out.low (by have := HB.out; omega)
    · rw [hm] at HT
      simp only [if_true] at HT
      have HT2 : Hid (Calls Tryd.prog 40 #[rp g, .string ⟨#[97, 110, 100]⟩] wr fun e w' => e = .returned (.bool true) ∧ Env w' g V L st.adv ∧ Fr (fun i => i = g) wr w') := HT
      have hlt := (see_lt hm).2
      obtain ⟨k2, rfl⟩ : ∃ k2, gk = k2 + 1 := ⟨gk - 1, by omega⟩
      rw [sep_step hm] at hsp
      have hg2 := HG.out st.adv hso
      have HP3 := HP.out
      obtain ⟨d, hd⟩ : ∃ d, (P st.adv).1 = d := ⟨_, rfl⟩
      obtain ⟨s2, hs2⟩ : ∃ s2, (P st.adv).2 = s2 := ⟨_, rfl⟩
      rw [hd, hs2] at hsp
      rw [hs2] at hg2
      have HP4 : Hid (∀ W, Env W g V L st.adv → Calls Tryd.prog 155 #[rp g] W (CPost W g V L d s2)) := fun W hW => by
        have := HP.out W st.adv hW hso
        rw [hd, hs2] at this
        exact this
      have HSP : Hid (sep L [97, 110, 100] P k2 s2 (acc ++ [d]) = F) := hsp
      have HG2 : Hid (st.i + 1 ≤ s2.i ∧ s2.o = st.o) := hg2
      obtain ⟨dk, dsb, dl, dr⟩ := d
      obtain ⟨m1, hm1⟩ : ∃ m1, dsb.length = m1 := ⟨_, rfl⟩
      have HLN : Hid ((acc.map encC).length ≤ 800) := by
        have h1 := HNN.out
        have h2 := HK.out
        show (acc.map encC).length ≤ 800
        rw [List.length_map]
        omega
      unfold CPost at HP4
      simp only [hm1] at HP4
      clear HT hm hd hs2 hsp hg2 HP3 hm1 hk2 hso hlt
      go_wp2_with (first
        | (go_at_call 40; refine HT2.out.mono ?_; rintro e w2 ⟨rfl, he2, hf2⟩; have HRW2 : Hid (Row w2 (fun i => B ≤ i) 52 14 (.slice p n cap) (acc.map encC)) := HRW.out.fr hf2 (by { have := HB.out; omega }); have HL3 : Hid (Loc w g V L w2 st.adv R cm0 52) := HLr.out.call he2 hf2; clear he2 hf2)
        | (go_at_call 155; refine (HP4.out _ HL3.out.env).mono ?_; rintro e w3 ⟨p3, cap3, rfl, hh3, he3, hf3⟩; have HRW3 : Hid (Row w3 (fun i => B ≤ i) 52 14 (.slice p n cap) (acc.map encC)) := HRW2.out.fr hf3 (by { have := HB.out; omega }); have HH3 : Hid (Holds w3 (fun i => B ≤ i ∧ (Value.slice p n cap).ownBlock ≠ some i) (.row 52 14 dsb) (.slice p3 m1 cap3)) := hh3.mono (fun i hi hl => ⟨⟨by { have := HL3.out.fr.size; have := blk_lt HL3.out.blk; have := HB.out; have := HRR.out; have h9 : w2.heap.size ≤ i := hi; omega }, fun h8 => by { have := HRW2.out.own_lt h8; have h9 : w2.heap.size ≤ i := hi; omega }⟩, rfl⟩); have HL4 : Hid (Loc w g V L w3 s2 R cm0 52) := HL3.out.call he3 hf3; have HBW : Hid (B ≤ w3.heap.size) := by { have h2 := blk_lt HL4.out.blk; have h3 := HB.out; have h4 := HRR.out; show B ≤ _; omega }; clear hh3 he3 hf3)
        | (at_builtin; refine wp_app (by rfl) _ _ 46 (by rfl) 52 i0 zC 14 176 Tryd.underlying46 HI.out.1 HI.out.2.1 HI.out.2.2.1 HI.out.2.2.2 rfl (by omega) B (.slice p n cap) (acc.map encC) (by rfl) (HRW3.out.alloc _) (Nat.le_trans HBW.out (by simp)) (encC ⟨dk, dsb, dl, dr⟩) (cnC dk (.slice p3 m1 cap3) dl dr) ⟨w3.heap.size, 0, none⟩ (by rfl) (by rfl) (World.news_of_block (heap_alloc_new _ _)) (by rfl) ((holdsC (c := ⟨dk, dsb, dl, dr⟩) HH3.out).on ((Fr.refl _ _).alloc _)) HLN.out (by omega) ?_; intro v' w5 hrw hgb hown; have HRW5 : Hid (Row w5 (fun i => B ≤ i) 52 14 v' (acc.map encC ++ [encC ⟨dk, dsb, dl, dr⟩])) := hrw; have HL5 : Hid (Loc w g V L w5 s2 R cm0 52) := (HL4.out.alloc _).grown hgb (fun k hk => by { have := hown k hk; have := HB.out; have := HRR.out; omega }); clear hrw hgb hown))
      go_roundg k2
      case measure => omega
      case rel =>
        have hk := HK.out
        have hn := HNN.out
        have hg2 := HG2.out
        refine ⟨acc ++ [⟨dk, dsb, dl, dr⟩], s2, HL5.out, ?_, HSP.out, by simp; omega, by omega, by omega, by simp⟩
        rw [List.map_append]
        exact HRW5.out
set_option maxHeartbeats 8000000 in
theorem joined_and (g : Nat) (V : Value) (L : List Tk) (P : St → Cn × St) (ok : Nat) (hP : GoodA ok P)
    (hpart : ∀ W s, Env W g V L s → s.o = ok → Calls Tryd.prog 148 #[rp g] W (CPost W g V L (P s).1 (P s).2)) (w : World) (s : St) (h : Env w g V L s) (ho : s.o = ok) :
    Calls Tryd.prog 147 #[rp g, .int .i64 2, .string ⟨#[111, 114]⟩, .func (.func 148) #[rp g] #[]] w (CPost w g V L (jnd L 2 [111, 114] P s).1 (jnd L 2 [111, 114] P s).2) := by
  have HP : Hid (∀ W s, Env W g V L s → s.o = ok → Calls Tryd.prog 148 #[rp g] W (CPost W g V L (P s).1 (P s).2)) := hpart
  have HG : Hid (GoodA ok P) := hP
  have HO : Hid (s.o = ok) := ho
  have HL0 : Hid (Loc w g V L (w.alloc (.cells cm0.toArray 52)) s w.heap.size cm0 52) := Loc.start h cm0 _
  obtain ⟨i0, a1, a2, a3, a4⟩ := info_parts infoC
  have HI : Hid (Tryd.prog.info? 52 = some i0 ∧ i0.zero = some zC ∧ i0.size = 14 ∧ i0.bytes = 176) := ⟨a1, a2, a3, a4⟩
  have HLEN : Hid (L.length ≤ 700) := h.len
  unfold jnd
  obtain ⟨F, hF⟩ : ∃ F, sep L [111, 114] P L.length (P s).2 [(P s).1] = F := ⟨_, rfl⟩
  rw [hF]
  obtain ⟨B, hB⟩ : ∃ B, w.heap.size + 1 = B := ⟨_, rfl⟩
  obtain ⟨c, hc⟩ : ∃ c, (P s).1 = c := ⟨_, rfl⟩
  obtain ⟨s1, hs1⟩ : ∃ s1, (P s).2 = s1 := ⟨_, rfl⟩
  have hg1 := hP s ho
  have HP1 := hpart _ s HL0.out.env ho
  rw [hc, hs1] at HP1
  rw [hs1] at hg1
  rw [hc, hs1] at hF
  have HP2 : Hid (Calls Tryd.prog 148 #[rp g] (w.alloc (.cells cm0.toArray 52)) (CPost (w.alloc (.cells cm0.toArray 52)) g V L c s1)) := HP1
  have HF0 : Hid (sep L [111, 114] P L.length s1 [c] = F) := hF
  have HB : Hid (w.heap.size + 1 = B ∧ g < w.heap.size) := ⟨hB, blk_lt h.blk⟩
  have HG1 : Hid (s.i ≤ s1.i ∧ s1.o = s.o) := hg1
  clear hpart hP ho a1 a2 a3 a4 hF hB hc hs1 HP1 h hg1
  obtain ⟨ck, csb, cl, cr⟩ := c
  obtain ⟨n1, hn1⟩ : ∃ n1, csb.length = n1 := ⟨_, rfl⟩
  unfold CPost at HP2
  simp only [hn1] at HP2
  have HN1 : Hid (csb.length = n1) := hn1
  clear hn1
  go_enter Tryd.func147, Tryd.ntmps147
  go_wp2_with (go_at_call 148; refine HP2.out.mono ?_; rintro e w1 ⟨p1, cap1, rfl, hh1, he1, hf1⟩; have HH1 : Hid (Holds w1 (fun i => (w.alloc (.cells cm0.toArray 52)).heap.size ≤ i) (.row 52 14 csb) (.slice p1 n1 cap1)) := hh1; have HL1 : Hid (Loc w g V L w1 s1 w.heap.size cm0 52) := HL0.out.call he1 hf1; clear hh1 he1 hf1)
  have HR1 : Hid (Row (w1.alloc (.cells (cnC ck (.slice p1 n1 cap1) cl cr).toArray 52)) (fun i => B ≤ i) 52 14 (.slice (some ⟨w1.heap.size, 0, none⟩) 1 1) ([(⟨ck, csb, cl, cr⟩ : Cn)].map encC)) := by
    have hb := HB.out.1
    have hsz := HL1.out.fr.size
    have hlt := blk_lt HL1.out.blk
    refine Row.new (by omega) rfl (holdsC (c := ⟨ck, csb, cl, cr⟩) ?_)
    refine HH1.out.low ?_
    simp
    omega
  have HL2 : Hid (Loc w g V L (w1.alloc (.cells (cnC ck (.slice p1 n1 cap1) cl cr).toArray 52)) s1 w.heap.size cm0 52) := HL1.out.alloc _
  obtain ⟨R, hR⟩ : ∃ R, w.heap.size = R := ⟨_, rfl⟩
  have HRR : Hid (w.heap.size = R) := hR
  rw [hR] at HL2 ⊢
  clear HL1 HL0 HH1 hR
  go_loopg [9] L.length (fun k v wr => ∃ (acc : List Cn) (st : St), Loc w g V L wr st R cm0 52 ∧ Row wr (fun i => B ≤ i) 52 14 v (acc.map encC) ∧ sep L [111, 114] P k st acc = F ∧ acc.length + k ≤ 701 ∧ L.length ≤ st.i + k ∧ st.o = ok ∧ acc ≠ [])
  case atStart => exact ⟨_, s1, HL2.out, HR1.out, HF0.out, by have := HLEN.out; simp; omega, by omega, by rw [HG1.out.2]; exact HO.out, by simp⟩
  case round =>
    obtain ⟨acc, st, hlo, hrow, hsp, hk1, hk2, hso, hne⟩ := hrel
    obtain ⟨p, cap, rfl⟩ := hrow.shape
    rw [List.length_map] at hrow ⊢
    obtain ⟨n, hn⟩ : ∃ n, acc.length = n := ⟨_, rfl⟩
    have HNN : Hid (acc.length = n) := hn
    rw [hn] at hrow hk1 ⊢
    have HLr : Hid (Loc w g V L wr st R cm0 52) := hlo
    have HRW : Hid (Row wr (fun i => B ≤ i) 52 14 (.slice p n cap) (acc.map encC)) := hrow
    have HT := takes_any wr g V L st [111, 114] hlo.env
    have HK : Hid (n + gk ≤ 701 ∧ L.length ≤ st.i + gk ∧ st.o = ok ∧ acc ≠ []) := ⟨hk1, hk2, hso, hne⟩
    unfold tks at HT
    clear hlo hrow hn hk1 hne HL2 HR1 HF0
    cases hm : see L [111, 114] st
    · rw [hm] at HT
      simp only [Bool.false_eq_true, if_false] at HT
      have HT2 : Hid (Calls Tryd.prog 40 #[rp g, .string ⟨#[111, 114]⟩] wr fun e w' => e = .returned (.bool false) ∧ Env w' g V L st ∧ Fr (fun i => i = g) wr w') := HT
      rw [sep_stop hm] at hsp
      subst hsp
      clear HT hm hk2 hso
      by_cases h1 : n = 1
      · have hb1 : ((n : Int) == 1) = true := by simp; omega
        obtain ⟨d, hd⟩ : ∃ d, acc = [d] := List.length_eq_one_iff.1 (HNN.out.trans h1)
        subst hd
        subst h1
        have hw : ∀ w2, Fr (fun i => i = g) wr w2 → ∃ gb cap' p2 cap2, (Value.slice p 1 cap) = .slice (some ⟨gb, 0, none⟩) 1 cap' ∧ w2.rangeAt gb 0 (cnC d.k (.slice p2 d.sb.length cap2) d.l d.r) ∧ Holds w2 (fun i => B ≤ i) (.row 52 14 d.sb) (.slice p2 d.sb.length cap2) := fun w2 hf => by
          have hr := HRW.out.fr hf (by have := HB.out; omega)
          obtain ⟨gb, cap', xs, e1, e2, e3⟩ := Row.only hr
          obtain ⟨p2, cap2, rfl, e4⟩ := encC_cells e3
          exact ⟨gb, cap', p2, cap2, e1, e2, e4⟩
        have HW : Hid (∀ w2, Fr (fun i => i = g) wr w2 → ∃ gb cap' p2 cap2, (Value.slice p 1 cap) = .slice (some ⟨gb, 0, none⟩) 1 cap' ∧ w2.rangeAt gb 0 (cnC d.k (.slice p2 d.sb.length cap2) d.l d.r) ∧ Holds w2 (fun i => B ≤ i) (.row 52 14 d.sb) (.slice p2 d.sb.length cap2)) := hw
        obtain ⟨dk, dsb, dl, dr⟩ := d
        obtain ⟨m1, hm1⟩ : ∃ m1, dsb.length = m1 := ⟨_, rfl⟩
        simp only [hm1] at HW
        have HM1 : Hid (dsb.length = m1) := hm1
        clear hw hm1
        go_wp2_with (first
          | (go_at_call 40; refine HT2.out.mono ?_; rintro e w2 ⟨rfl, he2, hf2⟩; obtain ⟨gb, cap', p2, cap2, hee, hrg, hho⟩ := HW.out w2 hf2; simp only [Value.slice.injEq, true_and] at hee; obtain ⟨rfl, rfl⟩ := hee; have HRG : Hid (w2.rangeAt gb 0 (cnC dk (.slice p2 m1 cap2) dl dr)) := hrg; have HHO : Hid (Holds w2 (fun i => B ≤ i) (.row 52 14 dsb) (.slice p2 m1 cap2)) := hho; have HL3 : Hid (Loc w g V L w2 st R cm0 52) := HLr.out.call he2 hf2; clear he2 hf2 hrg hho)
          | (refine wpList_load_mid (by rfl) 52 _ (by rfl) gb 0 (by rfl) (cnC dk (.slice p2 m1 cap2) dl dr) _ HRG.out Tryd.underlying52 rfl (by kernel_rfl) ?_)
          | (refine wp_st (by rfl) 52 _ _ (by rfl) R 0 cm0 52 (cnV dk (.slice p2 m1 cap2) dl dr) (cnC dk (.slice p2 m1 cap2) dl dr) (by rfl) (by rfl) (by rfl) HL3.out.blk (Nat.le_of_ble_eq_true rfl) (by kernel_rfl) (by rfl) ?_; intro w9 hw_w9 hf_w9; have HL9 : Hid (Loc w g V L w9 st R (cnC dk (.slice p2 m1 cap2) dl dr) 52) := HL3.out.st hw_w9 hf_w9; have HH9 : Hid (Holds w9 (fun i => B ≤ i) (.row 52 14 dsb) (.slice p2 m1 cap2)) := HHO.out.fr hf_w9 (by { have := HB.out; have := HRR.out; omega }); clear hw_w9 hf_w9))
        refine ret_loc R _ _ _ HL9.out.blk rfl rfl (by rfl) Tryd.underlying52 rfl (by kernel_rfl) ?_
        have e1 : one 2 [(⟨dk, dsb, dl, dr⟩ : Cn)] = ⟨dk, dsb, dl, dr⟩ := rfl
        rw [e1]
        refine ⟨p2, cap2, ?_, ?_, HL9.out.env, HL9.out.fr⟩
        · simp only [HM1.out]
        · simp only [HM1.out]
          exact HH9.out.low (by have := HB.out; omega)
      · have hb1 : ((n : Int) == 1) = false := by simp; omega
        have H1 : Hid (n ≠ 1) := h1
        clear h1
        go_wp2_with (first
          | (go_at_call 40; refine HT2.out.mono ?_; rintro e w2 ⟨rfl, he2, hf2⟩; have HRW2 : Hid (Row w2 (fun i => B ≤ i) 52 14 (.slice p n cap) (acc.map encC)) := HRW.out.fr hf2 (by { have := HB.out; omega }); have HL3 : Hid (Loc w g V L w2 st R cm0 52) := HLr.out.call he2 hf2; clear he2 hf2)
          | (refine wp_st (by rfl) 52 _ _ (by rfl) R 0 cm0 52 (cnV 2 (.slice p n cap) opd0 opd0) (cnC 2 (.slice p n cap) opd0 opd0) (by rfl) (by rfl) (by rfl) HL3.out.blk (Nat.le_of_ble_eq_true rfl) (by kernel_rfl) (by rfl) ?_; intro w9 hw_w9 hf_w9; have HL9 : Hid (Loc w g V L w9 st R (cnC 2 (.slice p n cap) opd0 opd0) 52) := HL3.out.st hw_w9 hf_w9; have HH9 : Hid (Holds w9 (fun i => B ≤ i) (.row 52 14 (acc.map encC)) (.slice p n cap)) := HRW2.out.holds.fr hf_w9 (by { have := HB.out; have := HRR.out; omega }); clear hw_w9 hf_w9))
        refine ret_loc R _ _ _ HL9.out.blk rfl rfl (by rfl) Tryd.underlying52 rfl (by kernel_rfl) ?_
        have e1 : one 2 acc = ⟨2, acc.map encC, opd0, opd0⟩ := by
          have hh := HNN.out
          have hq := H1.out
          match acc, hh with
          | [], _ => rfl
          | [c], hh => exact absurd hh.symm hq
          | c :: d :: r, _ => rfl
        rw [e1]
        refine ⟨p, cap, ?_, ?_, HL9.out.env, HL9.out.fr⟩
        · simp only [List.length_map, HNN.out]
        · simp only [List.length_map, HNN.out]
          exact HH9.out.low (by have := HB.out; omega)
    · rw [hm] at HT
      simp only [if_true] at HT
      have HT2 : Hid (Calls Tryd.prog 40 #[rp g, .string ⟨#[111, 114]⟩] wr fun e w' => e = .returned (.bool true) ∧ Env w' g V L st.adv ∧ Fr (fun i => i = g) wr w') := HT
      have hlt := (see_lt hm).2
      obtain ⟨k2, rfl⟩ : ∃ k2, gk = k2 + 1 := ⟨gk - 1, by omega⟩
      rw [sep_step hm] at hsp
      have hg2 := HG.out st.adv hso
      have HP3 := HP.out
      obtain ⟨d, hd⟩ : ∃ d, (P st.adv).1 = d := ⟨_, rfl⟩
      obtain ⟨s2, hs2⟩ : ∃ s2, (P st.adv).2 = s2 := ⟨_, rfl⟩
      rw [hd, hs2] at hsp
      rw [hs2] at hg2
      have HP4 : Hid (∀ W, Env W g V L st.adv → Calls Tryd.prog 148 #[rp g] W (CPost W g V L d s2)) := fun W hW => by
        have := HP.out W st.adv hW hso
        rw [hd, hs2] at this
        exact this
      have HSP : Hid (sep L [111, 114] P k2 s2 (acc ++ [d]) = F) := hsp
      have HG2 : Hid (st.i + 1 ≤ s2.i ∧ s2.o = st.o) := hg2
      obtain ⟨dk, dsb, dl, dr⟩ := d
      obtain ⟨m1, hm1⟩ : ∃ m1, dsb.length = m1 := ⟨_, rfl⟩
      have HLN : Hid ((acc.map encC).length ≤ 800) := by
        have h1 := HNN.out
        have h2 := HK.out
        show (acc.map encC).length ≤ 800
        rw [List.length_map]
        omega
      unfold CPost at HP4
      simp only [hm1] at HP4
      clear HT hm hd hs2 hsp hg2 HP3 hm1 hk2 hso hlt
      go_wp2_with (first
        | (go_at_call 40; refine HT2.out.mono ?_; rintro e w2 ⟨rfl, he2, hf2⟩; have HRW2 : Hid (Row w2 (fun i => B ≤ i) 52 14 (.slice p n cap) (acc.map encC)) := HRW.out.fr hf2 (by { have := HB.out; omega }); have HL3 : Hid (Loc w g V L w2 st.adv R cm0 52) := HLr.out.call he2 hf2; clear he2 hf2)
        | (go_at_call 148; refine (HP4.out _ HL3.out.env).mono ?_; rintro e w3 ⟨p3, cap3, rfl, hh3, he3, hf3⟩; have HRW3 : Hid (Row w3 (fun i => B ≤ i) 52 14 (.slice p n cap) (acc.map encC)) := HRW2.out.fr hf3 (by { have := HB.out; omega }); have HH3 : Hid (Holds w3 (fun i => B ≤ i ∧ (Value.slice p n cap).ownBlock ≠ some i) (.row 52 14 dsb) (.slice p3 m1 cap3)) := hh3.mono (fun i hi hl => ⟨⟨by { have := HL3.out.fr.size; have := blk_lt HL3.out.blk; have := HB.out; have := HRR.out; have h9 : w2.heap.size ≤ i := hi; omega }, fun h8 => by { have := HRW2.out.own_lt h8; have h9 : w2.heap.size ≤ i := hi; omega }⟩, rfl⟩); have HL4 : Hid (Loc w g V L w3 s2 R cm0 52) := HL3.out.call he3 hf3; have HBW : Hid (B ≤ w3.heap.size) := by { have h2 := blk_lt HL4.out.blk; have h3 := HB.out; have h4 := HRR.out; show B ≤ _; omega }; clear hh3 he3 hf3)
        | (at_builtin; refine wp_app (by rfl) _ _ 46 (by rfl) 52 i0 zC 14 176 Tryd.underlying46 HI.out.1 HI.out.2.1 HI.out.2.2.1 HI.out.2.2.2 rfl (by omega) B (.slice p n cap) (acc.map encC) (by rfl) (HRW3.out.alloc _) (Nat.le_trans HBW.out (by simp)) (encC ⟨dk, dsb, dl, dr⟩) (cnC dk (.slice p3 m1 cap3) dl dr) ⟨w3.heap.size, 0, none⟩ (by rfl) (by rfl) (World.news_of_block (heap_alloc_new _ _)) (by rfl) ((holdsC (c := ⟨dk, dsb, dl, dr⟩) HH3.out).on ((Fr.refl _ _).alloc _)) HLN.out (by omega) ?_; intro v' w5 hrw hgb hown; have HRW5 : Hid (Row w5 (fun i => B ≤ i) 52 14 v' (acc.map encC ++ [encC ⟨dk, dsb, dl, dr⟩])) := hrw; have HL5 : Hid (Loc w g V L w5 s2 R cm0 52) := (HL4.out.alloc _).grown hgb (fun k hk => by { have := hown k hk; have := HB.out; have := HRR.out; omega }); clear hrw hgb hown))
      go_roundg k2
      case measure => omega
      case rel =>
        have hk := HK.out
        have hn := HNN.out
        have hg2 := HG2.out
        refine ⟨acc ++ [⟨dk, dsb, dl, dr⟩], s2, HL5.out, ?_, HSP.out, by simp; omega, by omega, by omega, by simp⟩
        rw [List.map_append]
        exact HRW5.out
end Go.Proofs.YtnlmkdncifijlaaDoor
