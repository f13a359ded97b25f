/-
  A link.
-/
import Derived.Test.YtnlmkdncifijlaaDoorQ1
import Derived.Test.YtnlmkdncifijlaaDoorV1
import Derived.Deep.CutRange
import Derived.Deep.LoopGhost
namespace Go.Proofs.YtnlmkdncifijlaaDoor
open Go.ChangeShapes Go.WideShapes Go.ChangeAt Go.RowKit Go.Maps
set_option linter.unusedVariables false
set_option linter.unusedSimpArgs false
set_option maxRecDepth 20000
abbrev lkC (a : ByteArray) (v : Value) (b : ByteArray) : List Value := [.string a, v, .string b]
def lk0 : List Value := lkC (txt []) (.slice none 0 0) (txt [])
theorem holdsQ (w : World) (S : Nat → Prop) (q : Op3) : HoldsL w S (encQ q) (qC q.r q.lo q.hi) := .cons (.lit _) (.cons (.lit _) (.cons (.lit _) (.nil _ _)))
theorem lnk_g (L : List Tk) : Good (lnk L) := fun s => by
  have a := nam_g L s
  have b := opt_g L (nam L s).2
  have c := sep_g L [111, 114] ((opt_g L).at (opt L (nam L s).2).2.o) L.length (opt L (nam L s).2).2 [(opt L (nam L s).2).1] rfl
  have d := nam_g L (sep L [111, 114] (opt L) L.length (opt L (nam L s).2).2 [(opt L (nam L s).2).1]).2
  unfold lnk
  simp only
  omega
theorem ent_option : ∀ args w, (callFunc 141 args).run Tryd.prog w = .ok (.enter 141 args) w := enters_of Tryd.func141 (by kernel_rfl) rfl
/-- What a link leaves. -/
def KPost (w : World) (g : Nat) (V : Value) (L : List Tk) (k : Lk) (s : St) (e : Ending) (w' : World) : Prop :=
  ∃ p cap, e = .returned (.agg #[.string k.l, .slice p k.o.length cap, .string k.r]) ∧ Holds w' (fun i => w.heap.size ≤ i) (.row 59 3 (k.o.map encQ)) (.slice p k.o.length cap) ∧ Env w' g V L s ∧ Fr (fun i => i = g) w w'
theorem Lo2.set1 {w0 w : World} {g R M : Nat} {V : Value} {L : List Tk} {s : St} {cs ds : List Value} {T U : TypeId} (h : Lo2 w0 g V L w s R cs T M ds U) (j : Nat) (v : Value) (hj : j < ds.length) : Lo2 w0 g V L (w.setCell ⟨M, j, none⟩ v) s R cs T M (ovr ds j [v]) U :=
  h.st2 (blk_sets [v] j ds w h.blk2 (by simp; omega)) ((Fr.refl (fun i => i = M) w).setCell (p := ⟨M, j, none⟩) (.inl rfl) v)
theorem Row.off1 {w : World} {b e z : Nat} {v : Value} {l : List (List Dat)} (h : Row w (fun i => b ≤ i) e z v l) (M j : Nat) (u : Value) (hM : M < b) : Row (w.setCell ⟨M, j, none⟩ u) (fun i => b ≤ i) e z v l :=
  h.fr (g := M) ((Fr.refl (fun i => i = M) w).setCell (p := ⟨M, j, none⟩) (.inl rfl) u) hM
theorem Lo2.grown {w0 w w' : World} {g R M : Nat} {V : Value} {L : List Tk} {s : St} {cs ds : List Value} {T U : TypeId} {row : Option Nat} (h : Lo2 w0 g V L w s R cs T M ds U) (hg : w.grownBy w' row) (hr : ∀ k, row = some k → R < k ∧ M < k) : Lo2 w0 g V L w' s R cs T M ds U :=
  ⟨h.loc.grown hg (fun k hk => (hr k hk).1), h.lo2, h.ne, (hg.block M (blk_lt h.blk2) (fun e => by have := hr M e.symm; omega)).trans h.blk2⟩
set_option maxHeartbeats 8000000 in
theorem link_any (w : World) (g : Nat) (V : Value) (L : List Tk) (s : St) (h : Env w g V L s) : Calls Tryd.prog 123 #[rp g] w (KPost w g V L (lnk L s).1 (lnk L s).2) := by
  have HL0 : Hid (Loc w g V L (w.alloc (.cells lk0.toArray 62)) s w.heap.size lk0 62) := Loc.start h lk0 _
  have HGW : Hid (g < w.heap.size) := blk_lt h.blk
  have HLEN : Hid (L.length ≤ 700) := h.len
  have HG : Hid (Good (opt L)) := opt_g L
  obtain ⟨i0, a1, a2, a3, a4⟩ := info_parts infoQ
  have HI : Hid (Tryd.prog.info? 59 = some i0 ∧ i0.zero = some (.agg #[.int .i64 0, .int .i64 0, .int .i64 0]) ∧ i0.size = 3 ∧ i0.bytes = 24) := ⟨a1, a2, a3, a4⟩
  unfold lnk
  simp only
  obtain ⟨a, h_a⟩ : ∃ a, (nam L s).1 = a := ⟨_, rfl⟩
  obtain ⟨s1, h_s1⟩ : ∃ s1, (nam L s).2 = s1 := ⟨_, rfl⟩
  rw [h_a, h_s1]
  have HA : Hid (∀ W, Env W g V L s → Calls Tryd.prog 81 #[rp g] W fun e w' => e = .returned (.string a) ∧ Env w' g V L s1 ∧ Fr (fun i => i = g) W w') := fun W hW => by
    have := ident_any W g V L s hW
    rw [h_a, h_s1] at this
    exact this
  have HC : Hid (∀ W s, Env W g V L s → Calls Tryd.prog 141 #[rp g] W fun e w' => e = .returned (.agg #[.int .i64 (opt L s).1.r, .int .i64 (opt L s).1.lo, .int .i64 (opt L s).1.hi]) ∧ Env w' g V L (opt L s).2 ∧ Fr (fun i => i = g) W w') := fun W s hW => option_any W g V L s hW
  have hg1 := HG.out s1
  obtain ⟨F, hF⟩ : ∃ F, sep L [111, 114] (opt L) L.length (opt L s1).2 [(opt L s1).1] = F := ⟨_, rfl⟩
  rw [hF]
  obtain ⟨c, hc⟩ : ∃ c, (opt L s1).1 = c := ⟨_, rfl⟩
  obtain ⟨s2, hs2⟩ : ∃ s2, (opt L s1).2 = s2 := ⟨_, rfl⟩
  have HC1 : Hid (∀ W, Env W g V L s1 → Calls Tryd.prog 141 #[rp g] W fun e w' => e = .returned (.agg #[.int .i64 c.r, .int .i64 c.lo, .int .i64 c.hi]) ∧ Env w' g V L s2 ∧ Fr (fun i => i = g) W w') := fun W hW => by
    have := HC.out W s1 hW
    rw [hc, hs2] at this
    exact this
  rw [hc, hs2] at hF
  rw [hs2] at hg1
  have HF0 : Hid (sep L [111, 114] (opt L) L.length s2 [c] = F) := hF
  obtain ⟨b, h_b⟩ : ∃ b, (nam L F.2).1 = b := ⟨_, rfl⟩
  obtain ⟨s9, h_s9⟩ : ∃ s9, (nam L F.2).2 = s9 := ⟨_, rfl⟩
  rw [h_b, h_s9]
  have HB : Hid (∀ W, Env W g V L F.2 → Calls Tryd.prog 81 #[rp g] W fun e w' => e = .returned (.string b) ∧ Env w' g V L s9 ∧ Fr (fun i => i = g) W w') := fun W hW => by
    have := ident_any W g V L F.2 hW
    rw [h_b, h_s9] at this
    exact this
  have HLN : Hid (([] : List (List Dat)).length ≤ 800) := Nat.zero_le _
  have HNX : Hid (([] : List (List Dat)).length + 1 = 1) := rfl
  obtain ⟨cr, clo, chi⟩ := c
  clear a1 a2 a3 a4 hF hc hs2 h h_a h_s1 h_b h_s9 hg1
  go_enter Tryd.func123, Tryd.ntmps123
  go_wp2_with (go_at_call 81; refine (HA.out _ HL0.out.env).mono ?_; rintro e w1 ⟨rfl, he1, hf1⟩; have HL1 : Hid (Lo2 w g V L (w1.alloc (.cells (lkC a (.slice none 0 0) (txt [])).toArray 62)) s1 w.heap.size lk0 62 w1.heap.size (lkC a (.slice none 0 0) (txt [])) 62) := (HL0.out.call he1 hf1).two _ _; clear he1 hf1)
  obtain ⟨M, hM⟩ : ∃ M, w1.heap.size = M := ⟨_, rfl⟩
  obtain ⟨R, hR⟩ : ∃ R, w.heap.size = R := ⟨_, rfl⟩
  obtain ⟨wa, hwa⟩ : ∃ wa, w1.alloc (.cells (lkC a (.slice none 0 0) (txt [])).toArray 62) = wa := ⟨_, rfl⟩
  have HRM : Hid (R < M) := by show R < M; rw [← hR, ← hM]; have := HL1.out.lo2; have := HL1.out.ne; omega
  have HGM : Hid (g < M + 1) := by show g < M + 1; have := HRM.out; have := HGW.out; omega
  have HRR : Hid (w.heap.size = R) := hR
  rw [hM, hR, hwa] at HL1
  change Go.Code.wp _ _ _ _ (w1.alloc (.cells (lkC a (.slice none 0 0) (txt [])).toArray 62))
  rw [hwa, hM, hR]
  have ca : wa.cell? ⟨M, 1, none⟩ = some (.slice none 0 0) := by rw [cell_of_blk HL1.out.blk2]; rfl
  have HRa : Hid (Row wa (fun i => M + 1 ≤ i) 59 3 (.slice none 0 0) []) := Row.nil _ _ _ _
  have HL1d : Hid (Lo2 w g V L wa.drew s1 R lk0 62 M (lkC a (.slice none 0 0) (txt [])) 62) := HL1.out.on ((Fr.refl _ _).drew)
  have HRad : Hid (Row wa.drew (fun i => M + 1 ≤ i) 59 3 (.slice none 0 0) []) := Row.nil _ _ _ _
  clear hM hR hwa HL0
  go_cut [] from 7 to 13 (fun wx => ∃ p' cap', Lo2 w g V L wx s2 R lk0 62 M (lkC a (.slice p' 1 cap') (txt [])) 62 ∧ Row wx (fun i => M + 1 ≤ i) 59 3 (.slice p' 1 cap') ([(⟨cr, clo, chi⟩ : Op3)].map encQ))
  case first =>
    go_region_law (first
      | (refine step_call 141 ent_option (by rfl) _ _ (by rfl) (rp g) (by rfl) _ (HC1.out _ HL1d.out.env) ?_; rintro e wq ⟨rfl, heq, hfq⟩; refine ⟨_, rfl, ?_⟩; have HLq : Hid (Lo2 w g V L wq s2 R lk0 62 M (lkC a (.slice none 0 0) (txt [])) 62) := HL1d.out.call heq hfq; have HRq : Hid (Row wq (fun i => M + 1 ≤ i) 59 3 (.slice none 0 0) []) := HRad.out.fr hfq HGM.out; have cq : wq.cell? ⟨M, 1, none⟩ = some (.slice none 0 0) := by { rw [cell_of_blk HLq.out.blk2]; rfl }; have cqa : ∀ o, (wq.alloc o).cell? ⟨M, 1, none⟩ = some (.slice none 0 0) := fun o => by { rw [World.cell?_alloc_past _ _ _ (blk_lt HLq.out.blk2), cell_of_blk HLq.out.blk2]; rfl }; have HBQ : Hid (M + 1 ≤ wq.heap.size) := blk_lt HLq.out.blk2; clear heq hfq)
      | (refine step_app (by rfl) _ _ 60 (by rfl) 59 i0 (.agg #[.int .i64 0, .int .i64 0, .int .i64 0]) 3 24 Tryd.underlying60 HI.out.1 HI.out.2.1 HI.out.2.2.1 HI.out.2.2.2 rfl (by omega) (fun i => M + 1 ≤ i) (.slice none 0 0) [] (by rfl) (HRq.out.alloc _) (encQ ⟨cr, clo, chi⟩) (qC cr clo chi) ⟨wq.heap.size, 0, none⟩ (by rfl) (by rfl) (World.news_of_block (heap_alloc_new _ _)) (by rfl) (holdsQ _ _ ⟨cr, clo, chi⟩) (Nat.le_trans HBQ.out (by simp)) HLN.out (by omega) 1 HNX.out ?_; intro p' cap' w5 hrw hgb hown; have HRW5 : Hid (Row w5 (fun i => M + 1 ≤ i) 59 3 (.slice p' 1 cap') ([] ++ [encQ ⟨cr, clo, chi⟩])) := hrw; have HL5 : Hid (Lo2 w g V L w5 s2 R lk0 62 M (lkC a (.slice none 0 0) (txt [])) 62) := (HLq.out.alloc _).grown hgb (fun k hk => by { have h1 : M + 1 ≤ k := hown k hk; have h2 := HRM.out; exact ⟨by omega, by omega⟩ }); have c5 : w5.cell? ⟨M, 1, none⟩ = some (.slice none 0 0) := by { rw [cell_of_blk HL5.out.blk2]; rfl }; have f5 := free_of_blk HL5.out.blk2 1; clear hrw hgb hown))
    all_goals
      go_wp2_with fail
      go_meet
      case rel =>
        refine ⟨p', cap', ?_, ?_⟩
        · have h9 := HL5.out.set1 1 (.slice p' 1 cap') (Nat.le_of_ble_eq_true rfl)
          first | exact h9 | exact h9.on ((Fr.refl _ _).drew)
        · have h9 := HRW5.out.off1 M 1 (.slice p' 1 cap') (Nat.lt_succ_self _)
          first | exact h9 | exact h9.on ((Fr.refl _ _).drew)
  case rest =>
    obtain ⟨p', cap', hlo, hrow⟩ := hcut
    have HLc : Hid (Lo2 w g V L wc s2 R lk0 62 M (lkC a (.slice p' 1 cap') (txt [])) 62) := hlo
    have HRc : Hid (Row wc (fun i => M + 1 ≤ i) 59 3 (.slice p' 1 cap') ([(⟨cr, clo, chi⟩ : Op3)].map encQ)) := hrow
    clear hlo hrow HLN HNX HL1 HL1d HRad HRa ca
    go_wp2_with fail
    go_loopg [] L.length (fun k wr => ∃ (acc : List Op3) (st : St) (p : Option Addr) (cap : Nat), Lo2 w g V L wr st R lk0 62 M (lkC a (.slice p acc.length cap) (txt [])) 62 ∧ Row wr (fun i => M + 1 ≤ i) 59 3 (.slice p acc.length cap) (acc.map encQ) ∧ sep L [111, 114] (opt L) k st acc = F ∧ acc.length + k ≤ 701 ∧ L.length ≤ st.i + k)
    case atStart => exact ⟨[⟨cr, clo, chi⟩], s2, p', cap', HLc.out, HRc.out, HF0.out, by have := HLEN.out; simp; omega, by omega⟩
    case round =>
      obtain ⟨acc, st, p, cap, hlo, hrow, hsp, hk1, hk2⟩ := hrel
      obtain ⟨n, hn⟩ : ∃ n, acc.length = n := ⟨_, rfl⟩
      have HNN : Hid (acc.length = n) := hn
      rw [hn] at hlo hrow hk1
      have HLr : Hid (Lo2 w g V L wr st R lk0 62 M (lkC a (.slice p n cap) (txt [])) 62) := hlo
      have HRW : Hid (Row wr (fun i => M + 1 ≤ i) 59 3 (.slice p n cap) (acc.map encQ)) := hrow
      have HU := takes_any wr g V L st [111, 114] hlo.env
      have HK : Hid (n + gk ≤ 701 ∧ L.length ≤ st.i + gk) := ⟨hk1, hk2⟩
      unfold tks at HU
      clear hlo hrow hn hk1 HLc HRc HF0
      cases hm : see L [111, 114] st
      · rw [hm] at HU
        simp only [Bool.false_eq_true, if_false] at HU
        have HU2 : Hid (Calls Tryd.prog 40 #[rp g, .string ⟨#[111, 114]⟩] wr fun e w' => e = .returned (.bool false) ∧ Env w' g V L st ∧ Fr (fun i => i = g) wr w') := HU
        rw [sep_stop hm] at hsp
        subst hsp
        clear HU hm hk2
        go_wp2_with (first
          | (go_at_call 40; refine HU2.out.mono ?_; rintro e w3 ⟨rfl, he3, hf3⟩; have HL3 : Hid (Lo2 w g V L w3 st R lk0 62 M (lkC a (.slice p n cap) (txt [])) 62) := HLr.out.call he3 hf3; have HR3 : Hid (Row w3 (fun i => M + 1 ≤ i) 59 3 (.slice p n cap) (acc.map encQ)) := HRW.out.fr hf3 HGM.out; clear he3 hf3)
          | (go_at_call 81; refine (HB.out _ HL3.out.env).mono ?_; rintro e w4 ⟨rfl, he4, hf4⟩; have HL4 : Hid (Lo2 w g V L w4 s9 R lk0 62 M (lkC a (.slice p n cap) (txt [])) 62) := HL3.out.call he4 hf4; have HR4 : Hid (Row w4 (fun i => M + 1 ≤ i) 59 3 (.slice p n cap) (acc.map encQ)) := HR3.out.fr hf4 HGM.out; clear he4 hf4)
          | (refine wp_st (by rfl) 9 _ _ (by rfl) M 2 (lkC a (.slice p n cap) (txt [])) 62 (.string b) [.string b] (by rfl) (by rfl) (by rfl) HL4.out.blk2 (Nat.le_of_ble_eq_true rfl) (by kernel_rfl) (by rfl) ?_; intro w6 hw_w6 hf_w6; have HL6 : Hid (Lo2 w g V L w6 s9 R lk0 62 M (lkC a (.slice p n cap) b) 62) := HL4.out.st2 hw_w6 hf_w6; have HR6 : Hid (Row w6 (fun i => M + 1 ≤ i) 59 3 (.slice p n cap) (acc.map encQ)) := HR4.out.fr hf_w6 (Nat.lt_succ_self _); clear hw_w6 hf_w6)
          | (refine wp_ld (by rfl) 62 _ (by rfl) M (lkC a (.slice p n cap) b) 62 _ (by rfl) HL6.out.blk2 Tryd.underlying62 rfl (by kernel_rfl) ?_)
          | (refine wp_st (by rfl) 62 _ _ (by rfl) R 0 lk0 62 (.agg (lkC a (.slice p n cap) b).toArray) (lkC a (.slice p n cap) b) (by rfl) (by rfl) (by rfl) HL6.out.blk (Nat.le_of_ble_eq_true rfl) (by kernel_rfl) (by rfl) ?_; intro w9 hw_w9 hf_w9; have HL9 : Hid (Loc w g V L w9 s9 R (lkC a (.slice p n cap) b) 62) := HL6.out.loc.st hw_w9 hf_w9; have HR9 : Hid (Row w9 (fun i => M + 1 ≤ i) 59 3 (.slice p n cap) (acc.map encQ)) := HR6.out.fr hf_w9 (Nat.lt_succ_of_lt HRM.out); clear hw_w9 hf_w9))
        refine ret_loc R _ _ _ HL9.out.blk rfl rfl (by rfl) Tryd.underlying62 rfl (by kernel_rfl) ?_
        refine ⟨p, cap, ?_, ?_, HL9.out.env, HL9.out.fr⟩
        · simp only [HNN.out]
        · simp only [HNN.out]
          exact HR9.out.holds.low (by have := HRM.out; have := HRR.out; omega)
      · rw [hm] at HU
        simp only [if_true] at HU
        have HU2 : Hid (Calls Tryd.prog 40 #[rp g, .string ⟨#[111, 114]⟩] wr fun e w' => e = .returned (.bool true) ∧ Env w' g V L st.adv ∧ Fr (fun i => i = g) wr w') := HU
        have hlt := (see_lt hm).2
        obtain ⟨k2, rfl⟩ : ∃ k2, gk = k2 + 1 := ⟨gk - 1, by omega⟩
        rw [sep_step hm] at hsp
        have hg2 := HG.out st.adv
        obtain ⟨d, hd⟩ : ∃ d, (opt L st.adv).1 = d := ⟨_, rfl⟩
        obtain ⟨s4, hs4⟩ : ∃ s4, (opt L st.adv).2 = s4 := ⟨_, rfl⟩
        rw [hd, hs4] at hsp
        rw [hs4] at hg2
        have HC2 : Hid (∀ W, Env W g V L st.adv → Calls Tryd.prog 141 #[rp g] W fun e w' => e = .returned (.agg #[.int .i64 d.r, .int .i64 d.lo, .int .i64 d.hi]) ∧ Env w' g V L s4 ∧ Fr (fun i => i = g) W w') := fun W hW => by
          have := HC.out W st.adv hW
          rw [hd, hs4] at this
          exact this
        have HSP : Hid (sep L [111, 114] (opt L) k2 s4 (acc ++ [d]) = F) := hsp
        have HG2 : Hid (st.i + 1 ≤ s4.i) := hg2.1
        have HLN : Hid ((acc.map encQ).length ≤ 800) := by
          have h1 := HNN.out
          have h2 := HK.out
          show (acc.map encQ).length ≤ 800
          rw [List.length_map]
          omega
        obtain ⟨m, hmm⟩ : ∃ m, n + 1 = m := ⟨_, rfl⟩
        have HNX : Hid ((acc.map encQ).length + 1 = m) := by
          have h1 := HNN.out
          show (acc.map encQ).length + 1 = m
          rw [List.length_map]
          omega
        have HMM : Hid (n + 1 = m) := hmm
        obtain ⟨dr, dlo, dhi⟩ := d
        clear HU hm hd hs4 hsp hg2 hk2 hlt hmm
        go_wp2_with (go_at_call 40; refine HU2.out.mono ?_; rintro e w3 ⟨rfl, he3, hf3⟩; have HL3 : Hid (Lo2 w g V L w3 st.adv R lk0 62 M (lkC a (.slice p n cap) (txt [])) 62) := HLr.out.call he3 hf3; have HR3 : Hid (Row w3 (fun i => M + 1 ≤ i) 59 3 (.slice p n cap) (acc.map encQ)) := HRW.out.fr hf3 HGM.out; have c3 : w3.cell? ⟨M, 1, none⟩ = some (.slice p n cap) := by { rw [cell_of_blk HL3.out.blk2]; rfl }; clear he3 hf3)
        have HL3d : Hid (Lo2 w g V L w3.drew st.adv R lk0 62 M (lkC a (.slice p n cap) (txt [])) 62) := HL3.out.on ((Fr.refl _ _).drew)
        have HR3d : Hid (Row w3.drew (fun i => M + 1 ≤ i) 59 3 (.slice p n cap) (acc.map encQ)) := HR3.out.on ((Fr.refl _ _).drew)
        go_region_law (first
      | (refine step_call 141 ent_option (by rfl) _ _ (by rfl) (rp g) (by rfl) _ (HC2.out _ HL3d.out.env) ?_; rintro e wq ⟨rfl, heq, hfq⟩; refine ⟨_, rfl, ?_⟩; have HLq : Hid (Lo2 w g V L wq s4 R lk0 62 M (lkC a (.slice p n cap) (txt [])) 62) := HL3d.out.call heq hfq; have HRq : Hid (Row wq (fun i => M + 1 ≤ i) 59 3 (.slice p n cap) (acc.map encQ)) := HR3d.out.fr hfq HGM.out; have cq : wq.cell? ⟨M, 1, none⟩ = some (.slice p n cap) := by { rw [cell_of_blk HLq.out.blk2]; rfl }; have cqa : ∀ o, (wq.alloc o).cell? ⟨M, 1, none⟩ = some (.slice p n cap) := fun o => by { rw [World.cell?_alloc_past _ _ _ (blk_lt HLq.out.blk2), cell_of_blk HLq.out.blk2]; rfl }; have HBQ : Hid (M + 1 ≤ wq.heap.size) := blk_lt HLq.out.blk2; clear heq hfq)
      | (refine step_app (by rfl) _ _ 60 (by rfl) 59 i0 (.agg #[.int .i64 0, .int .i64 0, .int .i64 0]) 3 24 Tryd.underlying60 HI.out.1 HI.out.2.1 HI.out.2.2.1 HI.out.2.2.2 rfl (by omega) (fun i => M + 1 ≤ i) (.slice p n cap) (acc.map encQ) (by rfl) (HRq.out.alloc _) (encQ ⟨dr, dlo, dhi⟩) (qC dr dlo dhi) ⟨wq.heap.size, 0, none⟩ (by rfl) (by rfl) (World.news_of_block (heap_alloc_new _ _)) (by rfl) (holdsQ _ _ ⟨dr, dlo, dhi⟩) (Nat.le_trans HBQ.out (by simp)) HLN.out (by omega) m HNX.out ?_; intro p' cap' w5 hrw hgb hown; have HRW5 : Hid (Row w5 (fun i => M + 1 ≤ i) 59 3 (.slice p' m cap') ((acc.map encQ) ++ [encQ ⟨dr, dlo, dhi⟩])) := hrw; have HL5 : Hid (Lo2 w g V L w5 s4 R lk0 62 M (lkC a (.slice p n cap) (txt [])) 62) := (HLq.out.alloc _).grown hgb (fun k hk => by { have h1 : M + 1 ≤ k := hown k hk; have h2 := HRM.out; exact ⟨by omega, by omega⟩ }); have c5 : w5.cell? ⟨M, 1, none⟩ = some (.slice p n cap) := by { rw [cell_of_blk HL5.out.blk2]; rfl }; have f5 := free_of_blk HL5.out.blk2 1; clear hrw hgb hown))
        all_goals
          go_wp2_with fail
          go_roundg k2
          case measure => omega
          case rel =>
            have hk := HK.out
            have hn := HNN.out
            have hg2 := HG2.out
            have hmm := HMM.out
            have hl : (acc ++ [(⟨dr, dlo, dhi⟩ : Op3)]).length = m := by simp; omega
            refine ⟨acc ++ [⟨dr, dlo, dhi⟩], s4, p', cap', ?_, ?_, HSP.out, by omega, by omega⟩
            · rw [hl]
              have h9 := HL5.out.set1 1 (.slice p' m cap') (Nat.le_of_ble_eq_true rfl)
              first | exact h9 | exact h9.on ((Fr.refl _ _).drew)
            · rw [hl, List.map_append]
              have h9 := HRW5.out.off1 M 1 (.slice p' m cap') (Nat.lt_succ_self _)
              first | exact h9 | exact h9.on ((Fr.refl _ _).drew)
end Go.Proofs.YtnlmkdncifijlaaDoor
