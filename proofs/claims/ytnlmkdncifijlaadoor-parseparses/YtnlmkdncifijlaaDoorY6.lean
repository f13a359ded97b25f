/-
  The reference reads a pattern, and an option.
-/
import Derived.Test.YtnlmkdncifijlaaDoorY5
import Derived.Test.YtnlmkdncifijlaaDoorP
import Derived.Test.YtnlmkdncifijlaaDoorQ1
namespace Go.Proofs.YtnlmkdncifijlaaDoor.Ref
open Go.ChangeShapes Go.WideShapes Go.ChangeAt Go.RowKit Go.Maps
set_option linter.unusedVariables false
set_option linter.unusedSimpArgs false
set_option maxRecDepth 20000
/-- What a pattern leaves. -/
def PPost (w : World) (g : Nat) (V : Value) (L : List Tk) (t : Pt) (s : St) (e : Ending) (w' : World) : Prop :=
  ∃ p cap, e = .returned (ptV t.va t.ty t.c.k (.slice p t.c.sb.length cap) t.c.l t.c.r t.w t.n) ∧ Holds w' (fun i => w.heap.size ≤ i) (.row 52 14 t.c.sb) (.slice p t.c.sb.length cap) ∧ Env w' g V L s ∧ Fr (fun i => i = g) w w'
theorem build_pt0 (w : World) : (Instr.build 54 #[]).run Tryd.prog w = .ok (ptV (txt []) (txt []) 0 (.slice none 0 0) opd0 opd0 0 0) w := by kernel_rfl
theorem Loc.two' {w0 w : World} {g R M : Nat} {V : Value} {L : List Tk} {s : St} {cs : List Value} {T : TypeId} (h : Loc w0 g V L w s R cs T) (hM : w.heap.size = M) (ds : List Value) (U : TypeId) : Lo2 w0 g V L (w.alloc (.cells ds.toArray U)) s R cs T M ds U := by
  subst hM
  exact h.two ds U
set_option maxHeartbeats 8000000 in
theorem shape_any (w : World) (g : Nat) (V : Value) (L : List Tk) (s : St) (h : Env w g V L s) (h0 : s.o = 0) : Calls Tryd.prog 48 #[rp g] w (PPost w g V L (pat L s).1 (pat L s).2) := by
  have HL0 : Hid (Loc w g V L (w.alloc (.cells pt0.toArray 54)) s w.heap.size pt0 54) := Loc.start h pt0 _
  have HLM : Hid (Lo2 w g V L ((w.alloc (.cells pt0.toArray 54)).alloc (.cells pt0.toArray 54)) s w.heap.size pt0 54 (w.heap.size + 1) pt0 54) := HL0.out.two' (by simp) pt0 _
  have hgw := blk_lt h.blk
  have q1 := nam_g L s
  have q2 := wnt_i L [58] (nam L s).2
  have q3 := nam_g L (wnt L [58] (nam L s).2)
  unfold pat
  simp only
  obtain ⟨a, h_a⟩ : ∃ a, (nam L s).1 = a := ⟨_, rfl⟩
  obtain ⟨s1, h_s1⟩ : ∃ s1, (nam L s).2 = s1 := ⟨_, rfl⟩
  rw [h_s1] at q1 q2 q3
  obtain ⟨s2, h_s2⟩ : ∃ s2, wnt L [58] s1 = s2 := ⟨_, rfl⟩
  rw [h_s2] at q2 q3
  obtain ⟨b, h_b⟩ : ∃ b, (nam L s2).1 = b := ⟨_, rfl⟩
  obtain ⟨s3, h_s3⟩ : ∃ s3, (nam L s2).2 = s3 := ⟨_, rfl⟩
  rw [h_s3] at q3
  rw [h_a, h_s1, h_s2, h_b, h_s3]
  have HA : Hid (∀ W, Env W g V L s → Calls Tryd.prog 21 #[rp g] W fun e w' => e = .returned (.string a) ∧ Env w' g V L s1 ∧ Fr (fun i => i = g) W w') := fun W hW => by
    have := ident_any W g V L s hW
    rw [h_a, h_s1] at this
    exact this
  have HW : Hid (∀ W, Env W g V L s1 → Calls Tryd.prog 22 #[rp g, .int .i64 4, .string ⟨#[58]⟩] W fun e w' => e = .returned (.tuple #[]) ∧ Env w' g V L s2 ∧ Fr (fun i => i = g) W w') := fun W hW => by
    have := want_any W g V L s1 4 [58] (.inr ⟨rfl, by decide⟩) hW
    rw [h_s2] at this
    exact this
  have HB : Hid (∀ W, Env W g V L s2 → Calls Tryd.prog 21 #[rp g] W fun e w' => e = .returned (.string b) ∧ Env w' g V L s3 ∧ Fr (fun i => i = g) W w') := fun W hW => by
    have := ident_any W g V L s2 hW
    rw [h_b, h_s3] at this
    exact this
  have h03 : s3.o = 0 := by omega
  cases hb_HT : see L [91] s3
  · simp only [Bool.false_eq_true, if_false]
    have HT : Hid (∀ W, Env W g V L s3 → Calls Tryd.prog 20 #[rp g, .int .i64 4, .string ⟨#[91]⟩] W fun e w' => e = .returned (.bool false) ∧ Env w' g V L s3 ∧ Fr (fun i => i = g) W w') := fun W hW => by
      have := is_any W g V L s3 4 [91] (.inr ⟨rfl, by decide⟩) hW
      unfold tks at this
      rw [hb_HT] at this
      exact this
    clear h_a h_s1 h_s2 h_b h_s3 q1 q2 q3 h h0 h03 hb_HT hgw
    go_enter Tryd.func48, Tryd.ntmps48
    go_wp2_with (first
      | (go_at_call 21; refine (HB.out _ HL4.out.env).mono ?_; rintro e w5 ⟨rfl, he_w5, hf_w5⟩; have HL5 : Hid (Lo2 w g V L w5 s3 w.heap.size pt0 54 (w.heap.size + 1) (ptC a (txt []) 0 (.slice none 0 0) opd0 opd0 0 0) 54) := (HL4.out.call he_w5 hf_w5); clear he_w5 hf_w5)
      | (go_at_call 21; refine (HA.out _ HL1.out.env).mono ?_; rintro e w2 ⟨rfl, he_w2, hf_w2⟩; have HL2 : Hid (Lo2 w g V L w2 s1 w.heap.size pt0 54 (w.heap.size + 1) pt0 54) := (HL1.out.call he_w2 hf_w2); clear he_w2 hf_w2)
      | ((with_reducible show wpList _ _ _ (Oper.mk _ (.build _ _) _ _ _ _ :: _) _ _); refine wp_bd (by rfl) 54 _ (by rfl) (ptV (txt []) (txt []) 0 (.slice none 0 0) opd0 opd0 0 0) #[] (by rfl) (build_pt0 _) ?_)
      | ((with_reducible show wpList _ _ _ (Oper.mk _ (.load _ _) _ _ _ _ :: _) _ _); refine wp_ld (by rfl) 54 _ (by rfl) (w.heap.size + 1) (ptC a b 0 (.slice none 0 0) opd0 opd0 0 0) 54 _ (by rfl) HL7.out.blk2 Tryd.underlying54 rfl (by kernel_rfl) ?_)
      | ((with_reducible show wpList _ _ _ (Oper.mk _ (.store _ _ _) _ _ _ _ :: _) _ _); refine wp_st (by rfl) 54 _ _ (by rfl) w.heap.size 0 pt0 54 (ptV a b 0 (.slice none 0 0) opd0 opd0 0 0) (ptC a b 0 (.slice none 0 0) opd0 opd0 0 0) (by rfl) (by rfl) (by rfl) HL7.out.blk (Nat.le_of_ble_eq_true rfl) (by kernel_rfl) (by rfl) ?_; intro w9 hw_w9 hf_w9; have HL9 : Hid (Loc w g V L w9 s3 w.heap.size (ptC a b 0 (.slice none 0 0) opd0 opd0 0 0) 54) := HL7.out.loc.st hw_w9 hf_w9; clear hw_w9 hf_w9)
      | ((with_reducible show wpList _ _ _ (Oper.mk _ (.store _ _ _) _ _ _ _ :: _) _ _); refine wp_st (by rfl) 9 _ _ (by rfl) (w.heap.size + 1) 1 (ptC a (txt []) 0 (.slice none 0 0) opd0 opd0 0 0) 54 (.string b) [.string b] (by rfl) (by rfl) (by rfl) HL5.out.blk2 (Nat.le_of_ble_eq_true rfl) (by kernel_rfl) (by rfl) ?_; intro w6 hw_w6 hf_w6; have HL6 : Hid (Lo2 w g V L w6 s3 w.heap.size pt0 54 (w.heap.size + 1) (ptC a b 0 (.slice none 0 0) opd0 opd0 0 0) 54) := HL5.out.st2 hw_w6 hf_w6; clear hw_w6 hf_w6)
      | ((with_reducible show wpList _ _ _ (Oper.mk _ (.store _ _ _) _ _ _ _ :: _) _ _); refine wp_st (by rfl) 9 _ _ (by rfl) (w.heap.size + 1) 0 pt0 54 (.string a) [.string a] (by rfl) (by rfl) (by rfl) HL2.out.blk2 (Nat.le_of_ble_eq_true rfl) (by kernel_rfl) (by rfl) ?_; intro w3 hw_w3 hf_w3; have HL3 : Hid (Lo2 w g V L w3 s1 w.heap.size pt0 54 (w.heap.size + 1) (ptC a (txt []) 0 (.slice none 0 0) opd0 opd0 0 0) 54) := HL2.out.st2 hw_w3 hf_w3; clear hw_w3 hf_w3)
      | ((with_reducible show wpList _ _ _ (Oper.mk _ (.store _ _ _) _ _ _ _ :: _) _ _); refine wp_st (by rfl) 54 _ _ (by rfl) (w.heap.size + 1) 0 pt0 54 (ptV (txt []) (txt []) 0 (.slice none 0 0) opd0 opd0 0 0) pt0 (by rfl) (by rfl) (by rfl) HLM.out.blk2 (Nat.le_of_ble_eq_true rfl) (by kernel_rfl) (by rfl) ?_; intro w1 hw_w1 hf_w1; have HL1 : Hid (Lo2 w g V L w1 s w.heap.size pt0 54 (w.heap.size + 1) pt0 54) := HLM.out.st2 hw_w1 hf_w1; clear hw_w1 hf_w1)
      | (go_at_call_of 22 (Value.string ⟨#[58]⟩); refine (HW.out _ HL3.out.env).mono ?_; rintro e w4 ⟨rfl, he_w4, hf_w4⟩; have HL4 : Hid (Lo2 w g V L w4 s2 w.heap.size pt0 54 (w.heap.size + 1) (ptC a (txt []) 0 (.slice none 0 0) opd0 opd0 0 0) 54) := (HL3.out.call he_w4 hf_w4); clear he_w4 hf_w4)
      | (go_at_call_of 20 (Value.string ⟨#[91]⟩); refine (HT.out _ HL6.out.env).mono ?_; rintro e w7 ⟨rfl, he_w7, hf_w7⟩; have HL7 : Hid (Lo2 w g V L w7 s3 w.heap.size pt0 54 (w.heap.size + 1) (ptC a b 0 (.slice none 0 0) opd0 opd0 0 0) 54) := HL6.out.call he_w7 hf_w7; clear he_w7 hf_w7))
    refine ret_loc w.heap.size _ _ _ HL9.out.blk rfl rfl (by rfl) Tryd.underlying54 rfl (by kernel_rfl) ?_
    exact ⟨none, 0, rfl, (Row.nil _ _ _ _).holds, HL9.out.env, HL9.out.fr⟩
  · simp only [if_true]
    have HT : Hid (∀ W, Env W g V L s3 → Calls Tryd.prog 20 #[rp g, .int .i64 4, .string ⟨#[91]⟩] W fun e w' => e = .returned (.bool true) ∧ Env w' g V L s3.adv ∧ Fr (fun i => i = g) W w') := fun W hW => by
      have := is_any W g V L s3 4 [91] (.inr ⟨rfl, by decide⟩) hW
      unfold tks at this
      rw [hb_HT] at this
      exact this
    have HOR : Hid (∀ W, Env W g V L s3.adv → Calls Tryd.prog 87 #[rp g, .int .i64 0, .int .i64 1] W (CPost W g V L (orr L (ntt L 7) s3.adv).1 (orr L (ntt L 7) s3.adv).2)) := fun W hW => tests_any g V L W s3.adv hW h03
    obtain ⟨c, hc⟩ : ∃ c, (orr L (ntt L 7) s3.adv).1 = c := ⟨_, rfl⟩
    obtain ⟨s4, hs4⟩ : ∃ s4, (orr L (ntt L 7) s3.adv).2 = s4 := ⟨_, rfl⟩
    rw [hc, hs4] at HOR ⊢
    obtain ⟨s5, h_s5⟩ : ∃ s5, wnt L [93] s4 = s5 := ⟨_, rfl⟩
    rw [h_s5]
    have HX : Hid (∀ W, Env W g V L s4 → Calls Tryd.prog 22 #[rp g, .int .i64 4, .string ⟨#[93]⟩] W fun e w' => e = .returned (.tuple #[]) ∧ Env w' g V L s5 ∧ Fr (fun i => i = g) W w') := fun W hW => by
      have := want_any W g V L s4 4 [93] (.inr ⟨rfl, by decide⟩) hW
      rw [h_s5] at this
      exact this
    obtain ⟨ck, csb, cl, cr⟩ := c
    obtain ⟨n1, hn1⟩ : ∃ n1, csb.length = n1 := ⟨_, rfl⟩
    unfold CPost at HOR
    simp only [hn1] at HOR
    have HN1 : Hid (csb.length = n1) := hn1
    have HGW : Hid (g < w.heap.size) := hgw
    clear h_a h_s1 h_s2 h_b h_s3 h_s5 q1 q2 q3 h h0 h03 hb_HT hgw hc hs4 hn1
    go_enter Tryd.func48, Tryd.ntmps48
    go_wp2_with (first
      | (go_at_call 21; refine (HB.out _ HL4.out.env).mono ?_; rintro e w5 ⟨rfl, he_w5, hf_w5⟩; have HL5 : Hid (Lo2 w g V L w5 s3 w.heap.size pt0 54 (w.heap.size + 1) (ptC a (txt []) 0 (.slice none 0 0) opd0 opd0 0 0) 54) := (HL4.out.call he_w5 hf_w5); clear he_w5 hf_w5)
      | (go_at_call 21; refine (HA.out _ HL1.out.env).mono ?_; rintro e w2 ⟨rfl, he_w2, hf_w2⟩; have HL2 : Hid (Lo2 w g V L w2 s1 w.heap.size pt0 54 (w.heap.size + 1) pt0 54) := (HL1.out.call he_w2 hf_w2); clear he_w2 hf_w2)
      | ((with_reducible show wpList _ _ _ (Oper.mk _ (.build _ _) _ _ _ _ :: _) _ _); refine wp_bd (by rfl) 54 _ (by rfl) (ptV (txt []) (txt []) 0 (.slice none 0 0) opd0 opd0 0 0) #[] (by rfl) (build_pt0 _) ?_)
      | ((with_reducible show wpList _ _ _ (Oper.mk _ (.load _ _) _ _ _ _ :: _) _ _); refine wp_ld (by rfl) 54 _ (by rfl) (w.heap.size + 1) (ptC a b ck (.slice p5 n1 cap5) cl cr 0 0) 54 _ (by rfl) HLc.out.blk2 Tryd.underlying54 rfl (by kernel_rfl) ?_)
      | ((with_reducible show wpList _ _ _ (Oper.mk _ (.store _ _ _) _ _ _ _ :: _) _ _); refine wp_st (by rfl) 54 _ _ (by rfl) w.heap.size 0 pt0 54 (ptV a b ck (.slice p5 n1 cap5) cl cr 0 0) (ptC a b ck (.slice p5 n1 cap5) cl cr 0 0) (by rfl) (by rfl) (by rfl) HLc.out.blk (Nat.le_of_ble_eq_true rfl) (by kernel_rfl) (by rfl) ?_; intro w9 hw_w9 hf_w9; have HL9 : Hid (Loc w g V L w9 s5 w.heap.size (ptC a b ck (.slice p5 n1 cap5) cl cr 0 0) 54) := HLc.out.loc.st hw_w9 hf_w9; have HH9 : Hid (Holds w9 (fun i => w7.heap.size ≤ i) (.row 52 14 csb) (.slice p5 n1 cap5)) := HHc.out.fr hf_w9 HM6.out.1; clear hw_w9 hf_w9)
      | ((with_reducible show wpList _ _ _ (Oper.mk _ (.store _ _ _) _ _ _ _ :: _) _ _); refine wp_st (by rfl) 52 _ _ (by rfl) (w.heap.size + 1) 2 (ptC a b 0 (.slice none 0 0) opd0 opd0 0 0) 54 (cnV ck (.slice p5 n1 cap5) cl cr) (cnC ck (.slice p5 n1 cap5) cl cr) (by rfl) (by rfl) (by rfl) HLa.out.blk2 (Nat.le_of_ble_eq_true rfl) (by kernel_rfl) (by rfl) ?_; intro wb hw_wb hf_wb; have HLb : Hid (Lo2 w g V L wb s4 w.heap.size pt0 54 (w.heap.size + 1) (ptC a b ck (.slice p5 n1 cap5) cl cr 0 0) 54) := HLa.out.st2 hw_wb hf_wb; have HHb : Hid (Holds wb (fun i => w7.heap.size ≤ i) (.row 52 14 csb) (.slice p5 n1 cap5)) := HHa.out.fr hf_wb HM6.out.2; clear hw_wb hf_wb)
      | ((with_reducible show wpList _ _ _ (Oper.mk _ (.store _ _ _) _ _ _ _ :: _) _ _); refine wp_st (by rfl) 9 _ _ (by rfl) (w.heap.size + 1) 1 (ptC a (txt []) 0 (.slice none 0 0) opd0 opd0 0 0) 54 (.string b) [.string b] (by rfl) (by rfl) (by rfl) HL5.out.blk2 (Nat.le_of_ble_eq_true rfl) (by kernel_rfl) (by rfl) ?_; intro w6 hw_w6 hf_w6; have HL6 : Hid (Lo2 w g V L w6 s3 w.heap.size pt0 54 (w.heap.size + 1) (ptC a b 0 (.slice none 0 0) opd0 opd0 0 0) 54) := HL5.out.st2 hw_w6 hf_w6; clear hw_w6 hf_w6)
      | ((with_reducible show wpList _ _ _ (Oper.mk _ (.store _ _ _) _ _ _ _ :: _) _ _); refine wp_st (by rfl) 9 _ _ (by rfl) (w.heap.size + 1) 0 pt0 54 (.string a) [.string a] (by rfl) (by rfl) (by rfl) HL2.out.blk2 (Nat.le_of_ble_eq_true rfl) (by kernel_rfl) (by rfl) ?_; intro w3 hw_w3 hf_w3; have HL3 : Hid (Lo2 w g V L w3 s1 w.heap.size pt0 54 (w.heap.size + 1) (ptC a (txt []) 0 (.slice none 0 0) opd0 opd0 0 0) 54) := HL2.out.st2 hw_w3 hf_w3; clear hw_w3 hf_w3)
      | ((with_reducible show wpList _ _ _ (Oper.mk _ (.store _ _ _) _ _ _ _ :: _) _ _); refine wp_st (by rfl) 54 _ _ (by rfl) (w.heap.size + 1) 0 pt0 54 (ptV (txt []) (txt []) 0 (.slice none 0 0) opd0 opd0 0 0) pt0 (by rfl) (by rfl) (by rfl) HLM.out.blk2 (Nat.le_of_ble_eq_true rfl) (by kernel_rfl) (by rfl) ?_; intro w1 hw_w1 hf_w1; have HL1 : Hid (Lo2 w g V L w1 s w.heap.size pt0 54 (w.heap.size + 1) pt0 54) := HLM.out.st2 hw_w1 hf_w1; clear hw_w1 hf_w1)
      | (go_at_call_of 22 (Value.string ⟨#[58]⟩); refine (HW.out _ HL3.out.env).mono ?_; rintro e w4 ⟨rfl, he_w4, hf_w4⟩; have HL4 : Hid (Lo2 w g V L w4 s2 w.heap.size pt0 54 (w.heap.size + 1) (ptC a (txt []) 0 (.slice none 0 0) opd0 opd0 0 0) 54) := (HL3.out.call he_w4 hf_w4); clear he_w4 hf_w4)
      | (go_at_call_of 20 (Value.string ⟨#[91]⟩); refine (HT.out _ HL6.out.env).mono ?_; rintro e w7 ⟨rfl, he_w7, hf_w7⟩; have HL7 : Hid (Lo2 w g V L w7 s3.adv w.heap.size pt0 54 (w.heap.size + 1) (ptC a b 0 (.slice none 0 0) opd0 opd0 0 0) 54) := HL6.out.call he_w7 hf_w7; clear he_w7 hf_w7)
      | (go_at_call 87; refine (HOR.out _ HL7.out.env).mono ?_; rintro e wa ⟨p5, cap5, rfl, hh6, he6, hf6⟩; have HHa : Hid (Holds wa (fun i => w7.heap.size ≤ i) (.row 52 14 csb) (.slice p5 n1 cap5)) := hh6; have HM6 : Hid (w.heap.size < w7.heap.size ∧ w.heap.size + 1 < w7.heap.size) := ⟨blk_lt HL7.out.blk, blk_lt HL7.out.blk2⟩; have HLa : Hid (Lo2 w g V L wa s4 w.heap.size pt0 54 (w.heap.size + 1) (ptC a b 0 (.slice none 0 0) opd0 opd0 0 0) 54) := HL7.out.call he6 hf6; clear hh6 he6 hf6)
      | (go_at_call_of 22 (Value.string ⟨#[93]⟩); refine (HX.out _ HLb.out.env).mono ?_; rintro e wc ⟨rfl, he_wc, hf_wc⟩; have HLc : Hid (Lo2 w g V L wc s5 w.heap.size pt0 54 (w.heap.size + 1) (ptC a b ck (.slice p5 n1 cap5) cl cr 0 0) 54) := (HLb.out.call he_wc hf_wc); have HHc : Hid (Holds wc (fun i => w7.heap.size ≤ i) (.row 52 14 csb) (.slice p5 n1 cap5)) := HHb.out.fr hf_wc (by { have := HM6.out; have := HGW.out; omega }); clear he_wc hf_wc))
    refine ret_loc w.heap.size _ _ _ HL9.out.blk rfl rfl (by rfl) Tryd.underlying54 rfl (by kernel_rfl) ?_
    refine ⟨p5, cap5, ?_, ?_, HL9.out.env, HL9.out.fr⟩
    · simp only [HN1.out]
    · simp only [HN1.out]
      exact HH9.out.low (Nat.le_of_lt HM6.out.1)
set_option maxHeartbeats 4000000 in
theorem way_bad (w : World) (g : Nat) (V : Value) (L : List Tk) (s : St) (k m : Int) (tx : ByteArray) (h : Env w g V L s) (ht : nxt L s = ⟨k, tx, m⟩) (hk : ¬ k = 1) (s2 : St) (h_s2 : fal L s = s2) : Calls Tryd.prog 50 #[rp g] w (fun e w' => e = .returned (.agg #[.int .i64 0, .int .i64 0, .int .i64 (-1)]) ∧ Env w' g V L s2 ∧ Fr (fun i => i = g) w w') := by
  have HL0 : Hid (Loc w g V L (w.alloc (.cells #[.int .i64 0, .int .i64 0, .int .i64 0] 59)) s w.heap.size [.int .i64 0, .int .i64 0, .int .i64 0] 59) := Loc.start h [.int .i64 0, .int .i64 0, .int .i64 0] _
  have HN : Hid (∀ W, Env W g V L s → Calls Tryd.prog 47 #[rp g] W fun e w' => e = .returned (.agg #[.int .i64 k, .string tx, .int .i64 m]) ∧ Fr (fun _ => False) W w') := fun W hW => by
    have := next_any W g V L s hW
    rw [ht] at this
    exact this
  have HWR : Hid (∀ W, Env W g V L s → Calls Tryd.prog 24 #[rp g] W fun e w' => e = .returned (.tuple #[]) ∧ Env w' g V L s2 ∧ Fr (fun i => i = g) W w') := fun W hW => by
    have := wrong_any W g V L s hW
    rw [h_s2] at this
    exact this
  have q1 : (k == 1) = false := by simpa using hk
  clear h ht hk h_s2
  go_enter Tryd.func50, Tryd.ntmps50
  go_wp2_with (first
      | (go_at_call 47; refine (HN.out _ HL0.out.env).mono ?_; rintro e w1 ⟨rfl, hf1⟩; have HL1 : Hid (Lo2 w g V L ((w1.alloc (.cells #[.int .i64 k, .string tx, .int .i64 m] 65)).alloc (.cells #[.int .i64 0, .int .i64 0, .int .i64 (-1)] 59)) s w.heap.size [.int .i64 0, .int .i64 0, .int .i64 0] 59 (w1.heap.size + 1) [.int .i64 0, .int .i64 0, .int .i64 (-1)] 59) := ((HL0.out.on hf1).alloc _).two' (by { simp }) [.int .i64 0, .int .i64 0, .int .i64 (-1)] _; clear hf1)
      | ((with_reducible show wpList _ _ _ (Oper.mk _ (.load _ _) _ _ _ _ :: _) _ _); refine wp_ld (by rfl) 59 _ (by rfl) (w1.heap.size + 1) [.int .i64 0, .int .i64 0, .int .i64 (-1)] 59 _ (by rfl) HL8.out.blk2 Tryd.underlying59 rfl (by kernel_rfl) ?_)
      | ((with_reducible show wpList _ _ _ (Oper.mk _ (.store _ _ _) _ _ _ _ :: _) _ _); refine wp_st (by rfl) 59 _ _ (by rfl) w.heap.size 0 [.int .i64 0, .int .i64 0, .int .i64 0] 59 (.agg #[.int .i64 0, .int .i64 0, .int .i64 (-1)]) [.int .i64 0, .int .i64 0, .int .i64 (-1)] (by rfl) (by rfl) (by rfl) HL8.out.blk (Nat.le_of_ble_eq_true rfl) (by kernel_rfl) (by rfl) ?_; intro w9 hw_w9 hf_w9; have HL9 : Hid (Loc w g V L w9 s2 w.heap.size [.int .i64 0, .int .i64 0, .int .i64 (-1)] 59) := HL8.out.loc.st hw_w9 hf_w9; clear hw_w9 hf_w9)
      | (go_at_call 24; refine (HWR.out _ HL1.out.env).mono ?_; rintro e w8 ⟨rfl, he8, hf8⟩; have HL8 : Hid (Lo2 w g V L w8 s2 w.heap.size [.int .i64 0, .int .i64 0, .int .i64 0] 59 (w1.heap.size + 1) [.int .i64 0, .int .i64 0, .int .i64 (-1)] 59) := HL1.out.call he8 hf8; clear he8 hf8))
  refine ret_loc w.heap.size _ _ _ HL9.out.blk rfl rfl (by rfl) Tryd.underlying59 rfl (by kernel_rfl) ?_
  exact ⟨rfl, HL9.out.env, HL9.out.fr⟩
set_option maxHeartbeats 4000000 in
theorem way_none (w : World) (g : Nat) (V : Value) (L : List Tk) (s : St) (k m : Int) (tx : ByteArray) (h : Env w g V L s) (ht : nxt L s = ⟨k, tx, m⟩) (hk : k = 1) (hr : rln tx = 0) (s2 : St) (h_s2 : fal L s = s2) : Calls Tryd.prog 50 #[rp g] w (fun e w' => e = .returned (.agg #[.int .i64 0, .int .i64 0, .int .i64 (-1)]) ∧ Env w' g V L s2 ∧ Fr (fun i => i = g) w w') := by
  have HL0 : Hid (Loc w g V L (w.alloc (.cells #[.int .i64 0, .int .i64 0, .int .i64 0] 59)) s w.heap.size [.int .i64 0, .int .i64 0, .int .i64 0] 59) := Loc.start h [.int .i64 0, .int .i64 0, .int .i64 0] _
  have HN : Hid (∀ W, Env W g V L s → Calls Tryd.prog 47 #[rp g] W fun e w' => e = .returned (.agg #[.int .i64 k, .string tx, .int .i64 m]) ∧ Fr (fun _ => False) W w') := fun W hW => by
    have := next_any W g V L s hW
    rw [ht] at this
    exact this
  have HWR : Hid (∀ W, Env W g V L s → Calls Tryd.prog 24 #[rp g] W fun e w' => e = .returned (.tuple #[]) ∧ Env w' g V L s2 ∧ Fr (fun i => i = g) W w') := fun W hW => by
    have := wrong_any W g V L s hW
    rw [h_s2] at this
    exact this
  have HRO : Hid (∀ W, Calls Tryd.prog 67 #[.string tx] W fun e w' => e = .returned (.int .i64 0) ∧ Below W.heap.size W w') := fun W => by
    have := relOf_any tx W
    rw [hr] at this
    exact this
  have q1 : (k == 1) = true := by simpa using hk
  clear h ht hk h_s2 hr
  go_enter Tryd.func50, Tryd.ntmps50
  go_wp2_with (first
      | (go_at_call 47; refine (HN.out _ HL0.out.env).mono ?_; rintro e w1 ⟨rfl, hf1⟩; have HL1 : Hid (Lo2 w g V L ((w1.alloc (.cells #[.int .i64 k, .string tx, .int .i64 m] 65)).alloc (.cells #[.int .i64 0, .int .i64 0, .int .i64 (-1)] 59)) s w.heap.size [.int .i64 0, .int .i64 0, .int .i64 0] 59 (w1.heap.size + 1) [.int .i64 0, .int .i64 0, .int .i64 (-1)] 59) := ((HL0.out.on hf1).alloc _).two' (by { simp }) [.int .i64 0, .int .i64 0, .int .i64 (-1)] _; clear hf1)
      | (go_at_call 67; refine (HRO.out _).mono ?_; rintro e w2 ⟨rfl, hb2⟩; have HL2 : Hid (Lo2 w g V L w2 s w.heap.size [.int .i64 0, .int .i64 0, .int .i64 0] 59 (w1.heap.size + 1) [.int .i64 0, .int .i64 0, .int .i64 (-1)] 59) := HL1.out.on (Fr.of_below hb2); clear hb2)
      | ((with_reducible show wpList _ _ _ (Oper.mk _ (.load _ _) _ _ _ _ :: _) _ _); refine wp_ld (by rfl) 59 _ (by rfl) (w1.heap.size + 1) [.int .i64 0, .int .i64 0, .int .i64 (-1)] 59 _ (by rfl) HL8.out.blk2 Tryd.underlying59 rfl (by kernel_rfl) ?_)
      | ((with_reducible show wpList _ _ _ (Oper.mk _ (.store _ _ _) _ _ _ _ :: _) _ _); refine wp_st (by rfl) 59 _ _ (by rfl) w.heap.size 0 [.int .i64 0, .int .i64 0, .int .i64 0] 59 (.agg #[.int .i64 0, .int .i64 0, .int .i64 (-1)]) [.int .i64 0, .int .i64 0, .int .i64 (-1)] (by rfl) (by rfl) (by rfl) HL8.out.blk (Nat.le_of_ble_eq_true rfl) (by kernel_rfl) (by rfl) ?_; intro w9 hw_w9 hf_w9; have HL9 : Hid (Loc w g V L w9 s2 w.heap.size [.int .i64 0, .int .i64 0, .int .i64 (-1)] 59) := HL8.out.loc.st hw_w9 hf_w9; clear hw_w9 hf_w9)
      | ((with_reducible show wpList _ _ _ (Oper.mk _ (.store _ _ _) _ _ _ _ :: _) _ _); refine wp_st (by rfl) 3 _ _ (by rfl) (w1.heap.size + 1) 0 [.int .i64 0, .int .i64 0, .int .i64 (-1)] 59 (.int .i64 0) [.int .i64 0] (by rfl) (by rfl) (by rfl) HL2.out.blk2 (Nat.le_of_ble_eq_true rfl) (by kernel_rfl) (by rfl) ?_; intro w3 hw_w3 hf_w3; have HL3 : Hid (Lo2 w g V L w3 s w.heap.size [.int .i64 0, .int .i64 0, .int .i64 0] 59 (w1.heap.size + 1) [.int .i64 0, .int .i64 0, .int .i64 (-1)] 59) := HL2.out.st2 hw_w3 hf_w3; have c30 : w3.cell? ⟨w1.heap.size + 1, 0, none⟩ = some (.int .i64 0) := by { rw [cell_of_blk HL3.out.blk2]; rfl }; clear hw_w3 hf_w3)
      | (go_at_call 24; refine (HWR.out _ HL3.out.env).mono ?_; rintro e w8 ⟨rfl, he8, hf8⟩; have HL8 : Hid (Lo2 w g V L w8 s2 w.heap.size [.int .i64 0, .int .i64 0, .int .i64 0] 59 (w1.heap.size + 1) [.int .i64 0, .int .i64 0, .int .i64 (-1)] 59) := HL3.out.call he8 hf8; clear he8 hf8))
  refine ret_loc w.heap.size _ _ _ HL9.out.blk rfl rfl (by rfl) Tryd.underlying59 rfl (by kernel_rfl) ?_
  exact ⟨rfl, HL9.out.env, HL9.out.fr⟩
set_option maxHeartbeats 4000000 in
theorem way_rel (w : World) (g : Nat) (V : Value) (L : List Tk) (s : St) (k m : Int) (tx : ByteArray) (h : Env w g V L s) (ht : nxt L s = ⟨k, tx, m⟩) (hk : k = 1) (r : Nat) (hr : rln tx = r) (hr0 : r ≠ 0) (hb_HP : see L [40] s.adv = false) : Calls Tryd.prog 50 #[rp g] w (fun e w' => e = .returned (.agg #[.int .i64 r, .int .i64 0, .int .i64 (-1)]) ∧ Env w' g V L s.adv ∧ Fr (fun i => i = g) w w') := by
  have HL0 : Hid (Loc w g V L (w.alloc (.cells #[.int .i64 0, .int .i64 0, .int .i64 0] 59)) s w.heap.size [.int .i64 0, .int .i64 0, .int .i64 0] 59) := Loc.start h [.int .i64 0, .int .i64 0, .int .i64 0] _
  have HN : Hid (∀ W, Env W g V L s → Calls Tryd.prog 47 #[rp g] W fun e w' => e = .returned (.agg #[.int .i64 k, .string tx, .int .i64 m]) ∧ Fr (fun _ => False) W w') := fun W hW => by
    have := next_any W g V L s hW
    rw [ht] at this
    exact this
  have HP : Hid (∀ W, Env W g V L s.adv → Calls Tryd.prog 20 #[rp g, .int .i64 4, .string ⟨#[40]⟩] W fun e w' => e = .returned (.bool false) ∧ Env w' g V L s.adv ∧ Fr (fun i => i = g) W w') := fun W hW => by
    have := is_any W g V L s.adv 4 [40] (.inr ⟨rfl, by decide⟩) hW
    unfold tks at this
    rw [hb_HP] at this
    exact this
  have HI : Hid (s.i < L.length) := (nxt_lt (by rw [ht]; show k ≠ 0; omega)).2
  have hq : (s.i : Int) ≤ 700 := by have := HI.out; have := h.len; omega
  have hgw := blk_lt h.blk
  have HRO : Hid (∀ W, Calls Tryd.prog 67 #[.string tx] W fun e w' => e = .returned (.int .i64 r) ∧ Below W.heap.size W w') := fun W => by
    have := relOf_any tx W
    rw [hr] at this
    exact this
  have q1 : (k == 1) = true := by simpa using hk
  have q2 : ((r : Int) == 0) = false := by simp; omega
  clear h ht hk hr hr0 hb_HP
  go_enter Tryd.func50, Tryd.ntmps50
  go_wp2_with (first
      | (go_at_call 47; refine (HN.out _ HL0.out.env).mono ?_; rintro e w1 ⟨rfl, hf1⟩; have HL1 : Hid (Lo2 w g V L ((w1.alloc (.cells #[.int .i64 k, .string tx, .int .i64 m] 65)).alloc (.cells #[.int .i64 0, .int .i64 0, .int .i64 (-1)] 59)) s w.heap.size [.int .i64 0, .int .i64 0, .int .i64 0] 59 (w1.heap.size + 1) [.int .i64 0, .int .i64 0, .int .i64 (-1)] 59) := ((HL0.out.on hf1).alloc _).two' (by { simp }) [.int .i64 0, .int .i64 0, .int .i64 (-1)] _; clear hf1)
      | (go_at_call 67; refine (HRO.out _).mono ?_; rintro e w2 ⟨rfl, hb2⟩; have HL2 : Hid (Lo2 w g V L w2 s w.heap.size [.int .i64 0, .int .i64 0, .int .i64 0] 59 (w1.heap.size + 1) [.int .i64 0, .int .i64 0, .int .i64 (-1)] 59) := HL1.out.on (Fr.of_below hb2); clear hb2)
      | ((with_reducible show wpList _ _ _ (Oper.mk _ (.load _ _) _ _ _ _ :: _) _ _); refine wp_ld (by rfl) 59 _ (by rfl) (w1.heap.size + 1) [.int .i64 r, .int .i64 0, .int .i64 (-1)] 59 _ (by rfl) HL5.out.blk2 Tryd.underlying59 rfl (by kernel_rfl) ?_)
      | ((with_reducible show wpList _ _ _ (Oper.mk _ (.store _ _ _) _ _ _ _ :: _) _ _); refine wp_st (by rfl) 59 _ _ (by rfl) w.heap.size 0 [.int .i64 0, .int .i64 0, .int .i64 0] 59 (.agg #[.int .i64 r, .int .i64 0, .int .i64 (-1)]) [.int .i64 r, .int .i64 0, .int .i64 (-1)] (by rfl) (by rfl) (by rfl) HL5.out.blk (Nat.le_of_ble_eq_true rfl) (by kernel_rfl) (by rfl) ?_; intro w9 hw_w9 hf_w9; have HL9 : Hid (Loc w g V L w9 s.adv w.heap.size [.int .i64 r, .int .i64 0, .int .i64 (-1)] 59) := HL5.out.loc.st hw_w9 hf_w9; clear hw_w9 hf_w9)
      | ((with_reducible show wpList _ _ _ (Oper.mk _ (.store _ _ _) _ _ _ _ :: _) _ _); refine wp_st (by rfl) 3 _ _ (by rfl) (w1.heap.size + 1) 0 [.int .i64 0, .int .i64 0, .int .i64 (-1)] 59 (.int .i64 r) [(.int .i64 r)] (by rfl) (by rfl) (by rfl) HL2.out.blk2 (Nat.le_of_ble_eq_true rfl) (by kernel_rfl) (by rfl) ?_; intro w3 hw_w3 hf_w3; have HL3 : Hid (Lo2 w g V L w3 s w.heap.size [.int .i64 0, .int .i64 0, .int .i64 0] 59 (w1.heap.size + 1) [.int .i64 r, .int .i64 0, .int .i64 (-1)] 59) := HL2.out.st2 hw_w3 hf_w3; have c30 : w3.cell? ⟨w1.heap.size + 1, 0, none⟩ = some (.int .i64 r) := by { rw [cell_of_blk HL3.out.blk2]; rfl }; have c1 := HL3.out.env.c1; have f1 := HL3.out.env.fz 1; have HL4 : Hid (Lo2 w g V L (w3.setCell ⟨g, 1, none⟩ (.int .i64 ((s.i : Int) + 1))) s.adv w.heap.size [.int .i64 0, .int .i64 0, .int .i64 0] 59 (w1.heap.size + 1) [.int .i64 r, .int .i64 0, .int .i64 (-1)] 59) := HL3.out.step HI.out; clear hw_w3 hf_w3)
      | (go_at_call_of 20 (Value.string ⟨#[40]⟩); refine (HP.out _ HL4.out.env).mono ?_; rintro e w5 ⟨rfl, he_w5, hf_w5⟩; have HL5 : Hid (Lo2 w g V L w5 s.adv w.heap.size [.int .i64 0, .int .i64 0, .int .i64 0] 59 (w1.heap.size + 1) [.int .i64 r, .int .i64 0, .int .i64 (-1)] 59) := HL4.out.call he_w5 hf_w5; clear he_w5 hf_w5))
  refine ret_loc w.heap.size _ _ _ HL9.out.blk rfl rfl (by rfl) Tryd.underlying59 rfl (by kernel_rfl) ?_
  exact ⟨rfl, HL9.out.env, HL9.out.fr⟩
set_option maxHeartbeats 4000000 in
theorem way_any_ (w : World) (g : Nat) (V : Value) (L : List Tk) (s : St) (k m : Int) (tx : ByteArray) (h : Env w g V L s) (ht : nxt L s = ⟨k, tx, m⟩) (hk : k = 1) (r : Nat) (hr : rln tx = r) (hr0 : r ≠ 0) (hb_HP : see L [40] s.adv = true) (a : Int) (s1 s2 : St) (h_a : (num L s.adv.adv).1 = a) (h_s1 : (num L s.adv.adv).2 = s1) (h_s2 : wnt L [44] s1 = s2) (hb_HY : see L [97, 110, 121] s2 = true) (s3 : St) (h_s3 : wnt L [41] s2.adv = s3) : Calls Tryd.prog 50 #[rp g] w (fun e w' => e = .returned (.agg #[.int .i64 r, .int .i64 a, .int .i64 (-1)]) ∧ Env w' g V L s3 ∧ Fr (fun i => i = g) w w') := by
  have HL0 : Hid (Loc w g V L (w.alloc (.cells #[.int .i64 0, .int .i64 0, .int .i64 0] 59)) s w.heap.size [.int .i64 0, .int .i64 0, .int .i64 0] 59) := Loc.start h [.int .i64 0, .int .i64 0, .int .i64 0] _
  have HN : Hid (∀ W, Env W g V L s → Calls Tryd.prog 47 #[rp g] W fun e w' => e = .returned (.agg #[.int .i64 k, .string tx, .int .i64 m]) ∧ Fr (fun _ => False) W w') := fun W hW => by
    have := next_any W g V L s hW
    rw [ht] at this
    exact this
  have HP : Hid (∀ W, Env W g V L s.adv → Calls Tryd.prog 20 #[rp g, .int .i64 4, .string ⟨#[40]⟩] W fun e w' => e = .returned (.bool true) ∧ Env w' g V L s.adv.adv ∧ Fr (fun i => i = g) W w') := fun W hW => by
    have := is_any W g V L s.adv 4 [40] (.inr ⟨rfl, by decide⟩) hW
    unfold tks at this
    rw [hb_HP] at this
    exact this
  have HA : Hid (∀ W, Env W g V L s.adv.adv → Calls Tryd.prog 49 #[rp g] W fun e w' => e = .returned (.int .i64 a) ∧ Env w' g V L s1 ∧ Fr (fun i => i = g) W w') := fun W hW => by
    have := num_any W g V L s.adv.adv hW
    rw [h_a, h_s1] at this
    exact this
  have HW : Hid (∀ W, Env W g V L s1 → Calls Tryd.prog 22 #[rp g, .int .i64 4, .string ⟨#[44]⟩] W fun e w' => e = .returned (.tuple #[]) ∧ Env w' g V L s2 ∧ Fr (fun i => i = g) W w') := fun W hW => by
    have := want_any W g V L s1 4 [44] (.inr ⟨rfl, by decide⟩) hW
    rw [h_s2] at this
    exact this
  have HY : Hid (∀ W, Env W g V L s2 → Calls Tryd.prog 20 #[rp g, .int .i64 1, .string ⟨#[97, 110, 121]⟩] W fun e w' => e = .returned (.bool true) ∧ Env w' g V L s2.adv ∧ Fr (fun i => i = g) W w') := fun W hW => by
    have := is_any W g V L s2 1 [97, 110, 121] (.inl ⟨rfl, by kernel_rfl⟩) hW
    unfold tks at this
    rw [hb_HY] at this
    exact this
  have HX : Hid (∀ W, Env W g V L s2.adv → Calls Tryd.prog 22 #[rp g, .int .i64 4, .string ⟨#[41]⟩] W fun e w' => e = .returned (.tuple #[]) ∧ Env w' g V L s3 ∧ Fr (fun i => i = g) W w') := fun W hW => by
    have := want_any W g V L s2.adv 4 [41] (.inr ⟨rfl, by decide⟩) hW
    rw [h_s3] at this
    exact this
  have HI : Hid (s.i < L.length) := (nxt_lt (by rw [ht]; show k ≠ 0; omega)).2
  have hq : (s.i : Int) ≤ 700 := by have := HI.out; have := h.len; omega
  have hgw := blk_lt h.blk
  have HRO : Hid (∀ W, Calls Tryd.prog 67 #[.string tx] W fun e w' => e = .returned (.int .i64 r) ∧ Below W.heap.size W w') := fun W => by
    have := relOf_any tx W
    rw [hr] at this
    exact this
  have q1 : (k == 1) = true := by simpa using hk
  have q2 : ((r : Int) == 0) = false := by simp; omega
  clear h ht hk hr hr0 hb_HP hb_HY h_a h_s1 h_s2 h_s3
  go_enter Tryd.func50, Tryd.ntmps50
  go_wp2_with (first
      | (go_at_call 47; refine (HN.out _ HL0.out.env).mono ?_; rintro e w1 ⟨rfl, hf1⟩; have HL1 : Hid (Lo2 w g V L ((w1.alloc (.cells #[.int .i64 k, .string tx, .int .i64 m] 65)).alloc (.cells #[.int .i64 0, .int .i64 0, .int .i64 (-1)] 59)) s w.heap.size [.int .i64 0, .int .i64 0, .int .i64 0] 59 (w1.heap.size + 1) [.int .i64 0, .int .i64 0, .int .i64 (-1)] 59) := ((HL0.out.on hf1).alloc _).two' (by { simp }) [.int .i64 0, .int .i64 0, .int .i64 (-1)] _; clear hf1)
      | (go_at_call 67; refine (HRO.out _).mono ?_; rintro e w2 ⟨rfl, hb2⟩; have HL2 : Hid (Lo2 w g V L w2 s w.heap.size [.int .i64 0, .int .i64 0, .int .i64 0] 59 (w1.heap.size + 1) [.int .i64 0, .int .i64 0, .int .i64 (-1)] 59) := HL1.out.on (Fr.of_below hb2); clear hb2)
      | ((with_reducible show wpList _ _ _ (Oper.mk _ (.load _ _) _ _ _ _ :: _) _ _); refine wp_ld (by rfl) 59 _ (by rfl) (w1.heap.size + 1) [.int .i64 r, .int .i64 a, .int .i64 (-1)] 59 _ (by rfl) HLx.out.blk2 Tryd.underlying59 rfl (by kernel_rfl) ?_)
      | ((with_reducible show wpList _ _ _ (Oper.mk _ (.store _ _ _) _ _ _ _ :: _) _ _); refine wp_st (by rfl) 59 _ _ (by rfl) w.heap.size 0 [.int .i64 0, .int .i64 0, .int .i64 0] 59 (.agg #[.int .i64 r, .int .i64 a, .int .i64 (-1)]) [.int .i64 r, .int .i64 a, .int .i64 (-1)] (by rfl) (by rfl) (by rfl) HLx.out.blk (Nat.le_of_ble_eq_true rfl) (by kernel_rfl) (by rfl) ?_; intro w9 hw_w9 hf_w9; have HL9 : Hid (Loc w g V L w9 s3 w.heap.size [.int .i64 r, .int .i64 a, .int .i64 (-1)] 59) := HLx.out.loc.st hw_w9 hf_w9; clear hw_w9 hf_w9)
      | ((with_reducible show wpList _ _ _ (Oper.mk _ (.store _ _ _) _ _ _ _ :: _) _ _); refine wp_st (by rfl) 3 _ _ (by rfl) (w1.heap.size + 1) 1 [.int .i64 r, .int .i64 0, .int .i64 (-1)] 59 (.int .i64 a) [(.int .i64 a)] (by rfl) (by rfl) (by rfl) HL6.out.blk2 (Nat.le_of_ble_eq_true rfl) (by kernel_rfl) (by rfl) ?_; intro w7 hw_w7 hf_w7; have HL7 : Hid (Lo2 w g V L w7 s1 w.heap.size [.int .i64 0, .int .i64 0, .int .i64 0] 59 (w1.heap.size + 1) [.int .i64 r, .int .i64 a, .int .i64 (-1)] 59) := HL6.out.st2 hw_w7 hf_w7; clear hw_w7 hf_w7)
      | ((with_reducible show wpList _ _ _ (Oper.mk _ (.store _ _ _) _ _ _ _ :: _) _ _); refine wp_st (by rfl) 3 _ _ (by rfl) (w1.heap.size + 1) 0 [.int .i64 0, .int .i64 0, .int .i64 (-1)] 59 (.int .i64 r) [(.int .i64 r)] (by rfl) (by rfl) (by rfl) HL2.out.blk2 (Nat.le_of_ble_eq_true rfl) (by kernel_rfl) (by rfl) ?_; intro w3 hw_w3 hf_w3; have HL3 : Hid (Lo2 w g V L w3 s w.heap.size [.int .i64 0, .int .i64 0, .int .i64 0] 59 (w1.heap.size + 1) [.int .i64 r, .int .i64 0, .int .i64 (-1)] 59) := HL2.out.st2 hw_w3 hf_w3; have c30 : w3.cell? ⟨w1.heap.size + 1, 0, none⟩ = some (.int .i64 r) := by { rw [cell_of_blk HL3.out.blk2]; rfl }; have c1 := HL3.out.env.c1; have f1 := HL3.out.env.fz 1; have HL4 : Hid (Lo2 w g V L (w3.setCell ⟨g, 1, none⟩ (.int .i64 ((s.i : Int) + 1))) s.adv w.heap.size [.int .i64 0, .int .i64 0, .int .i64 0] 59 (w1.heap.size + 1) [.int .i64 r, .int .i64 0, .int .i64 (-1)] 59) := HL3.out.step HI.out; clear hw_w3 hf_w3)
      | (go_at_call_of 20 (Value.string ⟨#[40]⟩); refine (HP.out _ HL4.out.env).mono ?_; rintro e w5 ⟨rfl, he_w5, hf_w5⟩; have HL5 : Hid (Lo2 w g V L w5 s.adv.adv w.heap.size [.int .i64 0, .int .i64 0, .int .i64 0] 59 (w1.heap.size + 1) [.int .i64 r, .int .i64 0, .int .i64 (-1)] 59) := HL4.out.call he_w5 hf_w5; clear he_w5 hf_w5)
      | (go_at_call 49; refine (HA.out _ HL5.out.env).mono ?_; rintro e w6 ⟨rfl, he_w6, hf_w6⟩; have HL6 : Hid (Lo2 w g V L w6 s1 w.heap.size [.int .i64 0, .int .i64 0, .int .i64 0] 59 (w1.heap.size + 1) [.int .i64 r, .int .i64 0, .int .i64 (-1)] 59) := (HL5.out.call he_w6 hf_w6); clear he_w6 hf_w6)
      | (go_at_call_of 22 (Value.string ⟨#[44]⟩); refine (HW.out _ HL7.out.env).mono ?_; rintro e w8 ⟨rfl, he_w8, hf_w8⟩; have HL8 : Hid (Lo2 w g V L w8 s2 w.heap.size [.int .i64 0, .int .i64 0, .int .i64 0] 59 (w1.heap.size + 1) [.int .i64 r, .int .i64 a, .int .i64 (-1)] 59) := (HL7.out.call he_w8 hf_w8); clear he_w8 hf_w8)
      | (go_at_call_of 20 (Value.string ⟨#[97, 110, 121]⟩); refine (HY.out _ HL8.out.env).mono ?_; rintro e wa ⟨rfl, he_wa, hf_wa⟩; have HLa : Hid (Lo2 w g V L wa s2.adv w.heap.size [.int .i64 0, .int .i64 0, .int .i64 0] 59 (w1.heap.size + 1) [.int .i64 r, .int .i64 a, .int .i64 (-1)] 59) := HL8.out.call he_wa hf_wa; clear he_wa hf_wa)
      | (go_at_call_of 22 (Value.string ⟨#[41]⟩); refine (HX.out _ HLa.out.env).mono ?_; rintro e wx ⟨rfl, he_wx, hf_wx⟩; have HLx : Hid (Lo2 w g V L wx s3 w.heap.size [.int .i64 0, .int .i64 0, .int .i64 0] 59 (w1.heap.size + 1) [.int .i64 r, .int .i64 a, .int .i64 (-1)] 59) := (HLa.out.call he_wx hf_wx); clear he_wx hf_wx))
  refine ret_loc w.heap.size _ _ _ HL9.out.blk rfl rfl (by rfl) Tryd.underlying59 rfl (by kernel_rfl) ?_
  exact ⟨rfl, HL9.out.env, HL9.out.fr⟩
set_option maxHeartbeats 4000000 in
theorem way_num (w : World) (g : Nat) (V : Value) (L : List Tk) (s : St) (k m : Int) (tx : ByteArray) (h : Env w g V L s) (ht : nxt L s = ⟨k, tx, m⟩) (hk : k = 1) (r : Nat) (hr : rln tx = r) (hr0 : r ≠ 0) (hb_HP : see L [40] s.adv = true) (a : Int) (s1 s2 : St) (h_a : (num L s.adv.adv).1 = a) (h_s1 : (num L s.adv.adv).2 = s1) (h_s2 : wnt L [44] s1 = s2) (hb_HY : see L [97, 110, 121] s2 = false) (b : Int) (s3 s4 : St) (h_b : (num L s2).1 = b) (h_s3 : (num L s2).2 = s3) (h_s4 : wnt L [41] s3 = s4) : Calls Tryd.prog 50 #[rp g] w (fun e w' => e = .returned (.agg #[.int .i64 r, .int .i64 a, .int .i64 b]) ∧ Env w' g V L s4 ∧ Fr (fun i => i = g) w w') := by
  have HL0 : Hid (Loc w g V L (w.alloc (.cells #[.int .i64 0, .int .i64 0, .int .i64 0] 59)) s w.heap.size [.int .i64 0, .int .i64 0, .int .i64 0] 59) := Loc.start h [.int .i64 0, .int .i64 0, .int .i64 0] _
  have HN : Hid (∀ W, Env W g V L s → Calls Tryd.prog 47 #[rp g] W fun e w' => e = .returned (.agg #[.int .i64 k, .string tx, .int .i64 m]) ∧ Fr (fun _ => False) W w') := fun W hW => by
    have := next_any W g V L s hW
    rw [ht] at this
    exact this
  have HP : Hid (∀ W, Env W g V L s.adv → Calls Tryd.prog 20 #[rp g, .int .i64 4, .string ⟨#[40]⟩] W fun e w' => e = .returned (.bool true) ∧ Env w' g V L s.adv.adv ∧ Fr (fun i => i = g) W w') := fun W hW => by
    have := is_any W g V L s.adv 4 [40] (.inr ⟨rfl, by decide⟩) hW
    unfold tks at this
    rw [hb_HP] at this
    exact this
  have HA : Hid (∀ W, Env W g V L s.adv.adv → Calls Tryd.prog 49 #[rp g] W fun e w' => e = .returned (.int .i64 a) ∧ Env w' g V L s1 ∧ Fr (fun i => i = g) W w') := fun W hW => by
    have := num_any W g V L s.adv.adv hW
    rw [h_a, h_s1] at this
    exact this
  have HW : Hid (∀ W, Env W g V L s1 → Calls Tryd.prog 22 #[rp g, .int .i64 4, .string ⟨#[44]⟩] W fun e w' => e = .returned (.tuple #[]) ∧ Env w' g V L s2 ∧ Fr (fun i => i = g) W w') := fun W hW => by
    have := want_any W g V L s1 4 [44] (.inr ⟨rfl, by decide⟩) hW
    rw [h_s2] at this
    exact this
  have HY : Hid (∀ W, Env W g V L s2 → Calls Tryd.prog 20 #[rp g, .int .i64 1, .string ⟨#[97, 110, 121]⟩] W fun e w' => e = .returned (.bool false) ∧ Env w' g V L s2 ∧ Fr (fun i => i = g) W w') := fun W hW => by
    have := is_any W g V L s2 1 [97, 110, 121] (.inl ⟨rfl, by kernel_rfl⟩) hW
    unfold tks at this
    rw [hb_HY] at this
    exact this
  have HB : Hid (∀ W, Env W g V L s2 → Calls Tryd.prog 49 #[rp g] W fun e w' => e = .returned (.int .i64 b) ∧ Env w' g V L s3 ∧ Fr (fun i => i = g) W w') := fun W hW => by
    have := num_any W g V L s2 hW
    rw [h_b, h_s3] at this
    exact this
  have HX : Hid (∀ W, Env W g V L s3 → Calls Tryd.prog 22 #[rp g, .int .i64 4, .string ⟨#[41]⟩] W fun e w' => e = .returned (.tuple #[]) ∧ Env w' g V L s4 ∧ Fr (fun i => i = g) W w') := fun W hW => by
    have := want_any W g V L s3 4 [41] (.inr ⟨rfl, by decide⟩) hW
    rw [h_s4] at this
    exact this
  have HI : Hid (s.i < L.length) := (nxt_lt (by rw [ht]; show k ≠ 0; omega)).2
  have hq : (s.i : Int) ≤ 700 := by have := HI.out; have := h.len; omega
  have hgw := blk_lt h.blk
  have HRO : Hid (∀ W, Calls Tryd.prog 67 #[.string tx] W fun e w' => e = .returned (.int .i64 r) ∧ Below W.heap.size W w') := fun W => by
    have := relOf_any tx W
    rw [hr] at this
    exact this
  have q1 : (k == 1) = true := by simpa using hk
  have q2 : ((r : Int) == 0) = false := by simp; omega
  clear h ht hk hr hr0 hb_HP hb_HY h_a h_s1 h_s2 h_s3 h_b h_s4
  go_enter Tryd.func50, Tryd.ntmps50
  go_wp2_with (first
      | (go_at_call 47; refine (HN.out _ HL0.out.env).mono ?_; rintro e w1 ⟨rfl, hf1⟩; have HL1 : Hid (Lo2 w g V L ((w1.alloc (.cells #[.int .i64 k, .string tx, .int .i64 m] 65)).alloc (.cells #[.int .i64 0, .int .i64 0, .int .i64 (-1)] 59)) s w.heap.size [.int .i64 0, .int .i64 0, .int .i64 0] 59 (w1.heap.size + 1) [.int .i64 0, .int .i64 0, .int .i64 (-1)] 59) := ((HL0.out.on hf1).alloc _).two' (by { simp }) [.int .i64 0, .int .i64 0, .int .i64 (-1)] _; clear hf1)
      | (go_at_call 67; refine (HRO.out _).mono ?_; rintro e w2 ⟨rfl, hb2⟩; have HL2 : Hid (Lo2 w g V L w2 s w.heap.size [.int .i64 0, .int .i64 0, .int .i64 0] 59 (w1.heap.size + 1) [.int .i64 0, .int .i64 0, .int .i64 (-1)] 59) := HL1.out.on (Fr.of_below hb2); clear hb2)
      | ((with_reducible show wpList _ _ _ (Oper.mk _ (.load _ _) _ _ _ _ :: _) _ _); refine wp_ld (by rfl) 59 _ (by rfl) (w1.heap.size + 1) [.int .i64 r, .int .i64 a, .int .i64 b] 59 _ (by rfl) HLx.out.blk2 Tryd.underlying59 rfl (by kernel_rfl) ?_)
      | ((with_reducible show wpList _ _ _ (Oper.mk _ (.store _ _ _) _ _ _ _ :: _) _ _); refine wp_st (by rfl) 59 _ _ (by rfl) w.heap.size 0 [.int .i64 0, .int .i64 0, .int .i64 0] 59 (.agg #[.int .i64 r, .int .i64 a, .int .i64 b]) [.int .i64 r, .int .i64 a, .int .i64 b] (by rfl) (by rfl) (by rfl) HLx.out.blk (Nat.le_of_ble_eq_true rfl) (by kernel_rfl) (by rfl) ?_; intro w9 hw_w9 hf_w9; have HL9 : Hid (Loc w g V L w9 s4 w.heap.size [.int .i64 r, .int .i64 a, .int .i64 b] 59) := HLx.out.loc.st hw_w9 hf_w9; clear hw_w9 hf_w9)
      | ((with_reducible show wpList _ _ _ (Oper.mk _ (.store _ _ _) _ _ _ _ :: _) _ _); refine wp_st (by rfl) 3 _ _ (by rfl) (w1.heap.size + 1) 2 [.int .i64 r, .int .i64 a, .int .i64 (-1)] 59 (.int .i64 b) [(.int .i64 b)] (by rfl) (by rfl) (by rfl) HLc.out.blk2 (Nat.le_of_ble_eq_true rfl) (by kernel_rfl) (by rfl) ?_; intro wd hw_wd hf_wd; have HLd : Hid (Lo2 w g V L wd s3 w.heap.size [.int .i64 0, .int .i64 0, .int .i64 0] 59 (w1.heap.size + 1) [.int .i64 r, .int .i64 a, .int .i64 b] 59) := HLc.out.st2 hw_wd hf_wd; clear hw_wd hf_wd)
      | ((with_reducible show wpList _ _ _ (Oper.mk _ (.store _ _ _) _ _ _ _ :: _) _ _); refine wp_st (by rfl) 3 _ _ (by rfl) (w1.heap.size + 1) 1 [.int .i64 r, .int .i64 0, .int .i64 (-1)] 59 (.int .i64 a) [(.int .i64 a)] (by rfl) (by rfl) (by rfl) HL6.out.blk2 (Nat.le_of_ble_eq_true rfl) (by kernel_rfl) (by rfl) ?_; intro w7 hw_w7 hf_w7; have HL7 : Hid (Lo2 w g V L w7 s1 w.heap.size [.int .i64 0, .int .i64 0, .int .i64 0] 59 (w1.heap.size + 1) [.int .i64 r, .int .i64 a, .int .i64 (-1)] 59) := HL6.out.st2 hw_w7 hf_w7; clear hw_w7 hf_w7)
      | ((with_reducible show wpList _ _ _ (Oper.mk _ (.store _ _ _) _ _ _ _ :: _) _ _); refine wp_st (by rfl) 3 _ _ (by rfl) (w1.heap.size + 1) 0 [.int .i64 0, .int .i64 0, .int .i64 (-1)] 59 (.int .i64 r) [(.int .i64 r)] (by rfl) (by rfl) (by rfl) HL2.out.blk2 (Nat.le_of_ble_eq_true rfl) (by kernel_rfl) (by rfl) ?_; intro w3 hw_w3 hf_w3; have HL3 : Hid (Lo2 w g V L w3 s w.heap.size [.int .i64 0, .int .i64 0, .int .i64 0] 59 (w1.heap.size + 1) [.int .i64 r, .int .i64 0, .int .i64 (-1)] 59) := HL2.out.st2 hw_w3 hf_w3; have c30 : w3.cell? ⟨w1.heap.size + 1, 0, none⟩ = some (.int .i64 r) := by { rw [cell_of_blk HL3.out.blk2]; rfl }; have c1 := HL3.out.env.c1; have f1 := HL3.out.env.fz 1; have HL4 : Hid (Lo2 w g V L (w3.setCell ⟨g, 1, none⟩ (.int .i64 ((s.i : Int) + 1))) s.adv w.heap.size [.int .i64 0, .int .i64 0, .int .i64 0] 59 (w1.heap.size + 1) [.int .i64 r, .int .i64 0, .int .i64 (-1)] 59) := HL3.out.step HI.out; clear hw_w3 hf_w3)
      | (go_at_call_of 20 (Value.string ⟨#[40]⟩); refine (HP.out _ HL4.out.env).mono ?_; rintro e w5 ⟨rfl, he_w5, hf_w5⟩; have HL5 : Hid (Lo2 w g V L w5 s.adv.adv w.heap.size [.int .i64 0, .int .i64 0, .int .i64 0] 59 (w1.heap.size + 1) [.int .i64 r, .int .i64 0, .int .i64 (-1)] 59) := HL4.out.call he_w5 hf_w5; clear he_w5 hf_w5)
      | (go_at_call 49; refine (HB.out _ HLa.out.env).mono ?_; rintro e wc ⟨rfl, he_wc, hf_wc⟩; have HLc : Hid (Lo2 w g V L wc s3 w.heap.size [.int .i64 0, .int .i64 0, .int .i64 0] 59 (w1.heap.size + 1) [.int .i64 r, .int .i64 a, .int .i64 (-1)] 59) := (HLa.out.call he_wc hf_wc); clear he_wc hf_wc)
      | (go_at_call 49; refine (HA.out _ HL5.out.env).mono ?_; rintro e w6 ⟨rfl, he_w6, hf_w6⟩; have HL6 : Hid (Lo2 w g V L w6 s1 w.heap.size [.int .i64 0, .int .i64 0, .int .i64 0] 59 (w1.heap.size + 1) [.int .i64 r, .int .i64 0, .int .i64 (-1)] 59) := (HL5.out.call he_w6 hf_w6); clear he_w6 hf_w6)
      | (go_at_call_of 22 (Value.string ⟨#[44]⟩); refine (HW.out _ HL7.out.env).mono ?_; rintro e w8 ⟨rfl, he_w8, hf_w8⟩; have HL8 : Hid (Lo2 w g V L w8 s2 w.heap.size [.int .i64 0, .int .i64 0, .int .i64 0] 59 (w1.heap.size + 1) [.int .i64 r, .int .i64 a, .int .i64 (-1)] 59) := (HL7.out.call he_w8 hf_w8); clear he_w8 hf_w8)
      | (go_at_call_of 20 (Value.string ⟨#[97, 110, 121]⟩); refine (HY.out _ HL8.out.env).mono ?_; rintro e wa ⟨rfl, he_wa, hf_wa⟩; have HLa : Hid (Lo2 w g V L wa s2 w.heap.size [.int .i64 0, .int .i64 0, .int .i64 0] 59 (w1.heap.size + 1) [.int .i64 r, .int .i64 a, .int .i64 (-1)] 59) := HL8.out.call he_wa hf_wa; clear he_wa hf_wa)
      | (go_at_call_of 22 (Value.string ⟨#[41]⟩); refine (HX.out _ HLd.out.env).mono ?_; rintro e wx ⟨rfl, he_wx, hf_wx⟩; have HLx : Hid (Lo2 w g V L wx s4 w.heap.size [.int .i64 0, .int .i64 0, .int .i64 0] 59 (w1.heap.size + 1) [.int .i64 r, .int .i64 a, .int .i64 b] 59) := (HLd.out.call he_wx hf_wx); clear he_wx hf_wx))
  refine ret_loc w.heap.size _ _ _ HL9.out.blk rfl rfl (by rfl) Tryd.underlying59 rfl (by kernel_rfl) ?_
  exact ⟨rfl, HL9.out.env, HL9.out.fr⟩
theorem way_any (w : World) (g : Nat) (V : Value) (L : List Tk) (s : St) (h : Env w g V L s) : Calls Tryd.prog 50 #[rp g] w fun e w' => e = .returned (.agg #[.int .i64 (opt L s).1.r, .int .i64 (opt L s).1.lo, .int .i64 (opt L s).1.hi]) ∧ Env w' g V L (opt L s).2 ∧ Fr (fun i => i = g) w w' := by
  obtain ⟨⟨k, tx, m⟩, ht⟩ : ∃ p, nxt L s = p := ⟨_, rfl⟩
  by_cases hk : k = 1
  · by_cases hr : rln tx = 0
    · have e : rel L s = (0, fal L s) := by unfold rel; rw [ht]; exact if_neg (by rintro ⟨_, c⟩; exact c hr)
      unfold opt
      rw [e]
      simp only
      rw [see_err (fal_bad L s), if_neg (by decide)]
      exact way_none w g V L s k m tx h ht hk hr _ rfl
    · have e : rel L s = ((rln tx : Int), s.adv) := by unfold rel; rw [ht]; exact if_pos ⟨hk, hr⟩
      unfold opt
      rw [e]
      simp only
      cases hp : see L [40] s.adv
      · rw [if_neg (by decide)]
        exact way_rel w g V L s k m tx h ht hk _ rfl hr hp
      · rw [if_pos rfl]
        cases hy : see L [97, 110, 121] (wnt L [44] (num L s.adv.adv).2)
        · rw [if_neg (by decide)]
          exact way_num w g V L s k m tx h ht hk _ rfl hr hp _ _ _ rfl rfl rfl hy _ _ _ rfl rfl rfl
        · rw [if_pos rfl]
          exact way_any_ w g V L s k m tx h ht hk _ rfl hr hp _ _ _ rfl rfl rfl hy _ rfl
  · have e : rel L s = (0, fal L s) := by unfold rel; rw [ht]; exact if_neg (by rintro ⟨c, _⟩; exact hk c)
    unfold opt
    rw [e]
    simp only
    rw [see_err (fal_bad L s), if_neg (by decide)]
    exact way_bad w g V L s k m tx h ht hk _ rfl
end Go.Proofs.YtnlmkdncifijlaaDoor.Ref
