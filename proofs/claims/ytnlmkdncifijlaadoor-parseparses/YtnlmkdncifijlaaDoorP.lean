/-
  A pattern.
-/
import Derived.Test.YtnlmkdncifijlaaDoorNt
namespace Go.Proofs.YtnlmkdncifijlaaDoor
open Go.ChangeShapes Go.WideShapes Go.ChangeAt Go.RowKit Go.Maps
set_option linter.unusedVariables false
set_option linter.unusedSimpArgs false
abbrev ptC (a b : ByteArray) (k : Int) (v : Value) (l r : Opd) (w n : Int) : List Value := [.string a, .string b, .int .i64 k, v, .int .i64 l.k, .int .i64 l.vk, .int .i64 l.vi, .string l.vt, .string l.va, .string l.fd, .int .i64 r.k, .int .i64 r.vk, .int .i64 r.vi, .string r.vt, .string r.va, .string r.fd, .int .i64 w, .int .i64 n]
abbrev ptV (a b : ByteArray) (k : Int) (v : Value) (l r : Opd) (w n : Int) : Value := .agg #[.string a, .string b, .int .i64 k, v, .int .i64 l.k, .int .i64 l.vk, .int .i64 l.vi, .string l.vt, .string l.va, .string l.fd, .int .i64 r.k, .int .i64 r.vk, .int .i64 r.vi, .string r.vt, .string r.va, .string r.fd, .int .i64 w, .int .i64 n]
def pt0 : List Value := ptC (txt []) (txt []) 0 (.slice none 0 0) opd0 opd0 0 0
/-- What a pattern leaves. -/
def PPost (w : World) (g : Nat) (V : Value) (L : List Tk) (t : Pt) (s : St) (e : Ending) (w' : World) : Prop :=
  ∃ p cap, e = .returned (ptV t.va t.ty t.c.k (.slice p t.c.sb.length cap) t.c.l t.c.r t.w t.n) ∧ Holds w' (fun i => w.heap.size ≤ i) (.row 52 14 t.c.sb) (.slice p t.c.sb.length cap) ∧ Env w' g V L s ∧ Fr (fun i => i = g) w w'
theorem wp_bd {P : Program} {ops : Array Oper} {rest : List Oper} {op : Oper} {a : Act} {w : World} {Q : Exit → Act → World → Prop} (hgd : op.guard = none) (ty : TypeId) (parts : Array (Nat × Operand)) (ho : op.op = .build ty parts) (v : Value)
    (vals : Array (Nat × Value)) (hp : (parts.map fun x => (x.1, a.eval x.2)) = vals) (hv : (Instr.build ty vals).run P w = .ok v w) (h : wpList P ops Q rest (a.put op.dst v) w) : wpList P ops Q (op :: rest) a w := by
  refine wpList_plain hgd fun K hK => ?_
  unfold Oper.wp execOp
  simp only [ho, Sem.run_bind, hp, hv, Result.andThen_ok, Sem.run_pure]
  exact hK _ _ h
theorem build_pt (x : ByteArray) (w : World) : (Instr.build 54 #[(0, .string x)]).run Tryd.prog w = .ok (ptV x (txt []) 0 (.slice none 0 0) opd0 opd0 0 0) w := by kernel_rfl
theorem pat_g (L : List Tk) (s : St) (h0 : s.o = 0) : s.i ≤ (pat L s).2.i ∧ (pat L s).2.o = s.o := by
  have a := nam_g L s
  have b := wnt_i L [58] (nam L s).2
  have c := nam_g L (wnt L [58] (nam L s).2)
  unfold pat
  simp only
  split
  · have d : (nam L (wnt L [58] (nam L s).2)).2.adv.i ≤ (orr L (ntt L 7) (nam L (wnt L [58] (nam L s).2)).2.adv).2.i ∧ (orr L (ntt L 7) (nam L (wnt L [58] (nam L s).2)).2.adv).2.o = (nam L (wnt L [58] (nam L s).2)).2.adv.o := jnd_g L 2 [111, 114] (jnd_g L 1 [97, 110, 100] (ntt_g L 7 0 rfl)) _ (by show (nam L (wnt L [58] (nam L s).2)).2.o = 0; omega)
    have e := wnt_i L [93] (orr L (ntt L 7) (nam L (wnt L [58] (nam L s).2)).2.adv).2
    have f1 : (nam L (wnt L [58] (nam L s).2)).2.adv.i = (nam L (wnt L [58] (nam L s).2)).2.i + 1 := rfl
    have f2 : (nam L (wnt L [58] (nam L s).2)).2.adv.o = (nam L (wnt L [58] (nam L s).2)).2.o := rfl
    simp only
    omega
  · simp only
    omega
set_option maxHeartbeats 8000000 in
theorem pattern_any (w : World) (g : Nat) (V : Value) (L : List Tk) (s : St) (h : Env w g V L s) (h0 : s.o = 0) : Calls Tryd.prog 120 #[rp g] w (PPost w g V L (pat L s).1 (pat L s).2) := by
  have HL0 : Hid (Loc w g V L (w.alloc (.cells pt0.toArray 54)) s w.heap.size pt0 54) := Loc.start h pt0 _
  have hgw := blk_lt h.blk
  have q1 := nam_g L s
  have q2 := wnt_i L [58] (nam L s).2
  have q3 := nam_g L (wnt L [58] (nam L s).2)
  unfold pat
  simp only
  obtain ⟨a, h_a⟩ : ∃ a, (nam L s).1 = a := ⟨_, rfl⟩
  obtain ⟨s1, h_s1⟩ : ∃ s1, (nam L s).2 = s1 := ⟨_, rfl⟩
  rw [h_s1] at q1 q2 q3
  obtain ⟨s2, h_s2⟩ : ∃ s2, wnt L [58] s1 = s2 := ⟨_, rfl⟩
  rw [h_s2] at q2 q3
  obtain ⟨b, h_b⟩ : ∃ b, (nam L s2).1 = b := ⟨_, rfl⟩
  obtain ⟨s3, h_s3⟩ : ∃ s3, (nam L s2).2 = s3 := ⟨_, rfl⟩
  rw [h_s3] at q3
  rw [h_a, h_s1, h_s2, h_b, h_s3]
  have HA : Hid (∀ W, Env W g V L s → Calls Tryd.prog 81 #[rp g] W fun e w' => e = .returned (.string a) ∧ Env w' g V L s1 ∧ Fr (fun i => i = g) W w') := fun W hW => by
    have := ident_any W g V L s hW
    rw [h_a, h_s1] at this
    exact this
  have HW : Hid (∀ W, Env W g V L s1 → Calls Tryd.prog 82 #[rp g, .string ⟨#[58]⟩] W fun e w' => e = .returned (.tuple #[]) ∧ Env w' g V L s2 ∧ Fr (fun i => i = g) W w') := fun W hW => by
    have := wants_any W g V L s1 [58] hW
    rw [h_s2] at this
    exact this
  have HB : Hid (∀ W, Env W g V L s2 → Calls Tryd.prog 81 #[rp g] W fun e w' => e = .returned (.string b) ∧ Env w' g V L s3 ∧ Fr (fun i => i = g) W w') := fun W hW => by
    have := ident_any W g V L s2 hW
    rw [h_b, h_s3] at this
    exact this
  have h03 : s3.o = 0 := by omega
  cases hb_HT : see L [91] s3
  · simp only [Bool.false_eq_true, if_false]
    have HT : Hid (∀ W, Env W g V L s3 → Calls Tryd.prog 40 #[rp g, .string ⟨#[91]⟩] W fun e w' => e = .returned (.bool false) ∧ Env w' g V L s3 ∧ Fr (fun i => i = g) W w') := fun W hW => by
      have := takes_any W g V L s3 [91] hW
      unfold tks at this
      rw [hb_HT] at this
      exact this
    clear h_a h_s1 h_s2 h_b h_s3 q1 q2 q3 h h0 h03 hb_HT hgw
    go_enter Tryd.func120, Tryd.ntmps120
    go_wp2_with (first
      | (go_at_call 81; refine (HB.out _ HL2.out.env).mono ?_; rintro e w3 ⟨rfl, he_w3, hf_w3⟩; have HL3 : Hid (Lo2 w g V L w3 s3 w.heap.size pt0 54 w1.heap.size (ptC a (txt []) 0 (.slice none 0 0) opd0 opd0 0 0) 54) := (HL2.out.call he_w3 hf_w3); clear he_w3 hf_w3)
      | (go_at_call 81; refine (HA.out _ HL0.out.env).mono ?_; rintro e w1 ⟨rfl, he_w1, hf_w1⟩; have HL1a : Hid (Lo2 w g V L (w1.alloc (.cells pt0.toArray 54)) s1 w.heap.size pt0 54 w1.heap.size pt0 54) := (HL0.out.call he_w1 hf_w1).two _ _; clear he_w1 hf_w1)
      | (refine wp_bd (by rfl) 54 _ (by rfl) (ptV a (txt []) 0 (.slice none 0 0) opd0 opd0 0 0) #[(0, .string a)] (by rfl) (build_pt a _) ?_)
      | (refine wp_st (by rfl) 54 _ _ (by rfl) w1.heap.size 0 pt0 54 (ptV a (txt []) 0 (.slice none 0 0) opd0 opd0 0 0) (ptC a (txt []) 0 (.slice none 0 0) opd0 opd0 0 0) (by rfl) (by rfl) (by rfl) HL1a.out.blk2 (Nat.le_of_ble_eq_true rfl) (by kernel_rfl) (by rfl) ?_; intro w1b hw_w1b hf_w1b; have HL1 : Hid (Lo2 w g V L w1b s1 w.heap.size pt0 54 w1.heap.size (ptC a (txt []) 0 (.slice none 0 0) opd0 opd0 0 0) 54) := HL1a.out.st2 hw_w1b hf_w1b; clear hw_w1b hf_w1b)
      | (go_at_call_of 82 (Value.string ⟨#[58]⟩); refine (HW.out _ HL1.out.env).mono ?_; rintro e w2 ⟨rfl, he_w2, hf_w2⟩; have HL2 : Hid (Lo2 w g V L w2 s2 w.heap.size pt0 54 w1.heap.size (ptC a (txt []) 0 (.slice none 0 0) opd0 opd0 0 0) 54) := (HL1.out.call he_w2 hf_w2); clear he_w2 hf_w2)
      | (refine wp_st (by rfl) 9 _ _ (by rfl) w1.heap.size 1 (ptC a (txt []) 0 (.slice none 0 0) opd0 opd0 0 0) 54 (.string b) [.string b] (by rfl) (by rfl) (by rfl) HL3.out.blk2 (Nat.le_of_ble_eq_true rfl) (by kernel_rfl) (by rfl) ?_; intro w4 hw_w4 hf_w4; have HL4 : Hid (Lo2 w g V L w4 s3 w.heap.size pt0 54 w1.heap.size (ptC a b 0 (.slice none 0 0) opd0 opd0 0 0) 54) := HL3.out.st2 hw_w4 hf_w4; clear hw_w4 hf_w4)
      | (go_at_call 40; refine (HT.out _ HL4.out.env).mono ?_; rintro e w5 ⟨rfl, he_w5, hf_w5⟩; have HL5 : Hid (Lo2 w g V L w5 s3 w.heap.size pt0 54 w1.heap.size (ptC a b 0 (.slice none 0 0) opd0 opd0 0 0) 54) := (HL4.out.call he_w5 hf_w5); clear he_w5 hf_w5)
      | (refine wp_ld (by rfl) 54 _ (by rfl) w1.heap.size (ptC a b 0 (.slice none 0 0) opd0 opd0 0 0) 54 _ (by rfl) HL5.out.blk2 Tryd.underlying54 rfl (by kernel_rfl) ?_)
      | (refine wp_st (by rfl) 54 _ _ (by rfl) w.heap.size 0 pt0 54 (ptV a b 0 (.slice none 0 0) opd0 opd0 0 0) (ptC a b 0 (.slice none 0 0) opd0 opd0 0 0) (by rfl) (by rfl) (by rfl) HL5.out.blk (Nat.le_of_ble_eq_true rfl) (by kernel_rfl) (by rfl) ?_; intro w9 hw_w9 hf_w9; have HL9 : Hid (Loc w g V L w9 s3 w.heap.size (ptC a b 0 (.slice none 0 0) opd0 opd0 0 0) 54) := HL5.out.loc.st hw_w9 hf_w9; clear hw_w9 hf_w9))
    refine ret_loc w.heap.size _ _ _ HL9.out.blk rfl rfl (by rfl) Tryd.underlying54 rfl (by kernel_rfl) ?_
    exact ⟨none, 0, rfl, (Row.nil _ _ _ _).holds, HL9.out.env, HL9.out.fr⟩
  · simp only [if_true]
    have HT : Hid (∀ W, Env W g V L s3 → Calls Tryd.prog 40 #[rp g, .string ⟨#[91]⟩] W fun e w' => e = .returned (.bool true) ∧ Env w' g V L s3.adv ∧ Fr (fun i => i = g) W w') := fun W hW => by
      have := takes_any W g V L s3 [91] hW
      unfold tks at this
      rw [hb_HT] at this
      exact this
    have HOR : Hid (∀ W, Env W g V L s3.adv → Calls Tryd.prog 138 #[rp g] W (CPost W g V L (orr L (ntt L 7) s3.adv).1 (orr L (ntt L 7) s3.adv).2)) := fun W hW => or_any g V L W s3.adv hW h03
    obtain ⟨c, hc⟩ : ∃ c, (orr L (ntt L 7) s3.adv).1 = c := ⟨_, rfl⟩
    obtain ⟨s4, hs4⟩ : ∃ s4, (orr L (ntt L 7) s3.adv).2 = s4 := ⟨_, rfl⟩
    rw [hc, hs4] at HOR ⊢
    obtain ⟨s5, h_s5⟩ : ∃ s5, wnt L [93] s4 = s5 := ⟨_, rfl⟩
    rw [h_s5]
    have HX : Hid (∀ W, Env W g V L s4 → Calls Tryd.prog 82 #[rp g, .string ⟨#[93]⟩] W fun e w' => e = .returned (.tuple #[]) ∧ Env w' g V L s5 ∧ Fr (fun i => i = g) W w') := fun W hW => by
      have := wants_any W g V L s4 [93] hW
      rw [h_s5] at this
      exact this
    obtain ⟨ck, csb, cl, cr⟩ := c
    obtain ⟨n1, hn1⟩ : ∃ n1, csb.length = n1 := ⟨_, rfl⟩
    unfold CPost at HOR
    simp only [hn1] at HOR
    have HN1 : Hid (csb.length = n1) := hn1
    have HGW : Hid (g < w.heap.size) := hgw
    clear h_a h_s1 h_s2 h_b h_s3 h_s5 q1 q2 q3 h h0 h03 hb_HT hgw hc hs4 hn1
    go_enter Tryd.func120, Tryd.ntmps120
    go_wp2_with (first
      | (go_at_call 81; refine (HB.out _ HL2.out.env).mono ?_; rintro e w3 ⟨rfl, he_w3, hf_w3⟩; have HL3 : Hid (Lo2 w g V L w3 s3 w.heap.size pt0 54 w1.heap.size (ptC a (txt []) 0 (.slice none 0 0) opd0 opd0 0 0) 54) := (HL2.out.call he_w3 hf_w3); clear he_w3 hf_w3)
      | (go_at_call 81; refine (HA.out _ HL0.out.env).mono ?_; rintro e w1 ⟨rfl, he_w1, hf_w1⟩; have HL1a : Hid (Lo2 w g V L (w1.alloc (.cells pt0.toArray 54)) s1 w.heap.size pt0 54 w1.heap.size pt0 54) := (HL0.out.call he_w1 hf_w1).two _ _; clear he_w1 hf_w1)
      | (refine wp_bd (by rfl) 54 _ (by rfl) (ptV a (txt []) 0 (.slice none 0 0) opd0 opd0 0 0) #[(0, .string a)] (by rfl) (build_pt a _) ?_)
      | (refine wp_st (by rfl) 54 _ _ (by rfl) w1.heap.size 0 pt0 54 (ptV a (txt []) 0 (.slice none 0 0) opd0 opd0 0 0) (ptC a (txt []) 0 (.slice none 0 0) opd0 opd0 0 0) (by rfl) (by rfl) (by rfl) HL1a.out.blk2 (Nat.le_of_ble_eq_true rfl) (by kernel_rfl) (by rfl) ?_; intro w1b hw_w1b hf_w1b; have HL1 : Hid (Lo2 w g V L w1b s1 w.heap.size pt0 54 w1.heap.size (ptC a (txt []) 0 (.slice none 0 0) opd0 opd0 0 0) 54) := HL1a.out.st2 hw_w1b hf_w1b; clear hw_w1b hf_w1b)
      | (go_at_call_of 82 (Value.string ⟨#[58]⟩); refine (HW.out _ HL1.out.env).mono ?_; rintro e w2 ⟨rfl, he_w2, hf_w2⟩; have HL2 : Hid (Lo2 w g V L w2 s2 w.heap.size pt0 54 w1.heap.size (ptC a (txt []) 0 (.slice none 0 0) opd0 opd0 0 0) 54) := (HL1.out.call he_w2 hf_w2); clear he_w2 hf_w2)
      | (refine wp_st (by rfl) 9 _ _ (by rfl) w1.heap.size 1 (ptC a (txt []) 0 (.slice none 0 0) opd0 opd0 0 0) 54 (.string b) [.string b] (by rfl) (by rfl) (by rfl) HL3.out.blk2 (Nat.le_of_ble_eq_true rfl) (by kernel_rfl) (by rfl) ?_; intro w4 hw_w4 hf_w4; have HL4 : Hid (Lo2 w g V L w4 s3 w.heap.size pt0 54 w1.heap.size (ptC a b 0 (.slice none 0 0) opd0 opd0 0 0) 54) := HL3.out.st2 hw_w4 hf_w4; clear hw_w4 hf_w4)
      | (go_at_call 40; refine (HT.out _ HL4.out.env).mono ?_; rintro e w5 ⟨rfl, he_w5, hf_w5⟩; have HL5 : Hid (Lo2 w g V L w5 s3.adv w.heap.size pt0 54 w1.heap.size (ptC a b 0 (.slice none 0 0) opd0 opd0 0 0) 54) := (HL4.out.call he_w5 hf_w5); clear he_w5 hf_w5)
      | (go_at_call 138; refine (HOR.out _ HL5.out.env).mono ?_; rintro e w6 ⟨p5, cap5, rfl, hh6, he6, hf6⟩; have HH6 : Hid (Holds w6 (fun i => w5.heap.size ≤ i) (.row 52 14 csb) (.slice p5 n1 cap5)) := hh6; have HM6 : Hid (w.heap.size < w5.heap.size ∧ w1.heap.size < w5.heap.size) := ⟨blk_lt HL5.out.blk, blk_lt HL5.out.blk2⟩; have HL6 : Hid (Lo2 w g V L w6 s4 w.heap.size pt0 54 w1.heap.size (ptC a b 0 (.slice none 0 0) opd0 opd0 0 0) 54) := HL5.out.call he6 hf6; clear hh6 he6 hf6)
      | (refine wp_st (by rfl) 52 _ _ (by rfl) w1.heap.size 2 (ptC a b 0 (.slice none 0 0) opd0 opd0 0 0) 54 (cnV ck (.slice p5 n1 cap5) cl cr) (cnC ck (.slice p5 n1 cap5) cl cr) (by rfl) (by rfl) (by rfl) HL6.out.blk2 (Nat.le_of_ble_eq_true rfl) (by kernel_rfl) (by rfl) ?_; intro w7 hw_w7 hf_w7; have HL7 : Hid (Lo2 w g V L w7 s4 w.heap.size pt0 54 w1.heap.size (ptC a b ck (.slice p5 n1 cap5) cl cr 0 0) 54) := HL6.out.st2 hw_w7 hf_w7; have HH7 : Hid (Holds w7 (fun i => w5.heap.size ≤ i) (.row 52 14 csb) (.slice p5 n1 cap5)) := HH6.out.fr hf_w7 HM6.out.2; clear hw_w7 hf_w7)
      | (go_at_call_of 82 (Value.string ⟨#[93]⟩); refine (HX.out _ HL7.out.env).mono ?_; rintro e w8 ⟨rfl, he_w8, hf_w8⟩; have HL8 : Hid (Lo2 w g V L w8 s5 w.heap.size pt0 54 w1.heap.size (ptC a b ck (.slice p5 n1 cap5) cl cr 0 0) 54) := (HL7.out.call he_w8 hf_w8); have HH8 : Hid (Holds w8 (fun i => w5.heap.size ≤ i) (.row 52 14 csb) (.slice p5 n1 cap5)) := HH7.out.fr hf_w8 (by { have := HM6.out; have := HGW.out; omega }); clear he_w8 hf_w8)
      | (refine wp_ld (by rfl) 54 _ (by rfl) w1.heap.size (ptC a b ck (.slice p5 n1 cap5) cl cr 0 0) 54 _ (by rfl) HL8.out.blk2 Tryd.underlying54 rfl (by kernel_rfl) ?_)
      | (refine wp_st (by rfl) 54 _ _ (by rfl) w.heap.size 0 pt0 54 (ptV a b ck (.slice p5 n1 cap5) cl cr 0 0) (ptC a b ck (.slice p5 n1 cap5) cl cr 0 0) (by rfl) (by rfl) (by rfl) HL8.out.blk (Nat.le_of_ble_eq_true rfl) (by kernel_rfl) (by rfl) ?_; intro w9 hw_w9 hf_w9; have HL9 : Hid (Loc w g V L w9 s5 w.heap.size (ptC a b ck (.slice p5 n1 cap5) cl cr 0 0) 54) := HL8.out.loc.st hw_w9 hf_w9; have HH9 : Hid (Holds w9 (fun i => w5.heap.size ≤ i) (.row 52 14 csb) (.slice p5 n1 cap5)) := HH8.out.fr hf_w9 HM6.out.1; clear hw_w9 hf_w9))
    refine ret_loc w.heap.size _ _ _ HL9.out.blk rfl rfl (by rfl) Tryd.underlying54 rfl (by kernel_rfl) ?_
    refine ⟨p5, cap5, ?_, ?_, HL9.out.env, HL9.out.fr⟩
    · simp only [HN1.out]
    · simp only [HN1.out]
      exact HH9.out.low (Nat.le_of_lt HM6.out.1)
end Go.Proofs.YtnlmkdncifijlaaDoor
