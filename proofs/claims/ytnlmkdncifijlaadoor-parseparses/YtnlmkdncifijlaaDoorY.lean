/-
  A many.
-/
import Derived.Test.YtnlmkdncifijlaaDoorW
namespace Go.Proofs.YtnlmkdncifijlaaDoor
open Go.ChangeShapes Go.WideShapes Go.ChangeAt Go.RowKit Go.Maps
set_option linter.unusedVariables false
set_option linter.unusedSimpArgs false
abbrev mnC (c : Int) (f a b : ByteArray) (k : Int) (v : Value) (l r : Opd) (w n : Int) : List Value := [.int .i64 c, .string f, .string a, .string b, .int .i64 k, v, .int .i64 l.k, .int .i64 l.vk, .int .i64 l.vi, .string l.vt, .string l.va, .string l.fd, .int .i64 r.k, .int .i64 r.vk, .int .i64 r.vi, .string r.vt, .string r.va, .string r.fd, .int .i64 w, .int .i64 n]
abbrev mnV (c : Int) (f a b : ByteArray) (k : Int) (v : Value) (l r : Opd) (w n : Int) : Value := .agg #[.int .i64 c, .string f, .string a, .string b, .int .i64 k, v, .int .i64 l.k, .int .i64 l.vk, .int .i64 l.vi, .string l.vt, .string l.va, .string l.fd, .int .i64 r.k, .int .i64 r.vk, .int .i64 r.vi, .string r.vt, .string r.va, .string r.fd, .int .i64 w, .int .i64 n]
def mn0 : List Value := mnC 0 (txt []) (txt []) (txt []) 0 (.slice none 0 0) opd0 opd0 0 0
theorem build_mn (x : Int) (w : World) : (Instr.build 107 #[(0, .int .i64 x)]).run Tryd.prog w = .ok (mnV x (txt []) (txt []) (txt []) 0 (.slice none 0 0) opd0 opd0 0 0) w := by kernel_rfl
/-- A struct that is built, its value under a letter. -/
theorem wp_bdu {P : Program} {ops : Array Oper} {rest : List Oper} {op : Oper} {a : Act} {w : World} {Q : Exit → Act → World → Prop} (hgd : op.guard = none) (ty : TypeId) (parts : Array (Nat × Operand)) (ho : op.op = .build ty parts) (cs : List Value)
    (vals : Array (Nat × Value)) (hp : (parts.map fun x => (x.1, a.eval x.2)) = vals) (hv : (Instr.build ty vals).run P w = .ok (.agg cs.toArray) w) (h : ∀ u : Value, u.cells = cs.toArray → wpList P ops Q rest (a.put op.dst u) w) : wpList P ops Q (op :: rest) a w :=
  wp_bd hgd ty parts ho _ vals hp hv (h _ rfl)
/-- What a many leaves. -/
def MPost (w : World) (g : Nat) (V : Value) (L : List Tk) (m : Mn) (s : St) (e : Ending) (w' : World) : Prop :=
  ∃ p cap, e = .returned (mnV m.c m.f m.p.va m.p.ty m.p.c.k (.slice p m.p.c.sb.length cap) m.p.c.l m.p.c.r m.p.w m.p.n) ∧ Holds w' (fun i => w.heap.size ≤ i) (.row 52 14 m.p.c.sb) (.slice p m.p.c.sb.length cap) ∧ Env w' g V L s ∧ Fr (fun i => i = g) w w'
theorem mny_g (L : List Tk) (s : St) (h0 : s.o = 0) : s.i ≤ (mny L s).2.i ∧ (mny L s).2.o = s.o := by
  have a := num_g L s
  have b := nam_g L (num L s).2.adv
  have e1 : (num L s).2.adv.i = (num L s).2.i + 1 := rfl
  have e2 : (num L s).2.adv.o = (num L s).2.o := rfl
  unfold mny
  simp only
  split
  · have c := pat_g L (nam L (num L s).2.adv).2 (by omega)
    have d := wnt_i L [119, 105, 116, 104, 105, 110] (pat L (nam L (num L s).2.adv).2).2
    have e := num_g L (wnt L [119, 105, 116, 104, 105, 110] (pat L (nam L (num L s).2.adv).2).2)
    omega
  · have c := pat_g L (num L s).2 (by omega)
    have d := wnt_i L [119, 105, 116, 104, 105, 110] (pat L (num L s).2).2
    have e := num_g L (wnt L [119, 105, 116, 104, 105, 110] (pat L (num L s).2).2)
    simp only
    omega
set_option maxHeartbeats 8000000 in
theorem many_bare (w : World) (g : Nat) (V : Value) (L : List Tk) (s s1 s3 : St) (c : Int) (a b : ByteArray) (ck : Int) (csb : List (List Dat)) (cl cr : Opd) (tw tn : Int) (h : Env w g V L s) (hc : num L s = (c, s1)) (hb_HT : see L [111, 102] s1 = false) (hp : pat L s1 = (⟨a, b, ⟨ck, csb, cl, cr⟩, tw, tn⟩, s3)) (h0 : s1.o = 0) (nn : Int) (s9 : St) (hnum : num L (wnt L [119, 105, 116, 104, 105, 110] s3) = (nn, s9)) : Calls Tryd.prog 121 #[rp g] w (MPost w g V L ⟨c, (txt []), ⟨a, b, ⟨ck, csb, cl, cr⟩, 1, nn⟩⟩ s9) := by
  have HL0 : Hid (Loc w g V L (w.alloc (.cells mn0.toArray 107)) s w.heap.size mn0 107) := Loc.start h mn0 _
  have HGW : Hid (g < w.heap.size) := blk_lt h.blk
  obtain ⟨n1, hn1⟩ : ∃ n1, csb.length = n1 := ⟨_, rfl⟩
  have HPT : Hid (∀ W, Env W g V L s1 → Calls Tryd.prog 120 #[rp g] W fun e w' => ∃ p cap u, e = .returned u ∧ u.cells = (ptC a b ck (.slice p n1 cap) cl cr tw tn).toArray ∧ Holds w' (fun i => W.heap.size ≤ i) (.row 52 14 csb) (.slice p n1 cap) ∧ Env w' g V L s3 ∧ Fr (fun i => i = g) W w') := fun W hW => by
    refine (pattern_any W g V L s1 hW h0).mono ?_
    rw [hp]
    rintro e w' ⟨p, cap, rfl, q1, q2, q3⟩
    simp only [hn1] at q1 ⊢
    exact ⟨p, cap, _, rfl, rfl, q1, q2, q3⟩
  have HN1 : Hid (csb.length = n1) := hn1
  have HC : Hid (∀ W, Env W g V L s → Calls Tryd.prog 137 #[rp g] W fun e w' => e = .returned (.int .i64 c) ∧ Env w' g V L s1 ∧ Fr (fun i => i = g) W w') := fun W hW => by
    have := number_any W g V L s hW
    rw [hc] at this
    exact this
  obtain ⟨s4, h_s4⟩ : ∃ s4, wnt L [119, 105, 116, 104, 105, 110] s3 = s4 := ⟨_, rfl⟩
  rw [h_s4] at hnum
  have HW : Hid (∀ W, Env W g V L s3 → Calls Tryd.prog 82 #[rp g, .string ⟨#[119, 105, 116, 104, 105, 110]⟩] W fun e w' => e = .returned (.tuple #[]) ∧ Env w' g V L s4 ∧ Fr (fun i => i = g) W w') := fun W hW => by
    have := wants_any W g V L s3 [119, 105, 116, 104, 105, 110] hW
    rw [h_s4] at this
    exact this
  have HNU : Hid (∀ W, Env W g V L s4 → Calls Tryd.prog 137 #[rp g] W fun e w' => e = .returned (.int .i64 nn) ∧ Env w' g V L s9 ∧ Fr (fun i => i = g) W w') := fun W hW => by
    have := number_any W g V L s4 hW
    rw [hnum] at this
    exact this
  have HT : Hid (∀ W, Env W g V L s1 → Calls Tryd.prog 40 #[rp g, .string ⟨#[111, 102]⟩] W fun e w' => e = .returned (.bool false) ∧ Env w' g V L s1 ∧ Fr (fun i => i = g) W w') := fun W hW => by
    have := takes_any W g V L s1 [111, 102] hW
    unfold tks at this
    rw [hb_HT] at this
    exact this
  clear hn1 h h0 hp hnum hc h_s4 hb_HT
  go_enter Tryd.func121, Tryd.ntmps121
  go_wp2_with (first
      | (go_at_call 137; refine (HNU.out _ HL8.out.env).mono ?_; rintro e w9 ⟨rfl, he_w9, hf_w9⟩; have HL9 : Hid (Lo2 w g V L w9 s9 w.heap.size mn0 107 w1.heap.size (mnC c (txt []) a b ck (.slice p5 n1 cap5) cl cr 1 tn) 107) := (HL8.out.call he_w9 hf_w9); have HH9 : Hid (Holds w9 (fun i => w4.heap.size ≤ i) (.row 52 14 csb) (.slice p5 n1 cap5)) := HH8.out.fr hf_w9 (by { have := HM4.out; have := HGW.out; omega }); clear he_w9 hf_w9)
      | (go_at_call 137; refine (HC.out _ HL0.out.env).mono ?_; rintro e w1 ⟨rfl, he1, hf1⟩; have HL1a : Hid (Lo2 w g V L (w1.alloc (.cells mn0.toArray 107)) s1 w.heap.size mn0 107 w1.heap.size mn0 107) := (HL0.out.call he1 hf1).two _ _; clear he1 hf1)
      | (refine wp_bdu (by rfl) 107 _ (by rfl) (mnC c (txt []) (txt []) (txt []) 0 (.slice none 0 0) opd0 opd0 0 0) #[(0, .int .i64 c)] (by simp [Act.eval, Act.put]) (build_mn c _) ?_; intro u0 hu0; have HU0 : Hid (u0.cells = ((mnC c (txt []) (txt []) (txt []) 0 (.slice none 0 0) opd0 opd0 0 0)).toArray) := hu0; clear hu0)
      | (refine wp_st (by rfl) 107 _ _ (by rfl) w1.heap.size 0 mn0 107 u0 (mnC c (txt []) (txt []) (txt []) 0 (.slice none 0 0) opd0 opd0 0 0) (by rfl) (by rfl) HU0.out HL1a.out.blk2 (Nat.le_of_ble_eq_true rfl) (by kernel_rfl) (by rfl) ?_; intro w1b hw_w1b hf_w1b; have HL1 : Hid (Lo2 w g V L w1b s1 w.heap.size mn0 107 w1.heap.size (mnC c (txt []) (txt []) (txt []) 0 (.slice none 0 0) opd0 opd0 0 0) 107) := HL1a.out.st2 hw_w1b hf_w1b; clear hw_w1b hf_w1b)
      | (go_at_call 40; refine (HT.out _ HL1.out.env).mono ?_; rintro e w4 ⟨rfl, he_w4, hf_w4⟩; have HL4 : Hid (Lo2 w g V L w4 s1 w.heap.size mn0 107 w1.heap.size (mnC c (txt []) (txt []) (txt []) 0 (.slice none 0 0) opd0 opd0 0 0) 107) := (HL1.out.call he_w4 hf_w4); clear he_w4 hf_w4)
      | (go_at_call 120; refine (HPT.out _ HL4.out.env).mono ?_; rintro e w5 ⟨p5, cap5, u5, rfl, hu5, hh5, he5, hf5⟩; have HU5 : Hid (u5.cells = (ptC a b ck (.slice p5 n1 cap5) cl cr tw tn).toArray) := hu5; have HH5 : Hid (Holds w5 (fun i => w4.heap.size ≤ i) (.row 52 14 csb) (.slice p5 n1 cap5)) := hh5; have HM4 : Hid (w.heap.size < w4.heap.size ∧ w1.heap.size < w4.heap.size) := ⟨blk_lt HL4.out.blk, blk_lt HL4.out.blk2⟩; have HL5 : Hid (Lo2 w g V L w5 s3 w.heap.size mn0 107 w1.heap.size (mnC c (txt []) (txt []) (txt []) 0 (.slice none 0 0) opd0 opd0 0 0) 107) := HL4.out.call he5 hf5; clear hu5 hh5 he5 hf5)
      | (refine wp_st (by rfl) 54 _ _ (by rfl) w1.heap.size 2 (mnC c (txt []) (txt []) (txt []) 0 (.slice none 0 0) opd0 opd0 0 0) 107 u5 (ptC a b ck (.slice p5 n1 cap5) cl cr tw tn) (by rfl) (by rfl) HU5.out HL5.out.blk2 (Nat.le_of_ble_eq_true rfl) (by kernel_rfl) (by rfl) ?_; intro w6 hw_w6 hf_w6; have HL6 : Hid (Lo2 w g V L w6 s3 w.heap.size mn0 107 w1.heap.size (mnC c (txt []) a b ck (.slice p5 n1 cap5) cl cr tw tn) 107) := HL5.out.st2 hw_w6 hf_w6; have HH6 : Hid (Holds w6 (fun i => w4.heap.size ≤ i) (.row 52 14 csb) (.slice p5 n1 cap5)) := HH5.out.fr hf_w6 HM4.out.2; clear hw_w6 hf_w6)
      | (go_at_call 82; refine (HW.out _ HL6.out.env).mono ?_; rintro e w7 ⟨rfl, he_w7, hf_w7⟩; have HL7 : Hid (Lo2 w g V L w7 s4 w.heap.size mn0 107 w1.heap.size (mnC c (txt []) a b ck (.slice p5 n1 cap5) cl cr tw tn) 107) := (HL6.out.call he_w7 hf_w7); have HH7 : Hid (Holds w7 (fun i => w4.heap.size ≤ i) (.row 52 14 csb) (.slice p5 n1 cap5)) := HH6.out.fr hf_w7 (by { have := HM4.out; have := HGW.out; omega }); clear he_w7 hf_w7)
      | (refine wp_st (by rfl) 3 _ _ (by rfl) w1.heap.size 19 (mnC c (txt []) a b ck (.slice p5 n1 cap5) cl cr 1 tn) 107 (.int .i64 nn) [.int .i64 nn] (by rfl) (by rfl) (by rfl) HL9.out.blk2 (Nat.le_of_ble_eq_true rfl) (by kernel_rfl) (by rfl) ?_; intro w10 hw_w10 hf_w10; have HL10 : Hid (Lo2 w g V L w10 s9 w.heap.size mn0 107 w1.heap.size (mnC c (txt []) a b ck (.slice p5 n1 cap5) cl cr 1 nn) 107) := HL9.out.st2 hw_w10 hf_w10; have HH10 : Hid (Holds w10 (fun i => w4.heap.size ≤ i) (.row 52 14 csb) (.slice p5 n1 cap5)) := HH9.out.fr hf_w10 HM4.out.2; clear hw_w10 hf_w10)
      | (refine wp_st (by rfl) 3 _ _ (by rfl) w1.heap.size 18 (mnC c (txt []) a b ck (.slice p5 n1 cap5) cl cr tw tn) 107 (.int .i64 1) [.int .i64 1] (by rfl) (by rfl) (by rfl) HL7.out.blk2 (Nat.le_of_ble_eq_true rfl) (by kernel_rfl) (by rfl) ?_; intro w8 hw_w8 hf_w8; have HL8 : Hid (Lo2 w g V L w8 s4 w.heap.size mn0 107 w1.heap.size (mnC c (txt []) a b ck (.slice p5 n1 cap5) cl cr 1 tn) 107) := HL7.out.st2 hw_w8 hf_w8; have HH8 : Hid (Holds w8 (fun i => w4.heap.size ≤ i) (.row 52 14 csb) (.slice p5 n1 cap5)) := HH7.out.fr hf_w8 HM4.out.2; clear hw_w8 hf_w8)
      | (refine wp_ldu (by rfl) 107 _ (by rfl) w1.heap.size (mnC c (txt []) a b ck (.slice p5 n1 cap5) cl cr 1 nn) 107 _ (by rfl) HL10.out.blk2 Tryd.underlying107 rfl (by kernel_rfl) ?_; intro u9 h_u9; have H_u9 : Hid (u9.cells = ((mnC c (txt []) a b ck (.slice p5 n1 cap5) cl cr 1 nn)).toArray) := h_u9; clear h_u9)
      | (refine wp_st (by rfl) 107 _ _ (by rfl) w.heap.size 0 mn0 107 u9 (mnC c (txt []) a b ck (.slice p5 n1 cap5) cl cr 1 nn) (by rfl) (by rfl) H_u9.out HL10.out.blk (Nat.le_of_ble_eq_true rfl) (by kernel_rfl) (by rfl) ?_; intro w11 hw_w11 hf_w11; have HL11 : Hid (Loc w g V L w11 s9 w.heap.size (mnC c (txt []) a b ck (.slice p5 n1 cap5) cl cr 1 nn) 107) := HL10.out.loc.st hw_w11 hf_w11; have HH11 : Hid (Holds w11 (fun i => w4.heap.size ≤ i) (.row 52 14 csb) (.slice p5 n1 cap5)) := HH10.out.fr hf_w11 HM4.out.1; clear hw_w11 hf_w11))
  refine ret_loc w.heap.size _ _ _ HL11.out.blk rfl rfl (by rfl) Tryd.underlying107 rfl (by kernel_rfl) ?_
  refine ⟨p5, cap5, ?_, ?_, HL11.out.env, HL11.out.fr⟩
  · simp only [HN1.out]
  · simp only [HN1.out]
    exact HH11.out.low (Nat.le_of_lt HM4.out.1)
set_option maxHeartbeats 8000000 in
theorem many_of (w : World) (g : Nat) (V : Value) (L : List Tk) (s s1 s3 : St) (c : Int) (a b : ByteArray) (ck : Int) (csb : List (List Dat)) (cl cr : Opd) (tw tn : Int) (h : Env w g V L s) (hc : num L s = (c, s1)) (hb_HT : see L [111, 102] s1 = true) (f : ByteArray) (s2 : St) (hnm : nam L s1.adv = (f, s2)) (hp : pat L s2 = (⟨a, b, ⟨ck, csb, cl, cr⟩, tw, tn⟩, s3)) (h0 : s2.o = 0) (nn : Int) (s9 : St) (hnum : num L (wnt L [119, 105, 116, 104, 105, 110] s3) = (nn, s9)) : Calls Tryd.prog 121 #[rp g] w (MPost w g V L ⟨c, f, ⟨a, b, ⟨ck, csb, cl, cr⟩, 1, nn⟩⟩ s9) := by
  have HL0 : Hid (Loc w g V L (w.alloc (.cells mn0.toArray 107)) s w.heap.size mn0 107) := Loc.start h mn0 _
  have HGW : Hid (g < w.heap.size) := blk_lt h.blk
  obtain ⟨n1, hn1⟩ : ∃ n1, csb.length = n1 := ⟨_, rfl⟩
  have HPT : Hid (∀ W, Env W g V L s2 → Calls Tryd.prog 120 #[rp g] W fun e w' => ∃ p cap u, e = .returned u ∧ u.cells = (ptC a b ck (.slice p n1 cap) cl cr tw tn).toArray ∧ Holds w' (fun i => W.heap.size ≤ i) (.row 52 14 csb) (.slice p n1 cap) ∧ Env w' g V L s3 ∧ Fr (fun i => i = g) W w') := fun W hW => by
    refine (pattern_any W g V L s2 hW h0).mono ?_
    rw [hp]
    rintro e w' ⟨p, cap, rfl, q1, q2, q3⟩
    simp only [hn1] at q1 ⊢
    exact ⟨p, cap, _, rfl, rfl, q1, q2, q3⟩
  have HN1 : Hid (csb.length = n1) := hn1
  have HC : Hid (∀ W, Env W g V L s → Calls Tryd.prog 137 #[rp g] W fun e w' => e = .returned (.int .i64 c) ∧ Env w' g V L s1 ∧ Fr (fun i => i = g) W w') := fun W hW => by
    have := number_any W g V L s hW
    rw [hc] at this
    exact this
  obtain ⟨s4, h_s4⟩ : ∃ s4, wnt L [119, 105, 116, 104, 105, 110] s3 = s4 := ⟨_, rfl⟩
  rw [h_s4] at hnum
  have HW : Hid (∀ W, Env W g V L s3 → Calls Tryd.prog 82 #[rp g, .string ⟨#[119, 105, 116, 104, 105, 110]⟩] W fun e w' => e = .returned (.tuple #[]) ∧ Env w' g V L s4 ∧ Fr (fun i => i = g) W w') := fun W hW => by
    have := wants_any W g V L s3 [119, 105, 116, 104, 105, 110] hW
    rw [h_s4] at this
    exact this
  have HNU : Hid (∀ W, Env W g V L s4 → Calls Tryd.prog 137 #[rp g] W fun e w' => e = .returned (.int .i64 nn) ∧ Env w' g V L s9 ∧ Fr (fun i => i = g) W w') := fun W hW => by
    have := number_any W g V L s4 hW
    rw [hnum] at this
    exact this
  have HT : Hid (∀ W, Env W g V L s1 → Calls Tryd.prog 40 #[rp g, .string ⟨#[111, 102]⟩] W fun e w' => e = .returned (.bool true) ∧ Env w' g V L s1.adv ∧ Fr (fun i => i = g) W w') := fun W hW => by
    have := takes_any W g V L s1 [111, 102] hW
    unfold tks at this
    rw [hb_HT] at this
    exact this
  have HNM : Hid (∀ W, Env W g V L s1.adv → Calls Tryd.prog 81 #[rp g] W fun e w' => e = .returned (.string f) ∧ Env w' g V L s2 ∧ Fr (fun i => i = g) W w') := fun W hW => by
    have := ident_any W g V L s1.adv hW
    rw [hnm] at this
    exact this
  clear hn1 h h0 hp hnum hc h_s4 hb_HT hnm
  go_enter Tryd.func121, Tryd.ntmps121
  go_wp2_with (first
      | (go_at_call 137; refine (HNU.out _ HL8.out.env).mono ?_; rintro e w9 ⟨rfl, he_w9, hf_w9⟩; have HL9 : Hid (Lo2 w g V L w9 s9 w.heap.size mn0 107 w1.heap.size (mnC c f a b ck (.slice p5 n1 cap5) cl cr 1 tn) 107) := (HL8.out.call he_w9 hf_w9); have HH9 : Hid (Holds w9 (fun i => w4.heap.size ≤ i) (.row 52 14 csb) (.slice p5 n1 cap5)) := HH8.out.fr hf_w9 (by { have := HM4.out; have := HGW.out; omega }); clear he_w9 hf_w9)
      | (go_at_call 137; refine (HC.out _ HL0.out.env).mono ?_; rintro e w1 ⟨rfl, he1, hf1⟩; have HL1a : Hid (Lo2 w g V L (w1.alloc (.cells mn0.toArray 107)) s1 w.heap.size mn0 107 w1.heap.size mn0 107) := (HL0.out.call he1 hf1).two _ _; clear he1 hf1)
      | (refine wp_bdu (by rfl) 107 _ (by rfl) (mnC c (txt []) (txt []) (txt []) 0 (.slice none 0 0) opd0 opd0 0 0) #[(0, .int .i64 c)] (by simp [Act.eval, Act.put]) (build_mn c _) ?_; intro u0 hu0; have HU0 : Hid (u0.cells = ((mnC c (txt []) (txt []) (txt []) 0 (.slice none 0 0) opd0 opd0 0 0)).toArray) := hu0; clear hu0)
      | (refine wp_st (by rfl) 107 _ _ (by rfl) w1.heap.size 0 mn0 107 u0 (mnC c (txt []) (txt []) (txt []) 0 (.slice none 0 0) opd0 opd0 0 0) (by rfl) (by rfl) HU0.out HL1a.out.blk2 (Nat.le_of_ble_eq_true rfl) (by kernel_rfl) (by rfl) ?_; intro w1b hw_w1b hf_w1b; have HL1 : Hid (Lo2 w g V L w1b s1 w.heap.size mn0 107 w1.heap.size (mnC c (txt []) (txt []) (txt []) 0 (.slice none 0 0) opd0 opd0 0 0) 107) := HL1a.out.st2 hw_w1b hf_w1b; clear hw_w1b hf_w1b)
      | (go_at_call 40; refine (HT.out _ HL1.out.env).mono ?_; rintro e w2 ⟨rfl, he_w2, hf_w2⟩; have HL2 : Hid (Lo2 w g V L w2 s1.adv w.heap.size mn0 107 w1.heap.size (mnC c (txt []) (txt []) (txt []) 0 (.slice none 0 0) opd0 opd0 0 0) 107) := (HL1.out.call he_w2 hf_w2); clear he_w2 hf_w2)
      | (go_at_call 81; refine (HNM.out _ HL2.out.env).mono ?_; rintro e w3 ⟨rfl, he_w3, hf_w3⟩; have HL3 : Hid (Lo2 w g V L w3 s2 w.heap.size mn0 107 w1.heap.size (mnC c (txt []) (txt []) (txt []) 0 (.slice none 0 0) opd0 opd0 0 0) 107) := (HL2.out.call he_w3 hf_w3); clear he_w3 hf_w3)
      | (refine wp_st (by rfl) 9 _ _ (by rfl) w1.heap.size 1 (mnC c (txt []) (txt []) (txt []) 0 (.slice none 0 0) opd0 opd0 0 0) 107 (.string f) [.string f] (by rfl) (by rfl) (by rfl) HL3.out.blk2 (Nat.le_of_ble_eq_true rfl) (by kernel_rfl) (by rfl) ?_; intro w4 hw_w4 hf_w4; have HL4 : Hid (Lo2 w g V L w4 s2 w.heap.size mn0 107 w1.heap.size (mnC c f (txt []) (txt []) 0 (.slice none 0 0) opd0 opd0 0 0) 107) := HL3.out.st2 hw_w4 hf_w4; clear hw_w4 hf_w4)
      | (go_at_call 120; refine (HPT.out _ HL4.out.env).mono ?_; rintro e w5 ⟨p5, cap5, u5, rfl, hu5, hh5, he5, hf5⟩; have HU5 : Hid (u5.cells = (ptC a b ck (.slice p5 n1 cap5) cl cr tw tn).toArray) := hu5; have HH5 : Hid (Holds w5 (fun i => w4.heap.size ≤ i) (.row 52 14 csb) (.slice p5 n1 cap5)) := hh5; have HM4 : Hid (w.heap.size < w4.heap.size ∧ w1.heap.size < w4.heap.size) := ⟨blk_lt HL4.out.blk, blk_lt HL4.out.blk2⟩; have HL5 : Hid (Lo2 w g V L w5 s3 w.heap.size mn0 107 w1.heap.size (mnC c f (txt []) (txt []) 0 (.slice none 0 0) opd0 opd0 0 0) 107) := HL4.out.call he5 hf5; clear hu5 hh5 he5 hf5)
      | (refine wp_st (by rfl) 54 _ _ (by rfl) w1.heap.size 2 (mnC c f (txt []) (txt []) 0 (.slice none 0 0) opd0 opd0 0 0) 107 u5 (ptC a b ck (.slice p5 n1 cap5) cl cr tw tn) (by rfl) (by rfl) HU5.out HL5.out.blk2 (Nat.le_of_ble_eq_true rfl) (by kernel_rfl) (by rfl) ?_; intro w6 hw_w6 hf_w6; have HL6 : Hid (Lo2 w g V L w6 s3 w.heap.size mn0 107 w1.heap.size (mnC c f a b ck (.slice p5 n1 cap5) cl cr tw tn) 107) := HL5.out.st2 hw_w6 hf_w6; have HH6 : Hid (Holds w6 (fun i => w4.heap.size ≤ i) (.row 52 14 csb) (.slice p5 n1 cap5)) := HH5.out.fr hf_w6 HM4.out.2; clear hw_w6 hf_w6)
      | (go_at_call 82; refine (HW.out _ HL6.out.env).mono ?_; rintro e w7 ⟨rfl, he_w7, hf_w7⟩; have HL7 : Hid (Lo2 w g V L w7 s4 w.heap.size mn0 107 w1.heap.size (mnC c f a b ck (.slice p5 n1 cap5) cl cr tw tn) 107) := (HL6.out.call he_w7 hf_w7); have HH7 : Hid (Holds w7 (fun i => w4.heap.size ≤ i) (.row 52 14 csb) (.slice p5 n1 cap5)) := HH6.out.fr hf_w7 (by { have := HM4.out; have := HGW.out; omega }); clear he_w7 hf_w7)
      | (refine wp_st (by rfl) 3 _ _ (by rfl) w1.heap.size 19 (mnC c f a b ck (.slice p5 n1 cap5) cl cr 1 tn) 107 (.int .i64 nn) [.int .i64 nn] (by rfl) (by rfl) (by rfl) HL9.out.blk2 (Nat.le_of_ble_eq_true rfl) (by kernel_rfl) (by rfl) ?_; intro w10 hw_w10 hf_w10; have HL10 : Hid (Lo2 w g V L w10 s9 w.heap.size mn0 107 w1.heap.size (mnC c f a b ck (.slice p5 n1 cap5) cl cr 1 nn) 107) := HL9.out.st2 hw_w10 hf_w10; have HH10 : Hid (Holds w10 (fun i => w4.heap.size ≤ i) (.row 52 14 csb) (.slice p5 n1 cap5)) := HH9.out.fr hf_w10 HM4.out.2; clear hw_w10 hf_w10)
      | (refine wp_st (by rfl) 3 _ _ (by rfl) w1.heap.size 18 (mnC c f a b ck (.slice p5 n1 cap5) cl cr tw tn) 107 (.int .i64 1) [.int .i64 1] (by rfl) (by rfl) (by rfl) HL7.out.blk2 (Nat.le_of_ble_eq_true rfl) (by kernel_rfl) (by rfl) ?_; intro w8 hw_w8 hf_w8; have HL8 : Hid (Lo2 w g V L w8 s4 w.heap.size mn0 107 w1.heap.size (mnC c f a b ck (.slice p5 n1 cap5) cl cr 1 tn) 107) := HL7.out.st2 hw_w8 hf_w8; have HH8 : Hid (Holds w8 (fun i => w4.heap.size ≤ i) (.row 52 14 csb) (.slice p5 n1 cap5)) := HH7.out.fr hf_w8 HM4.out.2; clear hw_w8 hf_w8)
      | (refine wp_ldu (by rfl) 107 _ (by rfl) w1.heap.size (mnC c f a b ck (.slice p5 n1 cap5) cl cr 1 nn) 107 _ (by rfl) HL10.out.blk2 Tryd.underlying107 rfl (by kernel_rfl) ?_; intro u9 h_u9; have H_u9 : Hid (u9.cells = ((mnC c f a b ck (.slice p5 n1 cap5) cl cr 1 nn)).toArray) := h_u9; clear h_u9)
      | (refine wp_st (by rfl) 107 _ _ (by rfl) w.heap.size 0 mn0 107 u9 (mnC c f a b ck (.slice p5 n1 cap5) cl cr 1 nn) (by rfl) (by rfl) H_u9.out HL10.out.blk (Nat.le_of_ble_eq_true rfl) (by kernel_rfl) (by rfl) ?_; intro w11 hw_w11 hf_w11; have HL11 : Hid (Loc w g V L w11 s9 w.heap.size (mnC c f a b ck (.slice p5 n1 cap5) cl cr 1 nn) 107) := HL10.out.loc.st hw_w11 hf_w11; have HH11 : Hid (Holds w11 (fun i => w4.heap.size ≤ i) (.row 52 14 csb) (.slice p5 n1 cap5)) := HH10.out.fr hf_w11 HM4.out.1; clear hw_w11 hf_w11))
  refine ret_loc w.heap.size _ _ _ HL11.out.blk rfl rfl (by rfl) Tryd.underlying107 rfl (by kernel_rfl) ?_
  refine ⟨p5, cap5, ?_, ?_, HL11.out.env, HL11.out.fr⟩
  · simp only [HN1.out]
  · simp only [HN1.out]
    exact HH11.out.low (Nat.le_of_lt HM4.out.1)
theorem many_any (w : World) (g : Nat) (V : Value) (L : List Tk) (s : St) (h : Env w g V L s) (h0 : s.o = 0) : Calls Tryd.prog 121 #[rp g] w (MPost w g V L (mny L s).1 (mny L s).2) := by
  have a0 := num_g L s
  unfold mny
  simp only
  obtain ⟨t, ht⟩ : ∃ t, num L s = t := ⟨_, rfl⟩
  rw [ht] at a0 ⊢
  obtain ⟨c, s1⟩ := t
  simp only at a0 ⊢
  cases h1 : see L [111, 102] s1
  · simp only [Bool.false_eq_true, if_false]
    obtain ⟨q, hq⟩ : ∃ q, pat L s1 = q := ⟨_, rfl⟩
    rw [hq]
    obtain ⟨⟨a, b, ⟨ck, csb, cl, cr⟩, tw, tn⟩, s3⟩ := q
    simp only
    exact many_bare w g V L s s1 s3 c a b ck csb cl cr tw tn h ht h1 hq (by omega) _ _ rfl
  · simp only [if_true]
    have b0 := nam_g L s1.adv
    have e1 : s1.adv.o = s1.o := rfl
    obtain ⟨u, hu⟩ : ∃ u, nam L s1.adv = u := ⟨_, rfl⟩
    rw [hu] at b0 ⊢
    obtain ⟨f, s2⟩ := u
    simp only at b0 ⊢
    obtain ⟨q, hq⟩ : ∃ q, pat L s2 = q := ⟨_, rfl⟩
    rw [hq]
    obtain ⟨⟨a, b, ⟨ck, csb, cl, cr⟩, tw, tn⟩, s3⟩ := q
    simp only
    exact many_of w g V L s s1 s3 c a b ck csb cl cr tw tn h ht h1 f s2 hu hq (by omega) _ _ rfl
end Go.Proofs.YtnlmkdncifijlaaDoor
