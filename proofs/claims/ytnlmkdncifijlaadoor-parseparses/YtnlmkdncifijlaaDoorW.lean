/-
  A when.
-/
import Derived.Test.YtnlmkdncifijlaaDoorP
namespace Go.Proofs.YtnlmkdncifijlaaDoor
open Go.ChangeShapes Go.WideShapes Go.ChangeAt Go.RowKit Go.Maps
set_option linter.unusedVariables false
set_option linter.unusedSimpArgs false
/-- A load of a struct out of a block, its value under a letter. -/
theorem wp_ldu {P : Program} {ops : Array Oper} {rest : List Oper} {op : Oper} {a : Act} {w : World} {Q : Exit → Act → World → Prop} (hgd : op.guard = none) (ty : TypeId) (x : Operand) (ho : op.op = .load ty x)
    (b : Nat) (cs : List Value) (T : TypeId) (d : TypeDesc) (hx : a.eval x = .pointer (some ⟨b, 0, none⟩)) (hb : w.heap[b]? = some (.cells cs.toArray T (0, 0))) (hu : P.underlying ty = some d) (hd : d.isRow = true) (hi : (P.info? ty).map (·.size) = some cs.length)
    (h : ∀ u : Value, u.cells = cs.toArray → wpList P ops Q rest (a.put op.dst u) w) : wpList P ops Q (op :: rest) a w :=
  wp_ld hgd ty x ho b cs T d hx hb hu hd hi (h _ rfl)
theorem whn_g (L : List Tk) (s : St) (h0 : s.o = 0) : s.i ≤ (whn L s).2.i ∧ (whn L s).2.o = s.o := by
  have a := pat_g L s h0
  have e1 : (pat L s).2.adv.i = (pat L s).2.i + 1 := rfl
  have e2 : (pat L s).2.adv.o = (pat L s).2.o := rfl
  have e3 : (pat L s).2.adv.adv.i = (pat L s).2.i + 2 := rfl
  have e4 : (pat L s).2.adv.adv.o = (pat L s).2.o := rfl
  have f := fal_i L (pat L s).2.adv
  unfold whn
  simp only
  split
  · split
    · have b := num_g L (pat L s).2.adv.adv
      simp only
      omega
    · split
      · have b := num_g L (pat L s).2.adv.adv
        simp only
        omega
      · have b := num_g L (fal L (pat L s).2.adv)
        simp only
        omega
  · exact a
theorem Holds.off {w w' : World} {S : Nat → Prop} {b : Nat} {v : Value} {d : Dat} (h : Holds w S d v) (hf : Fr (fun i => i = b) w w') (hs : ∀ i, S i → ¬ i = b) : Holds w' S d v := h.mono fun i hi hl => ⟨hi, hf.block i hl (hs i hi)⟩
set_option maxHeartbeats 8000000 in
theorem when_bare (w : World) (g : Nat) (V : Value) (L : List Tk) (s s1 : St) (a b : ByteArray) (ck : Int) (csb : List (List Dat)) (cl cr : Opd) (tw tn : Int) (h : Env w g V L s) (hp : pat L s = (⟨a, b, ⟨ck, csb, cl, cr⟩, tw, tn⟩, s1)) (h0 : s.o = 0) (hb_HT : see L [111, 118, 101, 114] s1 = false) : Calls Tryd.prog 119 #[rp g] w (PPost w g V L ⟨a, b, ⟨ck, csb, cl, cr⟩, tw, tn⟩ s1) := by
  have HL0 : Hid (Loc w g V L (w.alloc (.cells pt0.toArray 54)) s w.heap.size pt0 54) := Loc.start h pt0 _
  have HGW : Hid (g < w.heap.size) := blk_lt h.blk
  obtain ⟨n1, hn1⟩ : ∃ n1, csb.length = n1 := ⟨_, rfl⟩
  have HPT : Hid (∀ W, Env W g V L s → Calls Tryd.prog 120 #[rp g] W fun e w' => ∃ p cap u, e = .returned u ∧ u.cells = (ptC a b ck (.slice p n1 cap) cl cr tw tn).toArray ∧ Holds w' (fun i => W.heap.size ≤ i) (.row 52 14 csb) (.slice p n1 cap) ∧ Env w' g V L s1 ∧ Fr (fun i => i = g) W w') := fun W hW => by
    refine (pattern_any W g V L s hW h0).mono ?_
    rw [hp]
    rintro e w' ⟨p, cap, rfl, q1, q2, q3⟩
    simp only [hn1] at q1 ⊢
    exact ⟨p, cap, _, rfl, rfl, q1, q2, q3⟩
  have HN1 : Hid (csb.length = n1) := hn1
  have HT : Hid (∀ W, Env W g V L s1 → Calls Tryd.prog 40 #[rp g, .string ⟨#[111, 118, 101, 114]⟩] W fun e w' => e = .returned (.bool false) ∧ Env w' g V L s1 ∧ Fr (fun i => i = g) W w') := fun W hW => by
    have := takes_any W g V L s1 [111, 118, 101, 114] hW
    unfold tks at this
    rw [hb_HT] at this
    exact this
  clear hn1 h h0 hp hb_HT
  go_enter Tryd.func119, Tryd.ntmps119
  go_wp2_with (first
      | (go_at_call 120; refine (HPT.out _ HL0.out.env).mono ?_; rintro e w1 ⟨p1, cap1, u1, rfl, hu1, hh1, he1, hf1⟩; have HU1 : Hid (u1.cells = (ptC a b ck (.slice p1 n1 cap1) cl cr tw tn).toArray) := hu1; have HB1 : Hid (w.heap.size < w1.heap.size) := blk_lt (HL0.out.call he1 hf1).blk; have HH1 : Hid (Holds (w1.alloc (.cells pt0.toArray 54)) (fun i => w.heap.size + 1 ≤ i ∧ i < w1.heap.size) (.row 52 14 csb) (.slice p1 n1 cap1)) := hh1.mono (fun i hi hl => ⟨⟨by { have : (w.alloc (.cells pt0.toArray 54)).heap.size ≤ i := hi; simp at this; omega }, hl⟩, Below.heap_alloc _ _ _ hl⟩); have HL1a : Hid (Lo2 w g V L (w1.alloc (.cells pt0.toArray 54)) s1 w.heap.size pt0 54 w1.heap.size pt0 54) := (HL0.out.call he1 hf1).two _ _; clear hu1 hh1 he1 hf1)
      | (refine wp_st (by rfl) 54 _ _ (by rfl) w1.heap.size 0 pt0 54 u1 (ptC a b ck (.slice p1 n1 cap1) cl cr tw tn) (by rfl) (by rfl) HU1.out HL1a.out.blk2 (Nat.le_of_ble_eq_true rfl) (by kernel_rfl) (by rfl) ?_; intro w1b hw_w1b hf_w1b; have HL1 : Hid (Lo2 w g V L w1b s1 w.heap.size pt0 54 w1.heap.size (ptC a b ck (.slice p1 n1 cap1) cl cr tw tn) 54) := HL1a.out.st2 hw_w1b hf_w1b; have HH2 : Hid (Holds w1b (fun i => w.heap.size + 1 ≤ i ∧ i < w1.heap.size) (.row 52 14 csb) (.slice p1 n1 cap1)) := HH1.out.off hf_w1b (by { intro i hi; omega }); clear hw_w1b hf_w1b)
      | (go_at_call 40; refine (HT.out _ HL1.out.env).mono ?_; rintro e w2 ⟨rfl, he_w2, hf_w2⟩; have HL2 : Hid (Lo2 w g V L w2 s1 w.heap.size pt0 54 w1.heap.size (ptC a b ck (.slice p1 n1 cap1) cl cr tw tn) 54) := (HL1.out.call he_w2 hf_w2); have HH3 : Hid (Holds w2 (fun i => w.heap.size + 1 ≤ i ∧ i < w1.heap.size) (.row 52 14 csb) (.slice p1 n1 cap1)) := HH2.out.off hf_w2 (by { intro i hi; have := HGW.out; omega }); clear he_w2 hf_w2)
      | (refine wp_ldu (by rfl) 54 _ (by rfl) w1.heap.size (ptC a b ck (.slice p1 n1 cap1) cl cr tw tn) 54 _ (by rfl) HL2.out.blk2 Tryd.underlying54 rfl (by kernel_rfl) ?_; intro u9 h_u9; have H_u9 : Hid (u9.cells = ((ptC a b ck (.slice p1 n1 cap1) cl cr tw tn)).toArray) := h_u9; clear h_u9)
      | (refine wp_st (by rfl) 54 _ _ (by rfl) w.heap.size 0 pt0 54 u9 (ptC a b ck (.slice p1 n1 cap1) cl cr tw tn) (by rfl) (by rfl) H_u9.out HL2.out.blk (Nat.le_of_ble_eq_true rfl) (by kernel_rfl) (by rfl) ?_; intro w9 hw_w9 hf_w9; have HL9 : Hid (Loc w g V L w9 s1 w.heap.size (ptC a b ck (.slice p1 n1 cap1) cl cr tw tn) 54) := HL2.out.loc.st hw_w9 hf_w9; have HH9 : Hid (Holds w9 (fun i => w.heap.size + 1 ≤ i ∧ i < w1.heap.size) (.row 52 14 csb) (.slice p1 n1 cap1)) := HH3.out.off hf_w9 (by { intro i hi; omega }); clear hw_w9 hf_w9))
  refine ret_loc w.heap.size _ _ _ HL9.out.blk rfl rfl (by rfl) Tryd.underlying54 rfl (by kernel_rfl) ?_
  refine ⟨p1, cap1, ?_, ?_, HL9.out.env, HL9.out.fr⟩
  · simp only [HN1.out]
  · simp only [HN1.out]
    exact HH9.out.mono fun i hi _ => ⟨by have : w.heap.size + 1 ≤ i ∧ i < w1.heap.size := hi; show w.heap.size ≤ i; omega, rfl⟩
set_option maxHeartbeats 8000000 in
theorem when_time (w : World) (g : Nat) (V : Value) (L : List Tk) (s s1 : St) (a b : ByteArray) (ck : Int) (csb : List (List Dat)) (cl cr : Opd) (tw tn : Int) (h : Env w g V L s) (hp : pat L s = (⟨a, b, ⟨ck, csb, cl, cr⟩, tw, tn⟩, s1)) (h0 : s.o = 0) (hb_HT : see L [111, 118, 101, 114] s1 = true) (hb_HU : see L [116, 105, 109, 101] s1.adv = true) (nn : Int) (s9 : St) (hnum : num L s1.adv.adv = (nn, s9)) : Calls Tryd.prog 119 #[rp g] w (PPost w g V L ⟨a, b, ⟨ck, csb, cl, cr⟩, 1, nn⟩ s9) := by
  have HL0 : Hid (Loc w g V L (w.alloc (.cells pt0.toArray 54)) s w.heap.size pt0 54) := Loc.start h pt0 _
  have HGW : Hid (g < w.heap.size) := blk_lt h.blk
  obtain ⟨n1, hn1⟩ : ∃ n1, csb.length = n1 := ⟨_, rfl⟩
  have HPT : Hid (∀ W, Env W g V L s → Calls Tryd.prog 120 #[rp g] W fun e w' => ∃ p cap u, e = .returned u ∧ u.cells = (ptC a b ck (.slice p n1 cap) cl cr tw tn).toArray ∧ Holds w' (fun i => W.heap.size ≤ i) (.row 52 14 csb) (.slice p n1 cap) ∧ Env w' g V L s1 ∧ Fr (fun i => i = g) W w') := fun W hW => by
    refine (pattern_any W g V L s hW h0).mono ?_
    rw [hp]
    rintro e w' ⟨p, cap, rfl, q1, q2, q3⟩
    simp only [hn1] at q1 ⊢
    exact ⟨p, cap, _, rfl, rfl, q1, q2, q3⟩
  have HN1 : Hid (csb.length = n1) := hn1
  have HT : Hid (∀ W, Env W g V L s1 → Calls Tryd.prog 40 #[rp g, .string ⟨#[111, 118, 101, 114]⟩] W fun e w' => e = .returned (.bool true) ∧ Env w' g V L s1.adv ∧ Fr (fun i => i = g) W w') := fun W hW => by
    have := takes_any W g V L s1 [111, 118, 101, 114] hW
    unfold tks at this
    rw [hb_HT] at this
    exact this
  have HU : Hid (∀ W, Env W g V L s1.adv → Calls Tryd.prog 40 #[rp g, .string ⟨#[116, 105, 109, 101]⟩] W fun e w' => e = .returned (.bool true) ∧ Env w' g V L s1.adv.adv ∧ Fr (fun i => i = g) W w') := fun W hW => by
    have := takes_any W g V L s1.adv [116, 105, 109, 101] hW
    unfold tks at this
    rw [hb_HU] at this
    exact this
  have HNU : Hid (∀ W, Env W g V L s1.adv.adv → Calls Tryd.prog 137 #[rp g] W fun e w' => e = .returned (.int .i64 nn) ∧ Env w' g V L s9 ∧ Fr (fun i => i = g) W w') := fun W hW => by
    have := number_any W g V L s1.adv.adv hW
    rw [hnum] at this
    exact this
  clear hn1 h h0 hp hnum
  go_enter Tryd.func119, Tryd.ntmps119
  go_wp2_with (first
      | (go_at_call 120; refine (HPT.out _ HL0.out.env).mono ?_; rintro e w1 ⟨p1, cap1, u1, rfl, hu1, hh1, he1, hf1⟩; have HU1 : Hid (u1.cells = (ptC a b ck (.slice p1 n1 cap1) cl cr tw tn).toArray) := hu1; have HB1 : Hid (w.heap.size < w1.heap.size) := blk_lt (HL0.out.call he1 hf1).blk; have HH1 : Hid (Holds (w1.alloc (.cells pt0.toArray 54)) (fun i => w.heap.size + 1 ≤ i ∧ i < w1.heap.size) (.row 52 14 csb) (.slice p1 n1 cap1)) := hh1.mono (fun i hi hl => ⟨⟨by { have : (w.alloc (.cells pt0.toArray 54)).heap.size ≤ i := hi; simp at this; omega }, hl⟩, Below.heap_alloc _ _ _ hl⟩); have HL1a : Hid (Lo2 w g V L (w1.alloc (.cells pt0.toArray 54)) s1 w.heap.size pt0 54 w1.heap.size pt0 54) := (HL0.out.call he1 hf1).two _ _; clear hu1 hh1 he1 hf1)
      | (refine wp_st (by rfl) 54 _ _ (by rfl) w1.heap.size 0 pt0 54 u1 (ptC a b ck (.slice p1 n1 cap1) cl cr tw tn) (by rfl) (by rfl) HU1.out HL1a.out.blk2 (Nat.le_of_ble_eq_true rfl) (by kernel_rfl) (by rfl) ?_; intro w1b hw_w1b hf_w1b; have HL1 : Hid (Lo2 w g V L w1b s1 w.heap.size pt0 54 w1.heap.size (ptC a b ck (.slice p1 n1 cap1) cl cr tw tn) 54) := HL1a.out.st2 hw_w1b hf_w1b; have HH2 : Hid (Holds w1b (fun i => w.heap.size + 1 ≤ i ∧ i < w1.heap.size) (.row 52 14 csb) (.slice p1 n1 cap1)) := HH1.out.off hf_w1b (by { intro i hi; omega }); clear hw_w1b hf_w1b)
      | (go_at_call_of 40 (Value.string ⟨#[111, 118, 101, 114]⟩); refine (HT.out _ HL1.out.env).mono ?_; rintro e w2 ⟨rfl, he_w2, hf_w2⟩; have HL2 : Hid (Lo2 w g V L w2 s1.adv w.heap.size pt0 54 w1.heap.size (ptC a b ck (.slice p1 n1 cap1) cl cr tw tn) 54) := (HL1.out.call he_w2 hf_w2); have HH3 : Hid (Holds w2 (fun i => w.heap.size + 1 ≤ i ∧ i < w1.heap.size) (.row 52 14 csb) (.slice p1 n1 cap1)) := HH2.out.off hf_w2 (by { intro i hi; have := HGW.out; omega }); clear he_w2 hf_w2)
      | (go_at_call_of 40 (Value.string ⟨#[116, 105, 109, 101]⟩); refine (HU.out _ HL2.out.env).mono ?_; rintro e w3 ⟨rfl, he_w3, hf_w3⟩; have HL3 : Hid (Lo2 w g V L w3 s1.adv.adv w.heap.size pt0 54 w1.heap.size (ptC a b ck (.slice p1 n1 cap1) cl cr tw tn) 54) := (HL2.out.call he_w3 hf_w3); have HH4 : Hid (Holds w3 (fun i => w.heap.size + 1 ≤ i ∧ i < w1.heap.size) (.row 52 14 csb) (.slice p1 n1 cap1)) := HH3.out.off hf_w3 (by { intro i hi; have := HGW.out; omega }); clear he_w3 hf_w3)
      | (refine wp_st (by rfl) 3 _ _ (by rfl) w1.heap.size 16 (ptC a b ck (.slice p1 n1 cap1) cl cr tw tn) 54 (.int .i64 1) [.int .i64 1] (by rfl) (by rfl) (by rfl) HL3.out.blk2 (Nat.le_of_ble_eq_true rfl) (by kernel_rfl) (by rfl) ?_; intro w6 hw_w6 hf_w6; have HL6 : Hid (Lo2 w g V L w6 s1.adv.adv w.heap.size pt0 54 w1.heap.size (ptC a b ck (.slice p1 n1 cap1) cl cr 1 tn) 54) := HL3.out.st2 hw_w6 hf_w6; have HH6 : Hid (Holds w6 (fun i => w.heap.size + 1 ≤ i ∧ i < w1.heap.size) (.row 52 14 csb) (.slice p1 n1 cap1)) := HH4.out.off hf_w6 (by { intro i hi; omega }); clear hw_w6 hf_w6)
      | (go_at_call 137; refine (HNU.out _ HL6.out.env).mono ?_; rintro e w7 ⟨rfl, he_w7, hf_w7⟩; have HL7 : Hid (Lo2 w g V L w7 s9 w.heap.size pt0 54 w1.heap.size (ptC a b ck (.slice p1 n1 cap1) cl cr 1 tn) 54) := (HL6.out.call he_w7 hf_w7); have HH7 : Hid (Holds w7 (fun i => w.heap.size + 1 ≤ i ∧ i < w1.heap.size) (.row 52 14 csb) (.slice p1 n1 cap1)) := HH6.out.off hf_w7 (by { intro i hi; have := HGW.out; omega }); clear he_w7 hf_w7)
      | (refine wp_st (by rfl) 3 _ _ (by rfl) w1.heap.size 17 (ptC a b ck (.slice p1 n1 cap1) cl cr 1 tn) 54 (.int .i64 nn) [.int .i64 nn] (by rfl) (by rfl) (by rfl) HL7.out.blk2 (Nat.le_of_ble_eq_true rfl) (by kernel_rfl) (by rfl) ?_; intro w8 hw_w8 hf_w8; have HL8 : Hid (Lo2 w g V L w8 s9 w.heap.size pt0 54 w1.heap.size (ptC a b ck (.slice p1 n1 cap1) cl cr 1 nn) 54) := HL7.out.st2 hw_w8 hf_w8; have HH8 : Hid (Holds w8 (fun i => w.heap.size + 1 ≤ i ∧ i < w1.heap.size) (.row 52 14 csb) (.slice p1 n1 cap1)) := HH7.out.off hf_w8 (by { intro i hi; omega }); clear hw_w8 hf_w8)
      | (refine wp_ldu (by rfl) 54 _ (by rfl) w1.heap.size (ptC a b ck (.slice p1 n1 cap1) cl cr 1 nn) 54 _ (by rfl) HL8.out.blk2 Tryd.underlying54 rfl (by kernel_rfl) ?_; intro u9 h_u9; have H_u9 : Hid (u9.cells = ((ptC a b ck (.slice p1 n1 cap1) cl cr 1 nn)).toArray) := h_u9; clear h_u9)
      | (refine wp_st (by rfl) 54 _ _ (by rfl) w.heap.size 0 pt0 54 u9 (ptC a b ck (.slice p1 n1 cap1) cl cr 1 nn) (by rfl) (by rfl) H_u9.out HL8.out.blk (Nat.le_of_ble_eq_true rfl) (by kernel_rfl) (by rfl) ?_; intro w9 hw_w9 hf_w9; have HL9 : Hid (Loc w g V L w9 s9 w.heap.size (ptC a b ck (.slice p1 n1 cap1) cl cr 1 nn) 54) := HL8.out.loc.st hw_w9 hf_w9; have HH9 : Hid (Holds w9 (fun i => w.heap.size + 1 ≤ i ∧ i < w1.heap.size) (.row 52 14 csb) (.slice p1 n1 cap1)) := HH8.out.off hf_w9 (by { intro i hi; omega }); clear hw_w9 hf_w9))
  refine ret_loc w.heap.size _ _ _ HL9.out.blk rfl rfl (by rfl) Tryd.underlying54 rfl (by kernel_rfl) ?_
  refine ⟨p1, cap1, ?_, ?_, HL9.out.env, HL9.out.fr⟩
  · simp only [HN1.out]
  · simp only [HN1.out]
    exact HH9.out.mono fun i hi _ => ⟨by have : w.heap.size + 1 ≤ i ∧ i < w1.heap.size := hi; show w.heap.size ≤ i; omega, rfl⟩
set_option maxHeartbeats 8000000 in
theorem when_last (w : World) (g : Nat) (V : Value) (L : List Tk) (s s1 : St) (a b : ByteArray) (ck : Int) (csb : List (List Dat)) (cl cr : Opd) (tw tn : Int) (h : Env w g V L s) (hp : pat L s = (⟨a, b, ⟨ck, csb, cl, cr⟩, tw, tn⟩, s1)) (h0 : s.o = 0) (hb_HT : see L [111, 118, 101, 114] s1 = true) (hb_HU : see L [116, 105, 109, 101] s1.adv = false) (hb_HV : see L [108, 97, 115, 116] s1.adv = true) (nn : Int) (s9 : St) (hnum : num L s1.adv.adv = (nn, s9)) : Calls Tryd.prog 119 #[rp g] w (PPost w g V L ⟨a, b, ⟨ck, csb, cl, cr⟩, 2, nn⟩ s9) := by
  have HL0 : Hid (Loc w g V L (w.alloc (.cells pt0.toArray 54)) s w.heap.size pt0 54) := Loc.start h pt0 _
  have HGW : Hid (g < w.heap.size) := blk_lt h.blk
  obtain ⟨n1, hn1⟩ : ∃ n1, csb.length = n1 := ⟨_, rfl⟩
  have HPT : Hid (∀ W, Env W g V L s → Calls Tryd.prog 120 #[rp g] W fun e w' => ∃ p cap u, e = .returned u ∧ u.cells = (ptC a b ck (.slice p n1 cap) cl cr tw tn).toArray ∧ Holds w' (fun i => W.heap.size ≤ i) (.row 52 14 csb) (.slice p n1 cap) ∧ Env w' g V L s1 ∧ Fr (fun i => i = g) W w') := fun W hW => by
    refine (pattern_any W g V L s hW h0).mono ?_
    rw [hp]
    rintro e w' ⟨p, cap, rfl, q1, q2, q3⟩
    simp only [hn1] at q1 ⊢
    exact ⟨p, cap, _, rfl, rfl, q1, q2, q3⟩
  have HN1 : Hid (csb.length = n1) := hn1
  have HT : Hid (∀ W, Env W g V L s1 → Calls Tryd.prog 40 #[rp g, .string ⟨#[111, 118, 101, 114]⟩] W fun e w' => e = .returned (.bool true) ∧ Env w' g V L s1.adv ∧ Fr (fun i => i = g) W w') := fun W hW => by
    have := takes_any W g V L s1 [111, 118, 101, 114] hW
    unfold tks at this
    rw [hb_HT] at this
    exact this
  have HU : Hid (∀ W, Env W g V L s1.adv → Calls Tryd.prog 40 #[rp g, .string ⟨#[116, 105, 109, 101]⟩] W fun e w' => e = .returned (.bool false) ∧ Env w' g V L s1.adv ∧ Fr (fun i => i = g) W w') := fun W hW => by
    have := takes_any W g V L s1.adv [116, 105, 109, 101] hW
    unfold tks at this
    rw [hb_HU] at this
    exact this
  have HV : Hid (∀ W, Env W g V L s1.adv → Calls Tryd.prog 40 #[rp g, .string ⟨#[108, 97, 115, 116]⟩] W fun e w' => e = .returned (.bool true) ∧ Env w' g V L s1.adv.adv ∧ Fr (fun i => i = g) W w') := fun W hW => by
    have := takes_any W g V L s1.adv [108, 97, 115, 116] hW
    unfold tks at this
    rw [hb_HV] at this
    exact this
  have HNU : Hid (∀ W, Env W g V L s1.adv.adv → Calls Tryd.prog 137 #[rp g] W fun e w' => e = .returned (.int .i64 nn) ∧ Env w' g V L s9 ∧ Fr (fun i => i = g) W w') := fun W hW => by
    have := number_any W g V L s1.adv.adv hW
    rw [hnum] at this
    exact this
  clear hn1 h h0 hp hnum
  go_enter Tryd.func119, Tryd.ntmps119
  go_wp2_with (first
      | (go_at_call 120; refine (HPT.out _ HL0.out.env).mono ?_; rintro e w1 ⟨p1, cap1, u1, rfl, hu1, hh1, he1, hf1⟩; have HU1 : Hid (u1.cells = (ptC a b ck (.slice p1 n1 cap1) cl cr tw tn).toArray) := hu1; have HB1 : Hid (w.heap.size < w1.heap.size) := blk_lt (HL0.out.call he1 hf1).blk; have HH1 : Hid (Holds (w1.alloc (.cells pt0.toArray 54)) (fun i => w.heap.size + 1 ≤ i ∧ i < w1.heap.size) (.row 52 14 csb) (.slice p1 n1 cap1)) := hh1.mono (fun i hi hl => ⟨⟨by { have : (w.alloc (.cells pt0.toArray 54)).heap.size ≤ i := hi; simp at this; omega }, hl⟩, Below.heap_alloc _ _ _ hl⟩); have HL1a : Hid (Lo2 w g V L (w1.alloc (.cells pt0.toArray 54)) s1 w.heap.size pt0 54 w1.heap.size pt0 54) := (HL0.out.call he1 hf1).two _ _; clear hu1 hh1 he1 hf1)
      | (refine wp_st (by rfl) 54 _ _ (by rfl) w1.heap.size 0 pt0 54 u1 (ptC a b ck (.slice p1 n1 cap1) cl cr tw tn) (by rfl) (by rfl) HU1.out HL1a.out.blk2 (Nat.le_of_ble_eq_true rfl) (by kernel_rfl) (by rfl) ?_; intro w1b hw_w1b hf_w1b; have HL1 : Hid (Lo2 w g V L w1b s1 w.heap.size pt0 54 w1.heap.size (ptC a b ck (.slice p1 n1 cap1) cl cr tw tn) 54) := HL1a.out.st2 hw_w1b hf_w1b; have HH2 : Hid (Holds w1b (fun i => w.heap.size + 1 ≤ i ∧ i < w1.heap.size) (.row 52 14 csb) (.slice p1 n1 cap1)) := HH1.out.off hf_w1b (by { intro i hi; omega }); clear hw_w1b hf_w1b)
      | (go_at_call_of 40 (Value.string ⟨#[111, 118, 101, 114]⟩); refine (HT.out _ HL1.out.env).mono ?_; rintro e w2 ⟨rfl, he_w2, hf_w2⟩; have HL2 : Hid (Lo2 w g V L w2 s1.adv w.heap.size pt0 54 w1.heap.size (ptC a b ck (.slice p1 n1 cap1) cl cr tw tn) 54) := (HL1.out.call he_w2 hf_w2); have HH3 : Hid (Holds w2 (fun i => w.heap.size + 1 ≤ i ∧ i < w1.heap.size) (.row 52 14 csb) (.slice p1 n1 cap1)) := HH2.out.off hf_w2 (by { intro i hi; have := HGW.out; omega }); clear he_w2 hf_w2)
      | (go_at_call_of 40 (Value.string ⟨#[116, 105, 109, 101]⟩); refine (HU.out _ HL2.out.env).mono ?_; rintro e w3 ⟨rfl, he_w3, hf_w3⟩; have HL3 : Hid (Lo2 w g V L w3 s1.adv w.heap.size pt0 54 w1.heap.size (ptC a b ck (.slice p1 n1 cap1) cl cr tw tn) 54) := (HL2.out.call he_w3 hf_w3); have HH4 : Hid (Holds w3 (fun i => w.heap.size + 1 ≤ i ∧ i < w1.heap.size) (.row 52 14 csb) (.slice p1 n1 cap1)) := HH3.out.off hf_w3 (by { intro i hi; have := HGW.out; omega }); clear he_w3 hf_w3)
      | (go_at_call_of 40 (Value.string ⟨#[108, 97, 115, 116]⟩); refine (HV.out _ HL3.out.env).mono ?_; rintro e w4 ⟨rfl, he_w4, hf_w4⟩; have HL4 : Hid (Lo2 w g V L w4 s1.adv.adv w.heap.size pt0 54 w1.heap.size (ptC a b ck (.slice p1 n1 cap1) cl cr tw tn) 54) := (HL3.out.call he_w4 hf_w4); have HH5 : Hid (Holds w4 (fun i => w.heap.size + 1 ≤ i ∧ i < w1.heap.size) (.row 52 14 csb) (.slice p1 n1 cap1)) := HH4.out.off hf_w4 (by { intro i hi; have := HGW.out; omega }); clear he_w4 hf_w4)
      | (refine wp_st (by rfl) 3 _ _ (by rfl) w1.heap.size 16 (ptC a b ck (.slice p1 n1 cap1) cl cr tw tn) 54 (.int .i64 2) [.int .i64 2] (by rfl) (by rfl) (by rfl) HL4.out.blk2 (Nat.le_of_ble_eq_true rfl) (by kernel_rfl) (by rfl) ?_; intro w6 hw_w6 hf_w6; have HL6 : Hid (Lo2 w g V L w6 s1.adv.adv w.heap.size pt0 54 w1.heap.size (ptC a b ck (.slice p1 n1 cap1) cl cr 2 tn) 54) := HL4.out.st2 hw_w6 hf_w6; have HH6 : Hid (Holds w6 (fun i => w.heap.size + 1 ≤ i ∧ i < w1.heap.size) (.row 52 14 csb) (.slice p1 n1 cap1)) := HH5.out.off hf_w6 (by { intro i hi; omega }); clear hw_w6 hf_w6)
      | (go_at_call 137; refine (HNU.out _ HL6.out.env).mono ?_; rintro e w7 ⟨rfl, he_w7, hf_w7⟩; have HL7 : Hid (Lo2 w g V L w7 s9 w.heap.size pt0 54 w1.heap.size (ptC a b ck (.slice p1 n1 cap1) cl cr 2 tn) 54) := (HL6.out.call he_w7 hf_w7); have HH7 : Hid (Holds w7 (fun i => w.heap.size + 1 ≤ i ∧ i < w1.heap.size) (.row 52 14 csb) (.slice p1 n1 cap1)) := HH6.out.off hf_w7 (by { intro i hi; have := HGW.out; omega }); clear he_w7 hf_w7)
      | (refine wp_st (by rfl) 3 _ _ (by rfl) w1.heap.size 17 (ptC a b ck (.slice p1 n1 cap1) cl cr 2 tn) 54 (.int .i64 nn) [.int .i64 nn] (by rfl) (by rfl) (by rfl) HL7.out.blk2 (Nat.le_of_ble_eq_true rfl) (by kernel_rfl) (by rfl) ?_; intro w8 hw_w8 hf_w8; have HL8 : Hid (Lo2 w g V L w8 s9 w.heap.size pt0 54 w1.heap.size (ptC a b ck (.slice p1 n1 cap1) cl cr 2 nn) 54) := HL7.out.st2 hw_w8 hf_w8; have HH8 : Hid (Holds w8 (fun i => w.heap.size + 1 ≤ i ∧ i < w1.heap.size) (.row 52 14 csb) (.slice p1 n1 cap1)) := HH7.out.off hf_w8 (by { intro i hi; omega }); clear hw_w8 hf_w8)
      | (refine wp_ldu (by rfl) 54 _ (by rfl) w1.heap.size (ptC a b ck (.slice p1 n1 cap1) cl cr 2 nn) 54 _ (by rfl) HL8.out.blk2 Tryd.underlying54 rfl (by kernel_rfl) ?_; intro u9 h_u9; have H_u9 : Hid (u9.cells = ((ptC a b ck (.slice p1 n1 cap1) cl cr 2 nn)).toArray) := h_u9; clear h_u9)
      | (refine wp_st (by rfl) 54 _ _ (by rfl) w.heap.size 0 pt0 54 u9 (ptC a b ck (.slice p1 n1 cap1) cl cr 2 nn) (by rfl) (by rfl) H_u9.out HL8.out.blk (Nat.le_of_ble_eq_true rfl) (by kernel_rfl) (by rfl) ?_; intro w9 hw_w9 hf_w9; have HL9 : Hid (Loc w g V L w9 s9 w.heap.size (ptC a b ck (.slice p1 n1 cap1) cl cr 2 nn) 54) := HL8.out.loc.st hw_w9 hf_w9; have HH9 : Hid (Holds w9 (fun i => w.heap.size + 1 ≤ i ∧ i < w1.heap.size) (.row 52 14 csb) (.slice p1 n1 cap1)) := HH8.out.off hf_w9 (by { intro i hi; omega }); clear hw_w9 hf_w9))
  refine ret_loc w.heap.size _ _ _ HL9.out.blk rfl rfl (by rfl) Tryd.underlying54 rfl (by kernel_rfl) ?_
  refine ⟨p1, cap1, ?_, ?_, HL9.out.env, HL9.out.fr⟩
  · simp only [HN1.out]
  · simp only [HN1.out]
    exact HH9.out.mono fun i hi _ => ⟨by have : w.heap.size + 1 ≤ i ∧ i < w1.heap.size := hi; show w.heap.size ≤ i; omega, rfl⟩
set_option maxHeartbeats 8000000 in
theorem when_fail (w : World) (g : Nat) (V : Value) (L : List Tk) (s s1 : St) (a b : ByteArray) (ck : Int) (csb : List (List Dat)) (cl cr : Opd) (tw tn : Int) (h : Env w g V L s) (hp : pat L s = (⟨a, b, ⟨ck, csb, cl, cr⟩, tw, tn⟩, s1)) (h0 : s.o = 0) (hb_HT : see L [111, 118, 101, 114] s1 = true) (hb_HU : see L [116, 105, 109, 101] s1.adv = false) (hb_HV : see L [108, 97, 115, 116] s1.adv = false) (nn : Int) (s9 : St) (hnum : num L (fal L s1.adv) = (nn, s9)) : Calls Tryd.prog 119 #[rp g] w (PPost w g V L ⟨a, b, ⟨ck, csb, cl, cr⟩, tw, nn⟩ s9) := by
  have HL0 : Hid (Loc w g V L (w.alloc (.cells pt0.toArray 54)) s w.heap.size pt0 54) := Loc.start h pt0 _
  have HGW : Hid (g < w.heap.size) := blk_lt h.blk
  obtain ⟨n1, hn1⟩ : ∃ n1, csb.length = n1 := ⟨_, rfl⟩
  have HPT : Hid (∀ W, Env W g V L s → Calls Tryd.prog 120 #[rp g] W fun e w' => ∃ p cap u, e = .returned u ∧ u.cells = (ptC a b ck (.slice p n1 cap) cl cr tw tn).toArray ∧ Holds w' (fun i => W.heap.size ≤ i) (.row 52 14 csb) (.slice p n1 cap) ∧ Env w' g V L s1 ∧ Fr (fun i => i = g) W w') := fun W hW => by
    refine (pattern_any W g V L s hW h0).mono ?_
    rw [hp]
    rintro e w' ⟨p, cap, rfl, q1, q2, q3⟩
    simp only [hn1] at q1 ⊢
    exact ⟨p, cap, _, rfl, rfl, q1, q2, q3⟩
  have HN1 : Hid (csb.length = n1) := hn1
  have HT : Hid (∀ W, Env W g V L s1 → Calls Tryd.prog 40 #[rp g, .string ⟨#[111, 118, 101, 114]⟩] W fun e w' => e = .returned (.bool true) ∧ Env w' g V L s1.adv ∧ Fr (fun i => i = g) W w') := fun W hW => by
    have := takes_any W g V L s1 [111, 118, 101, 114] hW
    unfold tks at this
    rw [hb_HT] at this
    exact this
  have HU : Hid (∀ W, Env W g V L s1.adv → Calls Tryd.prog 40 #[rp g, .string ⟨#[116, 105, 109, 101]⟩] W fun e w' => e = .returned (.bool false) ∧ Env w' g V L s1.adv ∧ Fr (fun i => i = g) W w') := fun W hW => by
    have := takes_any W g V L s1.adv [116, 105, 109, 101] hW
    unfold tks at this
    rw [hb_HU] at this
    exact this
  have HV : Hid (∀ W, Env W g V L s1.adv → Calls Tryd.prog 40 #[rp g, .string ⟨#[108, 97, 115, 116]⟩] W fun e w' => e = .returned (.bool false) ∧ Env w' g V L s1.adv ∧ Fr (fun i => i = g) W w') := fun W hW => by
    have := takes_any W g V L s1.adv [108, 97, 115, 116] hW
    unfold tks at this
    rw [hb_HV] at this
    exact this
  have HX : Hid (∀ W, Env W g V L s1.adv → Calls Tryd.prog 43 #[rp g] W fun e w' => e = .returned (.tuple #[]) ∧ Env w' g V L (fal L s1.adv) ∧ Fr (fun i => i = g) W w') := fun W hW => fail_any W g V L s1.adv hW
  have HNU : Hid (∀ W, Env W g V L (fal L s1.adv) → Calls Tryd.prog 137 #[rp g] W fun e w' => e = .returned (.int .i64 nn) ∧ Env w' g V L s9 ∧ Fr (fun i => i = g) W w') := fun W hW => by
    have := number_any W g V L (fal L s1.adv) hW
    rw [hnum] at this
    exact this
  clear hn1 h h0 hp hnum
  go_enter Tryd.func119, Tryd.ntmps119
  go_wp2_with (first
      | (go_at_call 120; refine (HPT.out _ HL0.out.env).mono ?_; rintro e w1 ⟨p1, cap1, u1, rfl, hu1, hh1, he1, hf1⟩; have HU1 : Hid (u1.cells = (ptC a b ck (.slice p1 n1 cap1) cl cr tw tn).toArray) := hu1; have HB1 : Hid (w.heap.size < w1.heap.size) := blk_lt (HL0.out.call he1 hf1).blk; have HH1 : Hid (Holds (w1.alloc (.cells pt0.toArray 54)) (fun i => w.heap.size + 1 ≤ i ∧ i < w1.heap.size) (.row 52 14 csb) (.slice p1 n1 cap1)) := hh1.mono (fun i hi hl => ⟨⟨by { have : (w.alloc (.cells pt0.toArray 54)).heap.size ≤ i := hi; simp at this; omega }, hl⟩, Below.heap_alloc _ _ _ hl⟩); have HL1a : Hid (Lo2 w g V L (w1.alloc (.cells pt0.toArray 54)) s1 w.heap.size pt0 54 w1.heap.size pt0 54) := (HL0.out.call he1 hf1).two _ _; clear hu1 hh1 he1 hf1)
      | (refine wp_st (by rfl) 54 _ _ (by rfl) w1.heap.size 0 pt0 54 u1 (ptC a b ck (.slice p1 n1 cap1) cl cr tw tn) (by rfl) (by rfl) HU1.out HL1a.out.blk2 (Nat.le_of_ble_eq_true rfl) (by kernel_rfl) (by rfl) ?_; intro w1b hw_w1b hf_w1b; have HL1 : Hid (Lo2 w g V L w1b s1 w.heap.size pt0 54 w1.heap.size (ptC a b ck (.slice p1 n1 cap1) cl cr tw tn) 54) := HL1a.out.st2 hw_w1b hf_w1b; have HH2 : Hid (Holds w1b (fun i => w.heap.size + 1 ≤ i ∧ i < w1.heap.size) (.row 52 14 csb) (.slice p1 n1 cap1)) := HH1.out.off hf_w1b (by { intro i hi; omega }); clear hw_w1b hf_w1b)
      | (go_at_call_of 40 (Value.string ⟨#[111, 118, 101, 114]⟩); refine (HT.out _ HL1.out.env).mono ?_; rintro e w2 ⟨rfl, he_w2, hf_w2⟩; have HL2 : Hid (Lo2 w g V L w2 s1.adv w.heap.size pt0 54 w1.heap.size (ptC a b ck (.slice p1 n1 cap1) cl cr tw tn) 54) := (HL1.out.call he_w2 hf_w2); have HH3 : Hid (Holds w2 (fun i => w.heap.size + 1 ≤ i ∧ i < w1.heap.size) (.row 52 14 csb) (.slice p1 n1 cap1)) := HH2.out.off hf_w2 (by { intro i hi; have := HGW.out; omega }); clear he_w2 hf_w2)
      | (go_at_call_of 40 (Value.string ⟨#[116, 105, 109, 101]⟩); refine (HU.out _ HL2.out.env).mono ?_; rintro e w3 ⟨rfl, he_w3, hf_w3⟩; have HL3 : Hid (Lo2 w g V L w3 s1.adv w.heap.size pt0 54 w1.heap.size (ptC a b ck (.slice p1 n1 cap1) cl cr tw tn) 54) := (HL2.out.call he_w3 hf_w3); have HH4 : Hid (Holds w3 (fun i => w.heap.size + 1 ≤ i ∧ i < w1.heap.size) (.row 52 14 csb) (.slice p1 n1 cap1)) := HH3.out.off hf_w3 (by { intro i hi; have := HGW.out; omega }); clear he_w3 hf_w3)
      | (go_at_call_of 40 (Value.string ⟨#[108, 97, 115, 116]⟩); refine (HV.out _ HL3.out.env).mono ?_; rintro e w4 ⟨rfl, he_w4, hf_w4⟩; have HL4 : Hid (Lo2 w g V L w4 s1.adv w.heap.size pt0 54 w1.heap.size (ptC a b ck (.slice p1 n1 cap1) cl cr tw tn) 54) := (HL3.out.call he_w4 hf_w4); have HH5 : Hid (Holds w4 (fun i => w.heap.size + 1 ≤ i ∧ i < w1.heap.size) (.row 52 14 csb) (.slice p1 n1 cap1)) := HH4.out.off hf_w4 (by { intro i hi; have := HGW.out; omega }); clear he_w4 hf_w4)
      | (go_at_call 43; refine (HX.out _ HL4.out.env).mono ?_; rintro e w6 ⟨rfl, he_w6, hf_w6⟩; have HL6 : Hid (Lo2 w g V L w6 (fal L s1.adv) w.heap.size pt0 54 w1.heap.size (ptC a b ck (.slice p1 n1 cap1) cl cr tw tn) 54) := (HL4.out.call he_w6 hf_w6); have HH6 : Hid (Holds w6 (fun i => w.heap.size + 1 ≤ i ∧ i < w1.heap.size) (.row 52 14 csb) (.slice p1 n1 cap1)) := HH5.out.off hf_w6 (by { intro i hi; have := HGW.out; omega }); clear he_w6 hf_w6)
      | (go_at_call 137; refine (HNU.out _ HL6.out.env).mono ?_; rintro e w7 ⟨rfl, he_w7, hf_w7⟩; have HL7 : Hid (Lo2 w g V L w7 s9 w.heap.size pt0 54 w1.heap.size (ptC a b ck (.slice p1 n1 cap1) cl cr tw tn) 54) := (HL6.out.call he_w7 hf_w7); have HH7 : Hid (Holds w7 (fun i => w.heap.size + 1 ≤ i ∧ i < w1.heap.size) (.row 52 14 csb) (.slice p1 n1 cap1)) := HH6.out.off hf_w7 (by { intro i hi; have := HGW.out; omega }); clear he_w7 hf_w7)
      | (refine wp_st (by rfl) 3 _ _ (by rfl) w1.heap.size 17 (ptC a b ck (.slice p1 n1 cap1) cl cr tw tn) 54 (.int .i64 nn) [.int .i64 nn] (by rfl) (by rfl) (by rfl) HL7.out.blk2 (Nat.le_of_ble_eq_true rfl) (by kernel_rfl) (by rfl) ?_; intro w8 hw_w8 hf_w8; have HL8 : Hid (Lo2 w g V L w8 s9 w.heap.size pt0 54 w1.heap.size (ptC a b ck (.slice p1 n1 cap1) cl cr tw nn) 54) := HL7.out.st2 hw_w8 hf_w8; have HH8 : Hid (Holds w8 (fun i => w.heap.size + 1 ≤ i ∧ i < w1.heap.size) (.row 52 14 csb) (.slice p1 n1 cap1)) := HH7.out.off hf_w8 (by { intro i hi; omega }); clear hw_w8 hf_w8)
      | (refine wp_ldu (by rfl) 54 _ (by rfl) w1.heap.size (ptC a b ck (.slice p1 n1 cap1) cl cr tw nn) 54 _ (by rfl) HL8.out.blk2 Tryd.underlying54 rfl (by kernel_rfl) ?_; intro u9 h_u9; have H_u9 : Hid (u9.cells = ((ptC a b ck (.slice p1 n1 cap1) cl cr tw nn)).toArray) := h_u9; clear h_u9)
      | (refine wp_st (by rfl) 54 _ _ (by rfl) w.heap.size 0 pt0 54 u9 (ptC a b ck (.slice p1 n1 cap1) cl cr tw nn) (by rfl) (by rfl) H_u9.out HL8.out.blk (Nat.le_of_ble_eq_true rfl) (by kernel_rfl) (by rfl) ?_; intro w9 hw_w9 hf_w9; have HL9 : Hid (Loc w g V L w9 s9 w.heap.size (ptC a b ck (.slice p1 n1 cap1) cl cr tw nn) 54) := HL8.out.loc.st hw_w9 hf_w9; have HH9 : Hid (Holds w9 (fun i => w.heap.size + 1 ≤ i ∧ i < w1.heap.size) (.row 52 14 csb) (.slice p1 n1 cap1)) := HH8.out.off hf_w9 (by { intro i hi; omega }); clear hw_w9 hf_w9))
  refine ret_loc w.heap.size _ _ _ HL9.out.blk rfl rfl (by rfl) Tryd.underlying54 rfl (by kernel_rfl) ?_
  refine ⟨p1, cap1, ?_, ?_, HL9.out.env, HL9.out.fr⟩
  · simp only [HN1.out]
  · simp only [HN1.out]
    exact HH9.out.mono fun i hi _ => ⟨by have : w.heap.size + 1 ≤ i ∧ i < w1.heap.size := hi; show w.heap.size ≤ i; omega, rfl⟩
theorem pat_shape (L : List Tk) (s : St) : (pat L s).1.w = 0 ∧ (pat L s).1.n = 0 := by
  unfold pat
  simp only
  split <;> exact ⟨rfl, rfl⟩
theorem when_any (w : World) (g : Nat) (V : Value) (L : List Tk) (s : St) (h : Env w g V L s) (h0 : s.o = 0) : Calls Tryd.prog 119 #[rp g] w (PPost w g V L (whn L s).1 (whn L s).2) := by
  have hsh := pat_shape L s
  unfold whn
  simp only
  obtain ⟨t, ht⟩ : ∃ t, pat L s = t := ⟨_, rfl⟩
  rw [ht] at hsh ⊢
  obtain ⟨⟨a, b, ⟨ck, csb, cl, cr⟩, tw, tn⟩, s1⟩ := t
  obtain ⟨rfl, rfl⟩ := hsh
  simp only
  cases h1 : see L [111, 118, 101, 114] s1
  · simp only [Bool.false_eq_true, if_false]
    exact when_bare w g V L s s1 a b ck csb cl cr _ _ h ht h0 h1
  · simp only [if_true]
    cases h2 : see L [116, 105, 109, 101] s1.adv
    · simp only [Bool.false_eq_true, if_false]
      cases h3 : see L [108, 97, 115, 116] s1.adv
      · simp only [Bool.false_eq_true, if_false]
        exact when_fail w g V L s s1 a b ck csb cl cr _ _ h ht h0 h1 h2 h3 _ _ rfl
      · simp only [if_true]
        exact when_last w g V L s s1 a b ck csb cl cr _ _ h ht h0 h1 h2 h3 _ _ rfl
    · simp only [if_true]
      exact when_time w g V L s s1 a b ck csb cl cr _ _ h ht h0 h1 h2 _ _ rfl
end Go.Proofs.YtnlmkdncifijlaaDoor
