/-
  A field; an option. Lists of fields and of sides; a type; an emit. A type; an emit.
-/
import Derived.Test.YtnlmkdncifijlaaDoorNt
namespace Go.Proofs.YtnlmkdncifijlaaDoor
open Go.ChangeShapes Go.WideShapes Go.ChangeAt Go.RowKit Go.Maps
set_option linter.unusedVariables false
set_option linter.unusedSimpArgs false
abbrev fdC (a : ByteArray) (k : Int) : List Value := [.string a, .int .i64 k]
def fd0 : List Value := fdC (txt []) 0
abbrev qC (r l h : Int) : List Value := [.int .i64 r, .int .i64 l, .int .i64 h]
def q0 : List Value := qC 0 0 0
theorem fld_g (L : List Tk) : Good (fld L) := fun s => by
  have a := nam_g L s
  have b := wnt_i L [58] (nam L s).2
  have c := fal_i L (wnt L [58] (nam L s).2)
  unfold fld
  simp only
  split
  · show s.i ≤ (wnt L [58] (nam L s).2).i + 1 ∧ (wnt L [58] (nam L s).2).o = s.o
    omega
  · split
    · show s.i ≤ (wnt L [58] (nam L s).2).i + 1 ∧ (wnt L [58] (nam L s).2).o = s.o
      omega
    · show s.i ≤ (fal L (wnt L [58] (nam L s).2)).i ∧ (fal L (wnt L [58] (nam L s).2)).o = s.o
      omega
theorem opt_g (L : List Tk) : Good (opt L) := fun s => by
  have a := rel_g L s
  have e1 : (rel L s).2.adv.i = (rel L s).2.i + 1 := rfl
  have e2 : (rel L s).2.adv.o = (rel L s).2.o := rfl
  have b := num_g L (rel L s).2.adv
  have c := wnt_i L [44] (num L (rel L s).2.adv).2
  unfold opt
  simp only
  split
  · split
    · have d := wnt_i L [41] (wnt L [44] (num L (rel L s).2.adv).2).adv
      have e3 : (wnt L [44] (num L (rel L s).2.adv).2).adv.i = (wnt L [44] (num L (rel L s).2.adv).2).i + 1 := rfl
      have e4 : (wnt L [44] (num L (rel L s).2.adv).2).adv.o = (wnt L [44] (num L (rel L s).2.adv).2).o := rfl
      simp only
      omega
    · have d := num_g L (wnt L [44] (num L (rel L s).2.adv).2)
      have f := wnt_i L [41] (num L (wnt L [44] (num L (rel L s).2.adv).2)).2
      simp only
      omega
  · simp only
    omega
set_option maxHeartbeats 4000000 in
theorem field_any (w : World) (g : Nat) (V : Value) (L : List Tk) (s : St) (h : Env w g V L s) : Calls Tryd.prog 84 #[rp g] w fun e w' => e = .returned (.agg #[.string (fld L s).1.n, .int .i64 (fld L s).1.k]) ∧ Env w' g V L (fld L s).2 ∧ Fr (fun i => i = g) w w' := by
  have HL0 : Hid (Loc w g V L (w.alloc (.cells fd0.toArray 80)) s w.heap.size fd0 80) := Loc.start h fd0 _
  unfold fld
  simp only
  obtain ⟨a, h_a⟩ : ∃ a, (nam L s).1 = a := ⟨_, rfl⟩
  obtain ⟨s1, h_s1⟩ : ∃ s1, (nam L s).2 = s1 := ⟨_, rfl⟩
  rw [h_a, h_s1]
  obtain ⟨s2, h_s2⟩ : ∃ s2, wnt L [58] s1 = s2 := ⟨_, rfl⟩
  rw [h_s2]
  have HA : Hid (∀ W, Env W g V L s → Calls Tryd.prog 81 #[rp g] W fun e w' => e = .returned (.string a) ∧ Env w' g V L s1 ∧ Fr (fun i => i = g) W w') := fun W hW => by
    have := ident_any W g V L s hW
    rw [h_a, h_s1] at this
    exact this
  have HW : Hid (∀ W, Env W g V L s1 → Calls Tryd.prog 82 #[rp g, .string ⟨#[58]⟩] W fun e w' => e = .returned (.tuple #[]) ∧ Env w' g V L s2 ∧ Fr (fun i => i = g) W w') := fun W hW => by
    have := wants_any W g V L s1 [58] hW
    rw [h_s2] at this
    exact this
  cases hb_HT : see L [105, 110, 116] s2
  · simp only [Bool.false_eq_true, if_false]
    have HT : Hid (∀ W, Env W g V L s2 → Calls Tryd.prog 40 #[rp g, .string ⟨#[105, 110, 116]⟩] W fun e w' => e = .returned (.bool false) ∧ Env w' g V L s2 ∧ Fr (fun i => i = g) W w') := fun W hW => by
      have := takes_any W g V L s2 [105, 110, 116] hW
      unfold tks at this
      rw [hb_HT] at this
      exact this
    cases hb_HU : see L [116, 101, 120, 116] s2
    · simp only [Bool.false_eq_true, if_false]
      have HU : Hid (∀ W, Env W g V L s2 → Calls Tryd.prog 40 #[rp g, .string ⟨#[116, 101, 120, 116]⟩] W fun e w' => e = .returned (.bool false) ∧ Env w' g V L s2 ∧ Fr (fun i => i = g) W w') := fun W hW => by
        have := takes_any W g V L s2 [116, 101, 120, 116] hW
        unfold tks at this
        rw [hb_HU] at this
        exact this
      obtain ⟨s3, h_s3⟩ : ∃ s3, fal L s2 = s3 := ⟨_, rfl⟩
      rw [h_s3]
      have HX : Hid (∀ W, Env W g V L s2 → Calls Tryd.prog 43 #[rp g] W fun e w' => e = .returned (.tuple #[]) ∧ Env w' g V L s3 ∧ Fr (fun i => i = g) W w') := fun W hW => by
        have := fail_any W g V L s2 hW
        rw [h_s3] at this
        exact this
      clear h_a h_s1 h_s2 h_s3 hb_HT hb_HU h
      go_enter Tryd.func84, Tryd.ntmps84
      go_wp2_with (first
      | (go_at_call 81; refine (HA.out _ HL0.out.env).mono ?_; rintro e w1 ⟨rfl, he_w1, hf_w1⟩; have HL1 : Hid (Lo2 w g V L (w1.alloc (.cells (fdC a 0).toArray 80)) s1 w.heap.size fd0 80 w1.heap.size (fdC a 0) 80) := (HL0.out.call he_w1 hf_w1).two _ _; clear he_w1 hf_w1)
      | (go_at_call 82; refine (HW.out _ HL1.out.env).mono ?_; rintro e w2 ⟨rfl, he_w2, hf_w2⟩; have HL2 : Hid (Lo2 w g V L w2 s2 w.heap.size fd0 80 w1.heap.size (fdC a 0) 80) := (HL1.out.call he_w2 hf_w2); clear he_w2 hf_w2)
      | (go_at_call_of 40 (Value.string ⟨#[105, 110, 116]⟩); refine (HT.out _ HL2.out.env).mono ?_; rintro e w3 ⟨rfl, he_w3, hf_w3⟩; have HL3 : Hid (Lo2 w g V L w3 s2 w.heap.size fd0 80 w1.heap.size (fdC a 0) 80) := (HL2.out.call he_w3 hf_w3); clear he_w3 hf_w3)
      | (go_at_call_of 40 (Value.string ⟨#[116, 101, 120, 116]⟩); refine (HU.out _ HL3.out.env).mono ?_; rintro e w4 ⟨rfl, he_w4, hf_w4⟩; have HL4 : Hid (Lo2 w g V L w4 s2 w.heap.size fd0 80 w1.heap.size (fdC a 0) 80) := (HL3.out.call he_w4 hf_w4); clear he_w4 hf_w4)
      | (go_at_call 43; refine (HX.out _ HL4.out.env).mono ?_; rintro e w5 ⟨rfl, he_w5, hf_w5⟩; have HLf : Hid (Lo2 w g V L w5 s3 w.heap.size fd0 80 w1.heap.size (fdC a 0) 80) := (HL4.out.call he_w5 hf_w5); clear he_w5 hf_w5)
      | (refine wp_ld (by rfl) 80 _ (by rfl) w1.heap.size (fdC a 0) 80 _ (by rfl) HLf.out.blk2 Tryd.underlying80 rfl (by kernel_rfl) ?_)
      | (refine wp_st (by rfl) 80 _ _ (by rfl) w.heap.size 0 fd0 80 (.agg (fdC a 0).toArray) (fdC a 0) (by rfl) (by rfl) (by rfl) HLf.out.blk (Nat.le_of_ble_eq_true rfl) (by kernel_rfl) (by rfl) ?_; intro w9 hw_w9 hf_w9; have HL9 : Hid (Loc w g V L w9 s3 w.heap.size (fdC a 0) 80) := HLf.out.loc.st hw_w9 hf_w9; clear hw_w9 hf_w9))
      refine ret_loc w.heap.size _ _ _ HL9.out.blk rfl rfl (by rfl) Tryd.underlying80 rfl (by kernel_rfl) ?_
      exact ⟨rfl, HL9.out.env, HL9.out.fr⟩
    · simp only [if_true]
      have HU : Hid (∀ W, Env W g V L s2 → Calls Tryd.prog 40 #[rp g, .string ⟨#[116, 101, 120, 116]⟩] W fun e w' => e = .returned (.bool true) ∧ Env w' g V L s2.adv ∧ Fr (fun i => i = g) W w') := fun W hW => by
        have := takes_any W g V L s2 [116, 101, 120, 116] hW
        unfold tks at this
        rw [hb_HU] at this
        exact this
      clear h_a h_s1 h_s2 hb_HT hb_HU h
      go_enter Tryd.func84, Tryd.ntmps84
      go_wp2_with (first
      | (go_at_call 81; refine (HA.out _ HL0.out.env).mono ?_; rintro e w1 ⟨rfl, he_w1, hf_w1⟩; have HL1 : Hid (Lo2 w g V L (w1.alloc (.cells (fdC a 0).toArray 80)) s1 w.heap.size fd0 80 w1.heap.size (fdC a 0) 80) := (HL0.out.call he_w1 hf_w1).two _ _; clear he_w1 hf_w1)
      | (go_at_call 82; refine (HW.out _ HL1.out.env).mono ?_; rintro e w2 ⟨rfl, he_w2, hf_w2⟩; have HL2 : Hid (Lo2 w g V L w2 s2 w.heap.size fd0 80 w1.heap.size (fdC a 0) 80) := (HL1.out.call he_w2 hf_w2); clear he_w2 hf_w2)
      | (go_at_call_of 40 (Value.string ⟨#[105, 110, 116]⟩); refine (HT.out _ HL2.out.env).mono ?_; rintro e w3 ⟨rfl, he_w3, hf_w3⟩; have HL3 : Hid (Lo2 w g V L w3 s2 w.heap.size fd0 80 w1.heap.size (fdC a 0) 80) := (HL2.out.call he_w3 hf_w3); clear he_w3 hf_w3)
      | (go_at_call_of 40 (Value.string ⟨#[116, 101, 120, 116]⟩); refine (HU.out _ HL3.out.env).mono ?_; rintro e w4 ⟨rfl, he_w4, hf_w4⟩; have HL4 : Hid (Lo2 w g V L w4 s2.adv w.heap.size fd0 80 w1.heap.size (fdC a 0) 80) := (HL3.out.call he_w4 hf_w4); clear he_w4 hf_w4)
      | (refine wp_st (by rfl) 3 _ _ (by rfl) w1.heap.size 1 (fdC a 0) 80 (.int .i64 2) [.int .i64 2] (by rfl) (by rfl) (by rfl) HL4.out.blk2 (Nat.le_of_ble_eq_true rfl) (by kernel_rfl) (by rfl) ?_; intro w5 hw_w5 hf_w5; have HLf : Hid (Lo2 w g V L w5 s2.adv w.heap.size fd0 80 w1.heap.size (fdC a 2) 80) := HL4.out.st2 hw_w5 hf_w5; clear hw_w5 hf_w5)
      | (refine wp_ld (by rfl) 80 _ (by rfl) w1.heap.size (fdC a 2) 80 _ (by rfl) HLf.out.blk2 Tryd.underlying80 rfl (by kernel_rfl) ?_)
      | (refine wp_st (by rfl) 80 _ _ (by rfl) w.heap.size 0 fd0 80 (.agg (fdC a 2).toArray) (fdC a 2) (by rfl) (by rfl) (by rfl) HLf.out.blk (Nat.le_of_ble_eq_true rfl) (by kernel_rfl) (by rfl) ?_; intro w9 hw_w9 hf_w9; have HL9 : Hid (Loc w g V L w9 s2.adv w.heap.size (fdC a 2) 80) := HLf.out.loc.st hw_w9 hf_w9; clear hw_w9 hf_w9))
      refine ret_loc w.heap.size _ _ _ HL9.out.blk rfl rfl (by rfl) Tryd.underlying80 rfl (by kernel_rfl) ?_
      exact ⟨rfl, HL9.out.env, HL9.out.fr⟩
  · simp only [if_true]
    have HT : Hid (∀ W, Env W g V L s2 → Calls Tryd.prog 40 #[rp g, .string ⟨#[105, 110, 116]⟩] W fun e w' => e = .returned (.bool true) ∧ Env w' g V L s2.adv ∧ Fr (fun i => i = g) W w') := fun W hW => by
      have := takes_any W g V L s2 [105, 110, 116] hW
      unfold tks at this
      rw [hb_HT] at this
      exact this
    clear h_a h_s1 h_s2 hb_HT h
    go_enter Tryd.func84, Tryd.ntmps84
    go_wp2_with (first
      | (go_at_call 81; refine (HA.out _ HL0.out.env).mono ?_; rintro e w1 ⟨rfl, he_w1, hf_w1⟩; have HL1 : Hid (Lo2 w g V L (w1.alloc (.cells (fdC a 0).toArray 80)) s1 w.heap.size fd0 80 w1.heap.size (fdC a 0) 80) := (HL0.out.call he_w1 hf_w1).two _ _; clear he_w1 hf_w1)
      | (go_at_call 82; refine (HW.out _ HL1.out.env).mono ?_; rintro e w2 ⟨rfl, he_w2, hf_w2⟩; have HL2 : Hid (Lo2 w g V L w2 s2 w.heap.size fd0 80 w1.heap.size (fdC a 0) 80) := (HL1.out.call he_w2 hf_w2); clear he_w2 hf_w2)
      | (go_at_call_of 40 (Value.string ⟨#[105, 110, 116]⟩); refine (HT.out _ HL2.out.env).mono ?_; rintro e w3 ⟨rfl, he_w3, hf_w3⟩; have HL3 : Hid (Lo2 w g V L w3 s2.adv w.heap.size fd0 80 w1.heap.size (fdC a 0) 80) := (HL2.out.call he_w3 hf_w3); clear he_w3 hf_w3)
      | (refine wp_st (by rfl) 3 _ _ (by rfl) w1.heap.size 1 (fdC a 0) 80 (.int .i64 1) [.int .i64 1] (by rfl) (by rfl) (by rfl) HL3.out.blk2 (Nat.le_of_ble_eq_true rfl) (by kernel_rfl) (by rfl) ?_; intro w5 hw_w5 hf_w5; have HLf : Hid (Lo2 w g V L w5 s2.adv w.heap.size fd0 80 w1.heap.size (fdC a 1) 80) := HL3.out.st2 hw_w5 hf_w5; clear hw_w5 hf_w5)
      | (refine wp_ld (by rfl) 80 _ (by rfl) w1.heap.size (fdC a 1) 80 _ (by rfl) HLf.out.blk2 Tryd.underlying80 rfl (by kernel_rfl) ?_)
      | (refine wp_st (by rfl) 80 _ _ (by rfl) w.heap.size 0 fd0 80 (.agg (fdC a 1).toArray) (fdC a 1) (by rfl) (by rfl) (by rfl) HLf.out.blk (Nat.le_of_ble_eq_true rfl) (by kernel_rfl) (by rfl) ?_; intro w9 hw_w9 hf_w9; have HL9 : Hid (Loc w g V L w9 s2.adv w.heap.size (fdC a 1) 80) := HLf.out.loc.st hw_w9 hf_w9; clear hw_w9 hf_w9))
    refine ret_loc w.heap.size _ _ _ HL9.out.blk rfl rfl (by rfl) Tryd.underlying80 rfl (by kernel_rfl) ?_
    exact ⟨rfl, HL9.out.env, HL9.out.fr⟩
set_option maxHeartbeats 4000000 in
theorem option_any (w : World) (g : Nat) (V : Value) (L : List Tk) (s : St) (h : Env w g V L s) : Calls Tryd.prog 141 #[rp g] w fun e w' => e = .returned (.agg #[.int .i64 (opt L s).1.r, .int .i64 (opt L s).1.lo, .int .i64 (opt L s).1.hi]) ∧ Env w' g V L (opt L s).2 ∧ Fr (fun i => i = g) w w' := by
  have HL0 : Hid (Loc w g V L (w.alloc (.cells q0.toArray 59)) s w.heap.size q0 59) := Loc.start h q0 _
  unfold opt
  simp only
  obtain ⟨r, h_r⟩ : ∃ r, (rel L s).1 = r := ⟨_, rfl⟩
  obtain ⟨s1, h_s1⟩ : ∃ s1, (rel L s).2 = s1 := ⟨_, rfl⟩
  rw [h_r, h_s1]
  have HA : Hid (∀ W, Env W g V L s → Calls Tryd.prog 150 #[rp g] W fun e w' => e = .returned (.int .i64 r) ∧ Env w' g V L s1 ∧ Fr (fun i => i = g) W w') := fun W hW => by
    have := relation_any W g V L s hW
    rw [h_r, h_s1] at this
    exact this
  cases hb_HT : see L [40] s1
  · simp only [Bool.false_eq_true, if_false]
    have HT : Hid (∀ W, Env W g V L s1 → Calls Tryd.prog 40 #[rp g, .string ⟨#[40]⟩] W fun e w' => e = .returned (.bool false) ∧ Env w' g V L s1 ∧ Fr (fun i => i = g) W w') := fun W hW => by
      have := takes_any W g V L s1 [40] hW
      unfold tks at this
      rw [hb_HT] at this
      exact this
    clear h_r h_s1 hb_HT h
    go_enter Tryd.func141, Tryd.ntmps141
    go_wp2_with (first
      | (go_at_call 150; refine (HA.out _ HL0.out.env).mono ?_; rintro e w1 ⟨rfl, he_w1, hf_w1⟩; have HL1 : Hid (Lo2 w g V L (w1.alloc (.cells (qC r 0 (-1)).toArray 59)) s1 w.heap.size q0 59 w1.heap.size (qC r 0 (-1)) 59) := (HL0.out.call he_w1 hf_w1).two _ _; clear he_w1 hf_w1)
      | (go_at_call 40; refine (HT.out _ HL1.out.env).mono ?_; rintro e w2 ⟨rfl, he_w2, hf_w2⟩; have HL2 : Hid (Lo2 w g V L w2 s1 w.heap.size q0 59 w1.heap.size (qC r 0 (-1)) 59) := (HL1.out.call he_w2 hf_w2); clear he_w2 hf_w2)
      | (refine wp_ld (by rfl) 59 _ (by rfl) w1.heap.size (qC r 0 (-1)) 59 _ (by rfl) HL2.out.blk2 Tryd.underlying59 rfl (by kernel_rfl) ?_)
      | (refine wp_st (by rfl) 59 _ _ (by rfl) w.heap.size 0 q0 59 (.agg (qC r 0 (-1)).toArray) (qC r 0 (-1)) (by rfl) (by rfl) (by rfl) HL2.out.blk (Nat.le_of_ble_eq_true rfl) (by kernel_rfl) (by rfl) ?_; intro w9 hw_w9 hf_w9; have HL9 : Hid (Loc w g V L w9 s1 w.heap.size (qC r 0 (-1)) 59) := HL2.out.loc.st hw_w9 hf_w9; clear hw_w9 hf_w9))
    refine ret_loc w.heap.size _ _ _ HL9.out.blk rfl rfl (by rfl) Tryd.underlying59 rfl (by kernel_rfl) ?_
    exact ⟨rfl, HL9.out.env, HL9.out.fr⟩
  · simp only [if_true]
    have HT : Hid (∀ W, Env W g V L s1 → Calls Tryd.prog 40 #[rp g, .string ⟨#[40]⟩] W fun e w' => e = .returned (.bool true) ∧ Env w' g V L s1.adv ∧ Fr (fun i => i = g) W w') := fun W hW => by
      have := takes_any W g V L s1 [40] hW
      unfold tks at this
      rw [hb_HT] at this
      exact this
    obtain ⟨lo, h_lo⟩ : ∃ lo, (num L s1.adv).1 = lo := ⟨_, rfl⟩
    obtain ⟨s2, h_s2⟩ : ∃ s2, (num L s1.adv).2 = s2 := ⟨_, rfl⟩
    rw [h_lo, h_s2]
    have HN : Hid (∀ W, Env W g V L s1.adv → Calls Tryd.prog 137 #[rp g] W fun e w' => e = .returned (.int .i64 lo) ∧ Env w' g V L s2 ∧ Fr (fun i => i = g) W w') := fun W hW => by
      have := number_any W g V L s1.adv hW
      rw [h_lo, h_s2] at this
      exact this
    obtain ⟨s3, h_s3⟩ : ∃ s3, wnt L [44] s2 = s3 := ⟨_, rfl⟩
    rw [h_s3]
    have HW : Hid (∀ W, Env W g V L s2 → Calls Tryd.prog 82 #[rp g, .string ⟨#[44]⟩] W fun e w' => e = .returned (.tuple #[]) ∧ Env w' g V L s3 ∧ Fr (fun i => i = g) W w') := fun W hW => by
      have := wants_any W g V L s2 [44] hW
      rw [h_s3] at this
      exact this
    cases hb_HU : see L [97, 110, 121] s3
    · simp only [Bool.false_eq_true, if_false]
      have HU : Hid (∀ W, Env W g V L s3 → Calls Tryd.prog 40 #[rp g, .string ⟨#[97, 110, 121]⟩] W fun e w' => e = .returned (.bool false) ∧ Env w' g V L s3 ∧ Fr (fun i => i = g) W w') := fun W hW => by
        have := takes_any W g V L s3 [97, 110, 121] hW
        unfold tks at this
        rw [hb_HU] at this
        exact this
      obtain ⟨hi, h_hi⟩ : ∃ hi, (num L s3).1 = hi := ⟨_, rfl⟩
      obtain ⟨s4, h_s4⟩ : ∃ s4, (num L s3).2 = s4 := ⟨_, rfl⟩
      rw [h_hi, h_s4]
      have HM : Hid (∀ W, Env W g V L s3 → Calls Tryd.prog 137 #[rp g] W fun e w' => e = .returned (.int .i64 hi) ∧ Env w' g V L s4 ∧ Fr (fun i => i = g) W w') := fun W hW => by
        have := number_any W g V L s3 hW
        rw [h_hi, h_s4] at this
        exact this
      obtain ⟨s5, h_s5⟩ : ∃ s5, wnt L [41] s4 = s5 := ⟨_, rfl⟩
      rw [h_s5]
      have HX : Hid (∀ W, Env W g V L s4 → Calls Tryd.prog 82 #[rp g, .string ⟨#[41]⟩] W fun e w' => e = .returned (.tuple #[]) ∧ Env w' g V L s5 ∧ Fr (fun i => i = g) W w') := fun W hW => by
        have := wants_any W g V L s4 [41] hW
        rw [h_s5] at this
        exact this
      clear h_r h_s1 h_lo h_s2 h_s3 h_hi h_s4 h_s5 hb_HT hb_HU h
      go_enter Tryd.func141, Tryd.ntmps141
      go_wp2_with (first
      | (go_at_call 150; refine (HA.out _ HL0.out.env).mono ?_; rintro e w1 ⟨rfl, he_w1, hf_w1⟩; have HL1 : Hid (Lo2 w g V L (w1.alloc (.cells (qC r 0 (-1)).toArray 59)) s1 w.heap.size q0 59 w1.heap.size (qC r 0 (-1)) 59) := (HL0.out.call he_w1 hf_w1).two _ _; clear he_w1 hf_w1)
      | (go_at_call_of 40 (Value.string ⟨#[40]⟩); refine (HT.out _ HL1.out.env).mono ?_; rintro e w2 ⟨rfl, he_w2, hf_w2⟩; have HL2 : Hid (Lo2 w g V L w2 s1.adv w.heap.size q0 59 w1.heap.size (qC r 0 (-1)) 59) := (HL1.out.call he_w2 hf_w2); clear he_w2 hf_w2)
      | (go_at_call 137; refine (HM.out _ HL6.out.env).mono ?_; rintro e w7 ⟨rfl, he_w7, hf_w7⟩; have HL7 : Hid (Lo2 w g V L w7 s4 w.heap.size q0 59 w1.heap.size (qC r lo (-1)) 59) := (HL6.out.call he_w7 hf_w7); clear he_w7 hf_w7)
      | (go_at_call 137; refine (HN.out _ HL2.out.env).mono ?_; rintro e w3 ⟨rfl, he_w3, hf_w3⟩; have HL3 : Hid (Lo2 w g V L w3 s2 w.heap.size q0 59 w1.heap.size (qC r 0 (-1)) 59) := (HL2.out.call he_w3 hf_w3); clear he_w3 hf_w3)
      | (refine wp_st (by rfl) 3 _ _ (by rfl) w1.heap.size 2 (qC r lo (-1)) 59 (.int .i64 hi) [.int .i64 hi] (by rfl) (by rfl) (by rfl) HL7.out.blk2 (Nat.le_of_ble_eq_true rfl) (by kernel_rfl) (by rfl) ?_; intro w8 hw_w8 hf_w8; have HL8 : Hid (Lo2 w g V L w8 s4 w.heap.size q0 59 w1.heap.size (qC r lo hi) 59) := HL7.out.st2 hw_w8 hf_w8; clear hw_w8 hf_w8)
      | (refine wp_st (by rfl) 3 _ _ (by rfl) w1.heap.size 1 (qC r 0 (-1)) 59 (.int .i64 lo) [.int .i64 lo] (by rfl) (by rfl) (by rfl) HL3.out.blk2 (Nat.le_of_ble_eq_true rfl) (by kernel_rfl) (by rfl) ?_; intro w4 hw_w4 hf_w4; have HL4 : Hid (Lo2 w g V L w4 s2 w.heap.size q0 59 w1.heap.size (qC r lo (-1)) 59) := HL3.out.st2 hw_w4 hf_w4; clear hw_w4 hf_w4)
      | (go_at_call_of 82 (Value.string ⟨#[44]⟩); refine (HW.out _ HL4.out.env).mono ?_; rintro e w5 ⟨rfl, he_w5, hf_w5⟩; have HL5 : Hid (Lo2 w g V L w5 s3 w.heap.size q0 59 w1.heap.size (qC r lo (-1)) 59) := (HL4.out.call he_w5 hf_w5); clear he_w5 hf_w5)
      | (go_at_call_of 40 (Value.string ⟨#[97, 110, 121]⟩); refine (HU.out _ HL5.out.env).mono ?_; rintro e w6 ⟨rfl, he_w6, hf_w6⟩; have HL6 : Hid (Lo2 w g V L w6 s3 w.heap.size q0 59 w1.heap.size (qC r lo (-1)) 59) := (HL5.out.call he_w6 hf_w6); clear he_w6 hf_w6)
      | (go_at_call_of 82 (Value.string ⟨#[41]⟩); refine (HX.out _ HL8.out.env).mono ?_; rintro e w10 ⟨rfl, he_w10, hf_w10⟩; have HL10 : Hid (Lo2 w g V L w10 s5 w.heap.size q0 59 w1.heap.size (qC r lo hi) 59) := (HL8.out.call he_w10 hf_w10); clear he_w10 hf_w10)
      | (refine wp_ld (by rfl) 59 _ (by rfl) w1.heap.size (qC r lo hi) 59 _ (by rfl) HL10.out.blk2 Tryd.underlying59 rfl (by kernel_rfl) ?_)
      | (refine wp_st (by rfl) 59 _ _ (by rfl) w.heap.size 0 q0 59 (.agg (qC r lo hi).toArray) (qC r lo hi) (by rfl) (by rfl) (by rfl) HL10.out.blk (Nat.le_of_ble_eq_true rfl) (by kernel_rfl) (by rfl) ?_; intro w9 hw_w9 hf_w9; have HL9 : Hid (Loc w g V L w9 s5 w.heap.size (qC r lo hi) 59) := HL10.out.loc.st hw_w9 hf_w9; clear hw_w9 hf_w9))
      refine ret_loc w.heap.size _ _ _ HL9.out.blk rfl rfl (by rfl) Tryd.underlying59 rfl (by kernel_rfl) ?_
      exact ⟨rfl, HL9.out.env, HL9.out.fr⟩
    · simp only [if_true]
      have HU : Hid (∀ W, Env W g V L s3 → Calls Tryd.prog 40 #[rp g, .string ⟨#[97, 110, 121]⟩] W fun e w' => e = .returned (.bool true) ∧ Env w' g V L s3.adv ∧ Fr (fun i => i = g) W w') := fun W hW => by
        have := takes_any W g V L s3 [97, 110, 121] hW
        unfold tks at this
        rw [hb_HU] at this
        exact this
      obtain ⟨s5, h_s5⟩ : ∃ s5, wnt L [41] s3.adv = s5 := ⟨_, rfl⟩
      rw [h_s5]
      have HX : Hid (∀ W, Env W g V L s3.adv → Calls Tryd.prog 82 #[rp g, .string ⟨#[41]⟩] W fun e w' => e = .returned (.tuple #[]) ∧ Env w' g V L s5 ∧ Fr (fun i => i = g) W w') := fun W hW => by
        have := wants_any W g V L s3.adv [41] hW
        rw [h_s5] at this
        exact this
      clear h_r h_s1 h_lo h_s2 h_s3 h_s5 hb_HT hb_HU h
      go_enter Tryd.func141, Tryd.ntmps141
      go_wp2_with (first
      | (go_at_call 150; refine (HA.out _ HL0.out.env).mono ?_; rintro e w1 ⟨rfl, he_w1, hf_w1⟩; have HL1 : Hid (Lo2 w g V L (w1.alloc (.cells (qC r 0 (-1)).toArray 59)) s1 w.heap.size q0 59 w1.heap.size (qC r 0 (-1)) 59) := (HL0.out.call he_w1 hf_w1).two _ _; clear he_w1 hf_w1)
      | (go_at_call_of 40 (Value.string ⟨#[40]⟩); refine (HT.out _ HL1.out.env).mono ?_; rintro e w2 ⟨rfl, he_w2, hf_w2⟩; have HL2 : Hid (Lo2 w g V L w2 s1.adv w.heap.size q0 59 w1.heap.size (qC r 0 (-1)) 59) := (HL1.out.call he_w2 hf_w2); clear he_w2 hf_w2)
      | (go_at_call 137; refine (HN.out _ HL2.out.env).mono ?_; rintro e w3 ⟨rfl, he_w3, hf_w3⟩; have HL3 : Hid (Lo2 w g V L w3 s2 w.heap.size q0 59 w1.heap.size (qC r 0 (-1)) 59) := (HL2.out.call he_w3 hf_w3); clear he_w3 hf_w3)
      | (refine wp_st (by rfl) 3 _ _ (by rfl) w1.heap.size 1 (qC r 0 (-1)) 59 (.int .i64 lo) [.int .i64 lo] (by rfl) (by rfl) (by rfl) HL3.out.blk2 (Nat.le_of_ble_eq_true rfl) (by kernel_rfl) (by rfl) ?_; intro w4 hw_w4 hf_w4; have HL4 : Hid (Lo2 w g V L w4 s2 w.heap.size q0 59 w1.heap.size (qC r lo (-1)) 59) := HL3.out.st2 hw_w4 hf_w4; clear hw_w4 hf_w4)
      | (go_at_call_of 82 (Value.string ⟨#[44]⟩); refine (HW.out _ HL4.out.env).mono ?_; rintro e w5 ⟨rfl, he_w5, hf_w5⟩; have HL5 : Hid (Lo2 w g V L w5 s3 w.heap.size q0 59 w1.heap.size (qC r lo (-1)) 59) := (HL4.out.call he_w5 hf_w5); clear he_w5 hf_w5)
      | (go_at_call_of 40 (Value.string ⟨#[97, 110, 121]⟩); refine (HU.out _ HL5.out.env).mono ?_; rintro e w6 ⟨rfl, he_w6, hf_w6⟩; have HL6 : Hid (Lo2 w g V L w6 s3.adv w.heap.size q0 59 w1.heap.size (qC r lo (-1)) 59) := (HL5.out.call he_w6 hf_w6); clear he_w6 hf_w6)
      | (go_at_call_of 82 (Value.string ⟨#[41]⟩); refine (HX.out _ HL6.out.env).mono ?_; rintro e w10 ⟨rfl, he_w10, hf_w10⟩; have HL10 : Hid (Lo2 w g V L w10 s5 w.heap.size q0 59 w1.heap.size (qC r lo (-1)) 59) := (HL6.out.call he_w10 hf_w10); clear he_w10 hf_w10)
      | (refine wp_ld (by rfl) 59 _ (by rfl) w1.heap.size (qC r lo (-1)) 59 _ (by rfl) HL10.out.blk2 Tryd.underlying59 rfl (by kernel_rfl) ?_)
      | (refine wp_st (by rfl) 59 _ _ (by rfl) w.heap.size 0 q0 59 (.agg (qC r lo (-1)).toArray) (qC r lo (-1)) (by rfl) (by rfl) (by rfl) HL10.out.blk (Nat.le_of_ble_eq_true rfl) (by kernel_rfl) (by rfl) ?_; intro w9 hw_w9 hf_w9; have HL9 : Hid (Loc w g V L w9 s5 w.heap.size (qC r lo (-1)) 59) := HL10.out.loc.st hw_w9 hf_w9; clear hw_w9 hf_w9))
      refine ret_loc w.heap.size _ _ _ HL9.out.blk rfl rfl (by rfl) Tryd.underlying59 rfl (by kernel_rfl) ?_
      exact ⟨rfl, HL9.out.env, HL9.out.fr⟩
end Go.Proofs.YtnlmkdncifijlaaDoor
namespace Go.Proofs.YtnlmkdncifijlaaDoor
open Go.ChangeShapes Go.WideShapes Go.ChangeAt Go.RowKit Go.Maps
set_option linter.unusedVariables false
set_option linter.unusedSimpArgs false
theorem Env.grown {w w' : World} {g b : Nat} {V : Value} {L : List Tk} {s : St} {row : Option Nat} (h : Env w g V L s) (hg : w.grownBy w' row) (hr : ∀ k, row = some k → b ≤ k) (hb : g < b) : Env w' g V L s := by
  have hgl := blk_lt h.blk
  have hk : ∀ k, k ≤ g → w'.heap[k]? = w.heap[k]? := fun k hk => hg.block k (by omega) (fun e => by have := hr k e.symm; omega)
  exact h.on hg.size (fun k hk' => hk k (by omega)) ((hk g (Nat.le_refl _)).trans h.blk) h.pos h.opn
theorem holdsF (w : World) (S : Nat → Prop) (f : Fd) : HoldsL w S (encF f) (fdC f.n f.k) := .cons (.lit _) (.cons (.lit _) (.nil _ _))
/-- What a list of parts leaves. -/
def LPost {α : Type} (w : World) (g : Nat) (V : Value) (L : List Tk) (T z : Nat) (enc : α → List Dat) (l : List α) (s : St) (e : Ending) (w' : World) : Prop :=
  ∃ p cap, e = .returned (.slice p l.length cap) ∧ Holds w' (fun i => w.heap.size ≤ i) (.row T z (l.map enc)) (.slice p l.length cap) ∧ Env w' g V L s ∧ Fr (fun i => i = g) w w'
set_option maxHeartbeats 8000000 in
theorem listed_field (w : World) (g : Nat) (V : Value) (L : List Tk) (s : St) (h : Env w g V L s) :
    Calls Tryd.prog 83 #[rp g, .string ⟨#[125]⟩, .func (.func 84) #[rp g] #[]] w (LPost w g V L 80 2 encF (lst L [125] (fld L) s).1 (lst L [125] (fld L) s).2) := by
  have HG : Hid (Good (fld L)) := fld_g L
  obtain ⟨i0, a1, a2, a3, a4⟩ := info_parts infoF
  have HI : Hid (Tryd.prog.info? 80 = some i0 ∧ i0.zero = some (.agg #[.string ByteArray.empty, .int .i64 0]) ∧ i0.size = 2 ∧ i0.bytes = 24) := ⟨a1, a2, a3, a4⟩
  have HLEN : Hid (L.length ≤ 700) := h.len
  have HE0 : Hid (Env w g V L s) := h
  have HGW : Hid (g < w.heap.size) := blk_lt h.blk
  unfold lst
  cases hb_HT : see L [125] s
  · simp only [Bool.false_eq_true, if_false]
    have HT : Hid (∀ W, Env W g V L s → Calls Tryd.prog 40 #[rp g, .string ⟨#[125]⟩] W fun e w' => e = .returned (.bool false) ∧ Env w' g V L s ∧ Fr (fun i => i = g) W w') := fun W hW => by
      have := takes_any W g V L s [125] hW
      unfold tks at this
      rw [hb_HT] at this
      exact this
    obtain ⟨F, hF⟩ : ∃ F, sep L [44] (fld L) L.length ((fld L) s).2 [((fld L) s).1] = F := ⟨_, rfl⟩
    rw [hF]
    obtain ⟨s9, h_s9⟩ : ∃ s9, wnt L [125] F.2 = s9 := ⟨_, rfl⟩
    rw [h_s9]
    have HX : Hid (∀ W, Env W g V L F.2 → Calls Tryd.prog 82 #[rp g, .string ⟨#[125]⟩] W fun e w' => e = .returned (.tuple #[]) ∧ Env w' g V L s9 ∧ Fr (fun i => i = g) W w') := fun W hW => by
      have := wants_any W g V L F.2 [125] hW
      rw [h_s9] at this
      exact this
    have HC : Hid (∀ W s, Env W g V L s → Calls Tryd.prog 84 #[rp g] W fun e w' => e = .returned (.agg #[.string ((fld L) s).1.n, .int .i64 ((fld L) s).1.k]) ∧ Env w' g V L ((fld L) s).2 ∧ Fr (fun i => i = g) W w') := fun W s hW => field_any W g V L s hW
    have hg1 := HG.out s
    obtain ⟨c, hc⟩ : ∃ c, ((fld L) s).1 = c := ⟨_, rfl⟩
    obtain ⟨s1, hs1⟩ : ∃ s1, ((fld L) s).2 = s1 := ⟨_, rfl⟩
    have HC1 : Hid (∀ W, Env W g V L s → Calls Tryd.prog 84 #[rp g] W fun e w' => e = .returned (.agg #[.string c.n, .int .i64 c.k]) ∧ Env w' g V L s1 ∧ Fr (fun i => i = g) W w') := fun W hW => by
      have := HC.out W s hW
      rw [hc, hs1] at this
      exact this
    rw [hs1] at hg1
    rw [hc, hs1] at hF
    have HF0 : Hid (sep L [44] (fld L) L.length s1 [c] = F) := hF
    have HG1 : Hid (s.i ≤ s1.i ∧ s1.o = s.o) := hg1
    clear a1 a2 a3 a4 hF hc hs1 h hg1 h_s9 hb_HT
    obtain ⟨cn, ck⟩ := c
    go_enter Tryd.func83, Tryd.ntmps83
    go_wp2_with (first
      | (go_at_call 40; refine (HT.out _ HE0.out).mono ?_; rintro e w1 ⟨rfl, he1, hf1⟩; have HE1 : Hid (Env w1 g V L s ∧ Fr (fun i => i = g) w w1) := ⟨he1, hf1⟩; clear he1 hf1)
      | (go_at_call 84; refine (HC1.out _ HE1.out.1).mono ?_; rintro e w2 ⟨rfl, he2, hf2⟩; have HE2 : Hid (Env w2 g V L s1 ∧ Fr (fun i => i = g) w w2) := ⟨he2, HE1.out.2.trans hf2⟩; clear he2 hf2))
    have HR1 : Hid (Row (w2.alloc (.cells (fdC cn ck).toArray 80)) (fun i => w.heap.size ≤ i) 80 2 (.slice (some ⟨w2.heap.size, 0, none⟩) 1 1) ([(⟨cn, ck⟩ : Fd)].map encF)) := Row.new HE2.out.2.size rfl (holdsF _ _ (⟨cn, ck⟩ : Fd))
    have HE3 : Hid (Env (w2.alloc (.cells (fdC cn ck).toArray 80)) g V L s1 ∧ Fr (fun i => i = g) w (w2.alloc (.cells (fdC cn ck).toArray 80))) := ⟨HE2.out.1.alloc _, HE2.out.2.alloc _⟩
    clear HE1 HE2
    go_loopg [7] L.length (fun k v wr => ∃ (acc : List Fd) (st : St), (Env wr g V L st ∧ Fr (fun i => i = g) w wr) ∧ Row wr (fun i => w.heap.size ≤ i) 80 2 v (acc.map encF) ∧ sep L [44] (fld L) k st acc = F ∧ acc.length + k ≤ 701 ∧ L.length ≤ st.i + k)
    case atStart => exact ⟨_, s1, HE3.out, HR1.out, HF0.out, by have := HLEN.out; simp; omega, by omega⟩
    case round =>
      obtain ⟨acc, st, hen, hrow, hsp, hk1, hk2⟩ := hrel
      obtain ⟨p, cap, rfl⟩ := hrow.shape
      rw [List.length_map] at hrow ⊢
      obtain ⟨n, hn⟩ : ∃ n, acc.length = n := ⟨_, rfl⟩
      have HNN : Hid (acc.length = n) := hn
      rw [hn] at hrow hk1 ⊢
      have HLr : Hid (Env wr g V L st ∧ Fr (fun i => i = g) w wr) := hen
      have HRW : Hid (Row wr (fun i => w.heap.size ≤ i) 80 2 (.slice p n cap) (acc.map encF)) := hrow
      have HU := takes_any wr g V L st [44] hen.1
      have HK : Hid (n + gk ≤ 701 ∧ L.length ≤ st.i + gk) := ⟨hk1, hk2⟩
      unfold tks at HU
      clear hen hrow hn hk1 HE3 HR1 HF0
      cases hm : see L [44] st
      · rw [hm] at HU
        simp only [Bool.false_eq_true, if_false] at HU
        have HU2 : Hid (Calls Tryd.prog 40 #[rp g, .string ⟨#[44]⟩] wr fun e w' => e = .returned (.bool false) ∧ Env w' g V L st ∧ Fr (fun i => i = g) wr w') := HU
        rw [sep_stop hm] at hsp
        subst hsp
        clear HU hm hk2
        go_wp2_with (first
          | (go_at_call 40; refine HU2.out.mono ?_; rintro e w3 ⟨rfl, he3, hf3⟩; have HE4 : Hid (Env w3 g V L st ∧ Fr (fun i => i = g) w w3) := ⟨he3, HLr.out.2.trans hf3⟩; have HRW3 : Hid (Row w3 (fun i => w.heap.size ≤ i) 80 2 (.slice p n cap) (acc.map encF)) := HRW.out.fr hf3 HGW.out; clear he3 hf3)
          | (go_at_call 82; refine (HX.out _ HE4.out.1).mono ?_; rintro e w4 ⟨rfl, he4, hf4⟩; have HE5 : Hid (Env w4 g V L s9 ∧ Fr (fun i => i = g) w w4) := ⟨he4, HE4.out.2.trans hf4⟩; have HRW4 : Hid (Row w4 (fun i => w.heap.size ≤ i) 80 2 (.slice p n cap) (acc.map encF)) := HRW3.out.fr hf4 HGW.out; clear he4 hf4))
        go_ret
        refine ⟨p, cap, ?_, ?_, HE5.out.1, HE5.out.2⟩
        · simp only [HNN.out]; rfl
        · simp only [HNN.out]; exact HRW4.out.holds
      · rw [hm] at HU
        simp only [if_true] at HU
        have HU2 : Hid (Calls Tryd.prog 40 #[rp g, .string ⟨#[44]⟩] wr fun e w' => e = .returned (.bool true) ∧ Env w' g V L st.adv ∧ Fr (fun i => i = g) wr w') := HU
        have hlt := (see_lt hm).2
        obtain ⟨k2, rfl⟩ : ∃ k2, gk = k2 + 1 := ⟨gk - 1, by omega⟩
        rw [sep_step hm] at hsp
        have hg2 := HG.out st.adv
        obtain ⟨d, hd⟩ : ∃ d, ((fld L) st.adv).1 = d := ⟨_, rfl⟩
        obtain ⟨s2, hs2⟩ : ∃ s2, ((fld L) st.adv).2 = s2 := ⟨_, rfl⟩
        rw [hd, hs2] at hsp
        rw [hs2] at hg2
        have HC2 : Hid (∀ W, Env W g V L st.adv → Calls Tryd.prog 84 #[rp g] W fun e w' => e = .returned (.agg #[.string d.n, .int .i64 d.k]) ∧ Env w' g V L s2 ∧ Fr (fun i => i = g) W w') := fun W hW => by
          have := HC.out W st.adv hW
          rw [hd, hs2] at this
          exact this
        have HSP : Hid (sep L [44] (fld L) k2 s2 (acc ++ [d]) = F) := hsp
        have HG2 : Hid (st.i + 1 ≤ s2.i) := hg2.1
        have HLN : Hid ((acc.map encF).length ≤ 800) := by
          have h1 := HNN.out
          have h2 := HK.out
          show (acc.map encF).length ≤ 800
          rw [List.length_map]
          omega
        obtain ⟨dn, dk⟩ := d
        clear HU hm hd hs2 hsp hg2 hk2 hlt
        go_wp2_with (first
          | (go_at_call 40; refine HU2.out.mono ?_; rintro e w3 ⟨rfl, he3, hf3⟩; have HE4 : Hid (Env w3 g V L st.adv ∧ Fr (fun i => i = g) w w3) := ⟨he3, HLr.out.2.trans hf3⟩; have HRW3 : Hid (Row w3 (fun i => w.heap.size ≤ i) 80 2 (.slice p n cap) (acc.map encF)) := HRW.out.fr hf3 HGW.out; clear he3 hf3)
          | (go_at_call 84; refine (HC2.out _ HE4.out.1).mono ?_; rintro e w4 ⟨rfl, he4, hf4⟩; have HE5 : Hid (Env w4 g V L s2 ∧ Fr (fun i => i = g) w w4) := ⟨he4, HE4.out.2.trans hf4⟩; have HRW4 : Hid (Row w4 (fun i => w.heap.size ≤ i) 80 2 (.slice p n cap) (acc.map encF)) := HRW3.out.fr hf4 HGW.out; clear he4 hf4)
          | (at_builtin; refine wp_app (by rfl) _ _ 74 (by rfl) 80 i0 (.agg #[.string ByteArray.empty, .int .i64 0]) 2 24 Tryd.underlying74 HI.out.1 HI.out.2.1 HI.out.2.2.1 HI.out.2.2.2 rfl (by omega) w.heap.size (.slice p n cap) (acc.map encF) (by rfl) (HRW4.out.alloc _) (Nat.le_trans HE5.out.2.size (by simp)) (encF (⟨dn, dk⟩ : Fd)) (fdC dn dk) ⟨w4.heap.size, 0, none⟩ (by rfl) (by rfl) (World.news_of_block (heap_alloc_new _ _)) (by rfl) (holdsF _ _ (⟨dn, dk⟩ : Fd)) HLN.out (by omega) ?_; intro v' w5 hrw hgb hown; have HRW5 : Hid (Row w5 (fun i => w.heap.size ≤ i) 80 2 v' (acc.map encF ++ [encF (⟨dn, dk⟩ : Fd)])) := hrw; have HE6 : Hid (Env w5 g V L s2 ∧ Fr (fun i => i = g) w w5) := ⟨(HE5.out.1.alloc _).grown hgb hown HGW.out, (HE5.out.2.alloc _).grown hgb (fun k hk => .inr (hown k hk))⟩; clear hrw hgb hown))
        go_roundg k2
        case measure => omega
        case rel =>
          have hk := HK.out
          have hn := HNN.out
          have hg2 := HG2.out
          refine ⟨acc ++ [(⟨dn, dk⟩ : Fd)], s2, HE6.out, ?_, HSP.out, by simp; omega, by omega⟩
          rw [List.map_append]
          exact HRW5.out
  · simp only [if_true]
    have HT : Hid (∀ W, Env W g V L s → Calls Tryd.prog 40 #[rp g, .string ⟨#[125]⟩] W fun e w' => e = .returned (.bool true) ∧ Env w' g V L s.adv ∧ Fr (fun i => i = g) W w') := fun W hW => by
      have := takes_any W g V L s [125] hW
      unfold tks at this
      rw [hb_HT] at this
      exact this
    clear h hb_HT a1 a2 a3 a4
    go_enter Tryd.func83, Tryd.ntmps83
    go_wp2_with (go_at_call 40; refine (HT.out _ HE0.out).mono ?_; rintro e w1 ⟨rfl, he1, hf1⟩)
    go_ret
    exact ⟨none, 0, rfl, (Row.nil _ _ _ _).holds, he1, hf1⟩
set_option maxHeartbeats 8000000 in
theorem listed_side (w : World) (g : Nat) (V : Value) (L : List Tk) (s : St) (h : Env w g V L s) :
    Calls Tryd.prog 139 #[rp g, .string ⟨#[41]⟩, .func (.func 140) #[rp g] #[]] w (LPost w g V L 50 6 encO (lst L [41] (sde L) s).1 (lst L [41] (sde L) s).2) := by
  have HG : Hid (Good (sde L)) := sde_g L
  obtain ⟨i0, a1, a2, a3, a4⟩ := info_parts infoO
  have HI : Hid (Tryd.prog.info? 50 = some i0 ∧ i0.zero = some zO ∧ i0.size = 6 ∧ i0.bytes = 72) := ⟨a1, a2, a3, a4⟩
  have HLEN : Hid (L.length ≤ 700) := h.len
  have HE0 : Hid (Env w g V L s) := h
  have HGW : Hid (g < w.heap.size) := blk_lt h.blk
  unfold lst
  cases hb_HT : see L [41] s
  · simp only [Bool.false_eq_true, if_false]
    have HT : Hid (∀ W, Env W g V L s → Calls Tryd.prog 40 #[rp g, .string ⟨#[41]⟩] W fun e w' => e = .returned (.bool false) ∧ Env w' g V L s ∧ Fr (fun i => i = g) W w') := fun W hW => by
      have := takes_any W g V L s [41] hW
      unfold tks at this
      rw [hb_HT] at this
      exact this
    obtain ⟨F, hF⟩ : ∃ F, sep L [44] (sde L) L.length ((sde L) s).2 [((sde L) s).1] = F := ⟨_, rfl⟩
    rw [hF]
    obtain ⟨s9, h_s9⟩ : ∃ s9, wnt L [41] F.2 = s9 := ⟨_, rfl⟩
    rw [h_s9]
    have HX : Hid (∀ W, Env W g V L F.2 → Calls Tryd.prog 82 #[rp g, .string ⟨#[41]⟩] W fun e w' => e = .returned (.tuple #[]) ∧ Env w' g V L s9 ∧ Fr (fun i => i = g) W w') := fun W hW => by
      have := wants_any W g V L F.2 [41] hW
      rw [h_s9] at this
      exact this
    have HC : Hid (∀ W s, Env W g V L s → Calls Tryd.prog 140 #[rp g] W fun e w' => e = .returned (opV ((sde L) s).1) ∧ Env w' g V L ((sde L) s).2 ∧ Fr (fun i => i = g) W w') := fun W s hW => side_any W g V L s hW
    have hg1 := HG.out s
    obtain ⟨c, hc⟩ : ∃ c, ((sde L) s).1 = c := ⟨_, rfl⟩
    obtain ⟨s1, hs1⟩ : ∃ s1, ((sde L) s).2 = s1 := ⟨_, rfl⟩
    have HC1 : Hid (∀ W, Env W g V L s → Calls Tryd.prog 140 #[rp g] W fun e w' => e = .returned (opV c) ∧ Env w' g V L s1 ∧ Fr (fun i => i = g) W w') := fun W hW => by
      have := HC.out W s hW
      rw [hc, hs1] at this
      exact this
    rw [hs1] at hg1
    rw [hc, hs1] at hF
    have HF0 : Hid (sep L [44] (sde L) L.length s1 [c] = F) := hF
    have HG1 : Hid (s.i ≤ s1.i ∧ s1.o = s.o) := hg1
    clear a1 a2 a3 a4 hF hc hs1 h hg1 h_s9 hb_HT
    obtain ⟨ck, cvk, cvi, cvt, cva, cfd⟩ := c
    go_enter Tryd.func139, Tryd.ntmps139
    go_wp2_with (first
      | (go_at_call 40; refine (HT.out _ HE0.out).mono ?_; rintro e w1 ⟨rfl, he1, hf1⟩; have HE1 : Hid (Env w1 g V L s ∧ Fr (fun i => i = g) w w1) := ⟨he1, hf1⟩; clear he1 hf1)
      | (go_at_call 140; refine (HC1.out _ HE1.out.1).mono ?_; rintro e w2 ⟨rfl, he2, hf2⟩; have HE2 : Hid (Env w2 g V L s1 ∧ Fr (fun i => i = g) w w2) := ⟨he2, HE1.out.2.trans hf2⟩; clear he2 hf2))
    have HR1 : Hid (Row (w2.alloc (.cells (opC ⟨ck, cvk, cvi, cvt, cva, cfd⟩).toArray 50)) (fun i => w.heap.size ≤ i) 50 6 (.slice (some ⟨w2.heap.size, 0, none⟩) 1 1) ([(⟨ck, cvk, cvi, cvt, cva, cfd⟩ : Opd)].map encO)) := Row.new HE2.out.2.size rfl (holdsO _ _ (⟨ck, cvk, cvi, cvt, cva, cfd⟩ : Opd))
    have HE3 : Hid (Env (w2.alloc (.cells (opC ⟨ck, cvk, cvi, cvt, cva, cfd⟩).toArray 50)) g V L s1 ∧ Fr (fun i => i = g) w (w2.alloc (.cells (opC ⟨ck, cvk, cvi, cvt, cva, cfd⟩).toArray 50))) := ⟨HE2.out.1.alloc _, HE2.out.2.alloc _⟩
    clear HE1 HE2
    go_loopg [7] L.length (fun k v wr => ∃ (acc : List Opd) (st : St), (Env wr g V L st ∧ Fr (fun i => i = g) w wr) ∧ Row wr (fun i => w.heap.size ≤ i) 50 6 v (acc.map encO) ∧ sep L [44] (sde L) k st acc = F ∧ acc.length + k ≤ 701 ∧ L.length ≤ st.i + k)
    case atStart => exact ⟨_, s1, HE3.out, HR1.out, HF0.out, by have := HLEN.out; simp; omega, by omega⟩
    case round =>
      obtain ⟨acc, st, hen, hrow, hsp, hk1, hk2⟩ := hrel
      obtain ⟨p, cap, rfl⟩ := hrow.shape
      rw [List.length_map] at hrow ⊢
      obtain ⟨n, hn⟩ : ∃ n, acc.length = n := ⟨_, rfl⟩
      have HNN : Hid (acc.length = n) := hn
      rw [hn] at hrow hk1 ⊢
      have HLr : Hid (Env wr g V L st ∧ Fr (fun i => i = g) w wr) := hen
      have HRW : Hid (Row wr (fun i => w.heap.size ≤ i) 50 6 (.slice p n cap) (acc.map encO)) := hrow
      have HU := takes_any wr g V L st [44] hen.1
      have HK : Hid (n + gk ≤ 701 ∧ L.length ≤ st.i + gk) := ⟨hk1, hk2⟩
      unfold tks at HU
      clear hen hrow hn hk1 HE3 HR1 HF0
      cases hm : see L [44] st
      · rw [hm] at HU
        simp only [Bool.false_eq_true, if_false] at HU
        have HU2 : Hid (Calls Tryd.prog 40 #[rp g, .string ⟨#[44]⟩] wr fun e w' => e = .returned (.bool false) ∧ Env w' g V L st ∧ Fr (fun i => i = g) wr w') := HU
        rw [sep_stop hm] at hsp
        subst hsp
        clear HU hm hk2
        go_wp2_with (first
          | (go_at_call 40; refine HU2.out.mono ?_; rintro e w3 ⟨rfl, he3, hf3⟩; have HE4 : Hid (Env w3 g V L st ∧ Fr (fun i => i = g) w w3) := ⟨he3, HLr.out.2.trans hf3⟩; have HRW3 : Hid (Row w3 (fun i => w.heap.size ≤ i) 50 6 (.slice p n cap) (acc.map encO)) := HRW.out.fr hf3 HGW.out; clear he3 hf3)
          | (go_at_call 82; refine (HX.out _ HE4.out.1).mono ?_; rintro e w4 ⟨rfl, he4, hf4⟩; have HE5 : Hid (Env w4 g V L s9 ∧ Fr (fun i => i = g) w w4) := ⟨he4, HE4.out.2.trans hf4⟩; have HRW4 : Hid (Row w4 (fun i => w.heap.size ≤ i) 50 6 (.slice p n cap) (acc.map encO)) := HRW3.out.fr hf4 HGW.out; clear he4 hf4))
        go_ret
        refine ⟨p, cap, ?_, ?_, HE5.out.1, HE5.out.2⟩
        · simp only [HNN.out]; rfl
        · simp only [HNN.out]; exact HRW4.out.holds
      · rw [hm] at HU
        simp only [if_true] at HU
        have HU2 : Hid (Calls Tryd.prog 40 #[rp g, .string ⟨#[44]⟩] wr fun e w' => e = .returned (.bool true) ∧ Env w' g V L st.adv ∧ Fr (fun i => i = g) wr w') := HU
        have hlt := (see_lt hm).2
        obtain ⟨k2, rfl⟩ : ∃ k2, gk = k2 + 1 := ⟨gk - 1, by omega⟩
        rw [sep_step hm] at hsp
        have hg2 := HG.out st.adv
        obtain ⟨d, hd⟩ : ∃ d, ((sde L) st.adv).1 = d := ⟨_, rfl⟩
        obtain ⟨s2, hs2⟩ : ∃ s2, ((sde L) st.adv).2 = s2 := ⟨_, rfl⟩
        rw [hd, hs2] at hsp
        rw [hs2] at hg2
        have HC2 : Hid (∀ W, Env W g V L st.adv → Calls Tryd.prog 140 #[rp g] W fun e w' => e = .returned (opV d) ∧ Env w' g V L s2 ∧ Fr (fun i => i = g) W w') := fun W hW => by
          have := HC.out W st.adv hW
          rw [hd, hs2] at this
          exact this
        have HSP : Hid (sep L [44] (sde L) k2 s2 (acc ++ [d]) = F) := hsp
        have HG2 : Hid (st.i + 1 ≤ s2.i) := hg2.1
        have HLN : Hid ((acc.map encO).length ≤ 800) := by
          have h1 := HNN.out
          have h2 := HK.out
          show (acc.map encO).length ≤ 800
          rw [List.length_map]
          omega
        obtain ⟨dk, dvk, dvi, dvt, dva, dfd⟩ := d
        clear HU hm hd hs2 hsp hg2 hk2 hlt
        go_wp2_with (first
          | (go_at_call 40; refine HU2.out.mono ?_; rintro e w3 ⟨rfl, he3, hf3⟩; have HE4 : Hid (Env w3 g V L st.adv ∧ Fr (fun i => i = g) w w3) := ⟨he3, HLr.out.2.trans hf3⟩; have HRW3 : Hid (Row w3 (fun i => w.heap.size ≤ i) 50 6 (.slice p n cap) (acc.map encO)) := HRW.out.fr hf3 HGW.out; clear he3 hf3)
          | (go_at_call 140; refine (HC2.out _ HE4.out.1).mono ?_; rintro e w4 ⟨rfl, he4, hf4⟩; have HE5 : Hid (Env w4 g V L s2 ∧ Fr (fun i => i = g) w w4) := ⟨he4, HE4.out.2.trans hf4⟩; have HRW4 : Hid (Row w4 (fun i => w.heap.size ≤ i) 50 6 (.slice p n cap) (acc.map encO)) := HRW3.out.fr hf4 HGW.out; clear he4 hf4)
          | (at_builtin; refine wp_app (by rfl) _ _ 40 (by rfl) 50 i0 zO 6 72 Tryd.underlying40 HI.out.1 HI.out.2.1 HI.out.2.2.1 HI.out.2.2.2 rfl (by omega) w.heap.size (.slice p n cap) (acc.map encO) (by rfl) (HRW4.out.alloc _) (Nat.le_trans HE5.out.2.size (by simp)) (encO (⟨dk, dvk, dvi, dvt, dva, dfd⟩ : Opd)) (opC ⟨dk, dvk, dvi, dvt, dva, dfd⟩) ⟨w4.heap.size, 0, none⟩ (by rfl) (by rfl) (World.news_of_block (heap_alloc_new _ _)) (by rfl) (holdsO _ _ (⟨dk, dvk, dvi, dvt, dva, dfd⟩ : Opd)) HLN.out (by omega) ?_; intro v' w5 hrw hgb hown; have HRW5 : Hid (Row w5 (fun i => w.heap.size ≤ i) 50 6 v' (acc.map encO ++ [encO (⟨dk, dvk, dvi, dvt, dva, dfd⟩ : Opd)])) := hrw; have HE6 : Hid (Env w5 g V L s2 ∧ Fr (fun i => i = g) w w5) := ⟨(HE5.out.1.alloc _).grown hgb hown HGW.out, (HE5.out.2.alloc _).grown hgb (fun k hk => .inr (hown k hk))⟩; clear hrw hgb hown))
        go_roundg k2
        case measure => omega
        case rel =>
          have hk := HK.out
          have hn := HNN.out
          have hg2 := HG2.out
          refine ⟨acc ++ [(⟨dk, dvk, dvi, dvt, dva, dfd⟩ : Opd)], s2, HE6.out, ?_, HSP.out, by simp; omega, by omega⟩
          rw [List.map_append]
          exact HRW5.out
  · simp only [if_true]
    have HT : Hid (∀ W, Env W g V L s → Calls Tryd.prog 40 #[rp g, .string ⟨#[41]⟩] W fun e w' => e = .returned (.bool true) ∧ Env w' g V L s.adv ∧ Fr (fun i => i = g) W w') := fun W hW => by
      have := takes_any W g V L s [41] hW
      unfold tks at this
      rw [hb_HT] at this
      exact this
    clear h hb_HT a1 a2 a3 a4
    go_enter Tryd.func139, Tryd.ntmps139
    go_wp2_with (go_at_call 40; refine (HT.out _ HE0.out).mono ?_; rintro e w1 ⟨rfl, he1, hf1⟩)
    go_ret
    exact ⟨none, 0, rfl, (Row.nil _ _ _ _).holds, he1, hf1⟩
end Go.Proofs.YtnlmkdncifijlaaDoor
namespace Go.Proofs.YtnlmkdncifijlaaDoor
open Go.ChangeShapes Go.WideShapes Go.ChangeAt Go.RowKit Go.Maps
set_option linter.unusedVariables false
set_option linter.unusedSimpArgs false
abbrev nsC (a : ByteArray) (v : Value) : List Value := [.string a, v]
def ns0 : List Value := nsC (txt []) (.slice none 0 0)
theorem lst_g {α : Type} (L : List Tk) (w : List UInt8) {p : St → α × St} (hp : Good p) : Good (lst L w p) := fun s => by
  unfold lst
  split
  · exact ⟨Nat.le_succ _, rfl⟩
  · have a := hp s
    have b := sep_g L [44] (hp.at (p s).2.o) L.length (p s).2 [(p s).1] rfl
    have c := wnt_i L w (sep L [44] p L.length (p s).2 [(p s).1]).2
    simp only
    omega
theorem typ_g (L : List Tk) : Good (typ L) := fun s => by
  have a := nam_g L s
  have b := wnt_i L [123] (nam L s).2
  have c := lst_g L [125] (fld_g L) (wnt L [123] (nam L s).2)
  unfold typ
  simp only
  omega
theorem emt_g (L : List Tk) : Good (emt L) := fun s => by
  have a := nam_g L s
  have b := wnt_i L [40] (nam L s).2
  have c := lst_g L [41] (sde_g L) (wnt L [40] (nam L s).2)
  unfold emt
  simp only
  omega
/-- What a name with a list leaves. -/
def NPost {α : Type} (w : World) (g : Nat) (V : Value) (L : List Tk) (T z : Nat) (enc : α → List Dat) (a : ByteArray) (l : List α) (s : St) (e : Ending) (w' : World) : Prop :=
  ∃ p cap, e = .returned (.agg #[.string a, .slice p l.length cap]) ∧ Holds w' (fun i => w.heap.size ≤ i) (.row T z (l.map enc)) (.slice p l.length cap) ∧ Env w' g V L s ∧ Fr (fun i => i = g) w w'
set_option maxHeartbeats 4000000 in
theorem eventType_any (w : World) (g : Nat) (V : Value) (L : List Tk) (s : St) (h : Env w g V L s) : Calls Tryd.prog 41 #[rp g] w (NPost w g V L 80 2 encF (typ L s).1.n (typ L s).1.f (typ L s).2) := by
  have HL0 : Hid (Loc w g V L (w.alloc (.cells ns0.toArray 76)) s w.heap.size ns0 76) := Loc.start h ns0 _
  have hmf := mkf
  have HGW : Hid (g < w.heap.size) := blk_lt h.blk
  unfold typ
  simp only
  obtain ⟨a, h_a⟩ : ∃ a, (nam L s).1 = a := ⟨_, rfl⟩
  obtain ⟨s1, h_s1⟩ : ∃ s1, (nam L s).2 = s1 := ⟨_, rfl⟩
  rw [h_a, h_s1]
  obtain ⟨s2, h_s2⟩ : ∃ s2, wnt L [123] s1 = s2 := ⟨_, rfl⟩
  rw [h_s2]
  have HA : Hid (∀ W, Env W g V L s → Calls Tryd.prog 81 #[rp g] W fun e w' => e = .returned (.string a) ∧ Env w' g V L s1 ∧ Fr (fun i => i = g) W w') := fun W hW => by
    have := ident_any W g V L s hW
    rw [h_a, h_s1] at this
    exact this
  have HW : Hid (∀ W, Env W g V L s1 → Calls Tryd.prog 82 #[rp g, .string ⟨#[123]⟩] W fun e w' => e = .returned (.tuple #[]) ∧ Env w' g V L s2 ∧ Fr (fun i => i = g) W w') := fun W hW => by
    have := wants_any W g V L s1 [123] hW
    rw [h_s2] at this
    exact this
  have HLS : Hid (∀ W, Env W g V L s2 → Calls Tryd.prog 83 #[rp g, .string ⟨#[125]⟩, .func (.func 84) #[rp g] #[]] W (LPost W g V L 80 2 encF (lst L [125] (fld L) s2).1 (lst L [125] (fld L) s2).2)) := fun W hW => listed_field W g V L s2 hW
  obtain ⟨l, hl⟩ : ∃ l, (lst L [125] (fld L) s2).1 = l := ⟨_, rfl⟩
  obtain ⟨s3, hs3⟩ : ∃ s3, (lst L [125] (fld L) s2).2 = s3 := ⟨_, rfl⟩
  rw [hl, hs3] at HLS ⊢
  obtain ⟨n1, hn1⟩ : ∃ n1, l.length = n1 := ⟨_, rfl⟩
  unfold LPost at HLS
  simp only [hn1] at HLS
  have HN1 : Hid (l.length = n1) := hn1
  clear h_a h_s1 h_s2 hl hs3 hn1 h
  go_enter Tryd.func41, Tryd.ntmps41
  go_wp2_with (first
      | (go_at_call 81; refine (HA.out _ HL0.out.env).mono ?_; rintro e w1 ⟨rfl, he_w1, hf_w1⟩; have HL1 : Hid (Lo2 w g V L (w1.alloc (.cells (nsC a (.slice none 0 0)).toArray 76)) s1 w.heap.size ns0 76 w1.heap.size (nsC a (.slice none 0 0)) 76) := (HL0.out.call he_w1 hf_w1).two _ _; clear he_w1 hf_w1)
      | (go_at_call 82; refine (HW.out _ HL1.out.env).mono ?_; rintro e w2 ⟨rfl, he_w2, hf_w2⟩; have HL2 : Hid (Lo2 w g V L w2 s2 w.heap.size ns0 76 w1.heap.size (nsC a (.slice none 0 0)) 76) := (HL1.out.call he_w2 hf_w2); clear he_w2 hf_w2)
      | (go_at_call 83; refine (HLS.out _ HL2.out.env).mono ?_; rintro e w4 ⟨p4, cap4, rfl, hh4, he4, hf4⟩; have HH4 : Hid (Holds w4 (fun i => w2.heap.size ≤ i) (.row 80 2 (l.map encF)) (.slice p4 n1 cap4)) := hh4; have HM4 : Hid (w.heap.size < w2.heap.size ∧ w1.heap.size < w2.heap.size) := ⟨blk_lt HL2.out.blk, blk_lt HL2.out.blk2⟩; have HL4 : Hid (Lo2 w g V L w4 s3 w.heap.size ns0 76 w1.heap.size (nsC a (.slice none 0 0)) 76) := HL2.out.call he4 hf4; clear hh4 he4 hf4)
      | (refine wp_st (by rfl) 74 _ _ (by rfl) w1.heap.size 1 (nsC a (.slice none 0 0)) 76 (.slice p4 n1 cap4) [.slice p4 n1 cap4] (by rfl) (by rfl) (by rfl) HL4.out.blk2 (Nat.le_of_ble_eq_true rfl) (by kernel_rfl) (by rfl) ?_; intro w5 hw_w5 hf_w5; have HL5 : Hid (Lo2 w g V L w5 s3 w.heap.size ns0 76 w1.heap.size (nsC a (.slice p4 n1 cap4)) 76) := HL4.out.st2 hw_w5 hf_w5; have HH5 : Hid (Holds w5 (fun i => w2.heap.size ≤ i) (.row 80 2 (l.map encF)) (.slice p4 n1 cap4)) := HH4.out.fr hf_w5 HM4.out.2; clear hw_w5 hf_w5)
      | (refine wp_ld (by rfl) 76 _ (by rfl) w1.heap.size (nsC a (.slice p4 n1 cap4)) 76 _ (by rfl) HL5.out.blk2 Tryd.underlying76 rfl (by kernel_rfl) ?_)
      | (refine wp_st (by rfl) 76 _ _ (by rfl) w.heap.size 0 ns0 76 (.agg (nsC a (.slice p4 n1 cap4)).toArray) (nsC a (.slice p4 n1 cap4)) (by rfl) (by rfl) (by rfl) HL5.out.blk (Nat.le_of_ble_eq_true rfl) (by kernel_rfl) (by rfl) ?_; intro w9 hw_w9 hf_w9; have HL9 : Hid (Loc w g V L w9 s3 w.heap.size (nsC a (.slice p4 n1 cap4)) 76) := HL5.out.loc.st hw_w9 hf_w9; have HH9 : Hid (Holds w9 (fun i => w2.heap.size ≤ i) (.row 80 2 (l.map encF)) (.slice p4 n1 cap4)) := HH5.out.fr hf_w9 HM4.out.1; clear hw_w9 hf_w9))
  refine ret_loc w.heap.size _ _ _ HL9.out.blk rfl rfl (by rfl) Tryd.underlying76 rfl (by kernel_rfl) ?_
  refine ⟨p4, cap4, ?_, ?_, HL9.out.env, HL9.out.fr⟩
  · simp only [HN1.out]
  · simp only [HN1.out]
    exact HH9.out.low (Nat.le_of_lt HM4.out.1)
set_option maxHeartbeats 4000000 in
theorem emit_any (w : World) (g : Nat) (V : Value) (L : List Tk) (s : St) (h : Env w g V L s) : Calls Tryd.prog 122 #[rp g] w (NPost w g V L 50 6 encO (emt L s).1.ty (emt L s).1.v (emt L s).2) := by
  have HL0 : Hid (Loc w g V L (w.alloc (.cells ns0.toArray 42)) s w.heap.size ns0 42) := Loc.start h ns0 _
  have hmf := mkf
  have HGW : Hid (g < w.heap.size) := blk_lt h.blk
  unfold emt
  simp only
  obtain ⟨a, h_a⟩ : ∃ a, (nam L s).1 = a := ⟨_, rfl⟩
  obtain ⟨s1, h_s1⟩ : ∃ s1, (nam L s).2 = s1 := ⟨_, rfl⟩
  rw [h_a, h_s1]
  obtain ⟨s2, h_s2⟩ : ∃ s2, wnt L [40] s1 = s2 := ⟨_, rfl⟩
  rw [h_s2]
  have HA : Hid (∀ W, Env W g V L s → Calls Tryd.prog 81 #[rp g] W fun e w' => e = .returned (.string a) ∧ Env w' g V L s1 ∧ Fr (fun i => i = g) W w') := fun W hW => by
    have := ident_any W g V L s hW
    rw [h_a, h_s1] at this
    exact this
  have HW : Hid (∀ W, Env W g V L s1 → Calls Tryd.prog 82 #[rp g, .string ⟨#[40]⟩] W fun e w' => e = .returned (.tuple #[]) ∧ Env w' g V L s2 ∧ Fr (fun i => i = g) W w') := fun W hW => by
    have := wants_any W g V L s1 [40] hW
    rw [h_s2] at this
    exact this
  have HLS : Hid (∀ W, Env W g V L s2 → Calls Tryd.prog 139 #[rp g, .string ⟨#[41]⟩, .func (.func 140) #[rp g] #[]] W (LPost W g V L 50 6 encO (lst L [41] (sde L) s2).1 (lst L [41] (sde L) s2).2)) := fun W hW => listed_side W g V L s2 hW
  obtain ⟨l, hl⟩ : ∃ l, (lst L [41] (sde L) s2).1 = l := ⟨_, rfl⟩
  obtain ⟨s3, hs3⟩ : ∃ s3, (lst L [41] (sde L) s2).2 = s3 := ⟨_, rfl⟩
  rw [hl, hs3] at HLS ⊢
  obtain ⟨n1, hn1⟩ : ∃ n1, l.length = n1 := ⟨_, rfl⟩
  unfold LPost at HLS
  simp only [hn1] at HLS
  have HN1 : Hid (l.length = n1) := hn1
  clear h_a h_s1 h_s2 hl hs3 hn1 h
  go_enter Tryd.func122, Tryd.ntmps122
  go_wp2_with (first
      | (go_at_call 81; refine (HA.out _ HL0.out.env).mono ?_; rintro e w1 ⟨rfl, he_w1, hf_w1⟩; have HL1 : Hid (Lo2 w g V L (w1.alloc (.cells (nsC a (.slice none 0 0)).toArray 42)) s1 w.heap.size ns0 42 w1.heap.size (nsC a (.slice none 0 0)) 42) := (HL0.out.call he_w1 hf_w1).two _ _; clear he_w1 hf_w1)
      | (go_at_call 82; refine (HW.out _ HL1.out.env).mono ?_; rintro e w2 ⟨rfl, he_w2, hf_w2⟩; have HL2 : Hid (Lo2 w g V L w2 s2 w.heap.size ns0 42 w1.heap.size (nsC a (.slice none 0 0)) 42) := (HL1.out.call he_w2 hf_w2); clear he_w2 hf_w2)
      | (go_at_call 139; refine (HLS.out _ HL2.out.env).mono ?_; rintro e w4 ⟨p4, cap4, rfl, hh4, he4, hf4⟩; have HH4 : Hid (Holds w4 (fun i => w2.heap.size ≤ i) (.row 50 6 (l.map encO)) (.slice p4 n1 cap4)) := hh4; have HM4 : Hid (w.heap.size < w2.heap.size ∧ w1.heap.size < w2.heap.size) := ⟨blk_lt HL2.out.blk, blk_lt HL2.out.blk2⟩; have HL4 : Hid (Lo2 w g V L w4 s3 w.heap.size ns0 42 w1.heap.size (nsC a (.slice none 0 0)) 42) := HL2.out.call he4 hf4; clear hh4 he4 hf4)
      | (refine wp_st (by rfl) 40 _ _ (by rfl) w1.heap.size 1 (nsC a (.slice none 0 0)) 42 (.slice p4 n1 cap4) [.slice p4 n1 cap4] (by rfl) (by rfl) (by rfl) HL4.out.blk2 (Nat.le_of_ble_eq_true rfl) (by kernel_rfl) (by rfl) ?_; intro w5 hw_w5 hf_w5; have HL5 : Hid (Lo2 w g V L w5 s3 w.heap.size ns0 42 w1.heap.size (nsC a (.slice p4 n1 cap4)) 42) := HL4.out.st2 hw_w5 hf_w5; have HH5 : Hid (Holds w5 (fun i => w2.heap.size ≤ i) (.row 50 6 (l.map encO)) (.slice p4 n1 cap4)) := HH4.out.fr hf_w5 HM4.out.2; clear hw_w5 hf_w5)
      | (refine wp_ld (by rfl) 42 _ (by rfl) w1.heap.size (nsC a (.slice p4 n1 cap4)) 42 _ (by rfl) HL5.out.blk2 Tryd.underlying42 rfl (by kernel_rfl) ?_)
      | (refine wp_st (by rfl) 42 _ _ (by rfl) w.heap.size 0 ns0 42 (.agg (nsC a (.slice p4 n1 cap4)).toArray) (nsC a (.slice p4 n1 cap4)) (by rfl) (by rfl) (by rfl) HL5.out.blk (Nat.le_of_ble_eq_true rfl) (by kernel_rfl) (by rfl) ?_; intro w9 hw_w9 hf_w9; have HL9 : Hid (Loc w g V L w9 s3 w.heap.size (nsC a (.slice p4 n1 cap4)) 42) := HL5.out.loc.st hw_w9 hf_w9; have HH9 : Hid (Holds w9 (fun i => w2.heap.size ≤ i) (.row 50 6 (l.map encO)) (.slice p4 n1 cap4)) := HH5.out.fr hf_w9 HM4.out.1; clear hw_w9 hf_w9))
  refine ret_loc w.heap.size _ _ _ HL9.out.blk rfl rfl (by rfl) Tryd.underlying42 rfl (by kernel_rfl) ?_
  refine ⟨p4, cap4, ?_, ?_, HL9.out.env, HL9.out.fr⟩
  · simp only [HN1.out]
  · simp only [HN1.out]
    exact HH9.out.low (Nat.le_of_lt HM4.out.1)
end Go.Proofs.YtnlmkdncifijlaaDoor
