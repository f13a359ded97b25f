/-
  A field; an option.
-/
import Derived.Test.YtggfaglfchepfaaDoorNt
namespace Go.Proofs.YtggfaglfchepfaaDoor
open Go.ChangeShapes Go.WideShapes Go.ChangeAt Go.RowKit Go.Maps
set_option linter.unusedVariables false
set_option linter.unusedSimpArgs false
abbrev fdC (a : ByteArray) (k : Int) : List Value := [.string a, .int .i64 k]
def fd0 : List Value := fdC (txt []) 0
abbrev qC (r l h : Int) : List Value := [.int .i64 r, .int .i64 l, .int .i64 h]
def q0 : List Value := qC 0 0 0
theorem fld_g (L : List Tk) : Good (fld L) := fun s => by
  have a := nam_g L s
  have b := wnt_i L [58] (nam L s).2
  have c := fal_i L (wnt L [58] (nam L s).2)
  unfold fld
  simp only
  split
  · show s.i ≤ (wnt L [58] (nam L s).2).i + 1 ∧ (wnt L [58] (nam L s).2).o = s.o
    omega
  · split
    · show s.i ≤ (wnt L [58] (nam L s).2).i + 1 ∧ (wnt L [58] (nam L s).2).o = s.o
      omega
    · show s.i ≤ (fal L (wnt L [58] (nam L s).2)).i ∧ (fal L (wnt L [58] (nam L s).2)).o = s.o
      omega
theorem opt_g (L : List Tk) : Good (opt L) := fun s => by
  have a := rel_g L s
  have e1 : (rel L s).2.adv.i = (rel L s).2.i + 1 := rfl
  have e2 : (rel L s).2.adv.o = (rel L s).2.o := rfl
  have b := num_g L (rel L s).2.adv
  have c := wnt_i L [44] (num L (rel L s).2.adv).2
  unfold opt
  simp only
  split
  · split
    · have d := wnt_i L [41] (wnt L [44] (num L (rel L s).2.adv).2).adv
      have e3 : (wnt L [44] (num L (rel L s).2.adv).2).adv.i = (wnt L [44] (num L (rel L s).2.adv).2).i + 1 := rfl
      have e4 : (wnt L [44] (num L (rel L s).2.adv).2).adv.o = (wnt L [44] (num L (rel L s).2.adv).2).o := rfl
      simp only
      omega
    · have d := num_g L (wnt L [44] (num L (rel L s).2.adv).2)
      have f := wnt_i L [41] (num L (wnt L [44] (num L (rel L s).2.adv).2)).2
      simp only
      omega
  · simp only
    omega
set_option maxHeartbeats 4000000 in
theorem field_any (w : World) (g : Nat) (V : Value) (L : List Tk) (s : St) (h : Env w g V L s) : Calls Tryd.prog 88 #[rp g] w fun e w' => e = .returned (.agg #[.string (fld L s).1.n, .int .i64 (fld L s).1.k]) ∧ Env w' g V L (fld L s).2 ∧ Fr (fun i => i = g) w w' := by
  have HL0 : Hid (Loc w g V L (w.alloc (.cells fd0.toArray 71)) s w.heap.size fd0 71) := Loc.start h fd0 _
  unfold fld
  simp only
  obtain ⟨a, h_a⟩ : ∃ a, (nam L s).1 = a := ⟨_, rfl⟩
  obtain ⟨s1, h_s1⟩ : ∃ s1, (nam L s).2 = s1 := ⟨_, rfl⟩
  rw [h_a, h_s1]
  obtain ⟨s2, h_s2⟩ : ∃ s2, wnt L [58] s1 = s2 := ⟨_, rfl⟩
  rw [h_s2]
  have HA : Hid (∀ W, Env W g V L s → Calls Tryd.prog 85 #[rp g] W fun e w' => e = .returned (.string a) ∧ Env w' g V L s1 ∧ Fr (fun i => i = g) W w') := fun W hW => by
    have := ident_any W g V L s hW
    rw [h_a, h_s1] at this
    exact this
  have HW : Hid (∀ W, Env W g V L s1 → Calls Tryd.prog 86 #[rp g, .string ⟨#[58]⟩] W fun e w' => e = .returned (.tuple #[]) ∧ Env w' g V L s2 ∧ Fr (fun i => i = g) W w') := fun W hW => by
    have := wants_any W g V L s1 [58] hW
    rw [h_s2] at this
    exact this
  cases hb_HT : see L [105, 110, 116] s2
  · simp only [Bool.false_eq_true, if_false]
    have HT : Hid (∀ W, Env W g V L s2 → Calls Tryd.prog 42 #[rp g, .string ⟨#[105, 110, 116]⟩] W fun e w' => e = .returned (.bool false) ∧ Env w' g V L s2 ∧ Fr (fun i => i = g) W w') := fun W hW => by
      have := takes_any W g V L s2 [105, 110, 116] hW
      unfold tks at this
      rw [hb_HT] at this
      exact this
    cases hb_HU : see L [116, 101, 120, 116] s2
    · simp only [Bool.false_eq_true, if_false]
      have HU : Hid (∀ W, Env W g V L s2 → Calls Tryd.prog 42 #[rp g, .string ⟨#[116, 101, 120, 116]⟩] W fun e w' => e = .returned (.bool false) ∧ Env w' g V L s2 ∧ Fr (fun i => i = g) W w') := fun W hW => by
        have := takes_any W g V L s2 [116, 101, 120, 116] hW
        unfold tks at this
        rw [hb_HU] at this
        exact this
      obtain ⟨s3, h_s3⟩ : ∃ s3, fal L s2 = s3 := ⟨_, rfl⟩
      rw [h_s3]
      have HX : Hid (∀ W, Env W g V L s2 → Calls Tryd.prog 45 #[rp g] W fun e w' => e = .returned (.tuple #[]) ∧ Env w' g V L s3 ∧ Fr (fun i => i = g) W w') := fun W hW => by
        have := fail_any W g V L s2 hW
        rw [h_s3] at this
        exact this
      clear h_a h_s1 h_s2 h_s3 hb_HT hb_HU h
      go_enter Tryd.func88, Tryd.ntmps88
      go_wp2_with (first
      | (go_at_call 85; refine (HA.out _ HL0.out.env).mono ?_; rintro e w1 ⟨rfl, he_w1, hf_w1⟩; have HL1 : Hid (Lo2 w g V L (w1.alloc (.cells (fdC a 0).toArray 71)) s1 w.heap.size fd0 71 w1.heap.size (fdC a 0) 71) := (HL0.out.call he_w1 hf_w1).two _ _; clear he_w1 hf_w1)
      | (go_at_call 86; refine (HW.out _ HL1.out.env).mono ?_; rintro e w2 ⟨rfl, he_w2, hf_w2⟩; have HL2 : Hid (Lo2 w g V L w2 s2 w.heap.size fd0 71 w1.heap.size (fdC a 0) 71) := (HL1.out.call he_w2 hf_w2); clear he_w2 hf_w2)
      | (go_at_call_of 42 (Value.string ⟨#[105, 110, 116]⟩); refine (HT.out _ HL2.out.env).mono ?_; rintro e w3 ⟨rfl, he_w3, hf_w3⟩; have HL3 : Hid (Lo2 w g V L w3 s2 w.heap.size fd0 71 w1.heap.size (fdC a 0) 71) := (HL2.out.call he_w3 hf_w3); clear he_w3 hf_w3)
      | (go_at_call_of 42 (Value.string ⟨#[116, 101, 120, 116]⟩); refine (HU.out _ HL3.out.env).mono ?_; rintro e w4 ⟨rfl, he_w4, hf_w4⟩; have HL4 : Hid (Lo2 w g V L w4 s2 w.heap.size fd0 71 w1.heap.size (fdC a 0) 71) := (HL3.out.call he_w4 hf_w4); clear he_w4 hf_w4)
      | (go_at_call 45; refine (HX.out _ HL4.out.env).mono ?_; rintro e w5 ⟨rfl, he_w5, hf_w5⟩; have HLf : Hid (Lo2 w g V L w5 s3 w.heap.size fd0 71 w1.heap.size (fdC a 0) 71) := (HL4.out.call he_w5 hf_w5); clear he_w5 hf_w5)
      | (refine wp_ld (by rfl) 71 _ (by rfl) w1.heap.size (fdC a 0) 71 _ (by rfl) HLf.out.blk2 Tryd.underlying71 rfl (by kernel_rfl) ?_)
      | (refine wp_st (by rfl) 71 _ _ (by rfl) w.heap.size 0 fd0 71 (.agg (fdC a 0).toArray) (fdC a 0) (by rfl) (by rfl) (by rfl) HLf.out.blk (Nat.le_of_ble_eq_true rfl) (by kernel_rfl) (by rfl) ?_; intro w9 hw_w9 hf_w9; have HL9 : Hid (Loc w g V L w9 s3 w.heap.size (fdC a 0) 71) := HLf.out.loc.st hw_w9 hf_w9; clear hw_w9 hf_w9))
      refine ret_loc w.heap.size _ _ _ HL9.out.blk rfl rfl (by rfl) Tryd.underlying71 rfl (by kernel_rfl) ?_
      exact ⟨rfl, HL9.out.env, HL9.out.fr⟩
    · simp only [if_true]
      have HU : Hid (∀ W, Env W g V L s2 → Calls Tryd.prog 42 #[rp g, .string ⟨#[116, 101, 120, 116]⟩] W fun e w' => e = .returned (.bool true) ∧ Env w' g V L s2.adv ∧ Fr (fun i => i = g) W w') := fun W hW => by
        have := takes_any W g V L s2 [116, 101, 120, 116] hW
        unfold tks at this
        rw [hb_HU] at this
        exact this
      clear h_a h_s1 h_s2 hb_HT hb_HU h
      go_enter Tryd.func88, Tryd.ntmps88
      go_wp2_with (first
      | (go_at_call 85; refine (HA.out _ HL0.out.env).mono ?_; rintro e w1 ⟨rfl, he_w1, hf_w1⟩; have HL1 : Hid (Lo2 w g V L (w1.alloc (.cells (fdC a 0).toArray 71)) s1 w.heap.size fd0 71 w1.heap.size (fdC a 0) 71) := (HL0.out.call he_w1 hf_w1).two _ _; clear he_w1 hf_w1)
      | (go_at_call 86; refine (HW.out _ HL1.out.env).mono ?_; rintro e w2 ⟨rfl, he_w2, hf_w2⟩; have HL2 : Hid (Lo2 w g V L w2 s2 w.heap.size fd0 71 w1.heap.size (fdC a 0) 71) := (HL1.out.call he_w2 hf_w2); clear he_w2 hf_w2)
      | (go_at_call_of 42 (Value.string ⟨#[105, 110, 116]⟩); refine (HT.out _ HL2.out.env).mono ?_; rintro e w3 ⟨rfl, he_w3, hf_w3⟩; have HL3 : Hid (Lo2 w g V L w3 s2 w.heap.size fd0 71 w1.heap.size (fdC a 0) 71) := (HL2.out.call he_w3 hf_w3); clear he_w3 hf_w3)
      | (go_at_call_of 42 (Value.string ⟨#[116, 101, 120, 116]⟩); refine (HU.out _ HL3.out.env).mono ?_; rintro e w4 ⟨rfl, he_w4, hf_w4⟩; have HL4 : Hid (Lo2 w g V L w4 s2.adv w.heap.size fd0 71 w1.heap.size (fdC a 0) 71) := (HL3.out.call he_w4 hf_w4); clear he_w4 hf_w4)
      | (refine wp_st (by rfl) 3 _ _ (by rfl) w1.heap.size 1 (fdC a 0) 71 (.int .i64 2) [.int .i64 2] (by rfl) (by rfl) (by rfl) HL4.out.blk2 (Nat.le_of_ble_eq_true rfl) (by kernel_rfl) (by rfl) ?_; intro w5 hw_w5 hf_w5; have HLf : Hid (Lo2 w g V L w5 s2.adv w.heap.size fd0 71 w1.heap.size (fdC a 2) 71) := HL4.out.st2 hw_w5 hf_w5; clear hw_w5 hf_w5)
      | (refine wp_ld (by rfl) 71 _ (by rfl) w1.heap.size (fdC a 2) 71 _ (by rfl) HLf.out.blk2 Tryd.underlying71 rfl (by kernel_rfl) ?_)
      | (refine wp_st (by rfl) 71 _ _ (by rfl) w.heap.size 0 fd0 71 (.agg (fdC a 2).toArray) (fdC a 2) (by rfl) (by rfl) (by rfl) HLf.out.blk (Nat.le_of_ble_eq_true rfl) (by kernel_rfl) (by rfl) ?_; intro w9 hw_w9 hf_w9; have HL9 : Hid (Loc w g V L w9 s2.adv w.heap.size (fdC a 2) 71) := HLf.out.loc.st hw_w9 hf_w9; clear hw_w9 hf_w9))
      refine ret_loc w.heap.size _ _ _ HL9.out.blk rfl rfl (by rfl) Tryd.underlying71 rfl (by kernel_rfl) ?_
      exact ⟨rfl, HL9.out.env, HL9.out.fr⟩
  · simp only [if_true]
    have HT : Hid (∀ W, Env W g V L s2 → Calls Tryd.prog 42 #[rp g, .string ⟨#[105, 110, 116]⟩] W fun e w' => e = .returned (.bool true) ∧ Env w' g V L s2.adv ∧ Fr (fun i => i = g) W w') := fun W hW => by
      have := takes_any W g V L s2 [105, 110, 116] hW
      unfold tks at this
      rw [hb_HT] at this
      exact this
    clear h_a h_s1 h_s2 hb_HT h
    go_enter Tryd.func88, Tryd.ntmps88
    go_wp2_with (first
      | (go_at_call 85; refine (HA.out _ HL0.out.env).mono ?_; rintro e w1 ⟨rfl, he_w1, hf_w1⟩; have HL1 : Hid (Lo2 w g V L (w1.alloc (.cells (fdC a 0).toArray 71)) s1 w.heap.size fd0 71 w1.heap.size (fdC a 0) 71) := (HL0.out.call he_w1 hf_w1).two _ _; clear he_w1 hf_w1)
      | (go_at_call 86; refine (HW.out _ HL1.out.env).mono ?_; rintro e w2 ⟨rfl, he_w2, hf_w2⟩; have HL2 : Hid (Lo2 w g V L w2 s2 w.heap.size fd0 71 w1.heap.size (fdC a 0) 71) := (HL1.out.call he_w2 hf_w2); clear he_w2 hf_w2)
      | (go_at_call_of 42 (Value.string ⟨#[105, 110, 116]⟩); refine (HT.out _ HL2.out.env).mono ?_; rintro e w3 ⟨rfl, he_w3, hf_w3⟩; have HL3 : Hid (Lo2 w g V L w3 s2.adv w.heap.size fd0 71 w1.heap.size (fdC a 0) 71) := (HL2.out.call he_w3 hf_w3); clear he_w3 hf_w3)
      | (refine wp_st (by rfl) 3 _ _ (by rfl) w1.heap.size 1 (fdC a 0) 71 (.int .i64 1) [.int .i64 1] (by rfl) (by rfl) (by rfl) HL3.out.blk2 (Nat.le_of_ble_eq_true rfl) (by kernel_rfl) (by rfl) ?_; intro w5 hw_w5 hf_w5; have HLf : Hid (Lo2 w g V L w5 s2.adv w.heap.size fd0 71 w1.heap.size (fdC a 1) 71) := HL3.out.st2 hw_w5 hf_w5; clear hw_w5 hf_w5)
      | (refine wp_ld (by rfl) 71 _ (by rfl) w1.heap.size (fdC a 1) 71 _ (by rfl) HLf.out.blk2 Tryd.underlying71 rfl (by kernel_rfl) ?_)
      | (refine wp_st (by rfl) 71 _ _ (by rfl) w.heap.size 0 fd0 71 (.agg (fdC a 1).toArray) (fdC a 1) (by rfl) (by rfl) (by rfl) HLf.out.blk (Nat.le_of_ble_eq_true rfl) (by kernel_rfl) (by rfl) ?_; intro w9 hw_w9 hf_w9; have HL9 : Hid (Loc w g V L w9 s2.adv w.heap.size (fdC a 1) 71) := HLf.out.loc.st hw_w9 hf_w9; clear hw_w9 hf_w9))
    refine ret_loc w.heap.size _ _ _ HL9.out.blk rfl rfl (by rfl) Tryd.underlying71 rfl (by kernel_rfl) ?_
    exact ⟨rfl, HL9.out.env, HL9.out.fr⟩
set_option maxHeartbeats 4000000 in
theorem option_any (w : World) (g : Nat) (V : Value) (L : List Tk) (s : St) (h : Env w g V L s) : Calls Tryd.prog 156 #[rp g] w fun e w' => e = .returned (.agg #[.int .i64 (opt L s).1.r, .int .i64 (opt L s).1.lo, .int .i64 (opt L s).1.hi]) ∧ Env w' g V L (opt L s).2 ∧ Fr (fun i => i = g) w w' := by
  have HL0 : Hid (Loc w g V L (w.alloc (.cells q0.toArray 53)) s w.heap.size q0 53) := Loc.start h q0 _
  unfold opt
  simp only
  obtain ⟨r, h_r⟩ : ∃ r, (rel L s).1 = r := ⟨_, rfl⟩
  obtain ⟨s1, h_s1⟩ : ∃ s1, (rel L s).2 = s1 := ⟨_, rfl⟩
  rw [h_r, h_s1]
  have HA : Hid (∀ W, Env W g V L s → Calls Tryd.prog 170 #[rp g] W fun e w' => e = .returned (.int .i64 r) ∧ Env w' g V L s1 ∧ Fr (fun i => i = g) W w') := fun W hW => by
    have := relation_any W g V L s hW
    rw [h_r, h_s1] at this
    exact this
  cases hb_HT : see L [40] s1
  · simp only [Bool.false_eq_true, if_false]
    have HT : Hid (∀ W, Env W g V L s1 → Calls Tryd.prog 42 #[rp g, .string ⟨#[40]⟩] W fun e w' => e = .returned (.bool false) ∧ Env w' g V L s1 ∧ Fr (fun i => i = g) W w') := fun W hW => by
      have := takes_any W g V L s1 [40] hW
      unfold tks at this
      rw [hb_HT] at this
      exact this
    clear h_r h_s1 hb_HT h
    go_enter Tryd.func156, Tryd.ntmps156
    go_wp2_with (first
      | (go_at_call 170; refine (HA.out _ HL0.out.env).mono ?_; rintro e w1 ⟨rfl, he_w1, hf_w1⟩; have HL1 : Hid (Lo2 w g V L (w1.alloc (.cells (qC r 0 (-1)).toArray 53)) s1 w.heap.size q0 53 w1.heap.size (qC r 0 (-1)) 53) := (HL0.out.call he_w1 hf_w1).two _ _; clear he_w1 hf_w1)
      | (go_at_call 42; refine (HT.out _ HL1.out.env).mono ?_; rintro e w2 ⟨rfl, he_w2, hf_w2⟩; have HL2 : Hid (Lo2 w g V L w2 s1 w.heap.size q0 53 w1.heap.size (qC r 0 (-1)) 53) := (HL1.out.call he_w2 hf_w2); clear he_w2 hf_w2)
      | (refine wp_ld (by rfl) 53 _ (by rfl) w1.heap.size (qC r 0 (-1)) 53 _ (by rfl) HL2.out.blk2 Tryd.underlying53 rfl (by kernel_rfl) ?_)
      | (refine wp_st (by rfl) 53 _ _ (by rfl) w.heap.size 0 q0 53 (.agg (qC r 0 (-1)).toArray) (qC r 0 (-1)) (by rfl) (by rfl) (by rfl) HL2.out.blk (Nat.le_of_ble_eq_true rfl) (by kernel_rfl) (by rfl) ?_; intro w9 hw_w9 hf_w9; have HL9 : Hid (Loc w g V L w9 s1 w.heap.size (qC r 0 (-1)) 53) := HL2.out.loc.st hw_w9 hf_w9; clear hw_w9 hf_w9))
    refine ret_loc w.heap.size _ _ _ HL9.out.blk rfl rfl (by rfl) Tryd.underlying53 rfl (by kernel_rfl) ?_
    exact ⟨rfl, HL9.out.env, HL9.out.fr⟩
  · simp only [if_true]
    have HT : Hid (∀ W, Env W g V L s1 → Calls Tryd.prog 42 #[rp g, .string ⟨#[40]⟩] W fun e w' => e = .returned (.bool true) ∧ Env w' g V L s1.adv ∧ Fr (fun i => i = g) W w') := fun W hW => by
      have := takes_any W g V L s1 [40] hW
      unfold tks at this
      rw [hb_HT] at this
      exact this
    obtain ⟨lo, h_lo⟩ : ∃ lo, (num L s1.adv).1 = lo := ⟨_, rfl⟩
    obtain ⟨s2, h_s2⟩ : ∃ s2, (num L s1.adv).2 = s2 := ⟨_, rfl⟩
    rw [h_lo, h_s2]
    have HN : Hid (∀ W, Env W g V L s1.adv → Calls Tryd.prog 152 #[rp g] W fun e w' => e = .returned (.int .i64 lo) ∧ Env w' g V L s2 ∧ Fr (fun i => i = g) W w') := fun W hW => by
      have := number_any W g V L s1.adv hW
      rw [h_lo, h_s2] at this
      exact this
    obtain ⟨s3, h_s3⟩ : ∃ s3, wnt L [44] s2 = s3 := ⟨_, rfl⟩
    rw [h_s3]
    have HW : Hid (∀ W, Env W g V L s2 → Calls Tryd.prog 86 #[rp g, .string ⟨#[44]⟩] W fun e w' => e = .returned (.tuple #[]) ∧ Env w' g V L s3 ∧ Fr (fun i => i = g) W w') := fun W hW => by
      have := wants_any W g V L s2 [44] hW
      rw [h_s3] at this
      exact this
    cases hb_HU : see L [97, 110, 121] s3
    · simp only [Bool.false_eq_true, if_false]
      have HU : Hid (∀ W, Env W g V L s3 → Calls Tryd.prog 42 #[rp g, .string ⟨#[97, 110, 121]⟩] W fun e w' => e = .returned (.bool false) ∧ Env w' g V L s3 ∧ Fr (fun i => i = g) W w') := fun W hW => by
        have := takes_any W g V L s3 [97, 110, 121] hW
        unfold tks at this
        rw [hb_HU] at this
        exact this
      obtain ⟨hi, h_hi⟩ : ∃ hi, (num L s3).1 = hi := ⟨_, rfl⟩
      obtain ⟨s4, h_s4⟩ : ∃ s4, (num L s3).2 = s4 := ⟨_, rfl⟩
      rw [h_hi, h_s4]
      have HM : Hid (∀ W, Env W g V L s3 → Calls Tryd.prog 152 #[rp g] W fun e w' => e = .returned (.int .i64 hi) ∧ Env w' g V L s4 ∧ Fr (fun i => i = g) W w') := fun W hW => by
        have := number_any W g V L s3 hW
        rw [h_hi, h_s4] at this
        exact this
      obtain ⟨s5, h_s5⟩ : ∃ s5, wnt L [41] s4 = s5 := ⟨_, rfl⟩
      rw [h_s5]
      have HX : Hid (∀ W, Env W g V L s4 → Calls Tryd.prog 86 #[rp g, .string ⟨#[41]⟩] W fun e w' => e = .returned (.tuple #[]) ∧ Env w' g V L s5 ∧ Fr (fun i => i = g) W w') := fun W hW => by
        have := wants_any W g V L s4 [41] hW
        rw [h_s5] at this
        exact this
      clear h_r h_s1 h_lo h_s2 h_s3 h_hi h_s4 h_s5 hb_HT hb_HU h
      go_enter Tryd.func156, Tryd.ntmps156
      go_wp2_with (first
      | (go_at_call 170; refine (HA.out _ HL0.out.env).mono ?_; rintro e w1 ⟨rfl, he_w1, hf_w1⟩; have HL1 : Hid (Lo2 w g V L (w1.alloc (.cells (qC r 0 (-1)).toArray 53)) s1 w.heap.size q0 53 w1.heap.size (qC r 0 (-1)) 53) := (HL0.out.call he_w1 hf_w1).two _ _; clear he_w1 hf_w1)
      | (go_at_call_of 42 (Value.string ⟨#[40]⟩); refine (HT.out _ HL1.out.env).mono ?_; rintro e w2 ⟨rfl, he_w2, hf_w2⟩; have HL2 : Hid (Lo2 w g V L w2 s1.adv w.heap.size q0 53 w1.heap.size (qC r 0 (-1)) 53) := (HL1.out.call he_w2 hf_w2); clear he_w2 hf_w2)
      | (go_at_call 152; refine (HM.out _ HL6.out.env).mono ?_; rintro e w7 ⟨rfl, he_w7, hf_w7⟩; have HL7 : Hid (Lo2 w g V L w7 s4 w.heap.size q0 53 w1.heap.size (qC r lo (-1)) 53) := (HL6.out.call he_w7 hf_w7); clear he_w7 hf_w7)
      | (go_at_call 152; refine (HN.out _ HL2.out.env).mono ?_; rintro e w3 ⟨rfl, he_w3, hf_w3⟩; have HL3 : Hid (Lo2 w g V L w3 s2 w.heap.size q0 53 w1.heap.size (qC r 0 (-1)) 53) := (HL2.out.call he_w3 hf_w3); clear he_w3 hf_w3)
      | (refine wp_st (by rfl) 3 _ _ (by rfl) w1.heap.size 2 (qC r lo (-1)) 53 (.int .i64 hi) [.int .i64 hi] (by rfl) (by rfl) (by rfl) HL7.out.blk2 (Nat.le_of_ble_eq_true rfl) (by kernel_rfl) (by rfl) ?_; intro w8 hw_w8 hf_w8; have HL8 : Hid (Lo2 w g V L w8 s4 w.heap.size q0 53 w1.heap.size (qC r lo hi) 53) := HL7.out.st2 hw_w8 hf_w8; clear hw_w8 hf_w8)
      | (refine wp_st (by rfl) 3 _ _ (by rfl) w1.heap.size 1 (qC r 0 (-1)) 53 (.int .i64 lo) [.int .i64 lo] (by rfl) (by rfl) (by rfl) HL3.out.blk2 (Nat.le_of_ble_eq_true rfl) (by kernel_rfl) (by rfl) ?_; intro w4 hw_w4 hf_w4; have HL4 : Hid (Lo2 w g V L w4 s2 w.heap.size q0 53 w1.heap.size (qC r lo (-1)) 53) := HL3.out.st2 hw_w4 hf_w4; clear hw_w4 hf_w4)
      | (go_at_call_of 86 (Value.string ⟨#[44]⟩); refine (HW.out _ HL4.out.env).mono ?_; rintro e w5 ⟨rfl, he_w5, hf_w5⟩; have HL5 : Hid (Lo2 w g V L w5 s3 w.heap.size q0 53 w1.heap.size (qC r lo (-1)) 53) := (HL4.out.call he_w5 hf_w5); clear he_w5 hf_w5)
      | (go_at_call_of 42 (Value.string ⟨#[97, 110, 121]⟩); refine (HU.out _ HL5.out.env).mono ?_; rintro e w6 ⟨rfl, he_w6, hf_w6⟩; have HL6 : Hid (Lo2 w g V L w6 s3 w.heap.size q0 53 w1.heap.size (qC r lo (-1)) 53) := (HL5.out.call he_w6 hf_w6); clear he_w6 hf_w6)
      | (go_at_call_of 86 (Value.string ⟨#[41]⟩); refine (HX.out _ HL8.out.env).mono ?_; rintro e w10 ⟨rfl, he_w10, hf_w10⟩; have HL10 : Hid (Lo2 w g V L w10 s5 w.heap.size q0 53 w1.heap.size (qC r lo hi) 53) := (HL8.out.call he_w10 hf_w10); clear he_w10 hf_w10)
      | (refine wp_ld (by rfl) 53 _ (by rfl) w1.heap.size (qC r lo hi) 53 _ (by rfl) HL10.out.blk2 Tryd.underlying53 rfl (by kernel_rfl) ?_)
      | (refine wp_st (by rfl) 53 _ _ (by rfl) w.heap.size 0 q0 53 (.agg (qC r lo hi).toArray) (qC r lo hi) (by rfl) (by rfl) (by rfl) HL10.out.blk (Nat.le_of_ble_eq_true rfl) (by kernel_rfl) (by rfl) ?_; intro w9 hw_w9 hf_w9; have HL9 : Hid (Loc w g V L w9 s5 w.heap.size (qC r lo hi) 53) := HL10.out.loc.st hw_w9 hf_w9; clear hw_w9 hf_w9))
      refine ret_loc w.heap.size _ _ _ HL9.out.blk rfl rfl (by rfl) Tryd.underlying53 rfl (by kernel_rfl) ?_
      exact ⟨rfl, HL9.out.env, HL9.out.fr⟩
    · simp only [if_true]
      have HU : Hid (∀ W, Env W g V L s3 → Calls Tryd.prog 42 #[rp g, .string ⟨#[97, 110, 121]⟩] W fun e w' => e = .returned (.bool true) ∧ Env w' g V L s3.adv ∧ Fr (fun i => i = g) W w') := fun W hW => by
        have := takes_any W g V L s3 [97, 110, 121] hW
        unfold tks at this
        rw [hb_HU] at this
        exact this
      obtain ⟨s5, h_s5⟩ : ∃ s5, wnt L [41] s3.adv = s5 := ⟨_, rfl⟩
      rw [h_s5]
      have HX : Hid (∀ W, Env W g V L s3.adv → Calls Tryd.prog 86 #[rp g, .string ⟨#[41]⟩] W fun e w' => e = .returned (.tuple #[]) ∧ Env w' g V L s5 ∧ Fr (fun i => i = g) W w') := fun W hW => by
        have := wants_any W g V L s3.adv [41] hW
        rw [h_s5] at this
        exact this
      clear h_r h_s1 h_lo h_s2 h_s3 h_s5 hb_HT hb_HU h
      go_enter Tryd.func156, Tryd.ntmps156
      go_wp2_with (first
      | (go_at_call 170; refine (HA.out _ HL0.out.env).mono ?_; rintro e w1 ⟨rfl, he_w1, hf_w1⟩; have HL1 : Hid (Lo2 w g V L (w1.alloc (.cells (qC r 0 (-1)).toArray 53)) s1 w.heap.size q0 53 w1.heap.size (qC r 0 (-1)) 53) := (HL0.out.call he_w1 hf_w1).two _ _; clear he_w1 hf_w1)
      | (go_at_call_of 42 (Value.string ⟨#[40]⟩); refine (HT.out _ HL1.out.env).mono ?_; rintro e w2 ⟨rfl, he_w2, hf_w2⟩; have HL2 : Hid (Lo2 w g V L w2 s1.adv w.heap.size q0 53 w1.heap.size (qC r 0 (-1)) 53) := (HL1.out.call he_w2 hf_w2); clear he_w2 hf_w2)
      | (go_at_call 152; refine (HN.out _ HL2.out.env).mono ?_; rintro e w3 ⟨rfl, he_w3, hf_w3⟩; have HL3 : Hid (Lo2 w g V L w3 s2 w.heap.size q0 53 w1.heap.size (qC r 0 (-1)) 53) := (HL2.out.call he_w3 hf_w3); clear he_w3 hf_w3)
      | (refine wp_st (by rfl) 3 _ _ (by rfl) w1.heap.size 1 (qC r 0 (-1)) 53 (.int .i64 lo) [.int .i64 lo] (by rfl) (by rfl) (by rfl) HL3.out.blk2 (Nat.le_of_ble_eq_true rfl) (by kernel_rfl) (by rfl) ?_; intro w4 hw_w4 hf_w4; have HL4 : Hid (Lo2 w g V L w4 s2 w.heap.size q0 53 w1.heap.size (qC r lo (-1)) 53) := HL3.out.st2 hw_w4 hf_w4; clear hw_w4 hf_w4)
      | (go_at_call_of 86 (Value.string ⟨#[44]⟩); refine (HW.out _ HL4.out.env).mono ?_; rintro e w5 ⟨rfl, he_w5, hf_w5⟩; have HL5 : Hid (Lo2 w g V L w5 s3 w.heap.size q0 53 w1.heap.size (qC r lo (-1)) 53) := (HL4.out.call he_w5 hf_w5); clear he_w5 hf_w5)
      | (go_at_call_of 42 (Value.string ⟨#[97, 110, 121]⟩); refine (HU.out _ HL5.out.env).mono ?_; rintro e w6 ⟨rfl, he_w6, hf_w6⟩; have HL6 : Hid (Lo2 w g V L w6 s3.adv w.heap.size q0 53 w1.heap.size (qC r lo (-1)) 53) := (HL5.out.call he_w6 hf_w6); clear he_w6 hf_w6)
      | (go_at_call_of 86 (Value.string ⟨#[41]⟩); refine (HX.out _ HL6.out.env).mono ?_; rintro e w10 ⟨rfl, he_w10, hf_w10⟩; have HL10 : Hid (Lo2 w g V L w10 s5 w.heap.size q0 53 w1.heap.size (qC r lo (-1)) 53) := (HL6.out.call he_w10 hf_w10); clear he_w10 hf_w10)
      | (refine wp_ld (by rfl) 53 _ (by rfl) w1.heap.size (qC r lo (-1)) 53 _ (by rfl) HL10.out.blk2 Tryd.underlying53 rfl (by kernel_rfl) ?_)
      | (refine wp_st (by rfl) 53 _ _ (by rfl) w.heap.size 0 q0 53 (.agg (qC r lo (-1)).toArray) (qC r lo (-1)) (by rfl) (by rfl) (by rfl) HL10.out.blk (Nat.le_of_ble_eq_true rfl) (by kernel_rfl) (by rfl) ?_; intro w9 hw_w9 hf_w9; have HL9 : Hid (Loc w g V L w9 s5 w.heap.size (qC r lo (-1)) 53) := HL10.out.loc.st hw_w9 hf_w9; clear hw_w9 hf_w9))
      refine ret_loc w.heap.size _ _ _ HL9.out.blk rfl rfl (by rfl) Tryd.underlying53 rfl (by kernel_rfl) ?_
      exact ⟨rfl, HL9.out.env, HL9.out.fr⟩
end Go.Proofs.YtggfaglfchepfaaDoor
