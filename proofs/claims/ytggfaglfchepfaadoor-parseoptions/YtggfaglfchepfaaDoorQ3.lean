/-
  A type; an emit.
-/
import Derived.Test.YtggfaglfchepfaaDoorQ2
namespace Go.Proofs.YtggfaglfchepfaaDoor
open Go.ChangeShapes Go.WideShapes Go.ChangeAt Go.RowKit Go.Maps
set_option linter.unusedVariables false
set_option linter.unusedSimpArgs false
abbrev nsC (a : ByteArray) (v : Value) : List Value := [.string a, v]
def ns0 : List Value := nsC (txt []) (.slice none 0 0)
theorem lst_g {α : Type} (L : List Tk) (w : List UInt8) {p : St → α × St} (hp : Good p) : Good (lst L w p) := fun s => by
  unfold lst
  split
  · exact ⟨Nat.le_succ _, rfl⟩
  · have a := hp s
    have b := sep_g L [44] (hp.at (p s).2.o) L.length (p s).2 [(p s).1] rfl
    have c := wnt_i L w (sep L [44] p L.length (p s).2 [(p s).1]).2
    simp only
    omega
theorem typ_g (L : List Tk) : Good (typ L) := fun s => by
  have a := nam_g L s
  have b := wnt_i L [123] (nam L s).2
  have c := lst_g L [125] (fld_g L) (wnt L [123] (nam L s).2)
  unfold typ
  simp only
  omega
theorem emt_g (L : List Tk) : Good (emt L) := fun s => by
  have a := nam_g L s
  have b := wnt_i L [40] (nam L s).2
  have c := lst_g L [41] (sde_g L) (wnt L [40] (nam L s).2)
  unfold emt
  simp only
  omega
/-- What a name with a list leaves. -/
def NPost {α : Type} (w : World) (g : Nat) (V : Value) (L : List Tk) (T z : Nat) (enc : α → List Dat) (a : ByteArray) (l : List α) (s : St) (e : Ending) (w' : World) : Prop :=
  ∃ p cap, e = .returned (.agg #[.string a, .slice p l.length cap]) ∧ Holds w' (fun i => w.heap.size ≤ i) (.row T z (l.map enc)) (.slice p l.length cap) ∧ Env w' g V L s ∧ Fr (fun i => i = g) w w'
set_option maxHeartbeats 4000000 in
theorem eventType_any (w : World) (g : Nat) (V : Value) (L : List Tk) (s : St) (h : Env w g V L s) : Calls Tryd.prog 43 #[rp g] w (NPost w g V L 71 2 encF (typ L s).1.n (typ L s).1.f (typ L s).2) := by
  have HL0 : Hid (Loc w g V L (w.alloc (.cells ns0.toArray 67)) s w.heap.size ns0 67) := Loc.start h ns0 _
  have hmf := mkf
  have HGW : Hid (g < w.heap.size) := blk_lt h.blk
  unfold typ
  simp only
  obtain ⟨a, h_a⟩ : ∃ a, (nam L s).1 = a := ⟨_, rfl⟩
  obtain ⟨s1, h_s1⟩ : ∃ s1, (nam L s).2 = s1 := ⟨_, rfl⟩
  rw [h_a, h_s1]
  obtain ⟨s2, h_s2⟩ : ∃ s2, wnt L [123] s1 = s2 := ⟨_, rfl⟩
  rw [h_s2]
  have HA : Hid (∀ W, Env W g V L s → Calls Tryd.prog 85 #[rp g] W fun e w' => e = .returned (.string a) ∧ Env w' g V L s1 ∧ Fr (fun i => i = g) W w') := fun W hW => by
    have := ident_any W g V L s hW
    rw [h_a, h_s1] at this
    exact this
  have HW : Hid (∀ W, Env W g V L s1 → Calls Tryd.prog 86 #[rp g, .string ⟨#[123]⟩] W fun e w' => e = .returned (.tuple #[]) ∧ Env w' g V L s2 ∧ Fr (fun i => i = g) W w') := fun W hW => by
    have := wants_any W g V L s1 [123] hW
    rw [h_s2] at this
    exact this
  have HLS : Hid (∀ W, Env W g V L s2 → Calls Tryd.prog 87 #[rp g, .string ⟨#[125]⟩, .func (.func 88) #[rp g] #[]] W (LPost W g V L 71 2 encF (lst L [125] (fld L) s2).1 (lst L [125] (fld L) s2).2)) := fun W hW => listed_field W g V L s2 hW
  obtain ⟨l, hl⟩ : ∃ l, (lst L [125] (fld L) s2).1 = l := ⟨_, rfl⟩
  obtain ⟨s3, hs3⟩ : ∃ s3, (lst L [125] (fld L) s2).2 = s3 := ⟨_, rfl⟩
  rw [hl, hs3] at HLS ⊢
  obtain ⟨n1, hn1⟩ : ∃ n1, l.length = n1 := ⟨_, rfl⟩
  unfold LPost at HLS
  simp only [hn1] at HLS
  have HN1 : Hid (l.length = n1) := hn1
  clear h_a h_s1 h_s2 hl hs3 hn1 h
  go_enter Tryd.func43, Tryd.ntmps43
  go_wp2_with (first
      | (go_at_call 85; refine (HA.out _ HL0.out.env).mono ?_; rintro e w1 ⟨rfl, he_w1, hf_w1⟩; have HL1 : Hid (Lo2 w g V L (w1.alloc (.cells (nsC a (.slice none 0 0)).toArray 67)) s1 w.heap.size ns0 67 w1.heap.size (nsC a (.slice none 0 0)) 67) := (HL0.out.call he_w1 hf_w1).two _ _; clear he_w1 hf_w1)
      | (go_at_call 86; refine (HW.out _ HL1.out.env).mono ?_; rintro e w2 ⟨rfl, he_w2, hf_w2⟩; have HL2 : Hid (Lo2 w g V L w2 s2 w.heap.size ns0 67 w1.heap.size (nsC a (.slice none 0 0)) 67) := (HL1.out.call he_w2 hf_w2); clear he_w2 hf_w2)
      | (go_at_call 87; refine (HLS.out _ HL2.out.env).mono ?_; rintro e w4 ⟨p4, cap4, rfl, hh4, he4, hf4⟩; have HH4 : Hid (Holds w4 (fun i => w2.heap.size ≤ i) (.row 71 2 (l.map encF)) (.slice p4 n1 cap4)) := hh4; have HM4 : Hid (w.heap.size < w2.heap.size ∧ w1.heap.size < w2.heap.size) := ⟨blk_lt HL2.out.blk, blk_lt HL2.out.blk2⟩; have HL4 : Hid (Lo2 w g V L w4 s3 w.heap.size ns0 67 w1.heap.size (nsC a (.slice none 0 0)) 67) := HL2.out.call he4 hf4; clear hh4 he4 hf4)
      | (refine wp_st (by rfl) 65 _ _ (by rfl) w1.heap.size 1 (nsC a (.slice none 0 0)) 67 (.slice p4 n1 cap4) [.slice p4 n1 cap4] (by rfl) (by rfl) (by rfl) HL4.out.blk2 (Nat.le_of_ble_eq_true rfl) (by kernel_rfl) (by rfl) ?_; intro w5 hw_w5 hf_w5; have HL5 : Hid (Lo2 w g V L w5 s3 w.heap.size ns0 67 w1.heap.size (nsC a (.slice p4 n1 cap4)) 67) := HL4.out.st2 hw_w5 hf_w5; have HH5 : Hid (Holds w5 (fun i => w2.heap.size ≤ i) (.row 71 2 (l.map encF)) (.slice p4 n1 cap4)) := HH4.out.fr hf_w5 HM4.out.2; clear hw_w5 hf_w5)
      | (refine wp_ld (by rfl) 67 _ (by rfl) w1.heap.size (nsC a (.slice p4 n1 cap4)) 67 _ (by rfl) HL5.out.blk2 Tryd.underlying67 rfl (by kernel_rfl) ?_)
      | (refine wp_st (by rfl) 67 _ _ (by rfl) w.heap.size 0 ns0 67 (.agg (nsC a (.slice p4 n1 cap4)).toArray) (nsC a (.slice p4 n1 cap4)) (by rfl) (by rfl) (by rfl) HL5.out.blk (Nat.le_of_ble_eq_true rfl) (by kernel_rfl) (by rfl) ?_; intro w9 hw_w9 hf_w9; have HL9 : Hid (Loc w g V L w9 s3 w.heap.size (nsC a (.slice p4 n1 cap4)) 67) := HL5.out.loc.st hw_w9 hf_w9; have HH9 : Hid (Holds w9 (fun i => w2.heap.size ≤ i) (.row 71 2 (l.map encF)) (.slice p4 n1 cap4)) := HH5.out.fr hf_w9 HM4.out.1; clear hw_w9 hf_w9))
  refine ret_loc w.heap.size _ _ _ HL9.out.blk rfl rfl (by rfl) Tryd.underlying67 rfl (by kernel_rfl) ?_
  refine ⟨p4, cap4, ?_, ?_, HL9.out.env, HL9.out.fr⟩
  · simp only [HN1.out]
  · simp only [HN1.out]
    exact HH9.out.low (Nat.le_of_lt HM4.out.1)
set_option maxHeartbeats 4000000 in
theorem emit_any (w : World) (g : Nat) (V : Value) (L : List Tk) (s : St) (h : Env w g V L s) : Calls Tryd.prog 135 #[rp g] w (NPost w g V L 104 6 encO (emt L s).1.ty (emt L s).1.v (emt L s).2) := by
  have HL0 : Hid (Loc w g V L (w.alloc (.cells ns0.toArray 46)) s w.heap.size ns0 46) := Loc.start h ns0 _
  have hmf := mkf
  have HGW : Hid (g < w.heap.size) := blk_lt h.blk
  unfold emt
  simp only
  obtain ⟨a, h_a⟩ : ∃ a, (nam L s).1 = a := ⟨_, rfl⟩
  obtain ⟨s1, h_s1⟩ : ∃ s1, (nam L s).2 = s1 := ⟨_, rfl⟩
  rw [h_a, h_s1]
  obtain ⟨s2, h_s2⟩ : ∃ s2, wnt L [40] s1 = s2 := ⟨_, rfl⟩
  rw [h_s2]
  have HA : Hid (∀ W, Env W g V L s → Calls Tryd.prog 85 #[rp g] W fun e w' => e = .returned (.string a) ∧ Env w' g V L s1 ∧ Fr (fun i => i = g) W w') := fun W hW => by
    have := ident_any W g V L s hW
    rw [h_a, h_s1] at this
    exact this
  have HW : Hid (∀ W, Env W g V L s1 → Calls Tryd.prog 86 #[rp g, .string ⟨#[40]⟩] W fun e w' => e = .returned (.tuple #[]) ∧ Env w' g V L s2 ∧ Fr (fun i => i = g) W w') := fun W hW => by
    have := wants_any W g V L s1 [40] hW
    rw [h_s2] at this
    exact this
  have HLS : Hid (∀ W, Env W g V L s2 → Calls Tryd.prog 154 #[rp g, .string ⟨#[41]⟩, .func (.func 155) #[rp g] #[]] W (LPost W g V L 104 6 encO (lst L [41] (sde L) s2).1 (lst L [41] (sde L) s2).2)) := fun W hW => listed_side W g V L s2 hW
  obtain ⟨l, hl⟩ : ∃ l, (lst L [41] (sde L) s2).1 = l := ⟨_, rfl⟩
  obtain ⟨s3, hs3⟩ : ∃ s3, (lst L [41] (sde L) s2).2 = s3 := ⟨_, rfl⟩
  rw [hl, hs3] at HLS ⊢
  obtain ⟨n1, hn1⟩ : ∃ n1, l.length = n1 := ⟨_, rfl⟩
  unfold LPost at HLS
  simp only [hn1] at HLS
  have HN1 : Hid (l.length = n1) := hn1
  clear h_a h_s1 h_s2 hl hs3 hn1 h
  go_enter Tryd.func135, Tryd.ntmps135
  go_wp2_with (first
      | (go_at_call 85; refine (HA.out _ HL0.out.env).mono ?_; rintro e w1 ⟨rfl, he_w1, hf_w1⟩; have HL1 : Hid (Lo2 w g V L (w1.alloc (.cells (nsC a (.slice none 0 0)).toArray 46)) s1 w.heap.size ns0 46 w1.heap.size (nsC a (.slice none 0 0)) 46) := (HL0.out.call he_w1 hf_w1).two _ _; clear he_w1 hf_w1)
      | (go_at_call 86; refine (HW.out _ HL1.out.env).mono ?_; rintro e w2 ⟨rfl, he_w2, hf_w2⟩; have HL2 : Hid (Lo2 w g V L w2 s2 w.heap.size ns0 46 w1.heap.size (nsC a (.slice none 0 0)) 46) := (HL1.out.call he_w2 hf_w2); clear he_w2 hf_w2)
      | (go_at_call 154; refine (HLS.out _ HL2.out.env).mono ?_; rintro e w4 ⟨p4, cap4, rfl, hh4, he4, hf4⟩; have HH4 : Hid (Holds w4 (fun i => w2.heap.size ≤ i) (.row 104 6 (l.map encO)) (.slice p4 n1 cap4)) := hh4; have HM4 : Hid (w.heap.size < w2.heap.size ∧ w1.heap.size < w2.heap.size) := ⟨blk_lt HL2.out.blk, blk_lt HL2.out.blk2⟩; have HL4 : Hid (Lo2 w g V L w4 s3 w.heap.size ns0 46 w1.heap.size (nsC a (.slice none 0 0)) 46) := HL2.out.call he4 hf4; clear hh4 he4 hf4)
      | (refine wp_st (by rfl) 44 _ _ (by rfl) w1.heap.size 1 (nsC a (.slice none 0 0)) 46 (.slice p4 n1 cap4) [.slice p4 n1 cap4] (by rfl) (by rfl) (by rfl) HL4.out.blk2 (Nat.le_of_ble_eq_true rfl) (by kernel_rfl) (by rfl) ?_; intro w5 hw_w5 hf_w5; have HL5 : Hid (Lo2 w g V L w5 s3 w.heap.size ns0 46 w1.heap.size (nsC a (.slice p4 n1 cap4)) 46) := HL4.out.st2 hw_w5 hf_w5; have HH5 : Hid (Holds w5 (fun i => w2.heap.size ≤ i) (.row 104 6 (l.map encO)) (.slice p4 n1 cap4)) := HH4.out.fr hf_w5 HM4.out.2; clear hw_w5 hf_w5)
      | (refine wp_ld (by rfl) 46 _ (by rfl) w1.heap.size (nsC a (.slice p4 n1 cap4)) 46 _ (by rfl) HL5.out.blk2 Tryd.underlying46 rfl (by kernel_rfl) ?_)
      | (refine wp_st (by rfl) 46 _ _ (by rfl) w.heap.size 0 ns0 46 (.agg (nsC a (.slice p4 n1 cap4)).toArray) (nsC a (.slice p4 n1 cap4)) (by rfl) (by rfl) (by rfl) HL5.out.blk (Nat.le_of_ble_eq_true rfl) (by kernel_rfl) (by rfl) ?_; intro w9 hw_w9 hf_w9; have HL9 : Hid (Loc w g V L w9 s3 w.heap.size (nsC a (.slice p4 n1 cap4)) 46) := HL5.out.loc.st hw_w9 hf_w9; have HH9 : Hid (Holds w9 (fun i => w2.heap.size ≤ i) (.row 104 6 (l.map encO)) (.slice p4 n1 cap4)) := HH5.out.fr hf_w9 HM4.out.1; clear hw_w9 hf_w9))
  refine ret_loc w.heap.size _ _ _ HL9.out.blk rfl rfl (by rfl) Tryd.underlying46 rfl (by kernel_rfl) ?_
  refine ⟨p4, cap4, ?_, ?_, HL9.out.env, HL9.out.fr⟩
  · simp only [HN1.out]
  · simp only [HN1.out]
    exact HH9.out.low (Nat.le_of_lt HM4.out.1)
end Go.Proofs.YtggfaglfchepfaaDoor
