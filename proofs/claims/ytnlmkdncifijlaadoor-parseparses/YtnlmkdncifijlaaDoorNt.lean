/-
  Conditions, nested as deep as they may be.
-/
import Derived.Test.YtnlmkdncifijlaaDoorJ
import Derived.Defers
namespace Go.Proofs.YtnlmkdncifijlaaDoor
open Go.ChangeShapes Go.WideShapes Go.ChangeAt Go.RowKit Go.Maps
set_option linter.unusedVariables false
set_option linter.unusedSimpArgs false
theorem mkf (fn : Fn) (first cap : Array Value) (w : World) : (Instr.makeFunc fn first cap).run Tryd.prog w = .ok (.func fn first cap) w := rfl
set_option maxHeartbeats 4000000 in
theorem and_of (g : Nat) (V : Value) (L : List Tk) (P : St → Cn × St) (ok : Nat) (hP : GoodA ok P)
    (hpart : ∀ W s, Env W g V L s → s.o = ok → Calls Tryd.prog 155 #[rp g] W (CPost W g V L (P s).1 (P s).2)) (w : World) (s : St) (h : Env w g V L s) (ho : s.o = ok) :
    Calls Tryd.prog 148 #[rp g] w (CPost w g V L (jnd L 1 [97, 110, 100] P s).1 (jnd L 1 [97, 110, 100] P s).2) := by
  have HL0 : Hid (Loc w g V L (w.alloc (.cells cm0.toArray 52)) s w.heap.size cm0 52) := Loc.start h cm0 _
  have HJ := joined_not g V L P ok hP hpart _ s HL0.out.env ho
  have hmf := mkf
  obtain ⟨c, hc⟩ : ∃ c, (jnd L 1 [97, 110, 100] P s).1 = c := ⟨_, rfl⟩
  obtain ⟨s1, hs1⟩ : ∃ s1, (jnd L 1 [97, 110, 100] P s).2 = s1 := ⟨_, rfl⟩
  rw [hc, hs1] at HJ ⊢
  obtain ⟨ck, csb, cl, cr⟩ := c
  obtain ⟨n1, hn1⟩ : ∃ n1, csb.length = n1 := ⟨_, rfl⟩
  unfold CPost at HJ
  simp only [hn1] at HJ
  have HJ2 : Hid (Calls Tryd.prog 147 #[rp g, .int .i64 1, .string ⟨#[97, 110, 100]⟩, .func (.func 155) #[rp g] #[]] (w.alloc (.cells cm0.toArray 52)) fun e w' => ∃ p cap, e = .returned (cnV ck (.slice p n1 cap) cl cr) ∧ Holds w' (fun i => (w.alloc (.cells cm0.toArray 52)).heap.size ≤ i) (.row 52 14 csb) (.slice p n1 cap) ∧ Env w' g V L s1 ∧ Fr (fun i => i = g) (w.alloc (.cells cm0.toArray 52)) w') := HJ
  have HN1 : Hid (csb.length = n1) := hn1
  clear hpart hP hc hs1 HJ h ho hn1
  go_enter Tryd.func148, Tryd.ntmps148
  go_wp2_with (first
    | (go_at_call 147; refine HJ2.out.mono ?_; rintro e w1 ⟨p1, cap1, rfl, hh1, he1, hf1⟩; have HH1 : Hid (Holds w1 (fun i => w.heap.size + 1 ≤ i) (.row 52 14 csb) (.slice p1 n1 cap1)) := hh1.low (by simp); have HL1 : Hid (Loc w g V L w1 s1 w.heap.size cm0 52) := HL0.out.call he1 hf1; clear hh1 he1 hf1)
    | (refine wp_st (by rfl) 52 _ _ (by rfl) w.heap.size 0 cm0 52 (cnV ck (.slice p1 n1 cap1) cl cr) (cnC ck (.slice p1 n1 cap1) cl cr) (by rfl) (by rfl) (by rfl) HL1.out.blk (Nat.le_of_ble_eq_true rfl) (by kernel_rfl) (by rfl) ?_; intro w9 hw_w9 hf_w9; have HL9 : Hid (Loc w g V L w9 s1 w.heap.size (cnC ck (.slice p1 n1 cap1) cl cr) 52) := HL1.out.st hw_w9 hf_w9; have HH9 : Hid (Holds w9 (fun i => w.heap.size + 1 ≤ i) (.row 52 14 csb) (.slice p1 n1 cap1)) := HH1.out.fr hf_w9 (Nat.lt_succ_self _); clear hw_w9 hf_w9))
  refine ret_loc w.heap.size _ _ _ HL9.out.blk rfl rfl (by rfl) Tryd.underlying52 rfl (by kernel_rfl) ?_
  refine ⟨p1, cap1, ?_, ?_, HL9.out.env, HL9.out.fr⟩
  · simp only [HN1.out]
  · simp only [HN1.out]
    exact HH9.out.low (Nat.le_succ _)
set_option maxHeartbeats 4000000 in
theorem or_of (g : Nat) (V : Value) (L : List Tk) (P : St → Cn × St) (ok : Nat) (hP : GoodA ok P)
    (hpart : ∀ W s, Env W g V L s → s.o = ok → Calls Tryd.prog 148 #[rp g] W (CPost W g V L (P s).1 (P s).2)) (w : World) (s : St) (h : Env w g V L s) (ho : s.o = ok) :
    Calls Tryd.prog 138 #[rp g] w (CPost w g V L (jnd L 2 [111, 114] P s).1 (jnd L 2 [111, 114] P s).2) := by
  have HL0 : Hid (Loc w g V L (w.alloc (.cells cm0.toArray 52)) s w.heap.size cm0 52) := Loc.start h cm0 _
  have HJ := joined_and g V L P ok hP hpart _ s HL0.out.env ho
  have hmf := mkf
  obtain ⟨c, hc⟩ : ∃ c, (jnd L 2 [111, 114] P s).1 = c := ⟨_, rfl⟩
  obtain ⟨s1, hs1⟩ : ∃ s1, (jnd L 2 [111, 114] P s).2 = s1 := ⟨_, rfl⟩
  rw [hc, hs1] at HJ ⊢
  obtain ⟨ck, csb, cl, cr⟩ := c
  obtain ⟨n1, hn1⟩ : ∃ n1, csb.length = n1 := ⟨_, rfl⟩
  unfold CPost at HJ
  simp only [hn1] at HJ
  have HJ2 : Hid (Calls Tryd.prog 147 #[rp g, .int .i64 2, .string ⟨#[111, 114]⟩, .func (.func 148) #[rp g] #[]] (w.alloc (.cells cm0.toArray 52)) fun e w' => ∃ p cap, e = .returned (cnV ck (.slice p n1 cap) cl cr) ∧ Holds w' (fun i => (w.alloc (.cells cm0.toArray 52)).heap.size ≤ i) (.row 52 14 csb) (.slice p n1 cap) ∧ Env w' g V L s1 ∧ Fr (fun i => i = g) (w.alloc (.cells cm0.toArray 52)) w') := HJ
  have HN1 : Hid (csb.length = n1) := hn1
  clear hpart hP hc hs1 HJ h ho hn1
  go_enter Tryd.func138, Tryd.ntmps138
  go_wp2_with (first
    | (go_at_call 147; refine HJ2.out.mono ?_; rintro e w1 ⟨p1, cap1, rfl, hh1, he1, hf1⟩; have HH1 : Hid (Holds w1 (fun i => w.heap.size + 1 ≤ i) (.row 52 14 csb) (.slice p1 n1 cap1)) := hh1.low (by simp); have HL1 : Hid (Loc w g V L w1 s1 w.heap.size cm0 52) := HL0.out.call he1 hf1; clear hh1 he1 hf1)
    | (refine wp_st (by rfl) 52 _ _ (by rfl) w.heap.size 0 cm0 52 (cnV ck (.slice p1 n1 cap1) cl cr) (cnC ck (.slice p1 n1 cap1) cl cr) (by rfl) (by rfl) (by rfl) HL1.out.blk (Nat.le_of_ble_eq_true rfl) (by kernel_rfl) (by rfl) ?_; intro w9 hw_w9 hf_w9; have HL9 : Hid (Loc w g V L w9 s1 w.heap.size (cnC ck (.slice p1 n1 cap1) cl cr) 52) := HL1.out.st hw_w9 hf_w9; have HH9 : Hid (Holds w9 (fun i => w.heap.size + 1 ≤ i) (.row 52 14 csb) (.slice p1 n1 cap1)) := HH1.out.fr hf_w9 (Nat.lt_succ_self _); clear hw_w9 hf_w9))
  refine ret_loc w.heap.size _ _ _ HL9.out.blk rfl rfl (by rfl) Tryd.underlying52 rfl (by kernel_rfl) ?_
  refine ⟨p1, cap1, ?_, ?_, HL9.out.env, HL9.out.fr⟩
  · simp only [HN1.out]
  · simp only [HN1.out]
    exact HH9.out.low (Nat.le_succ _)
set_option maxHeartbeats 8000000 in
theorem not_plain (g : Nat) (V : Value) (L : List Tk) (w : World) (s s0 s1 : St) (h : Env w g V L s) (h1 : opn L [110, 111, 116] s = (false, s0)) (h2 : opn L [40] s0 = (false, s1)) : Calls Tryd.prog 155 #[rp g] w (CPost w g V L (cmp L s1).1 (cmp L s1).2) := by
  have HL0 : Hid (Loc w g V L (w.alloc (.cells cm0.toArray 52)) s w.heap.size cm0 52) := Loc.start h cm0 _
  have HO1 : Hid (∀ W, Env W g V L s → Calls Tryd.prog 160 #[rp g, .string ⟨#[110, 111, 116]⟩] W fun e w' => e = .returned (.bool false) ∧ Env w' g V L s0 ∧ Fr (fun i => i = g) W w') := fun W hW => by
    have := opens_any W g V L s [110, 111, 116] hW
    rw [h1] at this
    exact this
  have HO2 : Hid (∀ W, Env W g V L s0 → Calls Tryd.prog 160 #[rp g, .string ⟨#[40]⟩] W fun e w' => e = .returned (.bool false) ∧ Env w' g V L s1 ∧ Fr (fun i => i = g) W w') := fun W hW => by
    have := opens_any W g V L s0 [40] hW
    rw [h2] at this
    exact this
  have HC : Hid (∀ W, Env W g V L s1 → Calls Tryd.prog 162 #[rp g] W (CPost W g V L (cmp L s1).1 (cmp L s1).2)) := fun W hW => compared_c W g V L s1 hW
  obtain ⟨c, hc⟩ : ∃ c, (cmp L s1).1 = c := ⟨_, rfl⟩
  obtain ⟨s2, hs2⟩ : ∃ s2, (cmp L s1).2 = s2 := ⟨_, rfl⟩
  rw [hc, hs2] at HC ⊢
  obtain ⟨ck, csb, cl, cr⟩ := c
  obtain ⟨n1, hn1⟩ : ∃ n1, csb.length = n1 := ⟨_, rfl⟩
  unfold CPost at HC
  simp only [hn1] at HC
  have HN1 : Hid (csb.length = n1) := hn1
  clear h h1 h2 hc hs2 hn1
  go_enter_defers Tryd.func155, Tryd.ntmps155
  go_wp2_with (first
    | (go_at_call_of 160 (Value.string ⟨#[110, 111, 116]⟩); refine (HO1.out _ HL0.out.env).mono ?_; rintro e w1 ⟨rfl, he_w1, hf_w1⟩; have HL1 : Hid (Loc w g V L w1 s0 w.heap.size cm0 52) := (HL0.out.call he_w1 hf_w1); clear he_w1 hf_w1)
    | (go_at_call_of 160 (Value.string ⟨#[40]⟩); refine (HO2.out _ HL1.out.env).mono ?_; rintro e w2 ⟨rfl, he_w2, hf_w2⟩; have HL2 : Hid (Loc w g V L w2 s1 w.heap.size cm0 52) := (HL1.out.call he_w2 hf_w2); clear he_w2 hf_w2)
    | (go_at_call 162; refine (HC.out _ HL2.out.env).mono ?_; rintro e w3 ⟨p1, cap1, rfl, hh1, he1, hf1⟩; have HH1 : Hid (Holds w3 (fun i => w.heap.size + 1 ≤ i) (.row 52 14 csb) (.slice p1 n1 cap1)) := hh1.low (by { have := blk_lt HL2.out.blk; omega }); have HL3 : Hid (Loc w g V L w3 s2 w.heap.size cm0 52) := HL2.out.call he1 hf1; clear hh1 he1 hf1)
    | (refine wp_st (by rfl) 52 _ _ (by rfl) w.heap.size 0 cm0 52 (cnV ck (.slice p1 n1 cap1) cl cr) (cnC ck (.slice p1 n1 cap1) cl cr) (by rfl) (by rfl) (by rfl) HL3.out.blk (Nat.le_of_ble_eq_true rfl) (by kernel_rfl) (by rfl) ?_; intro w9 hw_w9 hf_w9; have HL9 : Hid (Loc w g V L w9 s2 w.heap.size (cnC ck (.slice p1 n1 cap1) cl cr) 52) := HL3.out.st hw_w9 hf_w9; have HH9 : Hid (Holds w9 (fun i => w.heap.size + 1 ≤ i) (.row 52 14 csb) (.slice p1 n1 cap1)) := HH1.out.fr hf_w9 (Nat.lt_succ_self _); clear hw_w9 hf_w9))
  refine ⟨_, res1 rfl _ _ w.heap.size _ _ (by rfl) (range_blk HL9.out.blk) Tryd.underlying52 rfl (by kernel_rfl), ?_⟩
  refine ⟨p1, cap1, ?_, ?_, HL9.out.env, HL9.out.fr⟩
  · simp only [HN1.out]
  · simp only [HN1.out]
    exact HH9.out.low (Nat.le_succ _)
set_option maxHeartbeats 8000000 in
theorem not_any (g : Nat) (V : Value) (L : List Tk) : ∀ (n : Nat) (w : World) (s : St), Env w g V L s → s.o + n = 7 → Calls Tryd.prog 155 #[rp g] w (CPost w g V L (ntt L n s).1 (ntt L n s).2) := by
  intro n
  induction n with
  | zero =>
    intro w s h h7
    have full : ∀ (w : List UInt8) (s : St), s.o = 7 → (opn L w s).1 = false := fun w s h => by
      unfold opn
      split
      · simp [h]
      · rfl
    have a1 := full [110, 111, 116] s (by omega)
    have a2 := full [40] (opn L [110, 111, 116] s).2 (by rw [(opn_f a1).2]; omega)
    unfold ntt
    exact not_plain g V L w s (opn L [110, 111, 116] s).2 _ h (Prod.ext a1 rfl) (Prod.ext a2 rfl)
  | succ n ih =>
    intro w s h h7
    have HL0 : Hid (Loc w g V L (w.alloc (.cells cm0.toArray 52)) s w.heap.size cm0 52) := Loc.start h cm0 _
    have hgw := blk_lt h.blk
    unfold ntt
    cases h1 : (opn L [110, 111, 116] s).1
    · simp only [Bool.false_eq_true, if_false]
      have b1 := opn_f h1
      obtain ⟨s0, hs0⟩ : ∃ s0, (opn L [110, 111, 116] s).2 = s0 := ⟨_, rfl⟩
      rw [hs0] at b1 ⊢
      have e0 : opn L [110, 111, 116] s = (false, s0) := Prod.ext h1 hs0
      cases h2 : (opn L [40] s0).1
      · simp only [Bool.false_eq_true, if_false]
        exact not_plain g V L w s s0 _ h e0 (Prod.ext h2 rfl)
      · simp only [if_true]
        have HO1 : Hid (∀ W, Env W g V L s → Calls Tryd.prog 160 #[rp g, .string ⟨#[110, 111, 116]⟩] W fun e w' => e = .returned (.bool false) ∧ Env w' g V L s0 ∧ Fr (fun i => i = g) W w') := fun W hW => by
          have := opens_any W g V L s [110, 111, 116] hW
          rw [e0] at this
          exact this
        have e1 := opn_t h2
        obtain ⟨s1, hs1⟩ : ∃ s1, (opn L [40] s0).2 = s1 := ⟨_, rfl⟩
        have ho1 : s1.o = s.o + 1 := by rw [← hs1, e1]; show s0.o + 1 = _; omega
        have HO2 : Hid (∀ W, Env W g V L s0 → Calls Tryd.prog 160 #[rp g, .string ⟨#[40]⟩] W fun e w' => e = .returned (.bool true) ∧ Env w' g V L s1 ∧ Fr (fun i => i = g) W w') := fun W hW => by
          have := opens_any W g V L s0 [40] hW
          rw [h2, hs1] at this
          exact this
        rw [hs1]
        have HOR : Hid (∀ W, Env W g V L s1 → Calls Tryd.prog 138 #[rp g] W (CPost W g V L (orr L (ntt L n) s1).1 (orr L (ntt L n) s1).2)) := fun W hW =>
          or_of g V L _ s1.o (jnd_g L 1 _ (ntt_g L n s1.o (by omega))) (fun W2 s2 hW2 ho2 => and_of g V L _ s1.o (ntt_g L n s1.o (by omega)) (fun W3 s3 hW3 ho3 => ih W3 s3 hW3 (by omega)) W2 s2 hW2 ho2) W s1 hW rfl
        have hg2 : s1.i ≤ (orr L (ntt L n) s1).2.i ∧ (orr L (ntt L n) s1).2.o = s1.o := jnd_g L 2 [111, 114] (jnd_g L 1 [97, 110, 100] (ntt_g L n s1.o (by omega))) s1 rfl
        obtain ⟨c, hc⟩ : ∃ c, (orr L (ntt L n) s1).1 = c := ⟨_, rfl⟩
        obtain ⟨s4, hs4⟩ : ∃ s4, (orr L (ntt L n) s1).2 = s4 := ⟨_, rfl⟩
        rw [hc, hs4] at HOR
        rw [hs4] at hg2
        rw [hc, hs4]
        have hw4 := wnt_i L [41] s4
        obtain ⟨s2, hs2⟩ : ∃ s2, wnt L [41] s4 = s2 := ⟨_, rfl⟩
        have HW : Hid (∀ W, Env W g V L s4 → Calls Tryd.prog 82 #[rp g, .string ⟨#[41]⟩] W fun e w' => e = .returned (.tuple #[]) ∧ Env w' g V L s2 ∧ Fr (fun i => i = g) W w') := fun W hW => by
          have := wants_any W g V L s4 [41] hW
          rw [hs2] at this
          exact this
        rw [hs2] at hw4 ⊢
        have H2 : Hid (0 < s2.o) := by show 0 < s2.o; omega
        obtain ⟨ck, csb, cl, cr⟩ := c
        obtain ⟨n1, hn1⟩ : ∃ n1, csb.length = n1 := ⟨_, rfl⟩
        unfold CPost at HOR
        simp only [hn1] at HOR
        have HN1 : Hid (csb.length = n1) := hn1
        have HGW : Hid (g < w.heap.size) := hgw
        clear ih h1 h2 e1 e0 hs0 hs1 ho1 hc hs2 hs4 hg2 h h7 hn1 hw4 b1 hgw
        go_enter_defers Tryd.func155, Tryd.ntmps155
        go_wp2_with (first
          | (go_at_call_of 160 (Value.string ⟨#[110, 111, 116]⟩); refine (HO1.out _ HL0.out.env).mono ?_; rintro e w1 ⟨rfl, he_w1, hf_w1⟩; have HL1 : Hid (Loc w g V L w1 s0 w.heap.size cm0 52) := (HL0.out.call he_w1 hf_w1); clear he_w1 hf_w1)
          | (go_at_call_of 160 (Value.string ⟨#[40]⟩); refine (HO2.out _ HL1.out.env).mono ?_; rintro e w2 ⟨rfl, he_w2, hf_w2⟩; have HL2 : Hid (Loc w g V L w2 s1 w.heap.size cm0 52) := (HL1.out.call he_w2 hf_w2); clear he_w2 hf_w2)
          | (go_at_call 138; refine (HOR.out _ HL2.out.env).mono ?_; rintro e w3 ⟨p1, cap1, rfl, hh1, he1, hf1⟩; have HH1 : Hid (Holds w3 (fun i => w.heap.size + 1 ≤ i) (.row 52 14 csb) (.slice p1 n1 cap1)) := hh1.low (by { have := blk_lt HL2.out.blk; omega }); have HL3 : Hid (Lo2 w g V L (w3.alloc (.cells (cnC ck (.slice p1 n1 cap1) cl cr).toArray 52)) s4 w.heap.size cm0 52 w3.heap.size (cnC ck (.slice p1 n1 cap1) cl cr) 52) := (HL2.out.call he1 hf1).two _ _; have HA3 : Hid (Holds (w3.alloc (.cells (cnC ck (.slice p1 n1 cap1) cl cr).toArray 52)) (fun i => w.heap.size + 1 ≤ i) (.row 52 14 csb) (.slice p1 n1 cap1)) := HH1.out.on ((Fr.refl _ _).alloc _); clear hh1 he1 hf1)
          | (go_at_call 82; refine (HW.out _ HL3.out.env).mono ?_; rintro e w4 ⟨rfl, he4, hf4⟩; have HL4 : Hid (Lo2 w g V L w4 s2 w.heap.size cm0 52 w3.heap.size (cnC ck (.slice p1 n1 cap1) cl cr) 52) := HL3.out.call he4 hf4; have HH4 : Hid (Holds w4 (fun i => w.heap.size + 1 ≤ i) (.row 52 14 csb) (.slice p1 n1 cap1)) := HA3.out.fr hf4 (Nat.lt_succ_of_lt HGW.out); clear he4 hf4)
          | (refine wp_ld (by rfl) 52 _ (by rfl) w3.heap.size (cnC ck (.slice p1 n1 cap1) cl cr) 52 _ (by rfl) HL4.out.blk2 Tryd.underlying52 rfl (by kernel_rfl) ?_)
          | (refine wp_st (by rfl) 52 _ _ (by rfl) w.heap.size 0 cm0 52 (cnV ck (.slice p1 n1 cap1) cl cr) (cnC ck (.slice p1 n1 cap1) cl cr) (by rfl) (by rfl) (by rfl) HL4.out.blk (Nat.le_of_ble_eq_true rfl) (by kernel_rfl) (by rfl) ?_; intro w9 hw_w9 hf_w9; have HL9 : Hid (Loc w g V L w9 s2 w.heap.size (cnC ck (.slice p1 n1 cap1) cl cr) 52) := HL4.out.loc.st hw_w9 hf_w9; have HH9 : Hid (Holds w9 (fun i => w.heap.size + 1 ≤ i) (.row 52 14 csb) (.slice p1 n1 cap1)) := HH4.out.fr hf_w9 (Nat.lt_succ_self _); clear hw_w9 hf_w9))
        refine leaves_cons (f := 161) (args := #[rp g]) (by simp [Act.put]) (by simp [go_sem]) ?_
        refine (closes_d w9 g V L s2 .returning HL9.out.env H2.out).mono ?_
        rintro e u' w10 ⟨rfl, rfl, he10, hf10⟩
        have HL10 := HL9.out.call he10 hf10
        refine ⟨_, res1 rfl _ _ w.heap.size _ _ (by rfl) (range_blk HL10.blk) Tryd.underlying52 rfl (by kernel_rfl), ?_⟩
        refine ⟨p1, cap1, ?_, ?_, HL10.env, HL10.fr⟩
        · simp only [HN1.out]
        · simp only [HN1.out]
          exact (HH9.out.fr hf10 (Nat.lt_succ_of_lt HGW.out)).low (Nat.le_succ _)
    · have e1 := opn_t h1
      have HO : Hid (∀ W, Env W g V L s → Calls Tryd.prog 160 #[rp g, .string ⟨#[110, 111, 116]⟩] W fun e w' => e = .returned (.bool true) ∧ Env w' g V L (opn L [110, 111, 116] s).2 ∧ Fr (fun i => i = g) W w') := fun W hW => by
        have := opens_any W g V L s [110, 111, 116] hW
        rw [h1] at this
        exact this
      rw [e1] at HO ⊢
      simp only [if_true]
      obtain ⟨s1, hs1⟩ : ∃ s1, (⟨s.i + 1, s.o + 1, s.e⟩ : St) = s1 := ⟨_, rfl⟩
      have ho1 : s1.o = s.o + 1 := by rw [← hs1]
      rw [hs1] at HO ⊢
      obtain ⟨c, hc⟩ : ∃ c, (ntt L n s1).1 = c := ⟨_, rfl⟩
      obtain ⟨s2, hs2⟩ : ∃ s2, (ntt L n s1).2 = s2 := ⟨_, rfl⟩
      have hg2 := ntt_g L n s1.o (by omega) s1 rfl
      rw [hs2] at hg2
      have HN : Hid (∀ W, Env W g V L s1 → Calls Tryd.prog 155 #[rp g] W (CPost W g V L c s2)) := fun W hW => by
        have := ih W s1 hW (by omega)
        rw [hc, hs2] at this
        exact this
      rw [hc, hs2]
      have H2 : Hid (0 < s2.o) := by show 0 < s2.o; omega
      have HGW : Hid (g < w.heap.size) := hgw
      obtain ⟨ck, csb, cl, cr⟩ := c
      obtain ⟨n1, hn1⟩ : ∃ n1, csb.length = n1 := ⟨_, rfl⟩
      unfold CPost at HN
      simp only [hn1] at HN
      clear ih h1 e1 hs1 ho1 hc hs2 hg2 h h7 hn1 hgw
      go_enter_defers Tryd.func155, Tryd.ntmps155
      go_wp2_with (first
        | (go_at_call_of 160 (Value.string ⟨#[110, 111, 116]⟩); refine (HO.out _ HL0.out.env).mono ?_; rintro e w1 ⟨rfl, he_w1, hf_w1⟩; have HL1 : Hid (Loc w g V L w1 s1 w.heap.size cm0 52) := (HL0.out.call he_w1 hf_w1); clear he_w1 hf_w1)
        | (go_at_call 155; refine (HN.out _ HL1.out.env).mono ?_; rintro e w2 ⟨p2, cap2, rfl, hh2, he2, hf2⟩; have HH2 : Hid (Holds w2 (fun i => w.heap.size + 1 ≤ i) (.row 52 14 csb) (.slice p2 n1 cap2)) := hh2.low (by { have := blk_lt HL1.out.blk; omega }); have HL2 : Hid (Loc w g V L (w2.alloc (.cells (cnC ck (.slice p2 n1 cap2) cl cr).toArray 52)) s2 w.heap.size cm0 52) := (HL1.out.call he2 hf2).alloc _; have HR2 : Hid (Row (w2.alloc (.cells (cnC ck (.slice p2 n1 cap2) cl cr).toArray 52)) (fun i => w.heap.size + 1 ≤ i) 52 14 (.slice (some ⟨w2.heap.size, 0, none⟩) 1 1) [encC ⟨ck, csb, cl, cr⟩]) := Row.new (by { have := blk_lt (HL1.out.call he2 hf2).blk; omega }) rfl (holdsC (c := ⟨ck, csb, cl, cr⟩) HH2.out); clear hh2 he2 hf2)
        | (refine wp_st (by rfl) 52 _ _ (by rfl) w.heap.size 0 cm0 52 (cnV 3 (.slice (some ⟨w2.heap.size, 0, none⟩) 1 1) opd0 opd0) (cnC 3 (.slice (some ⟨w2.heap.size, 0, none⟩) 1 1) opd0 opd0) (by rfl) (by rfl) (by rfl) HL2.out.blk (Nat.le_of_ble_eq_true rfl) (by kernel_rfl) (by rfl) ?_; intro w9 hw_w9 hf_w9; have HL9 : Hid (Loc w g V L w9 s2 w.heap.size (cnC 3 (.slice (some ⟨w2.heap.size, 0, none⟩) 1 1) opd0 opd0) 52) := HL2.out.st hw_w9 hf_w9; have HH9 : Hid (Holds w9 (fun i => w.heap.size + 1 ≤ i) (.row 52 14 [encC ⟨ck, csb, cl, cr⟩]) (.slice (some ⟨w2.heap.size, 0, none⟩) 1 1)) := HR2.out.holds.fr hf_w9 (Nat.lt_succ_self _); clear hw_w9 hf_w9))
      refine leaves_cons (f := 161) (args := #[rp g]) (by simp [Act.put]) (by simp [go_sem]) ?_
      refine (closes_d w9 g V L s2 .returning HL9.out.env H2.out).mono ?_
      rintro e u' w10 ⟨rfl, rfl, he10, hf10⟩
      have HL10 := HL9.out.call he10 hf10
      refine ⟨_, res1 rfl _ _ w.heap.size _ _ (by rfl) (range_blk HL10.blk) Tryd.underlying52 rfl (by kernel_rfl), ?_⟩
      refine ⟨some ⟨w2.heap.size, 0, none⟩, 1, rfl, ?_, HL10.env, HL10.fr⟩
      exact (HH9.out.fr hf10 (Nat.lt_succ_of_lt HGW.out)).low (Nat.le_succ _)
/-- A condition, from its beginning on. -/
theorem or_any (g : Nat) (V : Value) (L : List Tk) (w : World) (s : St) (h : Env w g V L s) (h0 : s.o = 0) : Calls Tryd.prog 138 #[rp g] w (CPost w g V L (orr L (ntt L 7) s).1 (orr L (ntt L 7) s).2) :=
  or_of g V L _ 0 (jnd_g L 1 _ (ntt_g L 7 0 rfl)) (fun W2 s2 hW2 ho2 => and_of g V L _ 0 (ntt_g L 7 0 rfl) (fun W3 s3 hW3 ho3 => not_any g V L 7 W3 s3 hW3 (by omega)) W2 s2 hW2 ho2) w s h h0
end Go.Proofs.YtnlmkdncifijlaaDoor
