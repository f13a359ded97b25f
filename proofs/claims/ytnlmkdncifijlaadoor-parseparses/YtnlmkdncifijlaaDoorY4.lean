/-
  The reference reads a condition without and, or.
-/
import Derived.Test.YtnlmkdncifijlaaDoorY3
import Derived.Test.YtnlmkdncifijlaaDoorJ
namespace Go.Proofs.YtnlmkdncifijlaaDoor.Ref
open Go.ChangeShapes Go.WideShapes Go.ChangeAt Go.RowKit Go.Maps
set_option linter.unusedVariables false
set_option linter.unusedSimpArgs false
set_option maxRecDepth 20000
theorem opn_see {L : List Tk} {x : List UInt8} {s : St} (h : see L x s = true) (ho : s.o ≠ 7) : opn L x s = (true, ⟨s.i + 1, s.o + 1, s.e⟩) := by unfold opn; rw [if_pos h, if_neg ho]
theorem opn_no {L : List Tk} {x : List UInt8} {s : St} (h : see L x s = false) : opn L x s = (false, s) := by unfold opn; rw [h, if_neg (by decide)]
theorem opn_deep {L : List Tk} {x : List UInt8} {s : St} (h : see L x s = true) (ho : s.o = 7) : opn L x s = (false, ⟨s.i, s.o, 14⟩) := by unfold opn; rw [if_pos h, if_pos ho]
theorem ntt_not (L : List Tk) (n : Nat) (s : St) (h : see L [110, 111, 116] s = true) (ho : s.o ≠ 7) : ntt L (n + 1) s = (⟨3, [encC (ntt L n ⟨s.i + 1, s.o + 1, s.e⟩).1], opd0, opd0⟩, cls (ntt L n ⟨s.i + 1, s.o + 1, s.e⟩).2) := by
  rw [ntt, opn_see h ho, if_pos rfl]
theorem ntt_par (L : List Tk) (n : Nat) (s : St) (h : see L [110, 111, 116] s = false) (h2 : see L [40] s = true) (ho : s.o ≠ 7) : ntt L (n + 1) s = ((orr L (ntt L n) ⟨s.i + 1, s.o + 1, s.e⟩).1, cls (wnt L [41] (orr L (ntt L n) ⟨s.i + 1, s.o + 1, s.e⟩).2)) := by
  rw [ntt, opn_no h]
  simp only [Bool.false_eq_true, if_false]
  rw [opn_see h2 ho]
  simp only [if_true]
theorem ntt_cmp (L : List Tk) (n : Nat) (s : St) (h : see L [110, 111, 116] s = false) (h2 : see L [40] s = false) : ntt L n s = cmp L s := by
  cases n with
  | zero => rw [ntt, opn_no h]; simp only; rw [opn_no h2]
  | succ n => rw [ntt, opn_no h]; simp only [Bool.false_eq_true, if_false]; rw [opn_no h2]; simp only [Bool.false_eq_true, if_false]
theorem cmp_err (L : List Tk) (s : St) (h : s.e ≠ 0) : cmp L s = (cn0, s) := by
  have h1 : (sde L s).2 = s := by
    unfold sde
    rw [nxt_err h, if_neg (by decide), if_neg (by decide), see_err h, if_neg (by decide), nam_err h, see_err h, if_neg (by decide)]
  unfold cmp
  rw [h1]
  simp only [cml, cmf, see_err h, Bool.false_eq_true, if_false]
  rw [fal_err h]
theorem ntt_deep (L : List Tk) (s : St) (h : see L [110, 111, 116] s = true ∨ see L [40] s = true) (ho : s.o = 7) : ntt L 0 s = (cn0, ⟨s.i, s.o, 14⟩) := by
  have e14 : (⟨s.i, s.o, 14⟩ : St).e ≠ 0 := by show (14 : Int) ≠ 0; decide
  rw [ntt]
  by_cases h1 : see L [110, 111, 116] s = true
  · rw [opn_deep h1 ho]
    simp only
    rw [opn_no (see_err e14)]
    exact cmp_err L _ e14
  · have h2 : see L [40] s = true := by rcases h with c | c; exact absurd c h1; exact c
    rw [opn_no (x := [110, 111, 116]) (s := s) (by simpa using h1)]
    simp only
    rw [opn_deep h2 ho]
    exact cmp_err L _ e14
set_option maxHeartbeats 4000000 in
theorem tests_cmp_w (w : World) (g : Nat) (V : Value) (L : List Tk) (s : St) (d : Int) (k m : Int) (tx : ByteArray) (h : Env w g V L s) (ht : nxt L s = ⟨k, tx, m⟩) (hk : k = 1) (htx : ¬ tx.toList = [110, 111, 116]) (hb_HD : see L [110, 111, 116] s = false) (hb_HE : see L [40] s = false) : Calls Tryd.prog 87 #[rp g, .int .i64 2, .int .i64 d] w (CPost w g V L (cmp L s).1 (cmp L s).2) := by
  have HL0 : Hid (Loc w g V L (w.alloc (.cells cm0.toArray 52)) s w.heap.size cm0 52) := Loc.start h cm0 _
  have HGW : Hid (g < w.heap.size) := blk_lt h.blk
  have HN : Hid (∀ W, Env W g V L s → Calls Tryd.prog 47 #[rp g] W fun e w' => e = .returned (.agg #[.int .i64 k, .string tx, .int .i64 m]) ∧ Fr (fun _ => False) W w') := fun W hW => by
    have := next_any W g V L s hW
    rw [ht] at this
    exact this
  have HD : Hid (∀ W, Env W g V L s → Calls Tryd.prog 20 #[rp g, .int .i64 1, .string ⟨#[110, 111, 116]⟩] W fun e w' => e = .returned (.bool false) ∧ Env w' g V L s ∧ Fr (fun i => i = g) W w') := fun W hW => by
    have := is_any W g V L s 1 [110, 111, 116] (.inl ⟨rfl, by kernel_rfl⟩) hW
    unfold tks at this
    rw [hb_HD] at this
    exact this
  have HE : Hid (∀ W, Env W g V L s → Calls Tryd.prog 20 #[rp g, .int .i64 4, .string ⟨#[40]⟩] W fun e w' => e = .returned (.bool false) ∧ Env w' g V L s ∧ Fr (fun i => i = g) W w') := fun W hW => by
    have := is_any W g V L s 4 [40] (.inr ⟨rfl, by decide⟩) hW
    unfold tks at this
    rw [hb_HE] at this
    exact this
  obtain ⟨⟨ck, csb, cl, cr⟩, hc⟩ : ∃ c, (cmp L s).1 = c := ⟨_, rfl⟩
  obtain ⟨s2, hs2⟩ : ∃ s2, (cmp L s).2 = s2 := ⟨_, rfl⟩
  obtain ⟨n1, hn1⟩ : ∃ n1, csb.length = n1 := ⟨_, rfl⟩
  have HN1 : Hid (csb.length = n1) := hn1
  have HT : Hid (∀ W, Env W g V L s → Calls Tryd.prog 124 #[rp g] W (CPost W g V L ⟨ck, csb, cl, cr⟩ s2)) := fun W hW => by
    have := test_any W g V L s hW
    rw [hc, hs2] at this
    exact this
  unfold CPost at HT
  simp only [hn1] at HT
  rw [hc, hs2]
  have q1 : (k == 1) = true := by simpa using hk
  have q4 : (k == 4) = false := by simp; omega
  have p1 : (tx.toList == [110, 111, 116]) = false := by simpa using htx
  clear h ht hb_HD hb_HE hc hs2 hn1 hk
  go_enter Tryd.func87, Tryd.ntmps87
  go_wp2_with (first
      | (go_at_call 47; refine (HN.out _ HL0.out.env).mono ?_; rintro e w1 ⟨rfl, hf1⟩; have HL1 : Hid (Loc w g V L (w1.alloc (.cells #[.int .i64 k, .string tx, .int .i64 m] 65)) s w.heap.size cm0 52) := (HL0.out.on hf1).alloc _; clear hf1)
      | (go_at_call_of 20 (Value.string ⟨#[110, 111, 116]⟩); refine (HD.out _ HL1.out.env).mono ?_; rintro e w2 ⟨rfl, he_w2, hf_w2⟩; have HL2 : Hid (Loc w g V L w2 s w.heap.size cm0 52) := (HL1.out.call he_w2 hf_w2); clear he_w2 hf_w2)
      | (go_at_call_of 20 (Value.string ⟨#[40]⟩); refine (HE.out _ HL2.out.env).mono ?_; rintro e w3 ⟨rfl, he_w3, hf_w3⟩; have HL3 : Hid (Loc w g V L w3 s w.heap.size cm0 52) := (HL2.out.call he_w3 hf_w3); clear he_w3 hf_w3)
      | (go_at_call 124; refine (HT.out _ HL3.out.env).mono ?_; rintro e w4 ⟨p3, cap3, rfl, hh_w4, he_w4, hf_w4⟩; have HL4 : Hid (Loc w g V L w4 s2 w.heap.size cm0 52) := HL3.out.call he_w4 hf_w4; have HH3 : Hid (Holds w4 (fun i => w.heap.size + 1 ≤ i) (.row 52 14 csb) (.slice p3 n1 cap3)) := hh_w4.low (by { have := blk_lt HL3.out.blk; omega }); clear hh_w4 he_w4 hf_w4)
      | ((with_reducible show wpList _ _ _ (Oper.mk _ (.store _ _ _) _ _ _ _ :: _) _ _); refine wp_st (by rfl) 52 _ _ (by rfl) w.heap.size 0 cm0 52 (cnV ck (.slice p3 n1 cap3) cl cr) (cnC ck (.slice p3 n1 cap3) cl cr) (by rfl) (by rfl) (by rfl) HL4.out.blk (Nat.le_of_ble_eq_true rfl) (by kernel_rfl) (by rfl) ?_; intro w9 hw9 hf9; have HL9 : Hid (Loc w g V L w9 s2 w.heap.size (cnC ck (.slice p3 n1 cap3) cl cr) 52) := HL4.out.st hw9 hf9; have HH9 : Hid (Holds w9 (fun i => w.heap.size + 1 ≤ i) (.row 52 14 csb) (.slice p3 n1 cap3)) := HH3.out.fr hf9 (by { omega }); clear hw9 hf9))
  refine ret_loc w.heap.size _ _ _ HL9.out.blk rfl rfl (by rfl) Tryd.underlying52 rfl (by kernel_rfl) ?_
  refine ⟨p3, cap3, ?_, ?_, HL9.out.env, HL9.out.fr⟩
  · simp only [HN1.out]
  · simp only [HN1.out]
    exact HH9.out.low (by omega)
set_option maxHeartbeats 4000000 in
theorem tests_cmp_m (w : World) (g : Nat) (V : Value) (L : List Tk) (s : St) (d : Int) (k m : Int) (tx : ByteArray) (h : Env w g V L s) (ht : nxt L s = ⟨k, tx, m⟩) (hk : k = 4) (htx : ¬ tx.toList = [40]) (hb_HD : see L [110, 111, 116] s = false) (hb_HE : see L [40] s = false) : Calls Tryd.prog 87 #[rp g, .int .i64 2, .int .i64 d] w (CPost w g V L (cmp L s).1 (cmp L s).2) := by
  have HL0 : Hid (Loc w g V L (w.alloc (.cells cm0.toArray 52)) s w.heap.size cm0 52) := Loc.start h cm0 _
  have HGW : Hid (g < w.heap.size) := blk_lt h.blk
  have HN : Hid (∀ W, Env W g V L s → Calls Tryd.prog 47 #[rp g] W fun e w' => e = .returned (.agg #[.int .i64 k, .string tx, .int .i64 m]) ∧ Fr (fun _ => False) W w') := fun W hW => by
    have := next_any W g V L s hW
    rw [ht] at this
    exact this
  have HD : Hid (∀ W, Env W g V L s → Calls Tryd.prog 20 #[rp g, .int .i64 1, .string ⟨#[110, 111, 116]⟩] W fun e w' => e = .returned (.bool false) ∧ Env w' g V L s ∧ Fr (fun i => i = g) W w') := fun W hW => by
    have := is_any W g V L s 1 [110, 111, 116] (.inl ⟨rfl, by kernel_rfl⟩) hW
    unfold tks at this
    rw [hb_HD] at this
    exact this
  have HE : Hid (∀ W, Env W g V L s → Calls Tryd.prog 20 #[rp g, .int .i64 4, .string ⟨#[40]⟩] W fun e w' => e = .returned (.bool false) ∧ Env w' g V L s ∧ Fr (fun i => i = g) W w') := fun W hW => by
    have := is_any W g V L s 4 [40] (.inr ⟨rfl, by decide⟩) hW
    unfold tks at this
    rw [hb_HE] at this
    exact this
  obtain ⟨⟨ck, csb, cl, cr⟩, hc⟩ : ∃ c, (cmp L s).1 = c := ⟨_, rfl⟩
  obtain ⟨s2, hs2⟩ : ∃ s2, (cmp L s).2 = s2 := ⟨_, rfl⟩
  obtain ⟨n1, hn1⟩ : ∃ n1, csb.length = n1 := ⟨_, rfl⟩
  have HN1 : Hid (csb.length = n1) := hn1
  have HT : Hid (∀ W, Env W g V L s → Calls Tryd.prog 124 #[rp g] W (CPost W g V L ⟨ck, csb, cl, cr⟩ s2)) := fun W hW => by
    have := test_any W g V L s hW
    rw [hc, hs2] at this
    exact this
  unfold CPost at HT
  simp only [hn1] at HT
  rw [hc, hs2]
  have q1 : (k == 1) = false := by simp; omega
  have q4 : (k == 4) = true := by simpa using hk
  have p1 : (tx.toList == [40]) = false := by simpa using htx
  clear h ht hb_HD hb_HE hc hs2 hn1 hk
  go_enter Tryd.func87, Tryd.ntmps87
  go_wp2_with (first
      | (go_at_call 47; refine (HN.out _ HL0.out.env).mono ?_; rintro e w1 ⟨rfl, hf1⟩; have HL1 : Hid (Loc w g V L (w1.alloc (.cells #[.int .i64 k, .string tx, .int .i64 m] 65)) s w.heap.size cm0 52) := (HL0.out.on hf1).alloc _; clear hf1)
      | (go_at_call_of 20 (Value.string ⟨#[110, 111, 116]⟩); refine (HD.out _ HL1.out.env).mono ?_; rintro e w2 ⟨rfl, he_w2, hf_w2⟩; have HL2 : Hid (Loc w g V L w2 s w.heap.size cm0 52) := (HL1.out.call he_w2 hf_w2); clear he_w2 hf_w2)
      | (go_at_call_of 20 (Value.string ⟨#[40]⟩); refine (HE.out _ HL2.out.env).mono ?_; rintro e w3 ⟨rfl, he_w3, hf_w3⟩; have HL3 : Hid (Loc w g V L w3 s w.heap.size cm0 52) := (HL2.out.call he_w3 hf_w3); clear he_w3 hf_w3)
      | (go_at_call 124; refine (HT.out _ HL3.out.env).mono ?_; rintro e w4 ⟨p3, cap3, rfl, hh_w4, he_w4, hf_w4⟩; have HL4 : Hid (Loc w g V L w4 s2 w.heap.size cm0 52) := HL3.out.call he_w4 hf_w4; have HH3 : Hid (Holds w4 (fun i => w.heap.size + 1 ≤ i) (.row 52 14 csb) (.slice p3 n1 cap3)) := hh_w4.low (by { have := blk_lt HL3.out.blk; omega }); clear hh_w4 he_w4 hf_w4)
      | ((with_reducible show wpList _ _ _ (Oper.mk _ (.store _ _ _) _ _ _ _ :: _) _ _); refine wp_st (by rfl) 52 _ _ (by rfl) w.heap.size 0 cm0 52 (cnV ck (.slice p3 n1 cap3) cl cr) (cnC ck (.slice p3 n1 cap3) cl cr) (by rfl) (by rfl) (by rfl) HL4.out.blk (Nat.le_of_ble_eq_true rfl) (by kernel_rfl) (by rfl) ?_; intro w9 hw9 hf9; have HL9 : Hid (Loc w g V L w9 s2 w.heap.size (cnC ck (.slice p3 n1 cap3) cl cr) 52) := HL4.out.st hw9 hf9; have HH9 : Hid (Holds w9 (fun i => w.heap.size + 1 ≤ i) (.row 52 14 csb) (.slice p3 n1 cap3)) := HH3.out.fr hf9 (by { omega }); clear hw9 hf9))
  refine ret_loc w.heap.size _ _ _ HL9.out.blk rfl rfl (by rfl) Tryd.underlying52 rfl (by kernel_rfl) ?_
  refine ⟨p3, cap3, ?_, ?_, HL9.out.env, HL9.out.fr⟩
  · simp only [HN1.out]
  · simp only [HN1.out]
    exact HH9.out.low (by omega)
set_option maxHeartbeats 4000000 in
theorem tests_cmp_o (w : World) (g : Nat) (V : Value) (L : List Tk) (s : St) (d : Int) (k m : Int) (tx : ByteArray) (h : Env w g V L s) (ht : nxt L s = ⟨k, tx, m⟩) (hk : ¬ k = 1) (hk4 : ¬ k = 4) (hb_HD : see L [110, 111, 116] s = false) (hb_HE : see L [40] s = false) : Calls Tryd.prog 87 #[rp g, .int .i64 2, .int .i64 d] w (CPost w g V L (cmp L s).1 (cmp L s).2) := by
  have HL0 : Hid (Loc w g V L (w.alloc (.cells cm0.toArray 52)) s w.heap.size cm0 52) := Loc.start h cm0 _
  have HGW : Hid (g < w.heap.size) := blk_lt h.blk
  have HN : Hid (∀ W, Env W g V L s → Calls Tryd.prog 47 #[rp g] W fun e w' => e = .returned (.agg #[.int .i64 k, .string tx, .int .i64 m]) ∧ Fr (fun _ => False) W w') := fun W hW => by
    have := next_any W g V L s hW
    rw [ht] at this
    exact this
  have HD : Hid (∀ W, Env W g V L s → Calls Tryd.prog 20 #[rp g, .int .i64 1, .string ⟨#[110, 111, 116]⟩] W fun e w' => e = .returned (.bool false) ∧ Env w' g V L s ∧ Fr (fun i => i = g) W w') := fun W hW => by
    have := is_any W g V L s 1 [110, 111, 116] (.inl ⟨rfl, by kernel_rfl⟩) hW
    unfold tks at this
    rw [hb_HD] at this
    exact this
  have HE : Hid (∀ W, Env W g V L s → Calls Tryd.prog 20 #[rp g, .int .i64 4, .string ⟨#[40]⟩] W fun e w' => e = .returned (.bool false) ∧ Env w' g V L s ∧ Fr (fun i => i = g) W w') := fun W hW => by
    have := is_any W g V L s 4 [40] (.inr ⟨rfl, by decide⟩) hW
    unfold tks at this
    rw [hb_HE] at this
    exact this
  obtain ⟨⟨ck, csb, cl, cr⟩, hc⟩ : ∃ c, (cmp L s).1 = c := ⟨_, rfl⟩
  obtain ⟨s2, hs2⟩ : ∃ s2, (cmp L s).2 = s2 := ⟨_, rfl⟩
  obtain ⟨n1, hn1⟩ : ∃ n1, csb.length = n1 := ⟨_, rfl⟩
  have HN1 : Hid (csb.length = n1) := hn1
  have HT : Hid (∀ W, Env W g V L s → Calls Tryd.prog 124 #[rp g] W (CPost W g V L ⟨ck, csb, cl, cr⟩ s2)) := fun W hW => by
    have := test_any W g V L s hW
    rw [hc, hs2] at this
    exact this
  unfold CPost at HT
  simp only [hn1] at HT
  rw [hc, hs2]
  have q1 : (k == 1) = false := by simpa using hk
  have q4 : (k == 4) = false := by simpa using hk4
  clear h ht hb_HD hb_HE hc hs2 hn1 hk4 hk
  go_enter Tryd.func87, Tryd.ntmps87
  go_wp2_with (first
      | (go_at_call 47; refine (HN.out _ HL0.out.env).mono ?_; rintro e w1 ⟨rfl, hf1⟩; have HL1 : Hid (Loc w g V L (w1.alloc (.cells #[.int .i64 k, .string tx, .int .i64 m] 65)) s w.heap.size cm0 52) := (HL0.out.on hf1).alloc _; clear hf1)
      | (go_at_call_of 20 (Value.string ⟨#[110, 111, 116]⟩); refine (HD.out _ HL1.out.env).mono ?_; rintro e w2 ⟨rfl, he_w2, hf_w2⟩; have HL2 : Hid (Loc w g V L w2 s w.heap.size cm0 52) := (HL1.out.call he_w2 hf_w2); clear he_w2 hf_w2)
      | (go_at_call_of 20 (Value.string ⟨#[40]⟩); refine (HE.out _ HL2.out.env).mono ?_; rintro e w3 ⟨rfl, he_w3, hf_w3⟩; have HL3 : Hid (Loc w g V L w3 s w.heap.size cm0 52) := (HL2.out.call he_w3 hf_w3); clear he_w3 hf_w3)
      | (go_at_call 124; refine (HT.out _ HL3.out.env).mono ?_; rintro e w4 ⟨p3, cap3, rfl, hh_w4, he_w4, hf_w4⟩; have HL4 : Hid (Loc w g V L w4 s2 w.heap.size cm0 52) := HL3.out.call he_w4 hf_w4; have HH3 : Hid (Holds w4 (fun i => w.heap.size + 1 ≤ i) (.row 52 14 csb) (.slice p3 n1 cap3)) := hh_w4.low (by { have := blk_lt HL3.out.blk; omega }); clear hh_w4 he_w4 hf_w4)
      | ((with_reducible show wpList _ _ _ (Oper.mk _ (.store _ _ _) _ _ _ _ :: _) _ _); refine wp_st (by rfl) 52 _ _ (by rfl) w.heap.size 0 cm0 52 (cnV ck (.slice p3 n1 cap3) cl cr) (cnC ck (.slice p3 n1 cap3) cl cr) (by rfl) (by rfl) (by rfl) HL4.out.blk (Nat.le_of_ble_eq_true rfl) (by kernel_rfl) (by rfl) ?_; intro w9 hw9 hf9; have HL9 : Hid (Loc w g V L w9 s2 w.heap.size (cnC ck (.slice p3 n1 cap3) cl cr) 52) := HL4.out.st hw9 hf9; have HH9 : Hid (Holds w9 (fun i => w.heap.size + 1 ≤ i) (.row 52 14 csb) (.slice p3 n1 cap3)) := HH3.out.fr hf9 (by { omega }); clear hw9 hf9))
  refine ret_loc w.heap.size _ _ _ HL9.out.blk rfl rfl (by rfl) Tryd.underlying52 rfl (by kernel_rfl) ?_
  refine ⟨p3, cap3, ?_, ?_, HL9.out.env, HL9.out.fr⟩
  · simp only [HN1.out]
  · simp only [HN1.out]
    exact HH9.out.low (by omega)
set_option maxHeartbeats 4000000 in
theorem tests_deep_not (w : World) (g : Nat) (V : Value) (L : List Tk) (s : St) (d : Int) (k m : Int) (tx : ByteArray) (h : Env w g V L s) (ht : nxt L s = ⟨k, tx, m⟩) (hk : k = 1) (htx : tx.toList = [110, 111, 116]) (hd : 8 ≤ d) : Calls Tryd.prog 87 #[rp g, .int .i64 2, .int .i64 d] w (CPost w g V L cn0 ⟨s.i, s.o, 14⟩) := by
  have HL0 : Hid (Loc w g V L (w.alloc (.cells cm0.toArray 52)) s w.heap.size cm0 52) := Loc.start h cm0 _
  have HGW : Hid (g < w.heap.size) := blk_lt h.blk
  have HN : Hid (∀ W, Env W g V L s → Calls Tryd.prog 47 #[rp g] W fun e w' => e = .returned (.agg #[.int .i64 k, .string tx, .int .i64 m]) ∧ Fr (fun _ => False) W w') := fun W hW => by
    have := next_any W g V L s hW
    rw [ht] at this
    exact this
  have q1 : (k == 1) = true := by simpa using hk
  have q4 : (k == 4) = false := by simp; omega
  have p1 : (tx.toList == [110, 111, 116]) = true := by rw [htx]; rfl
  clear htx
  clear h ht hk
  go_enter Tryd.func87, Tryd.ntmps87
  go_wp2_with (first
      | (go_at_call 47; refine (HN.out _ HL0.out.env).mono ?_; rintro e w1 ⟨rfl, hf1⟩; have HL1 : Hid (Loc w g V L (w1.alloc (.cells #[.int .i64 k, .string tx, .int .i64 m] 65)) s w.heap.size cm0 52) := (HL0.out.on hf1).alloc _; have f2 := HL1.out.env.fz 2; have c2 := HL1.out.env.c2; have hne1 : ¬ g = w1.heap.size := by { have h1 := blk_lt (HL0.out.on hf1).env.blk; omega }; have hne2 : ¬ w1.heap.size = g := by { omega }; have HL2 : Hid (Loc w g V L ((w1.alloc (.cells #[.int .i64 k, .string tx, .int .i64 m] 65)).setCell ⟨g, 2, none⟩ (.int .i64 14)) ⟨s.i, s.o, 14⟩ w.heap.size cm0 52) := HL1.out.call (HL1.out.env.put (s' := ⟨s.i, s.o, 14⟩) (fr_put _ _ _ _) (by { rw [blk_set HL1.out.env.blk]; rfl }) HL1.out.env.pos) (fr_put _ _ _ _); clear hf1)
      | ((with_reducible show wpList _ _ _ (Oper.mk _ (.store _ _ _) _ _ _ _ :: _) _ _); refine wp_st (by rfl) 52 _ _ (by rfl) w.heap.size 0 cm0 52 (cnV 0 (.slice none 0 0) opd0 opd0) (cnC 0 (.slice none 0 0) opd0 opd0) (by rfl) (by rfl) (by rfl) HL2.out.blk (Nat.le_of_ble_eq_true rfl) (by kernel_rfl) (by rfl) ?_; intro w9 hw9 hf9; have HL9 : Hid (Loc w g V L w9 ⟨s.i, s.o, 14⟩ w.heap.size (cnC 0 (.slice none 0 0) opd0 opd0) 52) := HL2.out.st hw9 hf9; clear hw9 hf9))
  refine ret_loc w.heap.size _ _ _ HL9.out.blk rfl rfl (by rfl) Tryd.underlying52 rfl (by kernel_rfl) ?_
  exact cpost_bare (c := cn0) rfl HL9.out.env HL9.out.fr
set_option maxHeartbeats 4000000 in
theorem tests_deep_par (w : World) (g : Nat) (V : Value) (L : List Tk) (s : St) (d : Int) (k m : Int) (tx : ByteArray) (h : Env w g V L s) (ht : nxt L s = ⟨k, tx, m⟩) (hk : k = 4) (htx : tx.toList = [40]) (hd : 8 ≤ d) : Calls Tryd.prog 87 #[rp g, .int .i64 2, .int .i64 d] w (CPost w g V L cn0 ⟨s.i, s.o, 14⟩) := by
  have HL0 : Hid (Loc w g V L (w.alloc (.cells cm0.toArray 52)) s w.heap.size cm0 52) := Loc.start h cm0 _
  have HGW : Hid (g < w.heap.size) := blk_lt h.blk
  have HN : Hid (∀ W, Env W g V L s → Calls Tryd.prog 47 #[rp g] W fun e w' => e = .returned (.agg #[.int .i64 k, .string tx, .int .i64 m]) ∧ Fr (fun _ => False) W w') := fun W hW => by
    have := next_any W g V L s hW
    rw [ht] at this
    exact this
  have q1 : (k == 1) = false := by simp; omega
  have q4 : (k == 4) = true := by simpa using hk
  clear h ht hk
  go_enter Tryd.func87, Tryd.ntmps87
  go_wp2_with (first
      | (go_at_call 47; refine (HN.out _ HL0.out.env).mono ?_; rintro e w1 ⟨rfl, hf1⟩; have HL1 : Hid (Loc w g V L (w1.alloc (.cells #[.int .i64 k, .string tx, .int .i64 m] 65)) s w.heap.size cm0 52) := (HL0.out.on hf1).alloc _; have f2 := HL1.out.env.fz 2; have c2 := HL1.out.env.c2; have hne1 : ¬ g = w1.heap.size := by { have h1 := blk_lt (HL0.out.on hf1).env.blk; omega }; have hne2 : ¬ w1.heap.size = g := by { omega }; have HL2 : Hid (Loc w g V L ((w1.alloc (.cells #[.int .i64 k, .string tx, .int .i64 m] 65)).setCell ⟨g, 2, none⟩ (.int .i64 14)) ⟨s.i, s.o, 14⟩ w.heap.size cm0 52) := HL1.out.call (HL1.out.env.put (s' := ⟨s.i, s.o, 14⟩) (fr_put _ _ _ _) (by { rw [blk_set HL1.out.env.blk]; rfl }) HL1.out.env.pos) (fr_put _ _ _ _); clear hf1)
      | ((with_reducible show wpList _ _ _ (Oper.mk _ (.store _ _ _) _ _ _ _ :: _) _ _); refine wp_st (by rfl) 52 _ _ (by rfl) w.heap.size 0 cm0 52 (cnV 0 (.slice none 0 0) opd0 opd0) (cnC 0 (.slice none 0 0) opd0 opd0) (by rfl) (by rfl) (by rfl) HL2.out.blk (Nat.le_of_ble_eq_true rfl) (by kernel_rfl) (by rfl) ?_; intro w9 hw9 hf9; have HL9 : Hid (Loc w g V L w9 ⟨s.i, s.o, 14⟩ w.heap.size (cnC 0 (.slice none 0 0) opd0 opd0) 52) := HL2.out.st hw9 hf9; clear hw9 hf9))
  refine ret_loc w.heap.size _ _ _ HL9.out.blk rfl rfl (by rfl) Tryd.underlying52 rfl (by kernel_rfl) ?_
  exact cpost_bare (c := cn0) rfl HL9.out.env HL9.out.fr
set_option maxHeartbeats 4000000 in
theorem tests_not (w : World) (g : Nat) (V : Value) (L : List Tk) (s : St) (d : Int) (k m : Int) (tx : ByteArray) (h : Env w g V L s) (ht : nxt L s = ⟨k, tx, m⟩) (ck : Int) (csb : List (List Dat)) (cl cr : Opd) (s2 : St) (hk : k = 1) (htx : tx.toList = [110, 111, 116]) (hd : ¬ 8 ≤ d) (hd1 : 1 ≤ d) (hb_HD : see L [110, 111, 116] s = true) (hrec : ∀ W, Env W g V L ⟨s.i + 1, s.o + 1, s.e⟩ → Calls Tryd.prog 87 #[rp g, .int .i64 2, .int .i64 (d + 1)] W (CPost W g V L ⟨ck, csb, cl, cr⟩ s2)) : Calls Tryd.prog 87 #[rp g, .int .i64 2, .int .i64 d] w (CPost w g V L ⟨3, [encC ⟨ck, csb, cl, cr⟩], opd0, opd0⟩ (cls s2)) := by
  have HL0 : Hid (Loc w g V L (w.alloc (.cells cm0.toArray 52)) s w.heap.size cm0 52) := Loc.start h cm0 _
  have HGW : Hid (g < w.heap.size) := blk_lt h.blk
  have HN : Hid (∀ W, Env W g V L s → Calls Tryd.prog 47 #[rp g] W fun e w' => e = .returned (.agg #[.int .i64 k, .string tx, .int .i64 m]) ∧ Fr (fun _ => False) W w') := fun W hW => by
    have := next_any W g V L s hW
    rw [ht] at this
    exact this
  have HD : Hid (∀ W, Env W g V L s → Calls Tryd.prog 20 #[rp g, .int .i64 1, .string ⟨#[110, 111, 116]⟩] W fun e w' => e = .returned (.bool true) ∧ Env w' g V L s.adv ∧ Fr (fun i => i = g) W w') := fun W hW => by
    have := is_any W g V L s 1 [110, 111, 116] (.inl ⟨rfl, by kernel_rfl⟩) hW
    unfold tks at this
    rw [hb_HD] at this
    exact this
  obtain ⟨n1, hn1⟩ : ∃ n1, csb.length = n1 := ⟨_, rfl⟩
  have HN1 : Hid (csb.length = n1) := hn1
  unfold CPost at hrec
  simp only [hn1] at hrec
  have HR : Hid (∀ W, Env W g V L ⟨s.i + 1, s.o + 1, s.e⟩ → Calls Tryd.prog 87 #[rp g, .int .i64 2, .int .i64 (d + 1)] W fun e w' => ∃ p cap, e = .returned (cnV ck (.slice p n1 cap) cl cr) ∧ Holds w' (fun i => W.heap.size ≤ i) (.row 52 14 csb) (.slice p n1 cap) ∧ Env w' g V L s2 ∧ Fr (fun i => i = g) W w') := hrec
  have q1 : (k == 1) = true := by simpa using hk
  have q4 : (k == 4) = false := by simp; omega
  have p1 : (tx.toList == [110, 111, 116]) = true := by rw [htx]; rfl
  clear h ht hb_HD hn1 hrec hk htx
  go_enter Tryd.func87, Tryd.ntmps87
  go_wp2_with (first
      | (go_at_call 47; refine (HN.out _ HL0.out.env).mono ?_; rintro e w1 ⟨rfl, hf1⟩; have HL1 : Hid (Loc w g V L (w1.alloc (.cells #[.int .i64 k, .string tx, .int .i64 m] 65)) s w.heap.size cm0 52) := (HL0.out.on hf1).alloc _; clear hf1)
      | (go_at_call_of 20 (Value.string ⟨#[110, 111, 116]⟩); refine (HD.out _ HL1.out.env).mono ?_; rintro e w2 ⟨rfl, he_w2, hf_w2⟩; have HL2 : Hid (Loc w g V L w2 s.adv w.heap.size cm0 52) := (HL1.out.call he_w2 hf_w2); clear he_w2 hf_w2)
      | (go_at_call 87; refine (HR.out _ (HL2.out.env.any rfl rfl)).mono ?_; rintro e w3 ⟨p3, cap3, rfl, hh3, he3, hf3⟩; have HL3 : Hid (Loc w g V L (w3.alloc (.cells (cnC ck (.slice p3 n1 cap3) cl cr).toArray 52)) s2 w.heap.size cm0 52) := (HL2.out.call he3 hf3).alloc _; have HH3 : Hid (Holds w3 (fun i => w.heap.size + 1 ≤ i) (.row 52 14 csb) (.slice p3 n1 cap3)) := hh3.low (by { have := blk_lt HL2.out.blk; omega }); have HS3 : Hid (w.heap.size < w3.heap.size) := blk_lt (HL2.out.call he3 hf3).blk; clear hh3 he3 hf3)
      | ((with_reducible show wpList _ _ _ (Oper.mk _ (.load _ _) _ _ _ _ :: _) _ _); refine wp_ld (by rfl) 52 _ (by rfl) w3.heap.size (cnC ck (.slice p3 n1 cap3) cl cr) 52 _ (by rfl) (heap_alloc_new _ _) Tryd.underlying52 rfl (by kernel_rfl) ?_)
      | ((with_reducible show wpList _ _ _ (Oper.mk _ (.store _ _ _) _ _ _ _ :: _) _ _); refine wp_st (by rfl) 52 _ _ (by rfl) w.heap.size 0 cm0 52 (cnV 3 (.slice (some ⟨w3.heap.size + 1, 0, none⟩) 1 1) opd0 opd0) (cnC 3 (.slice (some ⟨w3.heap.size + 1, 0, none⟩) 1 1) opd0 opd0) (by rfl) (by rfl) (by rfl) (HL3.out.alloc _).blk (Nat.le_of_ble_eq_true rfl) (by kernel_rfl) (by rfl) ?_; intro w9 hw9 hf9; have HL9 : Hid (Loc w g V L w9 s2 w.heap.size (cnC 3 (.slice (some ⟨w3.heap.size + 1, 0, none⟩) 1 1) opd0 opd0) 52) := (HL3.out.alloc _).st hw9 hf9; have HF9 : Hid (Fr (fun i => i = w.heap.size) ((w3.alloc (.cells (cnC ck (.slice p3 n1 cap3) cl cr).toArray 52)).alloc (.cells (cnC ck (.slice p3 n1 cap3) cl cr).toArray 52)) w9) := hf9; clear hw9 hf9))
  refine ret_loc w.heap.size _ _ _ HL9.out.blk rfl rfl (by rfl) Tryd.underlying52 rfl (by kernel_rfl) ?_
  refine ⟨some ⟨w3.heap.size + 1, 0, none⟩, 1, rfl, ?_, HL9.out.env.any rfl rfl, HL9.out.fr⟩
  have hs3 := HS3.out
  have h1 : HoldsL (w3.alloc (.cells (cnC ck (.slice p3 n1 cap3) cl cr).toArray 52)) (fun i => w.heap.size + 1 ≤ i) (encC ⟨ck, csb, cl, cr⟩) (cnC ck (.slice p3 n1 cap3) cl cr) := by
    refine holdsC (c := ⟨ck, csb, cl, cr⟩) ?_
    exact HH3.out.on ((Fr.refl _ _).alloc _)
  have h2 := Row.new (w := (w3.alloc (.cells (cnC ck (.slice p3 n1 cap3) cl cr).toArray 52))) (b := w.heap.size + 1) (e := 52) (z := 14) (by simp; omega) rfl h1
  have e3 : (w3.alloc (.cells (cnC ck (.slice p3 n1 cap3) cl cr).toArray 52)).heap.size = w3.heap.size + 1 := by simp
  rw [e3] at h2
  exact (h2.holds.fr HF9.out (by omega)).low (by omega)
set_option maxHeartbeats 4000000 in
theorem tests_par (w : World) (g : Nat) (V : Value) (L : List Tk) (s : St) (d : Int) (k m : Int) (tx : ByteArray) (h : Env w g V L s) (ht : nxt L s = ⟨k, tx, m⟩) (ck : Int) (csb : List (List Dat)) (cl cr : Opd) (s2 s3 : St) (hk : k = 4) (htx : tx.toList = [40]) (hd : ¬ 8 ≤ d) (hd1 : 1 ≤ d) (hb_HD : see L [110, 111, 116] s = false) (hb_HE : see L [40] s = true) (h_s3 : wnt L [41] s2 = s3) (hrec : ∀ W, Env W g V L ⟨s.i + 1, s.o + 1, s.e⟩ → Calls Tryd.prog 87 #[rp g, .int .i64 0, .int .i64 (d + 1)] W (CPost W g V L ⟨ck, csb, cl, cr⟩ s2)) : Calls Tryd.prog 87 #[rp g, .int .i64 2, .int .i64 d] w (CPost w g V L ⟨ck, csb, cl, cr⟩ (cls s3)) := by
  have HL0 : Hid (Loc w g V L (w.alloc (.cells cm0.toArray 52)) s w.heap.size cm0 52) := Loc.start h cm0 _
  have HGW : Hid (g < w.heap.size) := blk_lt h.blk
  have HN : Hid (∀ W, Env W g V L s → Calls Tryd.prog 47 #[rp g] W fun e w' => e = .returned (.agg #[.int .i64 k, .string tx, .int .i64 m]) ∧ Fr (fun _ => False) W w') := fun W hW => by
    have := next_any W g V L s hW
    rw [ht] at this
    exact this
  have HD : Hid (∀ W, Env W g V L s → Calls Tryd.prog 20 #[rp g, .int .i64 1, .string ⟨#[110, 111, 116]⟩] W fun e w' => e = .returned (.bool false) ∧ Env w' g V L s ∧ Fr (fun i => i = g) W w') := fun W hW => by
    have := is_any W g V L s 1 [110, 111, 116] (.inl ⟨rfl, by kernel_rfl⟩) hW
    unfold tks at this
    rw [hb_HD] at this
    exact this
  have HE : Hid (∀ W, Env W g V L s → Calls Tryd.prog 20 #[rp g, .int .i64 4, .string ⟨#[40]⟩] W fun e w' => e = .returned (.bool true) ∧ Env w' g V L s.adv ∧ Fr (fun i => i = g) W w') := fun W hW => by
    have := is_any W g V L s 4 [40] (.inr ⟨rfl, by decide⟩) hW
    unfold tks at this
    rw [hb_HE] at this
    exact this
  have HWN : Hid (∀ W, Env W g V L s2 → Calls Tryd.prog 22 #[rp g, .int .i64 4, .string ⟨#[41]⟩] W fun e w' => e = .returned (.tuple #[]) ∧ Env w' g V L s3 ∧ Fr (fun i => i = g) W w') := fun W hW => by
    have := want_any W g V L s2 4 [41] (.inr ⟨rfl, by decide⟩) hW
    rw [h_s3] at this
    exact this
  obtain ⟨n1, hn1⟩ : ∃ n1, csb.length = n1 := ⟨_, rfl⟩
  have HN1 : Hid (csb.length = n1) := hn1
  unfold CPost at hrec
  simp only [hn1] at hrec
  have HR : Hid (∀ W, Env W g V L ⟨s.i + 1, s.o + 1, s.e⟩ → Calls Tryd.prog 87 #[rp g, .int .i64 0, .int .i64 (d + 1)] W fun e w' => ∃ p cap, e = .returned (cnV ck (.slice p n1 cap) cl cr) ∧ Holds w' (fun i => W.heap.size ≤ i) (.row 52 14 csb) (.slice p n1 cap) ∧ Env w' g V L s2 ∧ Fr (fun i => i = g) W w') := hrec
  have q1 : (k == 1) = false := by simp; omega
  have q4 : (k == 4) = true := by simpa using hk
  clear h ht hb_HD hb_HE hn1 hrec hk h_s3
  go_enter Tryd.func87, Tryd.ntmps87
  go_wp2_with (first
      | (go_at_call 47; refine (HN.out _ HL0.out.env).mono ?_; rintro e w1 ⟨rfl, hf1⟩; have HL1 : Hid (Loc w g V L (w1.alloc (.cells #[.int .i64 k, .string tx, .int .i64 m] 65)) s w.heap.size cm0 52) := (HL0.out.on hf1).alloc _; clear hf1)
      | (go_at_call_of 20 (Value.string ⟨#[110, 111, 116]⟩); refine (HD.out _ HL1.out.env).mono ?_; rintro e w2 ⟨rfl, he_w2, hf_w2⟩; have HL2 : Hid (Loc w g V L w2 s w.heap.size cm0 52) := (HL1.out.call he_w2 hf_w2); clear he_w2 hf_w2)
      | (go_at_call_of 20 (Value.string ⟨#[40]⟩); refine (HE.out _ HL2.out.env).mono ?_; rintro e w2b ⟨rfl, he_w2b, hf_w2b⟩; have HL2b : Hid (Loc w g V L w2b s.adv w.heap.size cm0 52) := (HL2.out.call he_w2b hf_w2b); clear he_w2b hf_w2b)
      | (go_at_call 87; refine (HR.out _ (HL2b.out.env.any rfl rfl)).mono ?_; rintro e w3 ⟨p3, cap3, rfl, hh3, he3, hf3⟩; have HL3 : Hid (Lo2 w g V L (w3.alloc (.cells (cnC ck (.slice p3 n1 cap3) cl cr).toArray 52)) s2 w.heap.size cm0 52 w3.heap.size (cnC ck (.slice p3 n1 cap3) cl cr) 52) := (HL2b.out.call he3 hf3).two _ _; have HH3 : Hid (Holds (w3.alloc (.cells (cnC ck (.slice p3 n1 cap3) cl cr).toArray 52)) (fun i => w.heap.size + 1 ≤ i) (.row 52 14 csb) (.slice p3 n1 cap3)) := (hh3.low (by { have := blk_lt HL2b.out.blk; omega })).on ((Fr.refl _ _).alloc _); clear hh3 he3 hf3)
      | (go_at_call 22; refine (HWN.out _ HL3.out.env).mono ?_; rintro e w4 ⟨rfl, he4, hf4⟩; have HL4 : Hid (Lo2 w g V L w4 s3 w.heap.size cm0 52 w3.heap.size (cnC ck (.slice p3 n1 cap3) cl cr) 52) := HL3.out.call he4 hf4; have HH4 : Hid (Holds w4 (fun i => w.heap.size + 1 ≤ i) (.row 52 14 csb) (.slice p3 n1 cap3)) := HH3.out.fr hf4 (by { have := HGW.out; omega }); clear he4 hf4)
      | ((with_reducible show wpList _ _ _ (Oper.mk _ (.load _ _) _ _ _ _ :: _) _ _); refine wp_ld (by rfl) 52 _ (by rfl) w3.heap.size (cnC ck (.slice p3 n1 cap3) cl cr) 52 _ (by rfl) HL4.out.blk2 Tryd.underlying52 rfl (by kernel_rfl) ?_)
      | ((with_reducible show wpList _ _ _ (Oper.mk _ (.store _ _ _) _ _ _ _ :: _) _ _); refine wp_st (by rfl) 52 _ _ (by rfl) w.heap.size 0 cm0 52 (cnV ck (.slice p3 n1 cap3) cl cr) (cnC ck (.slice p3 n1 cap3) cl cr) (by rfl) (by rfl) (by rfl) HL4.out.blk (Nat.le_of_ble_eq_true rfl) (by kernel_rfl) (by rfl) ?_; intro w9 hw9 hf9; have HL9 : Hid (Loc w g V L w9 s3 w.heap.size (cnC ck (.slice p3 n1 cap3) cl cr) 52) := HL4.out.loc.st hw9 hf9; have HH9 : Hid (Holds w9 (fun i => w.heap.size + 1 ≤ i) (.row 52 14 csb) (.slice p3 n1 cap3)) := HH4.out.fr hf9 (by { omega }); clear hw9 hf9))
  refine ret_loc w.heap.size _ _ _ HL9.out.blk rfl rfl (by rfl) Tryd.underlying52 rfl (by kernel_rfl) ?_
  refine ⟨p3, cap3, ?_, ?_, HL9.out.env.any rfl rfl, HL9.out.fr⟩
  · simp only [HN1.out]
  · simp only [HN1.out]
    exact HH9.out.low (by omega)
end Go.Proofs.YtnlmkdncifijlaaDoor.Ref
