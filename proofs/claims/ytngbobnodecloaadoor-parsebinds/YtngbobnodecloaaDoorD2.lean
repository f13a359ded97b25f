/-
  There is a bound for how deep a condition is: the walk.
-/
import Derived.Test.YtngbobnodecloaaDoorD1
import Derived.Test.YtngbobnodecloaaDoorKA
namespace Go.Proofs.YtngbobnodecloaaDoor
open Go.ChangeShapes Go.WideShapes Go.ChangeAt Go.RowKit Go.Maps
set_option linter.unusedVariables false
set_option linter.unusedSimpArgs false
set_option maxRecDepth 20000
theorem txt_app (a b : List UInt8) : txt a ++ txt b = txt (a ++ b) := by
  have : (txt a ++ txt b).data.toList = a ++ b := by simp [txt]
  rw [← txt_of (txt a ++ txt b), this]
theorem rpt_len (n : Nat) (m : List UInt8) : (rpt n m).length = n * m.length := by
  induction n with
  | zero => simp [rpt]
  | succ n ih => rw [rpt, List.length_append, ih, Nat.succ_mul]
/-- The tuple that Cut hands back, and what Parse tells of it. -/
theorem cut_of (S : ByteArray) (l : List UInt8) (hS : S = txt l) (ts : List Tk) (h : cutF 200 (skd l) = some ts) (hl : l.length ≤ 3000) (ht : ts.length < 700) (w : World) (hM : Marks w) :
    Calls Tryd.prog 18 #[.string S] w fun e w' => ∃ p cap, e = .returned (.tuple #[.slice p ts.length cap, .int .i64 0, .int .i64 0]) ∧ TokensAt w' (.slice p ts.length cap) ts ∧ Below w.heap.size w w' := by
  subst hS
  have := cut_any (txt l) w ts 0 0 hM (by rw [txt_size]; exact hl) (by rw [txt_list]; exact cutF_run _ 200 _ ts h) ht
  refine this.mono ?_
  rintro e w' ⟨v, rfl, h1, h2⟩
  rw [if_pos rfl] at h1
  obtain ⟨p, cap, rfl, h3⟩ := h1
  exact ⟨p, cap, rfl, ⟨p, cap, rfl, h3⟩, h2⟩
set_option maxHeartbeats 8000000 in
theorem deep_walk (n : Int) (b : Bool) (w : World) (hn : -9223372036854775808 ≤ n ∧ n ≤ 9223372036854775807) (hB : Tbs w) :
    Calls Tryd.prog 7 #[.int .i64 n, .bool b] w fun e w' => e = .returned (.bool true) ∧ Below w.heap.size w w' := by
  obtain ⟨k, hk, hp⟩ := picked_const n 16 16 (by rfl) hn (by omega) (by omega)
  have HP : Hid (∀ W, Calls Tryd.prog 15 #[.int .i64 n, .int .i64 16] W fun e w' => e = .returned (.int .i64 k) ∧ w' = W) := hp
  obtain ⟨ts, h1, h2, h3, h4, h5⟩ := deep_at k hk b
  obtain ⟨oo, hoo⟩ : ∃ oo : List UInt8, (if b then [110, 111, 116, 32] else [40, 32]) = oo := ⟨_, rfl⟩
  obtain ⟨X, hX⟩ : ∃ X, txt (rpt k (if b then [110, 111, 116, 32] else [40, 32])) = X := ⟨_, rfl⟩
  obtain ⟨Y, hY⟩ : ∃ Y, txt (if b then [] else rpt k [41, 32]) = Y := ⟨_, rfl⟩
  have hXs : X.size ≤ 64 := by rw [← hX, txt_size, rpt_len]; cases b <;> simp <;> omega
  have hYs : Y.size ≤ 32 := by
    rw [← hY, txt_size]
    cases b
    · simp only [Bool.false_eq_true, if_false, rpt_len]; simp; omega
    · simp
  have hlen : (deepT k b).length ≤ 3000 := by
    unfold deepT
    cases b <;> simp [rpt_len] <;> omega
  have HC : Hid (∀ W, Marks W → Calls Tryd.prog 18 #[.string (((((⟨#[114, 117, 108, 101, 32, 114, 32, 123, 32, 119, 104, 101, 110, 32, 120, 32, 58, 32, 116, 32, 91, 32]⟩ : ByteArray) ++ X) ++ (⟨#[97, 32, 61, 32, 49, 32]⟩ : ByteArray)) ++ Y) ++ (⟨#[93, 32, 59, 32, 125]⟩ : ByteArray))] W fun e w' => ∃ p cap, e = .returned (.tuple #[.slice p ts.length cap, .int .i64 0, .int .i64 0]) ∧ TokensAt w' (.slice p ts.length cap) ts ∧ Below W.heap.size W w') := fun W hW => by
    refine cut_of _ (deepT k b) ?_ ts h1 hlen h2 W hW
    rw [← hX, ← hY]
    unfold deepT
    rw [← txt_app, ← txt_app, ← txt_app, ← txt_app]
    rfl
  have HPA : Hid (∀ W V, TokensAt W V ts → Tbs W → Calls Tryd.prog 11 #[V] W (APost W (prs ts))) := fun W V hT hW => parse_any W V ts hT (toks_low hT (by omega)) hW
  obtain ⟨A, hA⟩ : ∃ A, prs ts = A := ⟨_, rfl⟩
  rw [hA] at HPA h4 h5
  obtain ⟨bk, at', er⟩ := A
  simp only at h4 h5
  obtain ⟨m, hm⟩ : ∃ m, ts.length = m := ⟨_, rfl⟩
  have HTL : Hid (ts.length = m) := hm
  simp only [hm] at HC
  have HB : Hid (Tbs w) := hB
  have H45 : Hid ((8 ≤ k → er = 14 ∧ at' = 15) ∧ (¬ 8 ≤ k → er = 0 ∧ at' = 0) ∧ 12 < m) := ⟨h4, h5, by omega⟩
  have HX : Hid (txt (rpt k oo) = X) := by rw [← hoo]; exact hX
  have HY : Hid (txt (if b then [] else rpt k [41, 32]) = Y) := hY
  unfold APost at HPA
  simp only at HPA
  clear hp h1 h2 h3 h4 h5 hX hY hlen hA hm hB
  cases b
  · simp only [Bool.false_eq_true, if_false] at hoo HY
    subst hoo
    go_enter Tryd.func7, Tryd.ntmps7
    go_wp2_with (go_at_call 15; refine (HP.out _).mono ?_; rintro e w ⟨rfl, rfl⟩)
    go_loop [6, 7, 8] (fun a c i => ∃ j : Nat, j ≤ k ∧ i = .int .i64 (j : Nat) ∧ a = .string (txt (rpt j [40, 32])) ∧ c = .string (txt (rpt j [41, 32]))) (fun _ _ i => k + 1 - (intOf i).toNat)
    case atStart => exact ⟨0, by omega, rfl, rfl, rfl⟩
    case round =>
      obtain ⟨j, hj, rfl, rfl, rfl⟩ := hrel
      by_cases hlt : j < k
      · have z1 : (txt (rpt j [40, 32])).size ≤ 64 := by rw [txt_size, rpt_len]; simp; omega
        have z2 : (txt (rpt j [41, 32])).size ≤ 64 := by rw [txt_size, rpt_len]; simp; omega
        have e1 : txt (rpt j [40, 32]) ++ (⟨#[40, 32]⟩ : ByteArray) = txt (rpt (j + 1) [40, 32]) := txt_app _ [40, 32]
        have e2 : txt (rpt j [41, 32]) ++ (⟨#[41, 32]⟩ : ByteArray) = txt (rpt (j + 1) [41, 32]) := txt_app _ [41, 32]
        have i2 : (j : Int) < (k : Int) := by omega
        have HE1 : Hid (txt (rpt j [40, 32]) ++ (⟨#[40, 32]⟩ : ByteArray) = txt (rpt (j + 1) [40, 32])) := e1
        have HE2 : Hid (txt (rpt j [41, 32]) ++ (⟨#[41, 32]⟩ : ByteArray) = txt (rpt (j + 1) [41, 32])) := e2
        clear e1 e2
        generalize txt (rpt j [40, 32]) = x1 at *
        generalize txt (rpt j [41, 32]) = x2 at *
        go_wp2_with fail
        exact ⟨⟨j + 1, by omega, by go_num, by rw [HE1.out], by rw [HE2.out]⟩, by simp [intOf]; omega⟩
      · obtain rfl : j = k := by omega
        rw [HX.out, HY.out]
        clear HX HY
        by_cases h8 : 8 ≤ j
        · have g8 : (8 : Int) ≤ (j : Int) := by omega
          have HQ : Hid (er = 14 ∧ at' = 15) := H45.out.1 h8
          go_wp2_with (first
            | (go_at_call 18; refine (HC.out _ HB.out.mr).mono ?_; rintro e w1 ⟨p1, cap1, rfl, ht1, hb1⟩; have HT1 : Hid (TokensAt w1 (.slice p1 m cap1) ts) := ht1; have HB1 : Hid (Below w.heap.size w w1) := hb1; clear ht1 hb1)
            | (go_at_call 11; refine (HPA.out _ _ HT1.out (HB.out.below HB1.out)).mono ?_; rintro e w2 ⟨q1, d1, q2, d2, rfl, hh2, hb2⟩; have HB2 : Hid (Below w.heap.size w w2) := below_trans HB1.out hb2 HB1.out.size; clear hh2 hb2))
          all_goals
            go_ret
            refine ⟨ret_bool ?_, HB2.out.alloc HB2.out.size _⟩
            have := HQ.out
            simp_all
        · have g8 : ¬ (8 : Int) ≤ (j : Int) := by omega
          have HQ : Hid (er = 0 ∧ at' = 0) := H45.out.2.1 h8
          go_wp2_with (first
            | (go_at_call 18; refine (HC.out _ HB.out.mr).mono ?_; rintro e w1 ⟨p1, cap1, rfl, ht1, hb1⟩; have HT1 : Hid (TokensAt w1 (.slice p1 m cap1) ts) := ht1; have HB1 : Hid (Below w.heap.size w w1) := hb1; clear ht1 hb1)
            | (go_at_call 11; refine (HPA.out _ _ HT1.out (HB.out.below HB1.out)).mono ?_; rintro e w2 ⟨q1, d1, q2, d2, rfl, hh2, hb2⟩; have HB2 : Hid (Below w.heap.size w w2) := below_trans HB1.out hb2 HB1.out.size; clear hh2 hb2))
          all_goals
            go_ret
            refine ⟨ret_bool ?_, HB2.out.alloc HB2.out.size _⟩
            have h1 := HQ.out
            have h2 := H45.out.2.2
            simp_all <;> omega
  · simp only [if_true] at hoo HY
    subst hoo
    go_enter Tryd.func7, Tryd.ntmps7
    go_wp2_with (go_at_call 15; refine (HP.out _).mono ?_; rintro e w ⟨rfl, rfl⟩)
    go_loop [6, 7, 8] (fun a c i => ∃ j : Nat, j ≤ k ∧ i = .int .i64 (j : Nat) ∧ a = .string (txt (rpt j [110, 111, 116, 32])) ∧ c = .string ⟨#[]⟩) (fun _ _ i => k + 1 - (intOf i).toNat)
    case atStart => exact ⟨0, by omega, rfl, rfl, rfl⟩
    case round =>
      obtain ⟨j, hj, rfl, rfl, rfl⟩ := hrel
      by_cases hlt : j < k
      · have z1 : (txt (rpt j [110, 111, 116, 32])).size ≤ 64 := by rw [txt_size, rpt_len]; simp; omega
        have e1 : txt (rpt j [110, 111, 116, 32]) ++ (⟨#[110, 111, 116, 32]⟩ : ByteArray) = txt (rpt (j + 1) [110, 111, 116, 32]) := txt_app _ [110, 111, 116, 32]
        have i2 : (j : Int) < (k : Int) := by omega
        have HE1 : Hid (txt (rpt j [110, 111, 116, 32]) ++ (⟨#[110, 111, 116, 32]⟩ : ByteArray) = txt (rpt (j + 1) [110, 111, 116, 32])) := e1
        clear e1
        generalize txt (rpt j [110, 111, 116, 32]) = x1 at *
        go_wp2_with fail
        exact ⟨⟨j + 1, by omega, by go_num, by rw [HE1.out], rfl⟩, by simp [intOf]; omega⟩
      · obtain rfl : j = k := by omega
        have hye : (⟨#[]⟩ : ByteArray) = Y := HY.out
        rw [HX.out, hye]
        clear HX HY hye
        by_cases h8 : 8 ≤ j
        · have g8 : (8 : Int) ≤ (j : Int) := by omega
          have HQ : Hid (er = 14 ∧ at' = 15) := H45.out.1 h8
          go_wp2_with (first
            | (go_at_call 18; refine (HC.out _ HB.out.mr).mono ?_; rintro e w1 ⟨p1, cap1, rfl, ht1, hb1⟩; have HT1 : Hid (TokensAt w1 (.slice p1 m cap1) ts) := ht1; have HB1 : Hid (Below w.heap.size w w1) := hb1; clear ht1 hb1)
            | (go_at_call 11; refine (HPA.out _ _ HT1.out (HB.out.below HB1.out)).mono ?_; rintro e w2 ⟨q1, d1, q2, d2, rfl, hh2, hb2⟩; have HB2 : Hid (Below w.heap.size w w2) := below_trans HB1.out hb2 HB1.out.size; clear hh2 hb2))
          all_goals
            go_ret
            refine ⟨ret_bool ?_, HB2.out.alloc HB2.out.size _⟩
            have := HQ.out
            simp_all
        · have g8 : ¬ (8 : Int) ≤ (j : Int) := by omega
          have HQ : Hid (er = 0 ∧ at' = 0) := H45.out.2.1 h8
          go_wp2_with (first
            | (go_at_call 18; refine (HC.out _ HB.out.mr).mono ?_; rintro e w1 ⟨p1, cap1, rfl, ht1, hb1⟩; have HT1 : Hid (TokensAt w1 (.slice p1 m cap1) ts) := ht1; have HB1 : Hid (Below w.heap.size w w1) := hb1; clear ht1 hb1)
            | (go_at_call 11; refine (HPA.out _ _ HT1.out (HB.out.below HB1.out)).mono ?_; rintro e w2 ⟨q1, d1, q2, d2, rfl, hh2, hb2⟩; have HB2 : Hid (Below w.heap.size w w2) := below_trans HB1.out hb2 HB1.out.size; clear hh2 hb2))
          all_goals
            go_ret
            refine ⟨ret_bool ?_, HB2.out.alloc HB2.out.size _⟩
            have h1 := HQ.out
            have h2 := H45.out.2.2
            simp_all <;> omega
end Go.Proofs.YtngbobnodecloaaDoor
