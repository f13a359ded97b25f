/-
  Both and Either, by the program and by the reference.
-/
import Derived.Test.YtgikaheojcpmpabJ
import Derived.Test.YtgikaheojcpmpabC
import Derived.Test.YtgikaheojcpmpabE
namespace Go.Proofs.Ytgikaheojcpmpab
open Go.ChangeShapes Go.WideShapes Go.ChangeAt Go.RowKit Go.Maps
set_option linter.unusedVariables false
set_option linter.unusedSimpArgs false
set_option maxRecDepth 20000
/-- What is wrong with two matrices. -/
def prE (n : Nat) (L : Nat → Nat) (X : Nat → Nat → Int) (m : Nat) (M : Nat → Nat) (Y : Nat → Nat → Int) : Int :=
  if chk n L X ≠ 0 then chk n L X else if chk m M Y ≠ 0 then chk m M Y else if n ≠ m then 4 else 0
theorem prE_ok {n : Nat} {L : Nat → Nat} {X : Nat → Nat → Int} {m : Nat} {M : Nat → Nat} {Y : Nat → Nat → Int} (h : prE n L X m M Y = 0) : chk n L X = 0 ∧ chk m M Y = 0 ∧ n = m := by
  unfold prE at h
  by_cases h1 : chk n L X = 0
  · rw [if_neg (by simp [h1])] at h
    by_cases h2 : chk m M Y = 0
    · rw [if_neg (by simp [h2])] at h
      by_cases h3 : n = m
      · exact ⟨h1, h2, h3⟩
      · rw [if_pos h3] at h; exact absurd h (by decide)
    · rw [if_pos h2] at h; exact absurd h h2
  · rw [if_pos h1] at h; exact absurd h h1
set_option maxHeartbeats 4000000 in
theorem checkPair_any (a b : Value) (n m : Nat) (L M : Nat → Nat) (X Y : Nat → Nat → Int) (w : World) (ha : MatAt w a n L X) (hb : MatAt w b m M Y) :
    Calls Try.prog 19 #[a, b] w fun e w' => e = .returned (.int .i64 (prE n L X m M Y)) ∧ Below w.heap.size w w' := by
  have HA := hid ha
  have HB := hid hb
  obtain ⟨p, cap, rfl, c1, c2, _⟩ := ha
  obtain ⟨q, cap2, rfl, c3, c4, _⟩ := hb
  have hmx : (n : Int) ≤ 9223372036854775807 := by unfold maxLen at c2; omega
  have hmx2 : (m : Int) ≤ 9223372036854775807 := by unfold maxLen at c4; omega
  clear c1 c2 c3 c4
  obtain ⟨r, hr⟩ : ∃ r, prE n L X m M Y = r := ⟨_, rfl⟩
  rw [hr]
  unfold prE at hr
  obtain ⟨e1, he1⟩ : ∃ e, chk n L X = e := ⟨_, rfl⟩
  obtain ⟨e2, he2⟩ : ∃ e, chk m M Y = e := ⟨_, rfl⟩
  rw [he1, he2] at hr
  have HE1 := hid he1
  have HE2 := hid he2
  clear he1 he2
  by_cases h1 : e1 = 0
  · subst h1
    rw [if_neg (by simp)] at hr
    by_cases h2 : e2 = 0
    · subst h2
      rw [if_neg (by simp)] at hr
      by_cases h3 : n = m
      · rw [if_neg (by simp [h3])] at hr
        subst hr
        have d : ((n : Int) != (m : Int)) = false := by rw [h3]; simp
        clear h3
        go_enter Try.func19, Try.ntmps19
        go_wp2_with fail
        refine (check_any _ n L X _ HA.out).mono ?_
        rw [HE1.out]
        rintro e w1 ⟨rfl, hB1⟩
        have HB1 := hid hB1
        clear hB1
        go_wp2_with fail
        refine (check_any _ m M Y _ (HB.out.later HB1.out)).mono ?_
        rw [HE2.out]
        rintro e w2 ⟨rfl, hB2⟩
        have HB2 := hid (below_then HB1.out hB2 (Nat.le_refl _))
        clear hB2
        go_wp2_with fail
        go_ret
        exact ⟨rfl, HB2.out⟩
      · rw [if_pos h3] at hr
        subst hr
        have d : ((n : Int) != (m : Int)) = true := by simp; omega
        clear h3
        go_enter Try.func19, Try.ntmps19
        go_wp2_with fail
        refine (check_any _ n L X _ HA.out).mono ?_
        rw [HE1.out]
        rintro e w1 ⟨rfl, hB1⟩
        have HB1 := hid hB1
        clear hB1
        go_wp2_with fail
        refine (check_any _ m M Y _ (HB.out.later HB1.out)).mono ?_
        rw [HE2.out]
        rintro e w2 ⟨rfl, hB2⟩
        have HB2 := hid (below_then HB1.out hB2 (Nat.le_refl _))
        clear hB2
        go_wp2_with fail
        go_ret
        exact ⟨rfl, HB2.out⟩
    · rw [if_pos h2] at hr
      subst hr
      have d : (e2 != 0) = true := by simpa using h2
      clear h2
      go_enter Try.func19, Try.ntmps19
      go_wp2_with fail
      refine (check_any _ n L X _ HA.out).mono ?_
      rw [HE1.out]
      rintro e w1 ⟨rfl, hB1⟩
      have HB1 := hid hB1
      clear hB1
      go_wp2_with fail
      refine (check_any _ m M Y _ (HB.out.later HB1.out)).mono ?_
      rw [HE2.out]
      rintro e w2 ⟨rfl, hB2⟩
      have HB2 := hid (below_then HB1.out hB2 (Nat.le_refl _))
      clear hB2
      go_wp2_with fail
      go_ret
      exact ⟨rfl, HB2.out⟩
  · rw [if_pos h1] at hr
    subst hr
    have d : (e1 != 0) = true := by simpa using h1
    clear h1
    go_enter Try.func19, Try.ntmps19
    go_wp2_with fail
    refine (check_any _ n L X _ HA.out).mono ?_
    rw [HE1.out]
    rintro e w1 ⟨rfl, hB1⟩
    have HB1 := hid hB1
    clear hB1
    go_wp2_with fail
    go_ret
    exact ⟨rfl, HB1.out⟩
set_option maxHeartbeats 4000000 in
theorem prBoth_ok (a b : Value) (n m : Nat) (L M : Nat → Nat) (X Y : Nat → Nat → Int) (w : World) (ha : MatAt w a n L X) (hb : MatAt w b m M Y) (h0 : prE n L X m M Y = 0) :
    Calls Try.prog 10 #[a, b] w fun e w' => (∃ V, e = .returned (pairV V 0) ∧ New w w' V n (fun _ => n) (fun i k => (fun x y : Int => min x y) (X i k) (Y i k))) ∧ Below w.heap.size w w' := by
  have HA := hid ha
  have HB := hid hb
  have HE := hid h0
  obtain ⟨o1, o2, rfl⟩ := prE_ok h0
  have H1 := hid (chk_ok o1)
  have H2 := hid (chk_ok o2)
  clear ha hb h0 o1 o2
  go_enter Try.func10, Try.ntmps10
  go_wp2_with fail
  refine (checkPair_any _ _ n n L M X Y _ HA.out HB.out).mono ?_
  rw [HE.out]
  rintro e w1 ⟨rfl, hB1⟩
  have HB1 := hid hB1
  clear hB1
  go_wp2_with fail
  refine (joinBoth_any _ _ n L M X Y _ (HA.out.later HB1.out) (HB.out.later HB1.out) (fun i hi => (H1.out.2 i hi).1) (fun i hi => (H2.out.2 i hi).1) H1.out.1).mono ?_
  rintro e w2 ⟨⟨V, rfl, hN⟩, hB2⟩
  have HN := hid (hN.from HB1.out.size)
  have HB2 := hid (below_then HB1.out hB2 (Nat.le_refl _))
  clear hN hB2
  go_wp2_with fail
  go_ret2
  exact ⟨⟨_, rfl, HN.out⟩, HB2.out⟩
set_option maxHeartbeats 4000000 in
theorem prBoth_bad (a b : Value) (n m : Nat) (L M : Nat → Nat) (X Y : Nat → Nat → Int) (w : World) (ha : MatAt w a n L X) (hb : MatAt w b m M Y) (r : Int) (h0 : prE n L X m M Y = r) (h1 : r ≠ 0) :
    Calls Try.prog 10 #[a, b] w fun e w' => e = .returned (pairV (.slice none 0 0) r) ∧ Below w.heap.size w w' := by
  have HA := hid ha
  have HB := hid hb
  have HE := hid h0
  have d : (r != 0) = true := by simpa using h1
  clear ha hb h0 h1
  go_enter Try.func10, Try.ntmps10
  go_wp2_with fail
  refine (checkPair_any _ _ n m L M X Y _ HA.out HB.out).mono ?_
  rw [HE.out]
  rintro e w1 ⟨rfl, hB1⟩
  have HB1 := hid hB1
  clear hB1
  go_wp2_with fail
  go_ret2
  exact ⟨rfl, HB1.out⟩
set_option maxHeartbeats 4000000 in
theorem prEither_ok (a b : Value) (n m : Nat) (L M : Nat → Nat) (X Y : Nat → Nat → Int) (w : World) (ha : MatAt w a n L X) (hb : MatAt w b m M Y) (h0 : prE n L X m M Y = 0) :
    Calls Try.prog 11 #[a, b] w fun e w' => (∃ V, e = .returned (pairV V 0) ∧ New w w' V n (fun _ => n) (fun i k => (fun x y : Int => max x y) (X i k) (Y i k))) ∧ Below w.heap.size w w' := by
  have HA := hid ha
  have HB := hid hb
  have HE := hid h0
  obtain ⟨o1, o2, rfl⟩ := prE_ok h0
  have H1 := hid (chk_ok o1)
  have H2 := hid (chk_ok o2)
  clear ha hb h0 o1 o2
  go_enter Try.func11, Try.ntmps11
  go_wp2_with fail
  refine (checkPair_any _ _ n n L M X Y _ HA.out HB.out).mono ?_
  rw [HE.out]
  rintro e w1 ⟨rfl, hB1⟩
  have HB1 := hid hB1
  clear hB1
  go_wp2_with fail
  refine (joinEither_any _ _ n L M X Y _ (HA.out.later HB1.out) (HB.out.later HB1.out) (fun i hi => (H1.out.2 i hi).1) (fun i hi => (H2.out.2 i hi).1) H1.out.1).mono ?_
  rintro e w2 ⟨⟨V, rfl, hN⟩, hB2⟩
  have HN := hid (hN.from HB1.out.size)
  have HB2 := hid (below_then HB1.out hB2 (Nat.le_refl _))
  clear hN hB2
  go_wp2_with fail
  go_ret2
  exact ⟨⟨_, rfl, HN.out⟩, HB2.out⟩
set_option maxHeartbeats 4000000 in
theorem prEither_bad (a b : Value) (n m : Nat) (L M : Nat → Nat) (X Y : Nat → Nat → Int) (w : World) (ha : MatAt w a n L X) (hb : MatAt w b m M Y) (r : Int) (h0 : prE n L X m M Y = r) (h1 : r ≠ 0) :
    Calls Try.prog 11 #[a, b] w fun e w' => e = .returned (pairV (.slice none 0 0) r) ∧ Below w.heap.size w w' := by
  have HA := hid ha
  have HB := hid hb
  have HE := hid h0
  have d : (r != 0) = true := by simpa using h1
  clear ha hb h0 h1
  go_enter Try.func11, Try.ntmps11
  go_wp2_with fail
  refine (checkPair_any _ _ n m L M X Y _ HA.out HB.out).mono ?_
  rw [HE.out]
  rintro e w1 ⟨rfl, hB1⟩
  have HB1 := hid hB1
  clear hB1
  go_wp2_with fail
  go_ret2
  exact ⟨rfl, HB1.out⟩
end Go.Proofs.Ytgikaheojcpmpab
