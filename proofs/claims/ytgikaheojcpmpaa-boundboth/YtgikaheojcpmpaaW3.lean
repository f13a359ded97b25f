/-
  BoundBoth, BoundEither: the walks.
-/
import Derived.Test.YtgikaheojcpmpaaL
import Derived.Test.YtgikaheojcpmpaaH
namespace Go.Proofs.Ytgikaheojcpmpaa
open Go.ChangeShapes Go.WideShapes Go.ChangeAt Go.RowKit Go.Maps
set_option linter.unusedVariables false
set_option linter.unusedSimpArgs false
set_option maxRecDepth 20000
theorem mat_nil' (w : World) (L : Nat → Nat) (Z : Nat → Nat → Int) : MatAt w (.slice none 0 0) 0 L Z := ⟨none, 0, rfl, Nat.le_refl _, Nat.zero_le _, fun h => by omega⟩
theorem below_dn' {w : World} {m : Nat} {w' : World} (h : w' = w.drewN m) : Below w.heap.size w w' := by subst h; exact below_drewN (Below.refl _ _) _
set_option maxHeartbeats 4000000 in
theorem boundBoth_walk (a b : Value) (n m : Nat) (L M : Nat → Nat) (X Y : Nat → Nat → Int) (w : World) (ha : MatAt w a n L X) (hb : MatAt w b m M Y) (fa : Fit n L) (fb : Fit m M) :
    Calls Try.prog 6 #[a, b] w fun e w' => e = .returned (.bool true) ∧ Below w.heap.size w w' := by
  have HA := hid ha
  have HB := hid hb
  have HFA := hid fa
  have HFB := hid fb
  clear ha hb fa fb
  obtain ⟨r, hr⟩ : ∃ r, prE n L X m M Y = r := ⟨_, rfl⟩
  by_cases h0 : r = 0
  · subst h0
    have HR := hid hr
    clear hr
    go_enter Try.func6, Try.ntmps6
    go_wp2_with fail
    refine (matrixCopy_any a n L X _ HA.out HFA.out).mono ?_
    rintro e w1 ⟨⟨V1, rfl, hN1⟩, hB1⟩
    have HN1 := hid hN1
    have HB1 := hid hB1
    clear hN1 hB1
    go_wp2_with fail
    refine (matrixCopy_any b m M Y _ (HB.out.later HB1.out) HFB.out).mono ?_
    rintro e w2 ⟨⟨V2, rfl, hN2⟩, hB2⟩
    have HN2 := hid hN2
    have HB2 := hid hB2
    clear hN2 hB2
    go_wp2_with fail
    refine (prBoth_ok V1 V2 n m L M X Y _ (HN1.out.mat.later HB2.out) HN2.out.mat HR.out).mono ?_
    rintro e w3 ⟨⟨V3, rfl, hN3⟩, hB3⟩
    have HN3 := hid hN3
    have HB3 := hid (below_then (below_then HB1.out HB2.out (Nat.le_refl _)) hB3 (Nat.le_refl _))
    clear hN3 hB3
    go_wp2_with fail
    refine (BothOf_ok a b n m L M X Y _ (HA.out.later HB3.out) (HB.out.later HB3.out) HR.out).mono ?_
    rintro e w4 ⟨⟨V4, rfl, hN4⟩, hB4⟩
    have HN4 := hid hN4
    have HN5 := hid (HN3.out.mat.later hB4)
    have HB4 := hid (below_then HB3.out hB4 (Nat.le_refl _))
    clear hN4 hB4
    go_wp2_with fail
    refine (sameRows_any V3 V4 n (fun _ => n) _ _ HN5.out HN4.out.mat).mono ?_
    rintro e w5 ⟨rfl, t, hB5⟩
    have HB5 := hid (below_then HB4.out (below_dn' hB5) (Nat.le_refl _))
    clear hB5
    go_wp2_with fail
    go_ret
    exact ⟨rfl, HB5.out⟩
  · have HR := hid hr
    have HR0 := hid h0
    clear hr h0
    go_enter Try.func6, Try.ntmps6
    go_wp2_with fail
    refine (matrixCopy_any a n L X _ HA.out HFA.out).mono ?_
    rintro e w1 ⟨⟨V1, rfl, hN1⟩, hB1⟩
    have HN1 := hid hN1
    have HB1 := hid hB1
    clear hN1 hB1
    go_wp2_with fail
    refine (matrixCopy_any b m M Y _ (HB.out.later HB1.out) HFB.out).mono ?_
    rintro e w2 ⟨⟨V2, rfl, hN2⟩, hB2⟩
    have HN2 := hid hN2
    have HB2 := hid hB2
    clear hN2 hB2
    go_wp2_with fail
    refine (prBoth_bad V1 V2 n m L M X Y _ (HN1.out.mat.later HB2.out) HN2.out.mat r HR.out HR0.out).mono ?_
    rintro e w3 ⟨rfl, hB3⟩
    have HB3 := hid (below_then (below_then HB1.out HB2.out (Nat.le_refl _)) hB3 (Nat.le_refl _))
    clear hB3
    go_wp2_with fail
    refine (BothOf_bad a b n m L M X Y _ (HA.out.later HB3.out) (HB.out.later HB3.out) r HR.out HR0.out).mono ?_
    rintro e w4 ⟨rfl, hB4⟩
    have HB4 := hid (below_then HB3.out hB4 (Nat.le_refl _))
    clear hB4
    go_wp2_with fail
    refine (sameRows_any _ _ 0 (fun _ => 0) (fun _ _ => 0) _ (mat_nil' _ _ _) (mat_nil' _ _ _)).mono ?_
    rintro e w5 ⟨rfl, t, hB5⟩
    have HB5 := hid (below_then HB4.out (below_dn' hB5) (Nat.le_refl _))
    clear hB5
    go_wp2_with fail
    go_ret
    exact ⟨rfl, HB5.out⟩
set_option maxHeartbeats 4000000 in
theorem boundEither_walk (a b : Value) (n m : Nat) (L M : Nat → Nat) (X Y : Nat → Nat → Int) (w : World) (ha : MatAt w a n L X) (hb : MatAt w b m M Y) (fa : Fit n L) (fb : Fit m M) :
    Calls Try.prog 7 #[a, b] w fun e w' => e = .returned (.bool true) ∧ Below w.heap.size w w' := by
  have HA := hid ha
  have HB := hid hb
  have HFA := hid fa
  have HFB := hid fb
  clear ha hb fa fb
  obtain ⟨r, hr⟩ : ∃ r, prE n L X m M Y = r := ⟨_, rfl⟩
  by_cases h0 : r = 0
  · subst h0
    have HR := hid hr
    clear hr
    go_enter Try.func7, Try.ntmps7
    go_wp2_with fail
    refine (matrixCopy_any a n L X _ HA.out HFA.out).mono ?_
    rintro e w1 ⟨⟨V1, rfl, hN1⟩, hB1⟩
    have HN1 := hid hN1
    have HB1 := hid hB1
    clear hN1 hB1
    go_wp2_with fail
    refine (matrixCopy_any b m M Y _ (HB.out.later HB1.out) HFB.out).mono ?_
    rintro e w2 ⟨⟨V2, rfl, hN2⟩, hB2⟩
    have HN2 := hid hN2
    have HB2 := hid hB2
    clear hN2 hB2
    go_wp2_with fail
    refine (prEither_ok V1 V2 n m L M X Y _ (HN1.out.mat.later HB2.out) HN2.out.mat HR.out).mono ?_
    rintro e w3 ⟨⟨V3, rfl, hN3⟩, hB3⟩
    have HN3 := hid hN3
    have HB3 := hid (below_then (below_then HB1.out HB2.out (Nat.le_refl _)) hB3 (Nat.le_refl _))
    clear hN3 hB3
    go_wp2_with fail
    refine (EitherOf_ok a b n m L M X Y _ (HA.out.later HB3.out) (HB.out.later HB3.out) HR.out).mono ?_
    rintro e w4 ⟨⟨V4, rfl, hN4⟩, hB4⟩
    have HN4 := hid hN4
    have HN5 := hid (HN3.out.mat.later hB4)
    have HB4 := hid (below_then HB3.out hB4 (Nat.le_refl _))
    clear hN4 hB4
    go_wp2_with fail
    refine (sameRows_any V3 V4 n (fun _ => n) _ _ HN5.out HN4.out.mat).mono ?_
    rintro e w5 ⟨rfl, t, hB5⟩
    have HB5 := hid (below_then HB4.out (below_dn' hB5) (Nat.le_refl _))
    clear hB5
    go_wp2_with fail
    go_ret
    exact ⟨rfl, HB5.out⟩
  · have HR := hid hr
    have HR0 := hid h0
    clear hr h0
    go_enter Try.func7, Try.ntmps7
    go_wp2_with fail
    refine (matrixCopy_any a n L X _ HA.out HFA.out).mono ?_
    rintro e w1 ⟨⟨V1, rfl, hN1⟩, hB1⟩
    have HN1 := hid hN1
    have HB1 := hid hB1
    clear hN1 hB1
    go_wp2_with fail
    refine (matrixCopy_any b m M Y _ (HB.out.later HB1.out) HFB.out).mono ?_
    rintro e w2 ⟨⟨V2, rfl, hN2⟩, hB2⟩
    have HN2 := hid hN2
    have HB2 := hid hB2
    clear hN2 hB2
    go_wp2_with fail
    refine (prEither_bad V1 V2 n m L M X Y _ (HN1.out.mat.later HB2.out) HN2.out.mat r HR.out HR0.out).mono ?_
    rintro e w3 ⟨rfl, hB3⟩
    have HB3 := hid (below_then (below_then HB1.out HB2.out (Nat.le_refl _)) hB3 (Nat.le_refl _))
    clear hB3
    go_wp2_with fail
    refine (EitherOf_bad a b n m L M X Y _ (HA.out.later HB3.out) (HB.out.later HB3.out) r HR.out HR0.out).mono ?_
    rintro e w4 ⟨rfl, hB4⟩
    have HB4 := hid (below_then HB3.out hB4 (Nat.le_refl _))
    clear hB4
    go_wp2_with fail
    refine (sameRows_any _ _ 0 (fun _ => 0) (fun _ _ => 0) _ (mat_nil' _ _ _) (mat_nil' _ _ _)).mono ?_
    rintro e w5 ⟨rfl, t, hB5⟩
    have HB5 := hid (below_then HB4.out (below_dn' hB5) (Nat.le_refl _))
    clear hB5
    go_wp2_with fail
    go_ret
    exact ⟨rfl, HB5.out⟩
end Go.Proofs.Ytgikaheojcpmpaa
