/-
  BoundCloses: the walk.
-/
import Derived.Test.YtgikaheojcpmpaaY
import Derived.Test.YtgikaheojcpmpaaH
namespace Go.Proofs.Ytgikaheojcpmpaa
open Go.ChangeShapes Go.WideShapes Go.ChangeAt Go.RowKit Go.Maps
set_option linter.unusedVariables false
set_option linter.unusedSimpArgs false
set_option maxRecDepth 20000
theorem mat_nil2 (w : World) (L : Nat → Nat) (Z : Nat → Nat → Int) : MatAt w (.slice none 0 0) 0 L Z := ⟨none, 0, rfl, Nat.le_refl _, Nat.zero_le _, fun h => by omega⟩
theorem below_dn2 {w : World} {m : Nat} {w' : World} (h : w' = w.drewN m) : Below w.heap.size w w' := by subst h; exact below_drewN (Below.refl _ _) _
set_option maxHeartbeats 8000000 in
theorem boundCloses_walk (v : Value) (n : Nat) (L : Nat → Nat) (m : Mx) (w : World) (h : MatAt w v n L m) (hfit : Fit n L) :
    Calls Try.prog 5 #[v] w fun e w' => e = .returned (.bool true) ∧ Below w.heap.size w w' := by
  have HM := hid h
  have HF := hid hfit
  clear h hfit
  obtain ⟨c, hc⟩ : ∃ c, own n L m = c := ⟨_, rfl⟩
  by_cases h0 : c = 0
  · subst h0
    have HE := hid hc
    clear hc
    go_enter Try.func5, Try.ntmps5
    go_wp2_with fail
    refine (matrixCopy_any v n L m _ HM.out HF.out).mono ?_
    rintro e w1 ⟨⟨V1, rfl, hN1⟩, hB1⟩
    have HN1 := hid hN1.mat
    have HB1 := hid hB1
    clear hN1 hB1
    go_wp2_with fail
    refine (closeP_any V1 n L m _ HN1.out HE.out).mono ?_
    rintro e w2 ⟨hR2, hB2⟩
    have HB2 := hid (below_then HB1.out hB2 (Nat.le_refl _))
    have HN2 := hid (HN1.out.later hB2)
    clear hB2 HN1
    rcases hR2 with ⟨hg, V2, rfl, hV2⟩ | ⟨hg, rfl⟩
    · have HG := hid hg
      have HV2 := hid hV2.mat
      clear hg hV2
      go_wp2_with fail
      refine (closed_any v n L m _ (HM.out.later HB2.out)).mono ?_
      rintro e w3 ⟨hR3, hB3⟩
      have HB3 := hid (below_then HB2.out hB3 (Nat.le_refl _))
      have HN3 := hid (HN2.out.later hB3)
      have HV3 := hid (HV2.out.later hB3)
      clear hB3 HN2 HV2
      rcases hR3 with ⟨_, ⟨_, V3, rfl, hV3⟩ | ⟨hg, _⟩⟩ | ⟨hne, _⟩
      · have HV4 := hid hV3.mat
        clear hV3
        go_wp2_with fail
        refine (sameRows_any V2 V3 n (fun _ => n) (fw m n) _ HV3.out HV4.out).mono ?_
        rintro e w4 ⟨rfl, t, hB4⟩
        have HB4 := hid (below_then HB3.out (below_dn2 hB4) (Nat.le_refl _))
        have HN4 := hid (HN3.out.later (below_dn2 hB4))
        clear hB4
        go_wp2_with fail
        refine (sameRows_any V1 v n L m _ HN4.out (HM.out.later HB4.out)).mono ?_
        rintro e w5 ⟨rfl, t, hB5⟩
        have HB5 := hid (below_then HB4.out (below_dn2 hB5) (Nat.le_refl _))
        clear hB5
        go_wp2_with fail
        go_ret
        exact ⟨rfl, HB5.out⟩
      · exact absurd HG.out hg
      · exact absurd HE.out hne
    · have HG := hid hg
      clear hg
      go_wp2_with fail
      refine (closed_any v n L m _ (HM.out.later HB2.out)).mono ?_
      rintro e w3 ⟨hR3, hB3⟩
      have HB3 := hid (below_then HB2.out hB3 (Nat.le_refl _))
      have HN3 := hid (HN2.out.later hB3)
      clear hB3 HN2
      rcases hR3 with ⟨_, ⟨hg, _⟩ | ⟨_, rfl⟩⟩ | ⟨hne, _⟩
      · exact absurd hg HG.out
      · go_wp2_with fail
        refine (sameRows_any _ _ 0 (fun _ => 0) (fun _ _ => 0) _ (mat_nil2 _ _ _) (mat_nil2 _ _ _)).mono ?_
        rintro e w4 ⟨rfl, t, hB4⟩
        have HB4 := hid (below_then HB3.out (below_dn2 hB4) (Nat.le_refl _))
        have HN4 := hid (HN3.out.later (below_dn2 hB4))
        clear hB4
        go_wp2_with fail
        refine (sameRows_any V1 v n L m _ HN4.out (HM.out.later HB4.out)).mono ?_
        rintro e w5 ⟨rfl, t, hB5⟩
        have HB5 := hid (below_then HB4.out (below_dn2 hB5) (Nat.le_refl _))
        clear hB5
        go_wp2_with fail
        go_ret
        exact ⟨rfl, HB5.out⟩
      · exact absurd HE.out hne
  · have HE := hid hc
    have HC0 := hid h0
    clear hc h0
    go_enter Try.func5, Try.ntmps5
    go_wp2_with fail
    refine (matrixCopy_any v n L m _ HM.out HF.out).mono ?_
    rintro e w1 ⟨⟨V1, rfl, hN1⟩, hB1⟩
    have HN1 := hid hN1.mat
    have HB1 := hid hB1
    clear hN1 hB1
    go_wp2_with fail
    refine (closeP_bad V1 n L m _ HN1.out c HE.out HC0.out).mono ?_
    rintro e w2 ⟨rfl, hB2⟩
    have HB2 := hid (below_then HB1.out hB2 (Nat.le_refl _))
    have HN2 := hid (HN1.out.later hB2)
    clear hB2 HN1
    go_wp2_with fail
    refine (closed_any v n L m _ (HM.out.later HB2.out)).mono ?_
    rw [show Rres = Rres from rfl]
    rintro e w3 ⟨hR3, hB3⟩
    have HB3 := hid (below_then HB2.out hB3 (Nat.le_refl _))
    have HN3 := hid (HN2.out.later hB3)
    clear hB3 HN2
    rcases hR3 with ⟨he, _⟩ | ⟨_, hE⟩
    · exact absurd (HE.out.symm.trans he) HC0.out
    · rw [HE.out] at hE
      subst hE
      go_wp2_with fail
      refine (sameRows_any _ _ 0 (fun _ => 0) (fun _ _ => 0) _ (mat_nil2 _ _ _) (mat_nil2 _ _ _)).mono ?_
      rintro e w4 ⟨rfl, t, hB4⟩
      have HB4 := hid (below_then HB3.out (below_dn2 hB4) (Nat.le_refl _))
      have HN4 := hid (HN3.out.later (below_dn2 hB4))
      clear hB4
      go_wp2_with fail
      refine (sameRows_any V1 v n L m _ HN4.out (HM.out.later HB4.out)).mono ?_
      rintro e w5 ⟨rfl, t, hB5⟩
      have HB5 := hid (below_then HB4.out (below_dn2 hB5) (Nat.le_refl _))
      clear hB5
      go_wp2_with fail
      go_ret
      exact ⟨rfl, HB5.out⟩
end Go.Proofs.Ytgikaheojcpmpaa
