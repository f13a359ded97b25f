/-
  Close and Closed, whole.
-/
import Derived.Test.YtgikaheojcpmpabDoorX
namespace Go.Proofs.YtgikaheojcpmpabDoor
open Go.ChangeShapes Go.WideShapes Go.ChangeAt Go.RowKit Go.Maps
set_option linter.unusedVariables false
set_option linter.unusedSimpArgs false
set_option maxRecDepth 20000
/-- What Close answers for a matrix with nothing wrong but its ways. -/
def Cres (w w' : World) (e : Ending) (n : Nat) (m : Mx) : Prop :=
  (Gd n n m ∧ ∃ V, e = .returned (.tuple #[V, .int .i64 0]) ∧ New w w' V n (fun _ => n) (fw m n)) ∨ (¬ Gd n n m ∧ e = .returned (.tuple #[.slice none 0 0, .int .i64 16]))
set_option maxHeartbeats 8000000 in
theorem closeP_any (v : Value) (n : Nat) (L : Nat → Nat) (m : Mx) (w : World) (h : MatAt w v n L m) (h0 : own n L m = 0) :
    Calls Tryd.prog 12 #[v] w fun e w' => Cres w w' e n m ∧ Below w.heap.size w w' := by
  have HM := hid h
  have HE := hid h0
  obtain ⟨o1, o2, o3, o4, o5⟩ := own_ok h0
  have HL := hid o3
  have HD := hid o4
  have HB := hid o5
  have HN := hid o2
  have hmx : (n : Int) ≤ 12 := by omega
  have HG0 : Hid (Gd n 0 m) := fun s hs i hi => by
    have e : s = 0 := by omega
    subst e
    exact HD.out i hi
  clear h h0 o1 o2 o3 o4 o5
  go_enter Tryd.func12, Tryd.ntmps12
  go_wp2_with fail
  refine (checkOwn_any v n L m _ HM.out).mono ?_
  rw [HE.out]
  rintro e w1 ⟨rfl, hB1⟩
  have HB1 := hid hB1
  clear hB1
  go_wp2_with fail
  refine (joinClose_any v v n L L m m _ (HM.out.later HB1.out) (HM.out.later HB1.out) HL.out HL.out HN.out).mono ?_
  rintro e w2 ⟨⟨V, rfl, hNew⟩, hB2⟩
  obtain ⟨p3, cap3, b3, G, C, rfl, hp3, hc3, hc4, hO⟩ := hNew.from HB1.out.size
  have HO : Hid (OwnM w2 w.heap.size b3 n (fun _ => n) G C m) := hO
  have HB2 := hid (below_then HB1.out hB2 (Nat.le_refl _))
  have HP3 := hid hp3
  have HC := hid (And.intro hc3 hc4)
  clear hO hB2 hp3 hc3 hc4 hNew
  go_wp2_with fail
  go_loopg [17] n (fun gg to wr => ∃ t : Nat, t ≤ n ∧ gg = n - t ∧ to = .int .i64 (t : Nat) ∧ OwnM wr w.heap.size b3 n (fun _ => n) G C (fw m t) ∧ Gd n t m ∧ Below w.heap.size w wr)
  case atStart => exact ⟨0, by omega, by omega, rfl, HO.out, HG0.out, HB2.out⟩
  case round =>
    obtain ⟨t, ht, rfl, rfl, hO1, hG1, hBr⟩ := hrel
    have HO1 := hid hO1
    have HG1 := hid hG1
    have HBR := hid hBr
    clear hO1 hG1 hBr
    have t1 : (0 : Int) ≤ (t : Int) := by omega
    by_cases htn : t < n
    · have t2 : (t : Int) < (n : Int) := by omega
      go_wp2_with fail
      refine (shorten_any b3 n cap3 w.heap.size t p3 G C (fw m t) _ HO1.out HP3.out HN.out htn (HG1.out t (Nat.le_refl _) t htn) (fw_small HN.out HB.out (by omega))).mono ?_
      rintro e w4 ⟨rfl, hO4, hB4⟩
      have HO4 : Hid (OwnM w4 w.heap.size b3 n (fun _ => n) G C (fw m (t + 1))) := hO4
      have HB4 := hid (HBR.out.trans hB4)
      clear hO4 hB4
      go_wp2_with fail
      refine (below_any b3 n cap3 w.heap.size p3 G C (fw m (t + 1)) _ HO4.out HP3.out HN.out).mono ?_
      obtain ⟨r, hr⟩ : ∃ r, ngb (fw m (t + 1)) n = r := ⟨_, rfl⟩
      have HR := hid hr
      rw [hr]
      clear hr
      rintro e w5 ⟨rfl, rfl⟩
      cases r
      · have HG2 : Hid (Gd n (t + 1) m) := fun s hs i hi => by
          by_cases c : s ≤ t
          · exact HG1.out s c i hi
          · obtain rfl : s = t + 1 := by omega
            have h1 := ngb_false HR.out i hi
            have h2 := fw_mono m (Nat.zero_le (t + 1)) i i
            have h3 : fw m 0 i i = 0 := HD.out i hi
            omega
        go_wp2_with fail
        go_roundg (n - (t + 1))
        case rel => exact ⟨t + 1, by omega, rfl, by go_num, HO4.out, HG2.out, HB4.out⟩
        case measure => omega
      · have HNG : Hid (¬ Gd n n m) := fun hg => by
          obtain ⟨i, h1, h2⟩ := ngb_true HR.out
          have := hg (t + 1) (by omega) i h1
          omega
        go_wp2_with fail
        go_ret2
        exact ⟨.inr ⟨HNG.out, rfl⟩, HB4.out⟩
    · obtain rfl : t = n := by omega
      go_wp2_with fail
      go_ret2
      exact ⟨.inl ⟨HG1.out, _, rfl, p3, cap3, b3, G, C, rfl, HP3.out, HC.out.1, HC.out.2, HO1.out⟩, HBR.out⟩
set_option maxHeartbeats 8000000 in
theorem closeP_bad (v : Value) (n : Nat) (L : Nat → Nat) (m : Mx) (w : World) (h : MatAt w v n L m) (c : Int) (h0 : own n L m = c) (hc0 : c ≠ 0) :
    Calls Tryd.prog 12 #[v] w fun e w' => e = .returned (.tuple #[.slice none 0 0, .int .i64 c]) ∧ Below w.heap.size w w' := by
  have HM := hid h
  have HE := hid h0
  have d : (c != 0) = true := by simpa using hc0
  clear h h0 hc0
  go_enter Tryd.func12, Tryd.ntmps12
  go_wp2_with fail
  refine (checkOwn_any v n L m _ HM.out).mono ?_
  rw [HE.out]
  rintro e w1 ⟨rfl, hB1⟩
  have HB1 := hid hB1
  clear hB1
  go_wp2_with fail
  go_ret2
  exact ⟨rfl, HB1.out⟩
/-- What the reference answers for any matrix. -/
def Rres (w w' : World) (e : Ending) (n : Nat) (L : Nat → Nat) (m : Mx) : Prop :=
  (own n L m = 0 ∧ Cres w w' e n m) ∨ (own n L m ≠ 0 ∧ e = .returned (.tuple #[.slice none 0 0, .int .i64 (own n L m)]))
end Go.Proofs.YtgikaheojcpmpabDoor
