/-
  The reference's rounds.
-/
import Derived.Test.YtgikaheojcpmpaaDoorP2
import Derived.Test.YtgikaheojcpmpaaDoorE
import Derived.BigRegion
namespace Go.Proofs.YtgikaheojcpmpaaDoor
open Go.ChangeShapes Go.WideShapes Go.ChangeAt Go.RowKit Go.Maps
set_option linter.unusedVariables false
set_option linter.unusedSimpArgs false
set_option maxRecDepth 20000
/-- What is at hand of an own matrix at three places. -/
theorem OwnM.at3 {w : World} {B b n : Nat} {G C : Nat → Nat} {Z : Nat → Nat → Int} (h : OwnM w B b n (fun _ => n) G C Z) {i k j : Nat} (hi : i < n) (hk : k < n) (hj : j < n) :
    w.cell? ⟨b, i, none⟩ = some (.slice (some ⟨G i, 0, none⟩) n (C i)) ∧ w.cell? ⟨b, k, none⟩ = some (.slice (some ⟨G k, 0, none⟩) n (C k)) ∧ w.cell? ⟨G i, k, none⟩ = some (.int .i64 (Z i k)) ∧ w.cell? ⟨G k, j, none⟩ = some (.int .i64 (Z k j)) ∧ w.cell? ⟨G i, j, none⟩ = some (.int .i64 (Z i j)) ∧ w.frozen? ⟨G i, j, none⟩ = false := by
  obtain ⟨q1, e1, f1⟩ := h.top i hi
  obtain ⟨q2, e2, f2⟩ := h.top k hk
  rw [f1 (by omega)] at e1
  rw [f2 (by omega)] at e2
  exact ⟨e1, e2, (h.row i hi (by omega)).cell hk, (h.row k hk (by omega)).cell hj, (h.row i hi (by omega)).cell hj, (h.row i hi (by omega)).frozen j⟩
/-- What the reference's rounds answer. -/
def Tres (w w' : World) (e : Ending) (n : Nat) (r : Option Mx) : Prop :=
  match r with
  | none => e = .returned (.tuple #[.slice none 0 0, .bool false])
  | some R => ∃ V, e = .returned (.tuple #[V, .bool true]) ∧ New w w' V n (fun _ => n) R
theorem stp_big {S : Mx × Bool} {i k j : Nat} (h : S.1 i k = 1152921504606846976 ∨ S.1 k j = 1152921504606846976) : stp S i k j = S := by unfold stp; rw [if_pos h]
theorem stp_less {S : Mx × Bool} {i k j : Nat} (h1 : ¬ S.1 i k = 1152921504606846976) (h2 : ¬ S.1 k j = 1152921504606846976) (h : RowKit.wrap64 (S.1 i k + S.1 k j) < S.1 i j) : stp S i k j = (upd S.1 i j (RowKit.wrap64 (S.1 i k + S.1 k j)), true) := by
  unfold stp; rw [if_neg (by omega), if_pos h]
theorem stp_same {S : Mx × Bool} {i k j : Nat} (h1 : ¬ S.1 i k = 1152921504606846976) (h2 : ¬ S.1 k j = 1152921504606846976) (h : ¬ RowKit.wrap64 (S.1 i k + S.1 k j) < S.1 i j) : stp S i k j = S := by
  unfold stp; rw [if_neg (by omega), if_neg h]
set_option maxHeartbeats 16000000 in
theorem tightened_any (v : Value) (n : Nat) (L : Nat → Nat) (m : Mx) (w : World) (h : MatAt w v n L m) (hL : ∀ i, i < n → L i = n) (hn : n ≤ 12) :
    Calls Tryd.prog 29 #[v] w fun e w' => Tres w w' e n (tgt n (n + 1) m) ∧ Below w.heap.size w w' := by
  have HM := hid h
  have HL := hid hL
  have HF : Hid (Fit n L) := ⟨by omega, fun i hi => by rw [hL i hi]; omega⟩
  obtain ⟨p, cap, rfl, _, _, _⟩ := h
  have hmx : (n : Int) ≤ 12 := by omega
  obtain ⟨tr, htr⟩ : ∃ r, tgt n (n + 1) m = r := ⟨_, rfl⟩
  have HTR := hid htr
  rw [htr]
  clear htr hL
  go_enter Tryd.func29, Tryd.ntmps29
  go_wp2_with fail
  refine (matrixCopy_any _ n L m _ HM.out HF.out).mono ?_
  rintro e w3 ⟨⟨V, rfl, hNew⟩, hB3⟩
  have hNew := hNew.congr (M := fun _ => n) (Y := m) HL.out (fun _ _ _ _ => rfl)
  obtain ⟨p3, cap3, b3, G, C, rfl, hp3, hc3, hc4, hO⟩ := hNew
  have HO := hid hO
  have HB3 := hid hB3
  have HP3 := hid hp3
  have HC := hid (And.intro hc3 hc4)
  clear hO hB3 hp3 hc3 hc4
  go_wp2_with fail
  go_loopg [5, 6] (n + 1) (fun gg co ro wr => ∃ (r : Nat) (c : Bool) (Q : Mx), r ≤ n + 1 ∧ gg = n + 1 - r ∧ ro = .int .i64 (r : Nat) ∧ co = .bool c ∧ OwnM wr w.heap.size b3 n (fun _ => n) G C Q ∧ tr = (if c = true then tgt n (n + 1 - r) Q else some Q) ∧ Below w.heap.size w wr)
  case atStart => exact ⟨0, true, m, by omega, by omega, rfl, rfl, HO.out, by rw [if_pos rfl, ← HTR.out]; rfl, HB3.out⟩
  case round =>
    obtain ⟨r, c, Q, hr, rfl, rfl, rfl, hO1, hT1, hBr⟩ := hrel
    have HO1 := hid hO1
    have HT1 := hid hT1
    have HBR := hid hBr
    clear hO1 hT1 hBr
    have r1 : (0 : Int) ≤ (r : Int) := by omega
    cases c
    · have HTT : Hid (tr = some Q) := by have := HT1.out; show tr = some Q; simpa using this
      by_cases hrn : r ≤ n
      · have r2 : (r : Int) ≤ (n : Int) := by omega
        go_wp2_with fail
        go_ret2
        rw [HTT.out]
        exact ⟨⟨_, rfl, p3, cap3, b3, G, C, rfl, HP3.out, HC.out.1, HC.out.2, HO1.out⟩, HBR.out⟩
      · have r2 : ¬ (r : Int) ≤ (n : Int) := by omega
        go_wp2_with fail
        go_ret2
        rw [HTT.out]
        exact ⟨⟨_, rfl, p3, cap3, b3, G, C, rfl, HP3.out, HC.out.1, HC.out.2, HO1.out⟩, HBR.out⟩
    · by_cases hrn : r ≤ n
      · have r2 : (r : Int) ≤ (n : Int) := by omega
        have HTT : Hid (tr = tgt n (n - r + 1) Q) := by have := HT1.out; rw [if_pos rfl, show n + 1 - r = n - r + 1 by omega] at this; exact this
        clear HT1
        go_wp2_with fail
        go_loopg [5, 7] n (fun gg co io wi => ∃ i : Nat, i ≤ n ∧ gg = n - i ∧ io = .int .i64 (i : Nat) ∧ co = .bool (pi' n i (Q, false)).2 ∧ OwnM wi w.heap.size b3 n (fun _ => n) G C (pi' n i (Q, false)).1 ∧ Below w.heap.size w wi)
        case atStart => exact ⟨0, by omega, by omega, rfl, rfl, HO1.out, HBR.out⟩
        case round =>
          obtain ⟨i, hi, rfl, rfl, rfl, hO2, hB2⟩ := hrel
          clear HO1 HBR
          have HO2 := hid hO2
          have HB2 := hid hB2
          clear hO2 hB2
          obtain ⟨S2, hS2⟩ : ∃ S, pi' n i (Q, false) = S := ⟨_, rfl⟩
          have HS2 := hid hS2
          rw [hS2] at HO2 ⊢
          clear hS2
          by_cases hin : i < n
          · have i1 : (0 : Int) ≤ (i : Int) := by omega
            have i2 : (i : Int) < (n : Int) := by omega
            obtain rfl := HP3.out (by omega)
            go_wp2_with fail
            go_loopg [5, 8] n (fun gg co ko wi => ∃ k : Nat, k ≤ n ∧ gg = n - k ∧ ko = .int .i64 (k : Nat) ∧ co = .bool (pk n i k S2).2 ∧ OwnM wi w.heap.size b3 n (fun _ => n) G C (pk n i k S2).1 ∧ Below w.heap.size w wi)
            case atStart => exact ⟨0, by omega, by omega, rfl, rfl, HO2.out, HB2.out⟩
            case round =>
              obtain ⟨k, hk, rfl, rfl, rfl, hO3, hB3⟩ := hrel
              clear HO2 HB2
              have HO3 := hid hO3
              have HB4 := hid hB3
              clear hO3 hB3
              obtain ⟨S3, hS3⟩ : ∃ S, pk n i k S2 = S := ⟨_, rfl⟩
              have HS3 := hid hS3
              rw [hS3] at HO3 ⊢
              clear hS3
              by_cases hkn : k < n
              · have k1 : (0 : Int) ≤ (k : Int) := by omega
                have k2 : (k : Int) < (n : Int) := by omega
                go_wp2_with fail
                go_loopg [5, 9] n (fun gg co jo wi => ∃ j : Nat, j ≤ n ∧ gg = n - j ∧ jo = .int .i64 (j : Nat) ∧ co = .bool (pj i k j S3).2 ∧ OwnM wi w.heap.size b3 n (fun _ => n) G C (pj i k j S3).1 ∧ Below w.heap.size w wi)
                case atStart => exact ⟨0, by omega, by omega, rfl, rfl, HO3.out, HB4.out⟩
                case round =>
                  obtain ⟨j, hj, rfl, rfl, rfl, hO4, hB5⟩ := hrel
                  clear HO3 HB4
                  have HO4 := hid hO4
                  have HB5 := hid hB5
                  clear hO4 hB5
                  obtain ⟨S4, hS4⟩ : ∃ S, pj i k j S3 = S := ⟨_, rfl⟩
                  have HS4 := hid (show pj i k (j + 1) S3 = stp S4 i k j by rw [pj, hS4])
                  by_cases hjn : j < n
                  · rw [hS4] at HO4 ⊢
                    clear hS4
                    have j1 : (0 : Int) ≤ (j : Int) := by omega
                    have j2 : (j : Int) < (n : Int) := by omega
                    obtain ⟨c1, c2, c3, c4, c5, c6⟩ := HO4.out.at3 hin hkn hjn
                    have hcp1 := (HO4.out.cp i hin).1
                    have hcp2 := (HO4.out.cp k hkn).1
                    have HSB := hid ((stp_big (S := S4) (i := i) (k := k) (j := j)))
                    have HSL := hid ((stp_less (S := S4) (i := i) (k := k) (j := j)))
                    have HSS := hid ((stp_same (S := S4) (i := i) (k := k) (j := j)))
                    have HST := hid (fun (t : Nat) (x : Int) => (HO4.out.drewN t).set (k := j) hin hjn x)
                    have HSE := hid (fun (t : Nat) (x : Int) => (below_drewN HB5.out t).setCell (p := ⟨G i, j, none⟩) (HO4.out.gB i hin (by omega)) (.int .i64 x))
                    obtain ⟨gi, hgi⟩ : ∃ g, G i = g := ⟨_, rfl⟩
                    obtain ⟨gk, hgk⟩ : ∃ g, G k = g := ⟨_, rfl⟩
                    obtain ⟨ci, hci⟩ : ∃ g, C i = g := ⟨_, rfl⟩
                    obtain ⟨ck, hck⟩ : ∃ g, C k = g := ⟨_, rfl⟩
                    obtain ⟨x1, hx1⟩ : ∃ x, S4.1 i k = x := ⟨_, rfl⟩
                    obtain ⟨x2, hx2⟩ : ∃ x, S4.1 k j = x := ⟨_, rfl⟩
                    obtain ⟨x3, hx3⟩ : ∃ x, S4.1 i j = x := ⟨_, rfl⟩
                    obtain ⟨ch, hch⟩ : ∃ x, S4.2 = x := ⟨_, rfl⟩
                    have HCH := hid hch
                    rw [hgi, hci] at c1
                    rw [hgk, hck] at c2
                    rw [hgi, hx1] at c3
                    rw [hgk, hx2] at c4
                    rw [hgi, hx3] at c5
                    rw [hgi] at c6 HST HSE
                    rw [hci] at hcp1
                    rw [hck] at hcp2
                    rw [hx1, hx2] at HSB HSL HSS
                    rw [hx3] at HSL HSS
                    rw [hch]
                    clear hgi hgk hci hck hx1 hx2 hx3 hch
                    by_cases q1 : x1 = 1152921504606846976
                    · have HNX := hid (HSB.out (.inl q1))
                      subst q1
                      go_wp2_with fail
                      go_roundg (n - (j + 1))
                      case rel => exact ⟨j + 1, by omega, rfl, by go_num, by rw [HS4.out, HNX.out, HCH.out], by rw [HS4.out, HNX.out]; exact HO4.out, HB5.out⟩
                      case measure => omega
                    · have d1 : (x1 == 1152921504606846976) = false := by simpa using q1
                      by_cases q2 : x2 = 1152921504606846976
                      · have HNX := hid (HSB.out (.inr q2))
                        subst q2
                        go_wp2_with fail
                        go_roundg (n - (j + 1))
                        case rel => exact ⟨j + 1, by omega, rfl, by go_num, by rw [HS4.out, HNX.out, HCH.out], by rw [HS4.out, HNX.out]; exact HO4.out, HB5.out⟩
                        case measure => omega
                      · have d2 : (x2 == 1152921504606846976) = false := by simpa using q2
                        by_cases q3 : RowKit.wrap64 (x1 + x2) < x3
                        · have HNX := hid (HSL.out q1 q2 q3)
                          clear HSB HSL HSS
                          go_wp2_with fail
                          go_quiet (fail)
                          go_wp2_with fail
                          go_region
                          all_goals
                            go_wp2_with fail
                            go_roundg (n - (j + 1))
                            case rel => exact ⟨j + 1, by omega, rfl, by go_num, by rw [HS4.out, HNX.out], by rw [HS4.out, HNX.out]; exact HST.out _ _, HSE.out _ _⟩
                            case measure => omega
                        · have HNX := hid (HSS.out q1 q2 q3)
                          clear HSB HSL HSS
                          go_wp2_with fail
                          go_quiet (fail)
                          go_wp2_with fail
                          go_roundg (n - (j + 1))
                          case rel => exact ⟨j + 1, by omega, rfl, by go_num, by rw [HS4.out, HNX.out, HCH.out], by rw [HS4.out, HNX.out]; exact HO4.out.drewN _, below_drewN HB5.out _⟩
                          case measure => omega
                  · obtain rfl : j = n := by omega
                    clear hS4 HS4
                    go_wp2_with fail
                    go_roundg (j - (k + 1))
                    case rel => exact ⟨k + 1, by omega, rfl, by go_num, by rw [pk, HS3.out], by rw [pk, HS3.out]; exact HO4.out, HB5.out⟩
                    case measure => omega
              · obtain rfl : k = n := by omega
                go_wp2_with fail
                go_roundg (k - (i + 1))
                case rel => exact ⟨i + 1, by omega, rfl, by go_num, by rw [pi', HS2.out, HS3.out], by rw [pi', HS2.out, HS3.out]; exact HO3.out, HB4.out⟩
                case measure => omega
          · obtain rfl : i = n := by omega
            have HRN : Hid (rnd i Q = S2) := HS2.out
            have HTU : Hid (tr = if ngb S2.1 i = true then none else if S2.2 = true then tgt i (i - r) S2.1 else some S2.1) := by
              have := HTT.out
              rw [tgt, HRN.out] at this
              exact this
            clear HTT HS2 HRN
            obtain ⟨ch, hch⟩ : ∃ x, S2.2 = x := ⟨_, rfl⟩
            obtain ⟨Q2, hQ2⟩ : ∃ x, S2.1 = x := ⟨_, rfl⟩
            rw [hch, hQ2] at HTU
            rw [hQ2] at HO2
            rw [hch]
            clear hch hQ2
            go_wp2_with fail
            go_loopg [10] i (fun gg jo wi => ∃ j : Nat, j ≤ i ∧ gg = i - j ∧ jo = .int .i64 (j : Nat) ∧ (∀ a, a < j → 0 ≤ Q2 a a) ∧ OwnM wi w.heap.size b3 i (fun _ => i) G C Q2 ∧ Below w.heap.size w wi)
            case atStart => exact ⟨0, by omega, by omega, rfl, fun a h => by omega, HO2.out, HB2.out⟩
            case round =>
              obtain ⟨j, hj, rfl, rfl, hpos, hO3, hB3⟩ := hrel
              clear HO2 HB2
              have HPO := hid hpos
              have HO3 := hid hO3
              have HB4 := hid hB3
              clear hpos hO3 hB3
              by_cases hjn : j < i
              · have j1 : (0 : Int) ≤ (j : Int) := by omega
                have j2 : (j : Int) < (i : Int) := by omega
                obtain rfl := HP3.out (by omega)
                obtain ⟨c1, z1, c3, z2, z3, z4⟩ := HO3.out.at3 hjn hjn hjn
                clear z1 z2 z3 z4
                have hcp1 := (HO3.out.cp j hjn).1
                obtain ⟨gi, hgi⟩ : ∃ g, G j = g := ⟨_, rfl⟩
                obtain ⟨ci, hci⟩ : ∃ g, C j = g := ⟨_, rfl⟩
                obtain ⟨x1, hx1⟩ : ∃ x, Q2 j j = x := ⟨_, rfl⟩
                have HX1 := hid hx1
                rw [hgi, hci] at c1
                rw [hgi, hx1] at c3
                rw [hci] at hcp1
                clear hgi hci hx1
                by_cases q1 : x1 < 0
                · have HTV : Hid (tr = none) := by
                    have := HTU.out
                    rw [if_pos (ngb_of hjn (by rw [HX1.out]; exact q1))] at this
                    exact this
                  have d : decide (x1 < 0) = true := by simpa using q1
                  clear q1
                  go_wp2_with fail
                  go_ret2
                  rw [HTV.out]
                  exact ⟨rfl, HB4.out⟩
                · have q4 : 0 ≤ x1 := by omega
                  have HPN : Hid (∀ a, a < j + 1 → 0 ≤ Q2 a a) := fun a ha => by
                    by_cases c : a = j
                    · subst c; rw [HX1.out]; omega
                    · exact HPO.out a (by omega)
                  have d : decide (x1 < 0) = false := by simpa using q4
                  clear q1 q4
                  go_wp2_with fail
                  go_roundg (i - (j + 1))
                  case rel => exact ⟨j + 1, by omega, rfl, by go_num, HPN.out, HO3.out, HB4.out⟩
                  case measure => omega
              · obtain rfl : j = i := by omega
                have HTV : Hid (tr = if ch = true then tgt j (j - r) Q2 else some Q2) := by
                  have := HTU.out
                  rw [if_neg (by rw [ngb_not HPO.out]; decide)] at this
                  exact this
                go_wp2_with fail
                go_roundg (j + 1 - (r + 1))
                case rel => exact ⟨r + 1, ch, Q2, by omega, by omega, by go_num, rfl, HO3.out, by rw [HTV.out, show j + 1 - (r + 1) = j - r by omega], HB4.out⟩
                case measure => omega
      · have r2 : ¬ (r : Int) ≤ (n : Int) := by omega
        have HTT : Hid (tr = some Q) := by have := HT1.out; rw [if_pos rfl, show n + 1 - r = 0 by omega] at this; exact this
        go_wp2_with fail
        go_ret2
        rw [HTT.out]
        exact ⟨⟨_, rfl, p3, cap3, b3, G, C, rfl, HP3.out, HC.out.1, HC.out.2, HO1.out⟩, HBR.out⟩
end Go.Proofs.YtgikaheojcpmpaaDoor
