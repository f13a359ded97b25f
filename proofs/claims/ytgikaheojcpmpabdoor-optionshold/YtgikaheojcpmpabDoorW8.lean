/-
  OptionsBack: the walk.
-/
import Derived.Test.YtgikaheojcpmpabDoorQ3
import Derived.Test.YtgikaheojcpmpabDoorQ2
import Derived.Deep.QuietTactic
import Derived.BigQuiet
namespace Go.Proofs.YtgikaheojcpmpabDoor
open Go.ChangeShapes Go.WideShapes Go.ChangeAt Go.RowKit Go.Maps
set_option linter.unusedVariables false
set_option linter.unusedSimpArgs false
set_option maxRecDepth 20000
theorem bcell8 {W w1 : World} (hb : Below W.heap.size W w1) : (∀ b o, b < W.heap.size → w1.cell? ⟨b, o, none⟩ = W.cell? ⟨b, o, none⟩) ∧ (∀ b o, b < W.heap.size → w1.frozen? ⟨b, o, none⟩ = W.frozen? ⟨b, o, none⟩) :=
  ⟨fun b o h => hb.cell (p := ⟨b, o, none⟩) h, fun b o h => hb.frozen (p := ⟨b, o, none⟩) h⟩
theorem opRl_in (r : Int) : 1 ≤ opRl r ∧ opRl r ≤ 13 := by
  have := pkd_in r (m := 13) (by decide)
  unfold opRl
  omega
theorem opLo_in (r low : Int) : 0 ≤ opLo r low ∧ opLo r low ≤ 6 := by
  have := pkd_in low (m := 6) (by decide)
  unfold opLo opLo0
  split
  · omega
  · split <;> omega
theorem opLo_13 (r low : Int) (h : opRl r = 13) : opLo r low = 0 := by
  unfold opLo
  rw [if_pos (by omega)]
theorem opHi_in (r low high : Int) : opHi low high = -1 ∨ (opLo r low ≤ opHi low high ∧ opHi low high ≤ 20) := by
  have := pkd_in low (m := 6) (by decide)
  have := pkd_in high (m := 9) (by decide)
  unfold opHi opLo opLo0
  split
  · right
    split <;> split <;> omega
  · exact .inl rfl
/-- Four rows of four. -/
def Cel4 (w : World) (b : Nat) (G C : Nat → Nat) (Z : Mx) : Prop := ∀ i, i < 4 → w.cell? ⟨b, i, none⟩ = some (.slice (some ⟨G i, 0, none⟩) 4 (C i)) ∧ 4 ≤ C i ∧ ∀ j, j < 4 → w.cell? ⟨G i, j, none⟩ = some (.int .i64 (Z i j))
theorem Cel4.later {w w' : World} {b : Nat} {G C : Nat → Nat} {Z : Mx} (h : Cel4 w b G C Z) (hb : Below w.heap.size w w') : Cel4 w' b G C Z := fun i hi => by
  obtain ⟨h1, h2, h3⟩ := h i hi
  exact ⟨(hb.cell (p := ⟨b, i, none⟩) (World.block_lt_of_cell? _ _ h1)).trans h1, h2, fun j hj => (hb.cell (p := ⟨G i, j, none⟩) (World.block_lt_of_cell? _ _ (h3 j hj))).trans (h3 j hj)⟩
theorem New.cel4 {w w' : World} {V : Value} {Z : Mx} (h : New w w' V 4 (fun _ => 4) Z) : ∃ b cap G C, V = .slice (some ⟨b, 0, none⟩) 4 cap ∧ 4 ≤ cap ∧ Cel4 w' b G C Z := by
  obtain ⟨p, cap, b, G, C, rfl, h1, h2, h3, h4⟩ := h
  rw [h1 (by decide)]
  refine ⟨b, cap, G, C, rfl, h2, fun i hi => ?_⟩
  obtain ⟨q1, e1, f1⟩ := h4.top i hi
  have f2 := f1 (by show 0 < 4; omega)
  subst f2
  exact ⟨e1, (h4.cp i hi).1, fun j hj => (h4.row i hi (by show 0 < 4; omega)).cell hj⟩
set_option maxHeartbeats 4000000 in
theorem optionsBack_walk (r low high : Int) (w : World) (ht : Tab w) (r1 : -9223372036854775808 ≤ r) (r2 : r ≤ 9223372036854775807) (l1 : -9223372036854775808 ≤ low) (l2 : low ≤ 9223372036854775807) (h1 : -9223372036854775808 ≤ high) (h2 : high ≤ 9223372036854775807) :
    Calls Tryd.prog 4 #[.int .i64 r, .int .i64 low, .int .i64 high] w fun e w' => e = .returned (.bool true) ∧ Below w.heap.size w w' := by
  have HOP := hid (fun W => option_any r low high W r1 r2 l1 l2 h1 h2)
  have HT := hid ht
  have b1 := opRl_in r
  have b2 := opLo_in r low
  have b3 := opHi_in r low high
  have b4 := opLo_13 r low
  generalize opRl r = x1 at *
  generalize opLo r low = x2 at *
  generalize opHi low high = x3 at *
  obtain ⟨rn, rfl⟩ : ∃ rn : Nat, x1 = (rn : Int) := ⟨x1.toNat, by omega⟩
  have HOK := hid (show optE (rn : Int) x2 x3 = 0 from optE_raw b1.1 b1.2 b2.1 (by omega) (by omega))
  have H13 := hid b4
  have HRN := hid (show 1 ≤ rn ∧ rn ≤ 13 by omega)
  clear b1 b2 b3 b4 r1 r2 l1 l2 h1 h2 ht
  go_enter Tryd.func4, Tryd.ntmps4
  go_wp2_with fail
  refine (HOP.out _).mono ?_
  rintro e w1 ⟨rfl, hB1⟩
  have HB1 := hid hB1
  have HT1 := hid ((HT.out.later hB1).later (below_new w1 (.cells #[.int .i64 (rn : Int), .int .i64 x2, .int .i64 x3] 23)))
  clear hB1
  go_wp2_with fail
  refine (inverse_any rn (invN rn : Nat) _ HRN.out.1 HRN.out.2 HT1.out.1 (HT1.out.2 rn HRN.out.1 HRN.out.2)).mono ?_
  rintro e w2 ⟨rfl, hB2⟩
  obtain ⟨hc2, hf2⟩ := bcell8 hB2
  have hz2 : w1.heap.size < w2.heap.size := by have := hB2.size; simp at this; omega
  have HB2 := hid (below_then (HB1.out.alloc HB1.out.size (.cells #[.int .i64 (rn : Int), .int .i64 x2, .int .i64 x3] 23)) hB2 (Nat.le_refl _))
  have HT2 := hid (HT1.out.later hB2)
  clear hB2
  go_wp2_with fail
  have HA1 := hid (below_new w2 (.cells #[.int .i64 (invN rn : Nat), .int .i64 x2, .int .i64 x3] 23))
  have HA2 := hid (below_new (w2.alloc (.cells #[.int .i64 (invN rn : Nat), .int .i64 x2, .int .i64 x3] 23)) (.cells #[.int .i64 (rn : Int), .int .i64 x2, .int .i64 x3, .int .i64 13, .int .i64 0, .int .i64 (-1)] 23))
  refine (options_any _ 2 (two ⟨rn, x2, x3⟩ eqO) _ (opts_two (by go_simp) (by go_simp) (by go_simp) (by go_simp; rfl) (by go_simp; rfl) (by go_simp; rfl)) ((HT2.out.later HA1.out).later HA2.out)).mono ?_
  rintro e w3 ⟨hO3, hB3⟩
  obtain ⟨hc3, hf3⟩ := bcell8 hB3
  have hz3 : w2.heap.size + 1 < w3.heap.size := by have := hB3.size; simp at this; omega
  have HA3 := hid (below_then (below_then HA1.out HA2.out (by simp)) hB3 (by simp))
  have HB3 := hid (below_then HB2.out HA3.out (Nat.le_refl _))
  have HT3 := hid (HT2.out.later HA3.out)
  have HR1 := hid (opR_eq ⟨rn, x2, x3⟩)
  have HE1 := hid (opE_two (o := ⟨rn, x2, x3⟩) (p := eqO) HOK.out (by decide))
  clear hB3
  rcases hO3 with ⟨hbad, _⟩ | ⟨_, hbad, _⟩ | ⟨_, R, V, hR, rfl, hN⟩
  · exact absurd HE1.out hbad
  · rw [HR1.out] at hbad; simp at hbad
  rw [HR1.out] at hR
  obtain rfl := Option.some.inj hR
  obtain ⟨ba, ca, Ga, Ca, rfl, hca, hCa⟩ := hN.cel4
  have HCA := hid hCa
  clear hN hCa hR
  go_wp2_with fail
  have HA4 := hid (below_new w3 (.cells #[.int .i64 (invN rn : Nat), .int .i64 x2, .int .i64 x3, .int .i64 13, .int .i64 0, .int .i64 (-1)] 23))
  refine (options_any _ 2 (two ⟨(invN rn : Nat), x2, x3⟩ eqO) _ (opts_two (by go_simp) (by go_simp) (by go_simp) (by go_simp; rfl) (by go_simp; rfl) (by go_simp; rfl)) (HT3.out.later HA4.out)).mono ?_
  rintro e w4 ⟨hO4, hB4⟩
  have HA5 := hid (below_then HA4.out hB4 (by simp))
  have HB4 := hid (below_then HB3.out HA5.out (Nat.le_refl _))
  have HCA4 := hid (HCA.out.later HA5.out)
  have HSW := hid (swp_both (o := ⟨rn, x2, x3⟩) HOK.out H13.out)
  have hiv : invO ⟨rn, x2, x3⟩ = ⟨(invN rn : Nat), x2, x3⟩ := by unfold invO; rw [show ((rn : Int)).toNat = rn by omega]
  have HR2 := hid (opR_eq ⟨(invN rn : Nat), x2, x3⟩)
  have HE2 := hid (opE_two (o := ⟨(invN rn : Nat), x2, x3⟩) (p := eqO) (by have := invO_ok (o := ⟨rn, x2, x3⟩) HOK.out; rwa [hiv] at this) (by decide))
  rw [hiv] at HSW
  clear hB4 hiv hc2 hf2 hc3 hf3 hz2 hz3
  rcases hO4 with ⟨hbad, _⟩ | ⟨_, hbad, _⟩ | ⟨_, R, V, hR, rfl, hN⟩
  · exact absurd HE2.out hbad
  · rw [HR2.out] at hbad; simp at hbad
  rw [HR2.out] at hR
  obtain rfl := Option.some.inj hR
  obtain ⟨bb, cb, Gb, Cb, rfl, hcb, hCb⟩ := hN.cel4
  have HCB := hid hCb
  generalize bothR ⟨rn, x2, x3⟩ = Z at *
  generalize bothR ⟨(invN rn : Nat), x2, x3⟩ = Y at *
  clear hN hCb hR HCA HA1 HA2 HA3 HA4 HA5 HB1 HB2 HB3 HT HT1 HT2 HT3 HR1 HR2 HE1 HE2 HOP
  go_wp2_with fail
  go_loopg [15] 4 (fun gg xo wr => ∃ x : Nat, x ≤ 4 ∧ gg = 4 - x ∧ xo = .int .i64 (x : Nat) ∧ Cel4 wr ba Ga Ca Z ∧ Cel4 wr bb Gb Cb Y ∧ Below w.heap.size w wr)
  case atStart => exact ⟨0, by omega, by omega, rfl, HCA4.out, HCB.out, HB4.out⟩
  case round =>
    obtain ⟨x, hx, rfl, rfl, hA, hB, hBr⟩ := hrel
    have HAR := hid hA
    have HBR := hid hB
    have HWR := hid hBr
    clear hA hB hBr HCA4 HCB HB4
    by_cases hx4 : x < 4
    · have i2 : (x : Int) < 4 := by omega
      obtain ⟨wo, hwo⟩ : ∃ wo, wo = wr := ⟨_, rfl⟩
      rw [← hwo] at HAR HBR HWR ⊢
      clear hwo
      go_wp2_with fail
      go_loopg [16] 4 (fun gg yo wr => ∃ y : Nat, y ≤ 4 ∧ gg = 4 - y ∧ yo = .int .i64 (y : Nat) ∧ Cel4 wr ba Ga Ca Z ∧ Cel4 wr bb Gb Cb Y ∧ Below w.heap.size w wr)
      case atStart => exact ⟨0, by omega, by omega, rfl, HAR.out, HBR.out, HWR.out⟩
      case round =>
        obtain ⟨y, hy, rfl, rfl, hA, hB, hBr⟩ := hrel
        clear HAR HBR HWR
        have HAR := hid hA
        have HBR := hid hB
        have HWR := hid hBr
        clear hA hB hBr
        by_cases hy4 : y < 4
        · have i4 : (y : Int) < 4 := by omega
          obtain ⟨p1, p2, p3⟩ := HAR.out x hx4
          have p4 := p3 y hy4
          obtain ⟨q1, q2, q3⟩ := HBR.out (pmS x) (pmS_lt x hx4)
          have q4 := q3 (pmS y) (pmS_lt y hy4)
          rw [HSW.out _ _ (pmS_lt x hx4) (pmS_lt y hy4), pmS_pmS hx4, pmS_pmS hy4] at q4
          have e1 : ((x : Int) + 2) % 4 = (pmS x : Nat) := by unfold pmS; omega
          have e2 : ((y : Int) + 2) % 4 = (pmS y : Nat) := by unfold pmS; omega
          have e3 : ((pmS x : Nat) : Int) < 4 := by have := pmS_lt x hx4; omega
          have e4 : ((pmS y : Nat) : Int) < 4 := by have := pmS_lt y hy4; omega
          have f1 : (4 : Int) ≤ (ca : Int) := by omega
          clear p3 q3
          generalize Ga x = ga at *
          generalize Ca x = cga at *
          generalize Gb (pmS x) = gb at *
          generalize Cb (pmS x) = cgb at *
          generalize Z x y = z at *
          go_wp2_with fail
          go_quiet (fail)
          go_wp2_with fail
          go_roundg (4 - (y + 1))
          case rel => exact ⟨y + 1, by omega, rfl, by go_num, HAR.out.later (below_drewN (Below.refl _ _) _), HBR.out.later (below_drewN (Below.refl _ _) _), HWR.out.trans (below_drewN (Below.refl _ _) _)⟩
          case measure => omega
        · obtain rfl : y = 4 := by omega
          go_wp2_with fail
          go_roundg (4 - (x + 1))
          case rel => exact ⟨x + 1, by omega, rfl, by go_num, HAR.out, HBR.out, HWR.out⟩
          case measure => omega
    · obtain rfl : x = 4 := by omega
      go_wp2_with fail
      go_ret
      exact ⟨rfl, HWR.out⟩
end Go.Proofs.YtgikaheojcpmpabDoor
