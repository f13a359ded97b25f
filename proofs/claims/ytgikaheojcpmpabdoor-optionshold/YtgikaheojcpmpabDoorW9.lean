/-
  OptionsHold: the walk.
-/
import Derived.Test.YtgikaheojcpmpabDoorQ4
import Derived.Test.YtgikaheojcpmpabDoorW8
import Derived.Test.YtgikaheojcpmpabDoorTP
import Derived.Deep.RegionHeld3
import Derived.Deep.QuietTactic
import Derived.BigQuiet
namespace Go.Proofs.YtgikaheojcpmpabDoor
open Go.ChangeShapes Go.WideShapes Go.ChangeAt Go.RowKit Go.Maps
set_option linter.unusedVariables false
set_option linter.unusedSimpArgs false
set_option maxRecDepth 20000
theorem opLo_1 (r : Int) : opLo r 1 = 0 := by
  have h : opLo0 1 = 0 := by decide
  unfold opLo
  rw [h]
  split <;> rfl
theorem opHi_10 : opHi 1 0 = -1 := by decide
def Row4 (w : World) (g : Nat) (t : Nat → Int) : Prop := ∀ i, i < 4 → w.cell? ⟨g, i, none⟩ = some (.int .i64 (t i))
theorem Row4.later {w w' : World} {g : Nat} {t : Nat → Int} (h : Row4 w g t) (hb : Below w.heap.size w w') : Row4 w' g t := fun i hi => (hb.cell (p := ⟨g, i, none⟩) (World.block_lt_of_cell? _ _ (h i hi))).trans (h i hi)
theorem row4_new (w : World) (a b c d : Int) (ty : TypeId) : Row4 (w.alloc (.cells #[.int .i64 a, .int .i64 b, .int .i64 c, .int .i64 d] ty)) w.heap.size (tt a b c d) := fun i hi => by
  rcases (by omega : i = 0 ∨ i = 1 ∨ i = 2 ∨ i = 3) with rfl | rfl | rfl | rfl <;> simp [go_sem, tt]
theorem tt_in {a1 a2 b1 b2 : Int} (ha : 0 ≤ a1 ∧ a1 ≤ a2 ∧ a2 ≤ 100) (hb : 0 ≤ b1 ∧ b1 ≤ b2 ∧ b2 ≤ 100) (i : Nat) : 0 ≤ tt a1 a2 b1 b2 i ∧ tt a1 a2 b1 b2 i ≤ 100 := by
  unfold tt
  split
  · omega
  · split
    · omega
    · split <;> omega
/-- What lies where: two options, two spans. -/
def St (w : World) (g k l : Nat) (x1 x2 x3 y1 p1 p2 q1 q2 : Int) : Prop :=
  w.cell? ⟨g, 0, none⟩ = some (.int .i64 x1) ∧ w.cell? ⟨g, 1, none⟩ = some (.int .i64 x2) ∧ w.cell? ⟨g, 2, none⟩ = some (.int .i64 x3) ∧ w.cell? ⟨g, 3, none⟩ = some (.int .i64 y1) ∧ w.cell? ⟨g, 4, none⟩ = some (.int .i64 0) ∧ w.cell? ⟨g, 5, none⟩ = some (.int .i64 (-1)) ∧ w.cell? ⟨k, 0, none⟩ = some (.int .i64 p1) ∧ w.cell? ⟨k, 1, none⟩ = some (.int .i64 p2) ∧ w.cell? ⟨l, 0, none⟩ = some (.int .i64 q1) ∧ w.cell? ⟨l, 1, none⟩ = some (.int .i64 q2)
theorem St.later {w w' : World} {g k l : Nat} {x1 x2 x3 y1 p1 p2 q1 q2 : Int} (h : St w g k l x1 x2 x3 y1 p1 p2 q1 q2) (hb : Below w.heap.size w w') : St w' g k l x1 x2 x3 y1 p1 p2 q1 q2 := by
  obtain ⟨h0, h1, h2, h3, h4, h5, h6, h7, h8, h9⟩ := h
  exact ⟨(hb.cell (p := ⟨g, 0, none⟩) (World.block_lt_of_cell? _ _ h0)).trans h0, (hb.cell (p := ⟨g, 1, none⟩) (World.block_lt_of_cell? _ _ h1)).trans h1, (hb.cell (p := ⟨g, 2, none⟩) (World.block_lt_of_cell? _ _ h2)).trans h2, (hb.cell (p := ⟨g, 3, none⟩) (World.block_lt_of_cell? _ _ h3)).trans h3, (hb.cell (p := ⟨g, 4, none⟩) (World.block_lt_of_cell? _ _ h4)).trans h4, (hb.cell (p := ⟨g, 5, none⟩) (World.block_lt_of_cell? _ _ h5)).trans h5, (hb.cell (p := ⟨k, 0, none⟩) (World.block_lt_of_cell? _ _ h6)).trans h6, (hb.cell (p := ⟨k, 1, none⟩) (World.block_lt_of_cell? _ _ h7)).trans h7, (hb.cell (p := ⟨l, 0, none⟩) (World.block_lt_of_cell? _ _ h8)).trans h8, (hb.cell (p := ⟨l, 1, none⟩) (World.block_lt_of_cell? _ _ h9)).trans h9⟩
set_option maxHeartbeats 4000000 in
theorem optionsHold_walk (r low high r2 a n b m : Int) (w : World) (ht : Tab w) (hl : T1.Laid w) (r1' : -9223372036854775808 ≤ r) (r2' : r ≤ 9223372036854775807) (l1 : -9223372036854775808 ≤ low) (l2 : low ≤ 9223372036854775807) (h1 : -9223372036854775808 ≤ high) (h2 : high ≤ 9223372036854775807) (s1 : -9223372036854775808 ≤ r2) (s2 : r2 ≤ 9223372036854775807)
    (a1 : -9223372036854775808 ≤ a) (a2 : a ≤ 9223372036854775807) (n1 : -9223372036854775808 ≤ n) (n2 : n ≤ 9223372036854775807) (b1 : -9223372036854775808 ≤ b) (b2 : b ≤ 9223372036854775807) (m1 : -9223372036854775808 ≤ m) (m2 : m ≤ 9223372036854775807) :
    Calls Tryd.prog 3 #[.int .i64 r, .int .i64 low, .int .i64 high, .int .i64 r2, .int .i64 a, .int .i64 n, .int .i64 b, .int .i64 m] w fun e w' => e = .returned (.bool true) ∧ Below w.heap.size w w' := by
  have HOP := hid (fun W => option_any r low high W r1' r2' l1 l2 h1 h2)
  have HOQ : Hid (∀ W, Calls Tryd.prog 5 #[.int .i64 r2, .int .i64 1, .int .i64 0] W fun e w' => e = .returned (.agg #[.int .i64 (opRl r2), .int .i64 0, .int .i64 (-1)]) ∧ Below W.heap.size W w') := fun W => by
    have := option_any r2 1 0 W s1 s2 (by decide) (by decide) (by decide) (by decide)
    rwa [opLo_1, opHi_10] at this
  have HSA := hid (fun W => T1.span_any a n W a1 a2 n1 n2)
  have HSB := hid (fun W => T1.span_any b m W b1 b2 m1 m2)
  have HT := hid ht
  have HL := hid hl
  have c1 := opRl_in r
  have c2 := opLo_in r low
  have c3 := opHi_in r low high
  have c5 := opRl_in r2
  generalize opRl r = x1 at *
  generalize opLo r low = x2 at *
  generalize opHi low high = x3 at *
  generalize opRl r2 = y1 at *
  have HOK := hid (show optE x1 x2 x3 = 0 from optE_raw c1.1 c1.2 c2.1 (by omega) (by omega))
  have HO2 := hid (show optE y1 0 (-1) = 0 from optE_raw c5.1 c5.2 (by decide) (by decide) (by decide))
  have HCN := hid (can_plain c5.1 c5.2)
  clear c1 c2 c3 c5 r1' r2' l1 l2 h1 h2 s1 s2 a1 a2 n1 n2 b1 b2 m1 m2 ht hl
  go_enter Tryd.func3, Tryd.ntmps3
  go_wp2_with fail
  refine (HOP.out _).mono ?_
  rintro e w1 ⟨rfl, hB1⟩
  have HB1 := hid hB1
  clear hB1
  go_wp2_with fail
  refine (HOQ.out _).mono ?_
  rintro e w2 ⟨rfl, hB2⟩
  have HB2 := hid (below_then HB1.out hB2 (Nat.le_refl _))
  clear hB2
  go_wp2_with fail
  have HA1 := hid (below_new w2 (.cells #[.int .i64 x1, .int .i64 x2, .int .i64 x3, .int .i64 y1, .int .i64 0, .int .i64 (-1)] 23))
  refine (options_any _ 2 (two ⟨x1, x2, x3⟩ ⟨y1, 0, -1⟩) _ (opts_two (by go_simp) (by go_simp) (by go_simp) (by go_simp) (by go_simp) (by go_simp)) ((HT.out.later HB2.out).later HA1.out)).mono ?_
  rintro e w3 ⟨hO3, hB3⟩
  obtain ⟨hc3, hf3⟩ := bcell8 hB3
  have hz3 : w2.heap.size < w3.heap.size := by have := hB3.size; simp at this; omega
  have HC3 : Hid (w3.cell? ⟨w2.heap.size, 0, none⟩ = some (.int .i64 x1) ∧ w3.cell? ⟨w2.heap.size, 1, none⟩ = some (.int .i64 x2) ∧ w3.cell? ⟨w2.heap.size, 2, none⟩ = some (.int .i64 x3) ∧ w3.cell? ⟨w2.heap.size, 3, none⟩ = some (.int .i64 y1) ∧ w3.cell? ⟨w2.heap.size, 4, none⟩ = some (.int .i64 0) ∧ w3.cell? ⟨w2.heap.size, 5, none⟩ = some (.int .i64 (-1)) ∧ w2.heap.size < w3.heap.size) :=
    ⟨by rw [hc3 _ _ (by simp)]; go_simp, by rw [hc3 _ _ (by simp)]; go_simp, by rw [hc3 _ _ (by simp)]; go_simp, by rw [hc3 _ _ (by simp)]; go_simp, by rw [hc3 _ _ (by simp)]; go_simp, by rw [hc3 _ _ (by simp)]; go_simp, hz3⟩
  have HA3 := hid (below_then HA1.out hB3 (by simp))
  have HB3 := hid (below_then HB2.out HA3.out (Nat.le_refl _))
  have HT3 := hid (HT.out.later HB3.out)
  have HR1 := hid (opR_two (o := ⟨x1, x2, x3⟩) HCN.out)
  have HE1 := hid (opE_two (o := ⟨x1, x2, x3⟩) (p := ⟨y1, 0, -1⟩) HOK.out HO2.out)
  clear hB3 hc3 hf3 hz3
  rcases hO3 with ⟨hbad, _⟩ | ⟨_, hbad, _⟩ | ⟨_, R, V, hR, rfl, hN⟩
  · exact absurd HE1.out hbad
  · rw [HR1.out] at hbad; simp at hbad
  rw [HR1.out] at hR
  obtain rfl := Option.some.inj hR
  obtain ⟨ba, ca, Ga, Ca, rfl, hca, hCa⟩ := hN.cel4
  have HCA := hid hCa
  clear hN hCa hR HR1 HE1
  go_wp2_with fail
  have HA4 := hid (below_new w3 (.cells #[.int .i64 13, .int .i64 1, .int .i64 2] 23))
  refine (options_any _ 1 (fun _ => ⟨13, 1, 2⟩) _ (opts_one (by go_simp) (by go_simp) (by go_simp)) (HT3.out.later HA4.out)).mono ?_
  rintro e w4 ⟨hO4, hB4⟩
  have HA5 := hid (below_then HA4.out hB4 (by simp))
  have HB4 := hid (below_then HB3.out HA5.out (Nat.le_refl _))
  have HCA4 := hid (HCA.out.later HA5.out)
  clear hB4
  rcases hO4 with ⟨hbad, _⟩ | ⟨_, _, rfl⟩ | ⟨_, R, V, hR, _⟩
  · exact absurd opE_not hbad
  rotate_left
  · rw [opR_not] at hR; simp at hR
  go_wp2_with fail
  refine (HSA.out _).mono ?_
  rintro e w5 ⟨p1, p2, rfl, g1, g2, g3, g4, hB5⟩
  have HA6 := hid (below_then HA5.out hB5 (Nat.le_refl _))
  have HB5 := hid (below_then HB4.out hB5 (Nat.le_refl _))
  have HCA5 := hid (HCA4.out.later hB5)
  have HG := hid (show 0 ≤ p1 ∧ p1 ≤ p2 ∧ p2 ≤ 100 by omega)
  clear g1 g2 g3 g4 hB5
  go_wp2_with fail
  have HA7 := hid (below_new w5 (.cells #[.int .i64 p1, .int .i64 p2] 32))
  refine (HSB.out _).mono ?_
  rintro e w6 ⟨q1, q2, rfl, g1, g2, g3, g4, hB6⟩
  obtain ⟨hc6, hf6⟩ := bcell8 hB6
  have hz6 : w5.heap.size < w6.heap.size := by have := hB6.size; simp at this; omega
  have HS6 : Hid (w6.cell? ⟨w5.heap.size, 0, none⟩ = some (.int .i64 p1) ∧ w6.cell? ⟨w5.heap.size, 1, none⟩ = some (.int .i64 p2) ∧ w5.heap.size < w6.heap.size) :=
    ⟨by rw [hc6 _ _ (by simp)]; go_simp, by rw [hc6 _ _ (by simp)]; go_simp, hz6⟩
  have HA8 := hid (below_then HA7.out hB6 (by simp))
  have HB6 := hid (below_then HB5.out HA8.out (Nat.le_refl _))
  have HCA6 := hid (HCA5.out.later HA8.out)
  have HA9 := hid (below_then HA6.out HA8.out (Nat.le_refl _))
  have HH := hid (show 0 ≤ q1 ∧ q1 ≤ q2 ∧ q2 ≤ 100 by omega)
  clear g1 g2 g3 g4 hB6 hc6 hf6 hz6
  go_wp2_with fail
  obtain ⟨W, hW⟩ : ∃ W, w6.alloc (.cells #[.int .i64 q1, .int .i64 q2] 32) = W := ⟨_, rfl⟩
  have HAB := hid (below_new w6 (.cells #[.int .i64 q1, .int .i64 q2] 32))
  have HST : Hid (St W w2.heap.size w5.heap.size w6.heap.size x1 x2 x3 y1 p1 p2 q1 q2) := by
    obtain ⟨e1, e2, e3, e4, e5, e6, e7⟩ := HC3.out
    obtain ⟨e8, e9, e10⟩ := HS6.out
    have hb9 := below_then HA9.out HAB.out (Nat.le_refl _)
    have hb8 := HAB.out
    rw [hW] at hb9 hb8
    exact ⟨(hb9.cell (p := ⟨_, _, none⟩) e7).trans e1, (hb9.cell (p := ⟨_, _, none⟩) e7).trans e2, (hb9.cell (p := ⟨_, _, none⟩) e7).trans e3, (hb9.cell (p := ⟨_, _, none⟩) e7).trans e4, (hb9.cell (p := ⟨_, _, none⟩) e7).trans e5, (hb9.cell (p := ⟨_, _, none⟩) e7).trans e6,
      (hb8.cell (p := ⟨_, _, none⟩) e10).trans e8, (hb8.cell (p := ⟨_, _, none⟩) e10).trans e9, by subst hW; go_simp, by subst hW; go_simp⟩
  have HCA7 := hid (HCA6.out.later HAB.out)
  have HB7 := hid (below_then HB6.out HAB.out (Nat.le_refl _))
  rw [hW] at HCA7 HB7 ⊢
  generalize w2.heap.size = gl at *
  generalize w5.heap.size = gx at *
  generalize w6.heap.size = gy at *
  clear hW HAB HA9 HA8 HA7 HA6 HA5 HA4 HA3 HA1 HCA6 HCA5 HCA4 HCA HB6 HB5 HB4 HB3 HB2 HB1 HC3 HS6 HT3 HOP HOQ HSA HSB
  have HF1 := hid (fun Q h => T1.Fits_any x1 x2 x3 p1 p2 q1 q2 Q h)
  have HF2 := hid (fun Q h => T1.Fits_any y1 0 (-1) p1 p2 q1 q2 Q h)
  have HL7 := hid (HL.out.below HB7.out)
  obtain ⟨v1, hv1⟩ : ∃ v, T1.fV x1 x2 x3 p1 p2 q1 q2 = v := ⟨_, rfl⟩
  obtain ⟨v2, hv2⟩ : ∃ v, T1.fV y1 0 (-1) p1 p2 q1 q2 = v := ⟨_, rfl⟩
  have HV1 := hid hv1
  have HV2 := hid hv2
  rw [hv1] at HF1
  rw [hv2] at HF2
  generalize T1.fE x1 x2 x3 p1 p2 q1 q2 = u1 at *
  generalize T1.fE y1 0 (-1) p1 p2 q1 q2 = u2 at *
  clear hv1 hv2
  obtain ⟨d0, d1, d2, d3, d4, d5, d6, d7, d8, d9⟩ := HST.out
  go_region_held3 (fun w' => w'.cell? ⟨gl, 0, none⟩ = some (.int .i64 x1) ∧ w'.cell? ⟨gl, 1, none⟩ = some (.int .i64 x2) ∧ w'.cell? ⟨gl, 2, none⟩ = some (.int .i64 x3) ∧ w'.cell? ⟨gx, 0, none⟩ = some (.int .i64 p1) ∧ w'.cell? ⟨gx, 1, none⟩ = some (.int .i64 p2) ∧ w'.cell? ⟨gy, 0, none⟩ = some (.int .i64 q1) ∧ w'.cell? ⟨gy, 1, none⟩ = some (.int .i64 q2))
    (first | exact KU1 | (go_keep; done))
    ((go_at_call 8; refine (HF1.out _ (by exact HL7.out.below (by repeat (first | exact Below.refl _ _ | refine Below.drew ?_)))).mono ?_; rintro e w7 ⟨rfl, hB7⟩; have HBU1 : Hid (Below W.heap.size W w7) := below_then (by repeat (first | exact Below.refl _ _ | refine Below.drew ?_)) hB7 (by simp); have KU1 := (show w7.cell? ⟨gl, 0, none⟩ = some (.int .i64 x1) ∧ w7.cell? ⟨gl, 1, none⟩ = some (.int .i64 x2) ∧ w7.cell? ⟨gl, 2, none⟩ = some (.int .i64 x3) ∧ w7.cell? ⟨gx, 0, none⟩ = some (.int .i64 p1) ∧ w7.cell? ⟨gx, 1, none⟩ = some (.int .i64 p2) ∧ w7.cell? ⟨gy, 0, none⟩ = some (.int .i64 q1) ∧ w7.cell? ⟨gy, 1, none⟩ = some (.int .i64 q2) from ⟨(HBU1.out.cell (p := ⟨gl, 0, none⟩) (World.block_lt_of_cell? _ _ d0)).trans d0, (HBU1.out.cell (p := ⟨gl, 1, none⟩) (World.block_lt_of_cell? _ _ d1)).trans d1, (HBU1.out.cell (p := ⟨gl, 2, none⟩) (World.block_lt_of_cell? _ _ d2)).trans d2, (HBU1.out.cell (p := ⟨gx, 0, none⟩) (World.block_lt_of_cell? _ _ d6)).trans d6, (HBU1.out.cell (p := ⟨gx, 1, none⟩) (World.block_lt_of_cell? _ _ d7)).trans d7, (HBU1.out.cell (p := ⟨gy, 0, none⟩) (World.block_lt_of_cell? _ _ d8)).trans d8, (HBU1.out.cell (p := ⟨gy, 1, none⟩) (World.block_lt_of_cell? _ _ d9)).trans d9⟩); clear hB7))
  have HST8 := hid (HST.out.later HBU1.out)
  have HCA8 := hid (HCA7.out.later HBU1.out)
  have HB8 := hid (below_then HB7.out HBU1.out (Nat.le_refl _))
  have HL8 := hid (HL7.out.below HBU1.out)
  clear d0 d1 d2 d3 d4 d5 d6 d7 d8 d9 KU1 HBU1 HST HCA7 HB7 HL7
  obtain ⟨d0, d1, d2, d3, d4, d5, d6, d7, d8, d9⟩ := HST8.out
  go_wp2_with fail
  go_region_held3 (fun w' => w'.cell? ⟨gl, 3, none⟩ = some (.int .i64 y1) ∧ w'.cell? ⟨gl, 4, none⟩ = some (.int .i64 0) ∧ w'.cell? ⟨gl, 5, none⟩ = some (.int .i64 (-1)) ∧ w'.cell? ⟨gx, 0, none⟩ = some (.int .i64 p1) ∧ w'.cell? ⟨gx, 1, none⟩ = some (.int .i64 p2) ∧ w'.cell? ⟨gy, 0, none⟩ = some (.int .i64 q1) ∧ w'.cell? ⟨gy, 1, none⟩ = some (.int .i64 q2))
    (first | exact KU2 | (go_keep; done))
    ((go_at_call 8; refine (HF2.out _ (by exact HL8.out.below (by repeat (first | exact Below.refl _ _ | refine Below.drew ?_)))).mono ?_; rintro e w8 ⟨rfl, hB7⟩; have HBU2 : Hid (Below w7.heap.size w7 w8) := below_then (by repeat (first | exact Below.refl _ _ | refine Below.drew ?_)) hB7 (by simp); have KU2 := (show w8.cell? ⟨gl, 3, none⟩ = some (.int .i64 y1) ∧ w8.cell? ⟨gl, 4, none⟩ = some (.int .i64 0) ∧ w8.cell? ⟨gl, 5, none⟩ = some (.int .i64 (-1)) ∧ w8.cell? ⟨gx, 0, none⟩ = some (.int .i64 p1) ∧ w8.cell? ⟨gx, 1, none⟩ = some (.int .i64 p2) ∧ w8.cell? ⟨gy, 0, none⟩ = some (.int .i64 q1) ∧ w8.cell? ⟨gy, 1, none⟩ = some (.int .i64 q2) from ⟨(HBU2.out.cell (p := ⟨gl, 3, none⟩) (World.block_lt_of_cell? _ _ d3)).trans d3, (HBU2.out.cell (p := ⟨gl, 4, none⟩) (World.block_lt_of_cell? _ _ d4)).trans d4, (HBU2.out.cell (p := ⟨gl, 5, none⟩) (World.block_lt_of_cell? _ _ d5)).trans d5, (HBU2.out.cell (p := ⟨gx, 0, none⟩) (World.block_lt_of_cell? _ _ d6)).trans d6, (HBU2.out.cell (p := ⟨gx, 1, none⟩) (World.block_lt_of_cell? _ _ d7)).trans d7, (HBU2.out.cell (p := ⟨gy, 0, none⟩) (World.block_lt_of_cell? _ _ d8)).trans d8, (HBU2.out.cell (p := ⟨gy, 1, none⟩) (World.block_lt_of_cell? _ _ d9)).trans d9⟩); clear hB7))
  have HST9 := hid (HST8.out.later HBU2.out)
  have HCA9 := hid (HCA8.out.later HBU2.out)
  have HB9 := hid (below_then HB8.out HBU2.out (Nat.le_refl _))
  clear d0 d1 d2 d3 d4 d5 d6 d7 d8 d9 KU2 HBU2 HST8 HCA8 HB8 HL8
  obtain ⟨d0, d1, d2, d3, d4, d5, d6, d7, d8, d9⟩ := HST9.out
  have HK1 : Hid (v1 = true → Keep (tt p1 p2 q1 q2) (eitherR ⟨x1, x2, x3⟩ ⟨y1, 0, -1⟩)) := fun h => keep_either (.inl (keep_fw HOK.out (keep_of (o := ⟨x1, x2, x3⟩) HOK.out HG.out HH.out (HV1.out.trans h))))
  have HK2 : Hid (v2 = true → Keep (tt p1 p2 q1 q2) (eitherR ⟨x1, x2, x3⟩ ⟨y1, 0, -1⟩)) := fun h => keep_either (.inr (keep_fw HO2.out (keep_of (o := ⟨y1, 0, -1⟩) HO2.out HG.out HH.out (HV2.out.trans h))).2)
  generalize eitherR ⟨x1, x2, x3⟩ ⟨y1, 0, -1⟩ = Z at *
  cases v1 with
  | true =>
    have HKP := hid (HK1.out rfl)
    clear HK1 HK2 HF1 HF2 HV1 HV2
    go_wp2_with fail
    go_loopg [29] 4 (fun gg xo wr => ∃ x : Nat, x ≤ 4 ∧ gg = 4 - x ∧ xo = .int .i64 (x : Nat) ∧ Cel4 wr ba Ga Ca Z ∧ Row4 wr w8.heap.size (tt p1 p2 q1 q2) ∧ Below w.heap.size w wr)
    case atStart => exact ⟨0, by omega, by omega, rfl, HCA9.out.later (below_new _ _), row4_new w8 p1 p2 q1 q2 _, HB9.out.alloc HB9.out.size _⟩
    case round =>
      obtain ⟨x, hx, rfl, rfl, hA, hB, hBr⟩ := hrel
      have HAR := hid hA
      have HBR := hid hB
      have HWR := hid hBr
      clear hA hB hBr HCA9 HB9
      by_cases hx4 : x < 4
      · have i2 : (x : Int) < 4 := by omega
        obtain ⟨wo, hwo⟩ : ∃ wo, wo = wr := ⟨_, rfl⟩
        rw [← hwo] at HAR HBR HWR ⊢
        clear hwo
        go_wp2_with fail
        go_loopg [30] 4 (fun gg yo wr => ∃ y : Nat, y ≤ 4 ∧ gg = 4 - y ∧ yo = .int .i64 (y : Nat) ∧ Cel4 wr ba Ga Ca Z ∧ Row4 wr w8.heap.size (tt p1 p2 q1 q2) ∧ Below w.heap.size w wr)
        case atStart => exact ⟨0, by omega, by omega, rfl, HAR.out, HBR.out, HWR.out⟩
        case round =>
          obtain ⟨y, hy, rfl, rfl, hA, hB, hBr⟩ := hrel
          clear HAR HBR HWR
          have HAR := hid hA
          have HBR := hid hB
          have HWR := hid hBr
          clear hA hB hBr
          by_cases hy4 : y < 4
          · have i4 : (y : Int) < 4 := by omega
            obtain ⟨k1, k2, k3⟩ := HAR.out x hx4
            have k4 := k3 y hy4
            have k5 := HBR.out x hx4
            have k6 := HBR.out y hy4
            have k7 := HKP.out x y hx4 hy4
            have k8 := tt_in HG.out HH.out x
            have k9 := tt_in HG.out HH.out y
            have f1 : (4 : Int) ≤ (ca : Int) := by omega
            clear k3
            generalize Ga x = ga at *
            generalize Ca x = cga at *
            generalize Z x y = z at *
            generalize tt p1 p2 q1 q2 x = tx at *
            generalize tt p1 p2 q1 q2 y = ty at *
            by_cases hz : z = 1152921504606846976
            · have dz : (z != 1152921504606846976) = false := by simpa using hz
              clear hz k7
              go_wp2_with fail
              go_quiet (fail)
              go_wp2_with fail
              go_roundg (4 - (y + 1))
              case rel => exact ⟨y + 1, by omega, rfl, by go_num, HAR.out.later (below_drewN (Below.refl _ _) _), HBR.out.later (below_drewN (Below.refl _ _) _), HWR.out.trans (below_drewN (Below.refl _ _) _)⟩
              case measure => omega
            · have dz : (z != 1152921504606846976) = true := by simpa using hz
              have dg : decide (z < tx - ty) = false := by simp; omega
              clear hz
              go_wp2_with fail
              go_quiet (fail)
              go_wp2_with fail
              go_roundg (4 - (y + 1))
              case rel => exact ⟨y + 1, by omega, rfl, by go_num, HAR.out.later (below_drewN (Below.refl _ _) _), HBR.out.later (below_drewN (Below.refl _ _) _), HWR.out.trans (below_drewN (Below.refl _ _) _)⟩
              case measure => omega
          · obtain rfl : y = 4 := by omega
            go_wp2_with fail
            go_roundg (4 - (x + 1))
            case rel => exact ⟨x + 1, by omega, rfl, by go_num, HAR.out, HBR.out, HWR.out⟩
            case measure => omega
      · obtain rfl : x = 4 := by omega
        go_wp2_with fail
        go_ret
        exact ⟨rfl, HWR.out⟩
  | false =>
    cases v2 with
    | true =>
      have HKP := hid (HK2.out rfl)
      clear HK1 HK2 HF1 HF2 HV1 HV2
      go_wp2_with fail
      go_loopg [29] 4 (fun gg xo wr => ∃ x : Nat, x ≤ 4 ∧ gg = 4 - x ∧ xo = .int .i64 (x : Nat) ∧ Cel4 wr ba Ga Ca Z ∧ Row4 wr w8.heap.size (tt p1 p2 q1 q2) ∧ Below w.heap.size w wr)
      case atStart => exact ⟨0, by omega, by omega, rfl, HCA9.out.later (below_new _ _), row4_new w8 p1 p2 q1 q2 _, HB9.out.alloc HB9.out.size _⟩
      case round =>
        obtain ⟨x, hx, rfl, rfl, hA, hB, hBr⟩ := hrel
        have HAR := hid hA
        have HBR := hid hB
        have HWR := hid hBr
        clear hA hB hBr HCA9 HB9
        by_cases hx4 : x < 4
        · have i2 : (x : Int) < 4 := by omega
          obtain ⟨wo, hwo⟩ : ∃ wo, wo = wr := ⟨_, rfl⟩
          rw [← hwo] at HAR HBR HWR ⊢
          clear hwo
          go_wp2_with fail
          go_loopg [30] 4 (fun gg yo wr => ∃ y : Nat, y ≤ 4 ∧ gg = 4 - y ∧ yo = .int .i64 (y : Nat) ∧ Cel4 wr ba Ga Ca Z ∧ Row4 wr w8.heap.size (tt p1 p2 q1 q2) ∧ Below w.heap.size w wr)
          case atStart => exact ⟨0, by omega, by omega, rfl, HAR.out, HBR.out, HWR.out⟩
          case round =>
            obtain ⟨y, hy, rfl, rfl, hA, hB, hBr⟩ := hrel
            clear HAR HBR HWR
            have HAR := hid hA
            have HBR := hid hB
            have HWR := hid hBr
            clear hA hB hBr
            by_cases hy4 : y < 4
            · have i4 : (y : Int) < 4 := by omega
              obtain ⟨k1, k2, k3⟩ := HAR.out x hx4
              have k4 := k3 y hy4
              have k5 := HBR.out x hx4
              have k6 := HBR.out y hy4
              have k7 := HKP.out x y hx4 hy4
              have k8 := tt_in HG.out HH.out x
              have k9 := tt_in HG.out HH.out y
              have f1 : (4 : Int) ≤ (ca : Int) := by omega
              clear k3
              generalize Ga x = ga at *
              generalize Ca x = cga at *
              generalize Z x y = z at *
              generalize tt p1 p2 q1 q2 x = tx at *
              generalize tt p1 p2 q1 q2 y = ty at *
              by_cases hz : z = 1152921504606846976
              · have dz : (z != 1152921504606846976) = false := by simpa using hz
                clear hz k7
                go_wp2_with fail
                go_quiet (fail)
                go_wp2_with fail
                go_roundg (4 - (y + 1))
                case rel => exact ⟨y + 1, by omega, rfl, by go_num, HAR.out.later (below_drewN (Below.refl _ _) _), HBR.out.later (below_drewN (Below.refl _ _) _), HWR.out.trans (below_drewN (Below.refl _ _) _)⟩
                case measure => omega
              · have dz : (z != 1152921504606846976) = true := by simpa using hz
                have dg : decide (z < tx - ty) = false := by simp; omega
                clear hz
                go_wp2_with fail
                go_quiet (fail)
                go_wp2_with fail
                go_roundg (4 - (y + 1))
                case rel => exact ⟨y + 1, by omega, rfl, by go_num, HAR.out.later (below_drewN (Below.refl _ _) _), HBR.out.later (below_drewN (Below.refl _ _) _), HWR.out.trans (below_drewN (Below.refl _ _) _)⟩
                case measure => omega
            · obtain rfl : y = 4 := by omega
              go_wp2_with fail
              go_roundg (4 - (x + 1))
              case rel => exact ⟨x + 1, by omega, rfl, by go_num, HAR.out, HBR.out, HWR.out⟩
              case measure => omega
        · obtain rfl : x = 4 := by omega
          go_wp2_with fail
          go_ret
          exact ⟨rfl, HWR.out⟩
    | false =>
      go_wp2_with fail
      go_ret
      exact ⟨rfl, HB9.out⟩
end Go.Proofs.YtgikaheojcpmpabDoor
