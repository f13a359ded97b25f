/-
  The walk of FitsWithin.
-/
import Derived.Test.YtakimdbkkmafnacDoorQ
import Derived.Handy
import Derived.WalkSmall
import Derived.RegionTactic
import Derived.ChangeAlike
namespace Go.Proofs.YtakimdbkkmafnacDoor
open Go.ChangeShapes Go.WideShapes Go.ChangeAt Go.RowKit
set_option linter.unusedVariables false
set_option linter.unusedSimpArgs false
/-- An option lies in a block of the world. -/
def Opt (W : World) (o : Nat) (k l h : Int) : Prop := o < W.heap.size ∧ W.cell? ⟨o, 0, none⟩ = some (.int .i64 k) ∧ W.cell? ⟨o, 1, none⟩ = some (.int .i64 l) ∧ W.cell? ⟨o, 2, none⟩ = some (.int .i64 h)
theorem Opt.below {W W' : World} {o : Nat} {k l h : Int} (q : Opt W o k l h) (hb : Below W.heap.size W W') : Opt W' o k l h := by
  obtain ⟨ho, h1, h2, h3⟩ := q
  have hz := hb.size
  exact ⟨by omega, (hb.cell (p := ⟨o, 0, none⟩) ho).trans h1, (hb.cell (p := ⟨o, 1, none⟩) ho).trans h2, (hb.cell (p := ⟨o, 2, none⟩) ho).trans h3⟩
theorem opt_new {W : World} {k l h : Int} {T : TypeId} : Opt (W.alloc (.cells #[.int .i64 k, .int .i64 l, .int .i64 h] T)) W.heap.size k l h := by
  refine ⟨by simp, ?_, ?_, ?_⟩ <;> simp [go_sem]
theorem opt_fine {k l h : Int} (k1 : 1 ≤ k) (k2 : k ≤ 13) (l1 : 0 ≤ l) (l2 : l ≤ 1073741824) (h1 : -1 ≤ h) (h2 : h ≤ 1073741824) (h3 : h = -1 ∨ l ≤ h) : optE k l h = 0 := by
  unfold optE; rw [if_pos ⟨k1, k2⟩, if_pos ⟨l1, l2, h1, h2⟩, if_neg (by omega)]
theorem fits_ans {k l h a1 a2 b1 b2 : Int} (e1 : optE k l h = 0) (e2 : bothE a1 a2 b1 b2 = 0) :
    fE k l h a1 a2 b1 b2 = 0 ∧ fV k l h a1 a2 b1 b2 = (rel k a1 a2 b1 b2 && (decide (l ≤ gp k a1 a2 b1 b2) && (decide (h = -1) || decide (gp k a1 a2 b1 b2 ≤ h)))) := by
  have e3 : fE k l h a1 a2 b1 b2 = 0 := by unfold fE; rw [if_pos e1]; exact e2
  exact ⟨e3, by unfold fV; rw [e3]; simp⟩
set_option maxHeartbeats 8000000 in
theorem fitsWithin_walk (r a n b m y o : Int) (w : World) (hr1 : -9223372036854775808 ≤ r) (hr2 : r ≤ 9223372036854775807) (ha1 : -9223372036854775808 ≤ a) (ha2 : a ≤ 9223372036854775807) (hn1 : -9223372036854775808 ≤ n) (hn2 : n ≤ 9223372036854775807) (hb1 : -9223372036854775808 ≤ b) (hb2 : b ≤ 9223372036854775807) (hm1 : -9223372036854775808 ≤ m) (hm2 : m ≤ 9223372036854775807) (hy1 : -9223372036854775808 ≤ y) (hy2 : y ≤ 9223372036854775807) (ho1 : -9223372036854775808 ≤ o) (ho2 : o ≤ 9223372036854775807) (L0 : Laid w) :
    Calls Tryd.prog 6 #[.int .i64 r, .int .i64 a, .int .i64 n, .int .i64 b, .int .i64 m, .int .i64 y, .int .i64 o] w fun e w' => e = .returned (.bool true) ∧ Below w.heap.size w w' := by
  go_enter Tryd.func6, Tryd.ntmps6
  have Bs := Below.refl w.heap.size w
  have Ls := L0
  go_wp2_with fail
  refine (relation_any _ _ hr1 hr2).mono ?_
  rintro e w0 ⟨k, rfl, k1, k2, rfl⟩
  clear hr1 hr2
  go_wp2_with fail
  refine (span_any a n _ ha1 ha2 hn1 hn2).mono ?_
  rintro e w2 ⟨s, t, rfl, s0, s1, s2, s3, X⟩
  have La := Ls.below X
  have Ba := below_on Bs X
  clear ha1 ha2 hn1 hn2 X Bs Ls
  go_wp2_with fail
  refine (span_any b m _ hb1 hb2 hm1 hm2).mono ?_
  rintro e w3 ⟨u, v, rfl, u0, u1, u2, u3, X⟩
  have T1 := two_start (u := u) (v := v) X
  have B1 := below_on (below_on Ba (below_on (below_new _ _) X)) (below_new w3 (.cells #[.int .i64 u, .int .i64 v] 23))
  have L1 := ((La.alloc _).below X).alloc (.cells #[.int .i64 u, .int .i64 v] 23)
  have c := T1
  obtain ⟨d0, d1, d2, d3, d4⟩ := c
  clear hb1 hb2 hm1 hm2 X La Ba
  go_wp2_with fail
  refine (picked_any y _ _ hy1 hy2 (by omega) (by omega)).mono ?_
  rintro e w4 ⟨l, rfl, l0, l1, rfl⟩
  go_wp2_with fail
  refine (picked_any o _ _ ho1 ho2 (by omega) (by omega)).mono ?_
  rintro e w4 ⟨q, rfl, j0, j1, rfl⟩
  clear hy1 hy2 ho1 ho2
  obtain ⟨W1, hW1⟩ : ∃ W1, W1 = w3.alloc (.cells #[.int .i64 u, .int .i64 v] 23) := ⟨_, rfl⟩
  rw [← hW1] at T1 B1 L1 d0 d1 d2 d3 d4 ⊢
  obtain ⟨x, hx⟩ : ∃ x, x = w2.heap.size := ⟨_, rfl⟩
  obtain ⟨z, hz⟩ : ∃ z, z = w3.heap.size := ⟨_, rfl⟩
  rw [← hx, ← hz] at T1 d0
  rw [← hx] at d1 d2
  rw [← hz] at d3 d4
  rw [← hx, ← hz]
  clear hW1 hx hz
  obtain ⟨dx, dz⟩ := d0
  have nx : ¬ x = W1.heap.size := by omega
  have nz : ¬ z = W1.heap.size := by omega
  have hbo : bothE s t u v = 0 := both_mk s0 s2 (by omega) u0 u2 (by omega)
  obtain ⟨q1, q2, q3, q4⟩ := ans k1 k2 hbo
  have o2 : optE k 2 1 = 11 := by unfold optE; rw [if_pos ⟨k1, k2⟩, if_pos (by omega), if_pos (by omega)]
  by_cases hq : q = 0
  · have o1 : optE k l (-1) = 0 := opt_fine k1 k2 l0 (by omega) (by omega) (by omega) (Or.inl rfl)
    obtain ⟨fe, fv⟩ := fits_ans o1 hbo
    have HQ : Hid (q = 0) := hq
    have hlt : l + q - 1 < l := by omega
    cases g : rel k s t u v with
    | false =>
      obtain ⟨x1, x2⟩ := q4 g
      rw [g, Bool.false_and] at fv
      clear g
      have OB := opt_new (W := W1) (k := k) (l := l) (h := -1) (T := 36)
      have BN := below_new W1 (.cells #[.int .i64 k, .int .i64 l, .int .i64 (-1)] 36)
      have TA := T1.below BN
      have LA := L1.below BN
      have BA := below_on B1 BN
      clear hq s0 s1 s2 s3 u0 u1 u2 u3 q1 q2 q3 q4 hbo
      go_wp2_with fail
      clear T1 L1 B1 BN d1 d2 d3 d4 nx nz dx dz hlt
      refine (Fits_any k l (-1) s t u v _ LA).mono ?_
      rintro e w5 ⟨rfl, X⟩
      have B5 := below_on BA X
      have T5 := TA.below X
      have O5 := OB.below X
      have L5 := LA.below X
      clear TA LA BA OB X
      have c := T5
      obtain ⟨d0, d1, d2, d3, d4⟩ := c
      go_wp2_with fail
      refine (Distance_any k s t u v _ L5).mono ?_
      rintro e w6 ⟨rfl, X⟩
      clear d0 d1 d2 d3 d4
      have B6 := below_on B5 X
      have O6 := O5.below X
      clear X B5 O5 T5 L5
      have c := O6
      obtain ⟨f0, f1, f2, f3⟩ := c
      go_wp2_with fail
      refine (opt_any k l (-1) _).mono ?_
      rintro e w7 ⟨rfl, X⟩
      clear f0 f1 f2 f3
      have B7 := below_on B6 X
      have O7 := O6.below X
      clear X B6 O6
      have c := O7
      obtain ⟨f0, f1, f2, f3⟩ := c
      go_wp2_with fail
      refine (opt_any k 2 1 _).mono ?_
      rintro e w8 ⟨rfl, X⟩
      clear f0 f1 f2 f3
      have B8 := below_on B7 X
      have O8 := O7.below X
      clear X B7 O7
      obtain ⟨f0, f1, f2, f3⟩ := O8
      go_wp2
      go_ret
      exact ⟨rfl, B8⟩
    | true =>
      obtain ⟨x1, x2⟩ := q3 g
      have gz := gp_pos k1 k2 g
      rw [g, Bool.true_and] at fv
      clear g
      obtain ⟨G, hG⟩ : ∃ G, G = gp k s t u v := ⟨_, rfl⟩
      rw [← hG] at fv x2 gz
      clear hG
      by_cases g1 : l ≤ G
      · rw [show (decide (l ≤ G) && (decide ((-1 : Int) = -1) || decide (G ≤ -1))) = true by simp [g1]] at fv
        have OB := opt_new (W := W1) (k := k) (l := l) (h := -1) (T := 36)
        have BN := below_new W1 (.cells #[.int .i64 k, .int .i64 l, .int .i64 (-1)] 36)
        have TA := T1.below BN
        have LA := L1.below BN
        have BA := below_on B1 BN
        clear hq s0 s1 s2 s3 u0 u1 u2 u3 q1 q2 q3 q4 hbo
        go_wp2_with fail
        clear T1 L1 B1 BN d1 d2 d3 d4 nx nz dx dz hlt
        refine (Fits_any k l (-1) s t u v _ LA).mono ?_
        rintro e w5 ⟨rfl, X⟩
        have B5 := below_on BA X
        have T5 := TA.below X
        have O5 := OB.below X
        have L5 := LA.below X
        clear TA LA BA OB X
        have c := T5
        obtain ⟨d0, d1, d2, d3, d4⟩ := c
        go_wp2_with fail
        refine (Distance_any k s t u v _ L5).mono ?_
        rintro e w6 ⟨rfl, X⟩
        clear d0 d1 d2 d3 d4
        have B6 := below_on B5 X
        have O6 := O5.below X
        clear X B5 O5 T5 L5
        have c := O6
        obtain ⟨f0, f1, f2, f3⟩ := c
        go_wp2_with fail
        refine (opt_any k l (-1) _).mono ?_
        rintro e w7 ⟨rfl, X⟩
        clear f0 f1 f2 f3
        have B7 := below_on B6 X
        have O7 := O6.below X
        clear X B6 O6
        have c := O7
        obtain ⟨f0, f1, f2, f3⟩ := c
        go_wp2_with fail
        refine (opt_any k 2 1 _).mono ?_
        rintro e w8 ⟨rfl, X⟩
        clear f0 f1 f2 f3
        have B8 := below_on B7 X
        have O8 := O7.below X
        clear X B7 O7
        obtain ⟨f0, f1, f2, f3⟩ := O8
        go_wp2
        go_ret
        exact ⟨rfl, B8⟩
      · rw [show (decide (l ≤ G) && (decide ((-1 : Int) = -1) || decide (G ≤ -1))) = false by simp [g1]] at fv
        have g1' : decide (l ≤ G) = false := by simp [g1]
        have OB := opt_new (W := W1) (k := k) (l := l) (h := -1) (T := 36)
        have BN := below_new W1 (.cells #[.int .i64 k, .int .i64 l, .int .i64 (-1)] 36)
        have TA := T1.below BN
        have LA := L1.below BN
        have BA := below_on B1 BN
        clear hq s0 s1 s2 s3 u0 u1 u2 u3 q1 q2 q3 q4 hbo
        go_wp2_with fail
        clear T1 L1 B1 BN d1 d2 d3 d4 nx nz dx dz hlt
        refine (Fits_any k l (-1) s t u v _ LA).mono ?_
        rintro e w5 ⟨rfl, X⟩
        have B5 := below_on BA X
        have T5 := TA.below X
        have O5 := OB.below X
        have L5 := LA.below X
        clear TA LA BA OB X
        have c := T5
        obtain ⟨d0, d1, d2, d3, d4⟩ := c
        go_wp2_with fail
        refine (Distance_any k s t u v _ L5).mono ?_
        rintro e w6 ⟨rfl, X⟩
        clear d0 d1 d2 d3 d4
        have B6 := below_on B5 X
        have O6 := O5.below X
        clear X B5 O5 T5 L5
        have c := O6
        obtain ⟨f0, f1, f2, f3⟩ := c
        go_wp2_with fail
        refine (opt_any k l (-1) _).mono ?_
        rintro e w7 ⟨rfl, X⟩
        clear f0 f1 f2 f3
        have B7 := below_on B6 X
        have O7 := O6.below X
        clear X B6 O6
        have c := O7
        obtain ⟨f0, f1, f2, f3⟩ := c
        go_wp2_with fail
        refine (opt_any k 2 1 _).mono ?_
        rintro e w8 ⟨rfl, X⟩
        clear f0 f1 f2 f3
        have B8 := below_on B7 X
        have O8 := O7.below X
        clear X B7 O7
        obtain ⟨f0, f1, f2, f3⟩ := O8
        go_wp2
        go_ret
        exact ⟨rfl, B8⟩
  · have o1 : optE k l (l + q - 1) = 0 := opt_fine k1 k2 l0 (by omega) (by omega) (by omega) (Or.inr (by omega))
    obtain ⟨fe, fv⟩ := fits_ans o1 hbo
    have HQ : Hid (¬ q = 0) := hq
    have hlt : ¬ l + q - 1 < l := by omega
    have hpos : decide (l + q - 1 < 0) = false := by simp; omega
    cases g : rel k s t u v with
    | false =>
      obtain ⟨x1, x2⟩ := q4 g
      rw [g, Bool.false_and] at fv
      clear g
      have OB := opt_new (W := W1) (k := k) (l := l) (h := l + q - 1) (T := 36)
      have BN := below_new W1 (.cells #[.int .i64 k, .int .i64 l, .int .i64 (l + q - 1)] 36)
      have TA := T1.below BN
      have LA := L1.below BN
      have BA := below_on B1 BN
      clear hq s0 s1 s2 s3 u0 u1 u2 u3 q1 q2 q3 q4 hbo
      go_wp2_with fail
      clear T1 L1 B1 BN d1 d2 d3 d4 nx nz dx dz hlt
      refine (Fits_any k l (l + q - 1) s t u v _ LA).mono ?_
      rintro e w5 ⟨rfl, X⟩
      have B5 := below_on BA X
      have T5 := TA.below X
      have O5 := OB.below X
      have L5 := LA.below X
      clear TA LA BA OB X
      have c := T5
      obtain ⟨d0, d1, d2, d3, d4⟩ := c
      go_wp2_with fail
      refine (Distance_any k s t u v _ L5).mono ?_
      rintro e w6 ⟨rfl, X⟩
      clear d0 d1 d2 d3 d4
      have B6 := below_on B5 X
      have O6 := O5.below X
      clear X B5 O5 T5 L5
      have c := O6
      obtain ⟨f0, f1, f2, f3⟩ := c
      go_wp2_with fail
      refine (opt_any k l (l + q - 1) _).mono ?_
      rintro e w7 ⟨rfl, X⟩
      clear f0 f1 f2 f3
      have B7 := below_on B6 X
      have O7 := O6.below X
      clear X B6 O6
      have c := O7
      obtain ⟨f0, f1, f2, f3⟩ := c
      go_wp2_with fail
      refine (opt_any k 2 1 _).mono ?_
      rintro e w8 ⟨rfl, X⟩
      clear f0 f1 f2 f3
      have B8 := below_on B7 X
      have O8 := O7.below X
      clear X B7 O7
      obtain ⟨f0, f1, f2, f3⟩ := O8
      go_wp2
      go_ret
      exact ⟨rfl, B8⟩
    | true =>
      obtain ⟨x1, x2⟩ := q3 g
      have gz := gp_pos k1 k2 g
      rw [g, Bool.true_and] at fv
      clear g
      obtain ⟨G, hG⟩ : ∃ G, G = gp k s t u v := ⟨_, rfl⟩
      rw [← hG] at fv x2 gz
      clear hG
      by_cases g1 : l ≤ G
      · by_cases g2 : G ≤ l + q - 1
        · rw [show (decide (l ≤ G) && (decide (l + q - 1 = -1) || decide (G ≤ l + q - 1))) = true by simp [g1, g2]] at fv
          have OB := opt_new (W := W1) (k := k) (l := l) (h := l + q - 1) (T := 36)
          have BN := below_new W1 (.cells #[.int .i64 k, .int .i64 l, .int .i64 (l + q - 1)] 36)
          have TA := T1.below BN
          have LA := L1.below BN
          have BA := below_on B1 BN
          clear hq s0 s1 s2 s3 u0 u1 u2 u3 q1 q2 q3 q4 hbo
          go_wp2_with fail
          clear T1 L1 B1 BN d1 d2 d3 d4 nx nz dx dz hlt
          refine (Fits_any k l (l + q - 1) s t u v _ LA).mono ?_
          rintro e w5 ⟨rfl, X⟩
          have B5 := below_on BA X
          have T5 := TA.below X
          have O5 := OB.below X
          have L5 := LA.below X
          clear TA LA BA OB X
          have c := T5
          obtain ⟨d0, d1, d2, d3, d4⟩ := c
          go_wp2_with fail
          refine (Distance_any k s t u v _ L5).mono ?_
          rintro e w6 ⟨rfl, X⟩
          clear d0 d1 d2 d3 d4
          have B6 := below_on B5 X
          have O6 := O5.below X
          clear X B5 O5 T5 L5
          have c := O6
          obtain ⟨f0, f1, f2, f3⟩ := c
          go_wp2_with fail
          refine (opt_any k l (l + q - 1) _).mono ?_
          rintro e w7 ⟨rfl, X⟩
          clear f0 f1 f2 f3
          have B7 := below_on B6 X
          have O7 := O6.below X
          clear X B6 O6
          have c := O7
          obtain ⟨f0, f1, f2, f3⟩ := c
          go_wp2_with fail
          refine (opt_any k 2 1 _).mono ?_
          rintro e w8 ⟨rfl, X⟩
          clear f0 f1 f2 f3
          have B8 := below_on B7 X
          have O8 := O7.below X
          clear X B7 O7
          obtain ⟨f0, f1, f2, f3⟩ := O8
          go_wp2
          go_ret
          exact ⟨rfl, B8⟩
        · rw [show (decide (l ≤ G) && (decide (l + q - 1 = -1) || decide (G ≤ l + q - 1))) = false by simp [g1, g2]; omega] at fv
          have g2' : decide (G ≤ l + q - 1) = false := by simp [g2]
          have OB := opt_new (W := W1) (k := k) (l := l) (h := l + q - 1) (T := 36)
          have BN := below_new W1 (.cells #[.int .i64 k, .int .i64 l, .int .i64 (l + q - 1)] 36)
          have TA := T1.below BN
          have LA := L1.below BN
          have BA := below_on B1 BN
          clear hq s0 s1 s2 s3 u0 u1 u2 u3 q1 q2 q3 q4 hbo
          go_wp2_with fail
          clear T1 L1 B1 BN d1 d2 d3 d4 nx nz dx dz hlt
          refine (Fits_any k l (l + q - 1) s t u v _ LA).mono ?_
          rintro e w5 ⟨rfl, X⟩
          have B5 := below_on BA X
          have T5 := TA.below X
          have O5 := OB.below X
          have L5 := LA.below X
          clear TA LA BA OB X
          have c := T5
          obtain ⟨d0, d1, d2, d3, d4⟩ := c
          go_wp2_with fail
          refine (Distance_any k s t u v _ L5).mono ?_
          rintro e w6 ⟨rfl, X⟩
          clear d0 d1 d2 d3 d4
          have B6 := below_on B5 X
          have O6 := O5.below X
          clear X B5 O5 T5 L5
          have c := O6
          obtain ⟨f0, f1, f2, f3⟩ := c
          go_wp2_with fail
          refine (opt_any k l (l + q - 1) _).mono ?_
          rintro e w7 ⟨rfl, X⟩
          clear f0 f1 f2 f3
          have B7 := below_on B6 X
          have O7 := O6.below X
          clear X B6 O6
          have c := O7
          obtain ⟨f0, f1, f2, f3⟩ := c
          go_wp2_with fail
          refine (opt_any k 2 1 _).mono ?_
          rintro e w8 ⟨rfl, X⟩
          clear f0 f1 f2 f3
          have B8 := below_on B7 X
          have O8 := O7.below X
          clear X B7 O7
          obtain ⟨f0, f1, f2, f3⟩ := O8
          go_wp2
          go_ret
          exact ⟨rfl, B8⟩
      · rw [show (decide (l ≤ G) && (decide (l + q - 1 = -1) || decide (G ≤ l + q - 1))) = false by simp [g1]] at fv
        have g1' : decide (l ≤ G) = false := by simp [g1]
        have OB := opt_new (W := W1) (k := k) (l := l) (h := l + q - 1) (T := 36)
        have BN := below_new W1 (.cells #[.int .i64 k, .int .i64 l, .int .i64 (l + q - 1)] 36)
        have TA := T1.below BN
        have LA := L1.below BN
        have BA := below_on B1 BN
        clear hq s0 s1 s2 s3 u0 u1 u2 u3 q1 q2 q3 q4 hbo
        go_wp2_with fail
        clear T1 L1 B1 BN d1 d2 d3 d4 nx nz dx dz hlt
        refine (Fits_any k l (l + q - 1) s t u v _ LA).mono ?_
        rintro e w5 ⟨rfl, X⟩
        have B5 := below_on BA X
        have T5 := TA.below X
        have O5 := OB.below X
        have L5 := LA.below X
        clear TA LA BA OB X
        have c := T5
        obtain ⟨d0, d1, d2, d3, d4⟩ := c
        go_wp2_with fail
        refine (Distance_any k s t u v _ L5).mono ?_
        rintro e w6 ⟨rfl, X⟩
        clear d0 d1 d2 d3 d4
        have B6 := below_on B5 X
        have O6 := O5.below X
        clear X B5 O5 T5 L5
        have c := O6
        obtain ⟨f0, f1, f2, f3⟩ := c
        go_wp2_with fail
        refine (opt_any k l (l + q - 1) _).mono ?_
        rintro e w7 ⟨rfl, X⟩
        clear f0 f1 f2 f3
        have B7 := below_on B6 X
        have O7 := O6.below X
        clear X B6 O6
        have c := O7
        obtain ⟨f0, f1, f2, f3⟩ := c
        go_wp2_with fail
        refine (opt_any k 2 1 _).mono ?_
        rintro e w8 ⟨rfl, X⟩
        clear f0 f1 f2 f3
        have B8 := below_on B7 X
        have O8 := O7.below X
        clear X B7 O7
        obtain ⟨f0, f1, f2, f3⟩ := O8
        go_wp2
        go_ret
        exact ⟨rfl, B8⟩
end Go.Proofs.YtakimdbkkmafnacDoor
