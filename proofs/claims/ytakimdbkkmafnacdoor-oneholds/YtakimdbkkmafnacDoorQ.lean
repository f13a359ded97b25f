/-
  The walks of EqualsSelf, WhichFirst, OneHolds and ShiftSame.
-/
import Derived.Test.YtakimdbkkmafnacDoorP
import Derived.Handy
import Derived.WalkSmall
import Derived.RegionTactic
import Derived.ChangeAlike
namespace Go.Proofs.YtakimdbkkmafnacDoor
open Go.ChangeShapes Go.WideShapes Go.ChangeAt Go.RowKit
set_option linter.unusedVariables false
set_option linter.unusedSimpArgs false
set_option maxHeartbeats 8000000 in
theorem equalsSelf_walk (a n b m : Int) (w : World) (ha1 : -9223372036854775808 ≤ a) (ha2 : a ≤ 9223372036854775807) (hn1 : -9223372036854775808 ≤ n) (hn2 : n ≤ 9223372036854775807) (hb1 : -9223372036854775808 ≤ b) (hb2 : b ≤ 9223372036854775807) (hm1 : -9223372036854775808 ≤ m) (hm2 : m ≤ 9223372036854775807) (L0 : Laid w) :
    Calls Tryd.prog 7 #[.int .i64 a, .int .i64 n, .int .i64 b, .int .i64 m] w fun e w' => e = .returned (.bool true) ∧ Below w.heap.size w w' := by
  go_enter Tryd.func7, Tryd.ntmps7
  have Bs := Below.refl w.heap.size w
  have Ls := L0
  go_wp2_with fail
  refine (span_any a n _ ha1 ha2 hn1 hn2).mono ?_
  rintro e w2 ⟨s, t, rfl, s0, s1, s2, s3, X⟩
  have La := Ls.below X
  have Ba := below_on Bs X
  clear ha1 ha2 hn1 hn2 X Bs Ls
  go_wp2_with fail
  refine (span_any b m _ hb1 hb2 hm1 hm2).mono ?_
  rintro e w3 ⟨u, v, rfl, u0, u1, u2, u3, X⟩
  have T1 := two_start (u := u) (v := v) X
  have B1 := below_on (below_on Ba (below_on (below_new _ _) X)) (below_new w3 (.cells #[.int .i64 u, .int .i64 v] 23))
  have L1 := ((La.alloc _).below X).alloc (.cells #[.int .i64 u, .int .i64 v] 23)
  have c := T1
  obtain ⟨d0, d1, d2, d3, d4⟩ := c
  clear hb1 hb2 hm1 hm2 X La Ba
  have z1 := ans (k := 13) (by omega) (by omega) (both_mk s0 s2 (by omega) s0 s2 (by omega))
  have z2 := ans (k := 13) (by omega) (by omega) (both_mk s0 s2 (by omega) u0 u2 (by omega))
  have g1 : rel 13 s t s t = true := by simp [rel]
  obtain ⟨q1, q2, q3, q4⟩ := z1
  obtain ⟨r1, r2, r3, r4⟩ := z2
  obtain ⟨x1, x2⟩ := q3 g1
  have x3 : gp 13 s t s t = 0 := by simp [gp]
  rw [x3] at x2
  rw [g1] at q2
  clear q3 q4 r3 r4 g1 x3
  by_cases e1 : s = u
  · by_cases e2 : t = v
    · subst e1 e2
      rw [show rel 13 s t s t = true by simp [rel]] at r2
      go_wp2_with fail
      refine (Holds_any 13 s t s t _ L1).mono ?_
      rintro e w2 ⟨rfl, X⟩
      clear d0 d1 d2 d3 d4
      have B2 := below_on B1 X
      have T2 := T1.below X
      have L2 := L1.below X
      clear X B1 T1 L1
      have c := T2
      obtain ⟨d0, d1, d2, d3, d4⟩ := c
      go_wp2_with fail
      refine (Distance_any 13 s t s t _ L2).mono ?_
      rintro e w3 ⟨rfl, X⟩
      clear d0 d1 d2 d3 d4
      have B3 := below_on B2 X
      have T3 := T2.below X
      have L3 := L2.below X
      clear X B2 T2 L2
      have c := T3
      obtain ⟨d0, d1, d2, d3, d4⟩ := c
      go_wp2_with fail
      refine (Holds_any 13 s t s t _ L3).mono ?_
      rintro e w4 ⟨rfl, X⟩
      clear d0 d1 d2 d3 d4
      have B4 := below_on B3 X
      have T4 := T3.below X
      have L4 := L3.below X
      clear X B3 T3 L3
      have c := T4
      obtain ⟨d0, d1, d2, d3, d4⟩ := c
      go_wp2
      go_ret
      exact ⟨rfl, B4⟩
    · have e3 : (t == v) = false := by simp [e2]
      subst e1
      rw [show rel 13 s t s v = false by simp [rel, e2]] at r2
      go_wp2_with fail
      refine (Holds_any 13 s t s t _ L1).mono ?_
      rintro e w2 ⟨rfl, X⟩
      clear d0 d1 d2 d3 d4
      have B2 := below_on B1 X
      have T2 := T1.below X
      have L2 := L1.below X
      clear X B1 T1 L1
      have c := T2
      obtain ⟨d0, d1, d2, d3, d4⟩ := c
      go_wp2_with fail
      refine (Distance_any 13 s t s t _ L2).mono ?_
      rintro e w3 ⟨rfl, X⟩
      clear d0 d1 d2 d3 d4
      have B3 := below_on B2 X
      have T3 := T2.below X
      have L3 := L2.below X
      clear X B2 T2 L2
      have c := T3
      obtain ⟨d0, d1, d2, d3, d4⟩ := c
      go_wp2_with fail
      refine (Holds_any 13 s t s v _ L3).mono ?_
      rintro e w4 ⟨rfl, X⟩
      clear d0 d1 d2 d3 d4
      have B4 := below_on B3 X
      have T4 := T3.below X
      have L4 := L3.below X
      clear X B3 T3 L3
      have c := T4
      obtain ⟨d0, d1, d2, d3, d4⟩ := c
      go_wp2
      go_ret
      exact ⟨rfl, B4⟩
  · have e3 : (s == u) = false := by simp [e1]
    rw [show rel 13 s t u v = false by simp [rel, e1]] at r2
    go_wp2_with fail
    refine (Holds_any 13 s t s t _ L1).mono ?_
    rintro e w2 ⟨rfl, X⟩
    clear d0 d1 d2 d3 d4
    have B2 := below_on B1 X
    have T2 := T1.below X
    have L2 := L1.below X
    clear X B1 T1 L1
    have c := T2
    obtain ⟨d0, d1, d2, d3, d4⟩ := c
    go_wp2_with fail
    refine (Distance_any 13 s t s t _ L2).mono ?_
    rintro e w3 ⟨rfl, X⟩
    clear d0 d1 d2 d3 d4
    have B3 := below_on B2 X
    have T3 := T2.below X
    have L3 := L2.below X
    clear X B2 T2 L2
    have c := T3
    obtain ⟨d0, d1, d2, d3, d4⟩ := c
    go_wp2_with fail
    refine (Holds_any 13 s t u v _ L3).mono ?_
    rintro e w4 ⟨rfl, X⟩
    clear d0 d1 d2 d3 d4
    have B4 := below_on B3 X
    have T4 := T3.below X
    have L4 := L3.below X
    clear X B3 T3 L3
    have c := T4
    obtain ⟨d0, d1, d2, d3, d4⟩ := c
    go_wp2
    go_ret
    exact ⟨rfl, B4⟩
set_option maxHeartbeats 8000000 in
theorem whichFirst_walk (a n b m : Int) (w : World) (ha1 : -9223372036854775808 ≤ a) (ha2 : a ≤ 9223372036854775807) (hn1 : -9223372036854775808 ≤ n) (hn2 : n ≤ 9223372036854775807) (hb1 : -9223372036854775808 ≤ b) (hb2 : b ≤ 9223372036854775807) (hm1 : -9223372036854775808 ≤ m) (hm2 : m ≤ 9223372036854775807) (L0 : Laid w) :
    Calls Tryd.prog 4 #[.int .i64 a, .int .i64 n, .int .i64 b, .int .i64 m] w fun e w' => e = .returned (.bool true) ∧ Below w.heap.size w w' := by
  go_enter Tryd.func4, Tryd.ntmps4
  have Bs := Below.refl w.heap.size w
  have Ls := L0
  go_wp2_with fail
  refine (span_any a n _ ha1 ha2 hn1 hn2).mono ?_
  rintro e w2 ⟨s, t, rfl, s0, s1, s2, s3, X⟩
  have La := Ls.below X
  have Ba := below_on Bs X
  clear ha1 ha2 hn1 hn2 X Bs Ls
  go_wp2_with fail
  refine (span_any b m _ hb1 hb2 hm1 hm2).mono ?_
  rintro e w3 ⟨u, v, rfl, u0, u1, u2, u3, X⟩
  have T1 := two_start (u := u) (v := v) X
  have B1 := below_on (below_on Ba (below_on (below_new _ _) X)) (below_new w3 (.cells #[.int .i64 u, .int .i64 v] 23))
  have L1 := ((La.alloc _).below X).alloc (.cells #[.int .i64 u, .int .i64 v] 23)
  have c := T1
  obtain ⟨d0, d1, d2, d3, d4⟩ := c
  clear hb1 hb2 hm1 hm2 X La Ba
  have hbo : bothE s t u v = 0 := both_mk s0 s2 (by omega) u0 u2 (by omega)
  go_wp2_with fail
  refine (Which_ok s t u v _ L1 hbo).mono ?_
  rintro e w4 ⟨k, hk, rfl, X⟩
  clear d0 d1 d2 d3 d4
  have B2 := below_on B1 X
  have T2 := T1.below X
  have L2 := L1.below X
  clear X B1 T1 L1
  obtain ⟨k1, k2, k3, k4⟩ := hk
  have K4 : Hid (∀ j, 1 ≤ j → j < k → rel j s t u v = false) := k4
  clear k4 s0 s1 s2 s3 u0 u1 u2 u3
  go_wp2_with fail
  go_loopw [13] (fun z wr => ∃ r : Int, 1 ≤ r ∧ r ≤ k + 1 ∧ z = .int .i64 r ∧ Below w4.heap.size w4 wr) (fun z _ => 15 - (intOf z).toNat)
  case atStart => exact ⟨1, by omega, by omega, rfl, Below.refl _ _⟩
  case round =>
    obtain ⟨r, hr1, hr2, rfl, X⟩ := hrel
    have B3 := below_on B2 X
    have T3 := T2.below X
    have L3 := L2.below X
    obtain ⟨d0, d1, d2, d3, d4⟩ := T3
    clear B2 T2 L2
    by_cases hk : r ≤ k
    · obtain ⟨q1, q2, -, -⟩ := ans hr1 (by omega : r ≤ 13) hbo
      by_cases he : r = k
      · subst he
        rw [k3] at q2
        clear hbo K4
        go_wp2_with fail
        refine (Holds_any r s t u v _ L3).mono ?_
        rintro e w5 ⟨rfl, Y⟩
        have X2 := below_on X Y
        clear d0 d1 d2 d3 d4 L3 B3 X Y
        go_wp2
        go_roundw
        case rel => exact ⟨r + 1, by omega, by omega, by go_num, X2⟩
        case measure => simp [intOf]; omega
      · rw [K4.out r hr1 (by omega)] at q2
        have he' : (r == k) = false := by simp [he]
        clear hbo K4 k3
        go_wp2_with fail
        refine (Holds_any r s t u v _ L3).mono ?_
        rintro e w5 ⟨rfl, Y⟩
        have X2 := below_on X Y
        clear d0 d1 d2 d3 d4 L3 B3 X Y
        go_wp2
        go_roundw
        case rel => exact ⟨r + 1, by omega, by omega, by go_num, X2⟩
        case measure => simp [intOf]; omega
    · clear hbo K4 k3 d0 d1 d2 d3 d4 L3
      go_wp2
      go_ret
      exact ⟨rfl, B3⟩
theorem rel_one {j k a1 a2 b1 b2 : Int} (ha : a1 < a2) (hb : b1 < b2) (hj1 : 1 ≤ j) (hj2 : j ≤ 13) (hk1 : 1 ≤ k) (hk2 : k ≤ 13) (gj : rel j a1 a2 b1 b2 = true) (gk : rel k a1 a2 b1 b2 = true) : j = k := by
  rcases rel_num j hj1 hj2 with rfl | rfl | rfl | rfl | rfl | rfl | rfl | rfl | rfl | rfl | rfl | rfl | rfl <;> simp [rel] at gj <;>
  rcases rel_num k hk1 hk2 with rfl | rfl | rfl | rfl | rfl | rfl | rfl | rfl | rfl | rfl | rfl | rfl | rfl <;> simp [rel] at gk <;> omega
theorem rel_some {a1 a2 b1 b2 : Int} (ha : a1 ≤ a2) (hb : b1 ≤ b2) : ∃ k, IsFirst k a1 a2 b1 b2 := by
  have step : ∀ n : Nat, n ≤ 12 → (∃ k, IsFirst k a1 a2 b1 b2) ∨ ∀ j : Int, 1 ≤ j → j < n + 1 → rel j a1 a2 b1 b2 = false := by
    intro n
    induction n with
    | zero => intro _; right; intro j h1 h2; omega
    | succ n ih =>
      intro hn
      rcases ih (by omega) with h | h
      · exact Or.inl h
      · cases g : rel ((n : Int) + 1) a1 a2 b1 b2 with
        | true => exact Or.inl ⟨(n : Int) + 1, by omega, by omega, g, fun j h1 h2 => h j h1 h2⟩
        | false =>
          right
          intro j h1 h2
          by_cases e : j = (n : Int) + 1
          · rw [e]; exact g
          · exact h j h1 (by omega)
  rcases step 12 (by omega) with h | h
  · exact h
  · exact ⟨13, by omega, by omega, rel_last ha hb (fun j h1 h2 => h j h1 (by omega)), fun j h1 h2 => h j h1 (by omega)⟩
theorem two_frozen {w1 w2 : World} {s t u v : Value} {T : TypeId} (hb : Below (w1.alloc (.cells #[s, t] T)).heap.size (w1.alloc (.cells #[s, t] T)) w2) :
    (w2.alloc (.cells #[u, v] T)).frozen? ⟨w1.heap.size, 1, none⟩ = false ∧ (w2.alloc (.cells #[u, v] T)).frozen? ⟨w2.heap.size, 1, none⟩ = false ∧ w1.heap.size < w2.heap.size := by
  have hz := hb.size
  simp only [World.size_alloc] at hz
  obtain ⟨hc, hf⟩ := bcell hb
  have g1 := hf w1.heap.size 1 (by simp)
  refine ⟨?_, by simp [go_sem], by omega⟩
  rw [(below_new w2 _).frozen (p := ⟨w1.heap.size, 1, none⟩) (show w1.heap.size < _ by omega), g1]; simp [go_sem]
theorem two_longer {w1 w2 : World} {s t u t' v' : Int} {T : TypeId} (hb : Below (w1.alloc (.cells #[.int .i64 s, .int .i64 t] T)).heap.size (w1.alloc (.cells #[.int .i64 s, .int .i64 t] T)) w2) :
    Two ((w2.setCell ⟨w1.heap.size, 1, none⟩ (.int .i64 t')).alloc (.cells #[.int .i64 u, .int .i64 v'] T)) w1.heap.size w2.heap.size s t' u v' := by
  have hz := hb.size
  simp only [World.size_alloc] at hz
  obtain ⟨hc, hf⟩ := bcell hb
  have g0 : w2.cell? ⟨w1.heap.size, 0, none⟩ = some (.int .i64 s) := by rw [hc w1.heap.size 0 (by simp)]; simp [go_sem]
  have g1 : w2.cell? ⟨w1.heap.size, 1, none⟩ = some (.int .i64 t) := by rw [hc w1.heap.size 1 (by simp)]; simp [go_sem]
  have n3 : (⟨w1.heap.size, 1, none⟩ : Addr) ≠ ⟨w1.heap.size, 0, none⟩ := by intro e; injection e with e1 e2; omega
  have hlt : w1.heap.size < (w2.setCell ⟨w1.heap.size, 1, none⟩ (.int .i64 t')).heap.size := by simp only [World.size_setCell]; omega
  have hsz : w2.heap.size = (w2.setCell ⟨w1.heap.size, 1, none⟩ (.int .i64 t')).heap.size := by simp
  refine ⟨⟨by simp; omega, by simp⟩, ?_, ?_, ?_, ?_⟩
  · rw [(below_new _ _).cell (p := ⟨w1.heap.size, 0, none⟩) hlt, World.cell?_setCell_other _ _ _ _ n3]; exact g0
  · rw [(below_new _ _).cell (p := ⟨w1.heap.size, 1, none⟩) hlt]; exact World.cell?_setCell_same _ _ _ g1
  · rw [hsz]; simp [go_sem]
  · rw [hsz]; simp [go_sem]
theorem Laid.setCell {w : World} (h : Laid w) {x : Nat} (hx : 0 < x) (o : Nat) (v : Value) : Laid (w.setCell ⟨x, o, none⟩ v) := by
  have b : Below 1 w (w.setCell ⟨x, o, none⟩ v) := (Below.refl 1 w).setCell (show 1 ≤ x from hx) v
  exact ⟨by simpa using h.1, fun i hi => (b.cell (p := ⟨0, i, none⟩) (show 0 < 1 by omega)).trans (h.2 i hi)⟩
set_option maxHeartbeats 8000000 in
theorem oneHolds_walk (a n b m : Int) (w : World) (ha1 : -9223372036854775808 ≤ a) (ha2 : a ≤ 9223372036854775807) (hn1 : -9223372036854775808 ≤ n) (hn2 : n ≤ 9223372036854775807) (hb1 : -9223372036854775808 ≤ b) (hb2 : b ≤ 9223372036854775807) (hm1 : -9223372036854775808 ≤ m) (hm2 : m ≤ 9223372036854775807) (L0 : Laid w) :
    Calls Tryd.prog 3 #[.int .i64 a, .int .i64 n, .int .i64 b, .int .i64 m] w fun e w' => e = .returned (.bool true) ∧ Below w.heap.size w w' := by
  go_enter Tryd.func3, Tryd.ntmps3
  have Bs := Below.refl w.heap.size w
  have Ls := L0
  go_wp2_with fail
  refine (span_any a n _ ha1 ha2 hn1 hn2).mono ?_
  rintro e w2 ⟨s, t, rfl, s0, s1, s2, s3, X⟩
  have La := Ls.below X
  have Ba := below_on Bs X
  clear ha1 ha2 hn1 hn2 X Bs Ls
  go_wp2_with fail
  refine (span_any b m _ hb1 hb2 hm1 hm2).mono ?_
  rintro e w3 ⟨u, v, rfl, u0, u1, u2, u3, X⟩
  have FZ := two_frozen (u := .int .i64 u) (v := .int .i64 v) X
  have Sa := Ba.size
  have hz0 := L0.1
  have T2 := two_longer (u := u) (t' := t + 1) (v' := v + 1) X
  have B2 : Below w.heap.size w ((w3.setCell ⟨w2.heap.size, 1, none⟩ (.int .i64 (t + 1))).alloc (.cells #[.int .i64 u, .int .i64 (v + 1)] 23)) := ((below_on Ba (below_on (below_new _ _) X)).setCell Sa _).alloc (by have := (below_on Ba (below_on (below_new _ _) X)).size; simpa using this) _
  have L2 := (((La.alloc _).below X).setCell (show 0 < w2.heap.size by omega) 1 (.int .i64 (t + 1))).alloc (.cells #[.int .i64 u, .int .i64 (v + 1)] 23)
  have T1 := two_start (u := u) (v := v) X
  have B1 := below_on (below_on Ba (below_on (below_new _ _) X)) (below_new w3 (.cells #[.int .i64 u, .int .i64 v] 23))
  have L1 := ((La.alloc _).below X).alloc (.cells #[.int .i64 u, .int .i64 v] 23)
  have c := T1
  obtain ⟨d0, d1, d2, d3, d4⟩ := c
  clear hb1 hb2 hm1 hm2 X La Ba
  obtain ⟨f1, f2, hxy⟩ := FZ
  have hbo : bothE s (t + 1) u (v + 1) = 0 := both_mk s0 (by omega) (by omega) u0 (by omega) (by omega)
  obtain ⟨k, hk⟩ := rel_some (show s ≤ t + 1 by omega) (show u ≤ v + 1 by omega)
  obtain ⟨k1, k2, k3, k4⟩ := hk
  have K4 : Hid (∀ j, 1 ≤ j → j ≤ 13 → j ≠ k → rel j s (t + 1) u (v + 1) = false) := by
    intro j h1 h2 h3
    cases g : rel j s (t + 1) u (v + 1) with
    | false => rfl
    | true => exact absurd (rel_one (by omega) (by omega) h1 h2 k1 k2 g k3) h3
  clear k4 B1 T1 L1 L0 d0 Sa
  have hne : ¬ w2.heap.size = w3.heap.size := by omega
  have hne2 : ¬ w3.heap.size = w2.heap.size := by omega
  go_wp2_with fail
  obtain ⟨W5, hW5⟩ : ∃ W5, W5 = (w3.setCell ⟨w2.heap.size, 1, none⟩ (.int .i64 (t + 1))).alloc (.cells #[.int .i64 u, .int .i64 (v + 1)] 23) := ⟨_, rfl⟩
  rw [← hW5] at B2 T2 L2 ⊢
  clear hW5 d1 d2 d3 d4 f1 f2 hne hne2 hz0 s1 s3 u1 u3 s2 u2 s0 u0
  go_loopw [11, 12] (fun y z wr => ∃ r c : Int, 1 ≤ r ∧ r ≤ 14 ∧ z = .int .i64 r ∧ y = .int .i64 c ∧ ((r ≤ k ∧ c = 0) ∨ (k < r ∧ c = 1)) ∧ Below W5.heap.size W5 wr) (fun _ z _ => 15 - (intOf z).toNat)
  case atStart => exact ⟨1, 0, by omega, by omega, rfl, rfl, Or.inl ⟨k1, rfl⟩, Below.refl _ _⟩
  case round =>
    obtain ⟨r, c, hr1, hr2, rfl, rfl, hc, X⟩ := hrel
    have B3 := below_on B2 X
    have T3 := T2.below X
    have L3 := L2.below X
    have e3 := T3
    obtain ⟨d0, d1, d2, d3, d4⟩ := e3
    clear B2 T2 L2
    by_cases h13 : r ≤ 13
    · obtain ⟨q1, q2, -, -⟩ := ans hr1 h13 hbo
      by_cases he : r = k
      · have HC : Hid (c = 0) := by show c = 0; omega
        have he2 : rel r s (t + 1) u (v + 1) = true := by rw [he]; exact k3
        have HE : Hid (r = k) := he
        rw [he2] at q2
        have hc2 : 0 ≤ c ∧ c ≤ 1 := by omega
        obtain ⟨hc3, hc4⟩ := hc2
        clear hbo K4 k3 he2 he hc
        go_wp2_with fail
        refine (Holds_any r s (t + 1) u (v + 1) _ L3).mono ?_
        rintro e w5 ⟨rfl, Y⟩
        have X2 := below_on X Y
        clear d0 d1 d2 d3 d4 L3 B3 X Y T3
        go_wp2
        go_roundw
        case rel => exact ⟨r + 1, c + 1, by omega, by omega, by go_num, by go_num, by have h1 := HC.out; have h2 := HE.out; omega, X2⟩
        case measure => simp [intOf]; omega
      · rw [K4.out r hr1 h13 he] at q2
        have HE : Hid (¬ r = k) := he
        have HC : Hid ((r ≤ k ∧ c = 0) ∨ (k < r ∧ c = 1)) := hc
        clear hbo K4 k3 he hc
        go_wp2_with fail
        refine (Holds_any r s (t + 1) u (v + 1) _ L3).mono ?_
        rintro e w5 ⟨rfl, Y⟩
        have X2 := below_on X Y
        clear d0 d1 d2 d3 d4 L3 B3 X Y T3
        go_wp2
        go_roundw
        case rel => exact ⟨r + 1, c, by omega, by omega, by go_num, rfl, by have h1 := HC.out; have h2 := HE.out; omega, X2⟩
        case measure => simp [intOf]; omega
    · have hc1 : c = 1 := by omega
      subst hc1
      clear hc
      go_wp2_with fail
      refine (Which_ok s (t + 1) u (v + 1) _ L3 hbo).mono ?_
      rintro e w5 ⟨j, hj, rfl, Y⟩
      obtain ⟨j1, j2, j3, -⟩ := hj
      obtain ⟨q1, q2, -, -⟩ := ans j1 j2 hbo
      rw [j3] at q2
      clear d0 d1 d2 d3 d4 hbo K4 k3 j3
      have B4 := below_on B3 Y
      have T4 := T3.below Y
      have L4 := L3.below Y
      obtain ⟨d0, d1, d2, d3, d4⟩ := T4
      clear X Y T3 L3 B3
      go_wp2_with fail
      refine (Holds_any j s (t + 1) u (v + 1) _ L4).mono ?_
      rintro e w6 ⟨rfl, Y⟩
      have B5 := below_on B4 Y
      clear d0 d1 d2 d3 d4 L4 B4 Y
      go_wp2
      go_ret
      exact ⟨rfl, B5⟩
theorem rel_shift (k a1 a2 b1 b2 d : Int) (h1 : 1 ≤ k) (h2 : k ≤ 13) : rel k (a1 + d) (a2 + d) (b1 + d) (b2 + d) = rel k a1 a2 b1 b2 := by
  rcases rel_num k h1 h2 with rfl | rfl | rfl | rfl | rfl | rfl | rfl | rfl | rfl | rfl | rfl | rfl | rfl <;> (rw [Bool.eq_iff_iff]; simp [rel] <;> omega)
theorem gp_shift (k a1 a2 b1 b2 d : Int) (h1 : 1 ≤ k) (h2 : k ≤ 13) : gp k (a1 + d) (a2 + d) (b1 + d) (b2 + d) = gp k a1 a2 b1 b2 := by
  rcases rel_num k h1 h2 with rfl | rfl | rfl | rfl | rfl | rfl | rfl | rfl | rfl | rfl | rfl | rfl | rfl <;> simp [gp] <;> omega
theorem two_new {W : World} {s t u v : Int} {T : TypeId} : Two ((W.alloc (.cells #[.int .i64 s, .int .i64 t] T)).alloc (.cells #[.int .i64 u, .int .i64 v] T)) W.heap.size (W.heap.size + 1) s t u v := by
  refine ⟨⟨by simp; omega, by simp⟩, ?_, ?_, ?_, ?_⟩ <;> simp [go_sem]
set_option maxHeartbeats 8000000 in
theorem shiftSame_walk (r a n b m y : Int) (w : World) (hr1 : -9223372036854775808 ≤ r) (hr2 : r ≤ 9223372036854775807) (ha1 : -9223372036854775808 ≤ a) (ha2 : a ≤ 9223372036854775807) (hn1 : -9223372036854775808 ≤ n) (hn2 : n ≤ 9223372036854775807) (hb1 : -9223372036854775808 ≤ b) (hb2 : b ≤ 9223372036854775807) (hm1 : -9223372036854775808 ≤ m) (hm2 : m ≤ 9223372036854775807) (hy1 : -9223372036854775808 ≤ y) (hy2 : y ≤ 9223372036854775807) (L0 : Laid w) :
    Calls Tryd.prog 5 #[.int .i64 r, .int .i64 a, .int .i64 n, .int .i64 b, .int .i64 m, .int .i64 y] w fun e w' => e = .returned (.bool true) ∧ Below w.heap.size w w' := by
  go_enter Tryd.func5, Tryd.ntmps5
  have Bs := Below.refl w.heap.size w
  have Ls := L0
  go_wp2_with fail
  refine (relation_any _ _ hr1 hr2).mono ?_
  rintro e w0 ⟨k, rfl, k1, k2, rfl⟩
  clear hr1 hr2
  go_wp2_with fail
  refine (span_any a n _ ha1 ha2 hn1 hn2).mono ?_
  rintro e w2 ⟨s, t, rfl, s0, s1, s2, s3, X⟩
  have La := Ls.below X
  have Ba := below_on Bs X
  clear ha1 ha2 hn1 hn2 X Bs Ls
  go_wp2_with fail
  refine (span_any b m _ hb1 hb2 hm1 hm2).mono ?_
  rintro e w3 ⟨u, v, rfl, u0, u1, u2, u3, X⟩
  have T1 := two_start (u := u) (v := v) X
  have B1 := below_on (below_on Ba (below_on (below_new _ _) X)) (below_new w3 (.cells #[.int .i64 u, .int .i64 v] 23))
  have L1 := ((La.alloc _).below X).alloc (.cells #[.int .i64 u, .int .i64 v] 23)
  have c := T1
  obtain ⟨d0, d1, d2, d3, d4⟩ := c
  clear hb1 hb2 hm1 hm2 X La Ba
  go_wp2_with fail
  refine (picked_any y _ _ hy1 hy2 (by omega) (by omega)).mono ?_
  rintro e w4 ⟨d, rfl, p0, p1, rfl⟩
  clear hy1 hy2
  obtain ⟨W1, hW1⟩ : ∃ W1, W1 = w3.alloc (.cells #[.int .i64 u, .int .i64 v] 23) := ⟨_, rfl⟩
  rw [← hW1] at T1 B1 L1 d0 d1 d2 d3 d4 ⊢
  obtain ⟨x, hx⟩ : ∃ x, x = w2.heap.size := ⟨_, rfl⟩
  obtain ⟨z, hz⟩ : ∃ z, z = w3.heap.size := ⟨_, rfl⟩
  rw [← hx, ← hz] at T1 d0 
  rw [← hx] at d1 d2
  rw [← hz] at d3 d4
  rw [← hx, ← hz]
  clear hW1 hx hz
  obtain ⟨dx, dz⟩ := d0
  have nx : ¬ x = W1.heap.size := by omega
  have nz : ¬ z = W1.heap.size := by omega
  go_wp2_with fail
  obtain ⟨q1, q2, q3, q4⟩ := ans k1 k2 (both_mk s0 s2 (by omega) u0 u2 (by omega))
  have z2 := ans (a1 := s + d) (a2 := t + d) (b1 := u + d) (b2 := v + d) k1 k2 (both_mk (by omega) (by omega) (by omega) (by omega) (by omega) (by omega))
  rw [rel_shift k s t u v d k1 k2, gp_shift k s t u v d k1 k2] at z2
  obtain ⟨r1, r2, r3, r4⟩ := z2
  have h0 : hE 0 s t u v = 3 := if_neg (by omega)
  have TB := two_new (W := W1) (s := s + d) (t := t + d) (u := u + d) (v := v + d) (T := 23)
  have BN := below_on (below_new W1 (.cells #[.int .i64 (s + d), .int .i64 (t + d)] 23)) (below_new _ (.cells #[.int .i64 (u + d), .int .i64 (v + d)] 23))
  have TA := T1.below BN
  have LA := L1.below BN
  have BA := below_on B1 BN
  clear T1 L1 B1 BN d1 d2 d3 d4 nx nz dx dz
  refine (Holds_any k s t u v _ LA).mono ?_
  rintro e w5 ⟨rfl, X⟩
  have B5 := below_on BA X
  have T5 := TA.below X
  have U5 := TB.below X
  have L5 := LA.below X
  clear TA LA BA TB X
  cases g : rel k s t u v with
  | true =>
    obtain ⟨x1, x2⟩ := q3 g
    obtain ⟨y1, y2⟩ := r3 g
    rw [g] at q2 r2
    clear q3 q4 r3 r4 g s0 s1 s2 s3 u0 u1 u2 u3
    have c := T5
    obtain ⟨d0, d1, d2, d3, d4⟩ := c
    have c := U5
    obtain ⟨f0, f1, f2, f3, f4⟩ := c
    go_wp2_with fail
    refine (Holds_any k (s + d) (t + d) (u + d) (v + d) _ L5).mono ?_
    rintro e w6 ⟨rfl, X⟩
    clear d0 d1 d2 d3 d4 f0 f1 f2 f3 f4
    have B6 := below_on B5 X
    have T6 := T5.below X
    have U6 := U5.below X
    have L6 := L5.below X
    clear X B5 T5 U5 L5
    have c := T6
    obtain ⟨d0, d1, d2, d3, d4⟩ := c
    have c := U6
    obtain ⟨f0, f1, f2, f3, f4⟩ := c
    go_wp2_with fail
    refine (Distance_any k s t u v _ L6).mono ?_
    rintro e w7 ⟨rfl, X⟩
    clear d0 d1 d2 d3 d4 f0 f1 f2 f3 f4
    have B7 := below_on B6 X
    have T7 := T6.below X
    have U7 := U6.below X
    have L7 := L6.below X
    clear X B6 T6 U6 L6
    have c := T7
    obtain ⟨d0, d1, d2, d3, d4⟩ := c
    have c := U7
    obtain ⟨f0, f1, f2, f3, f4⟩ := c
    go_wp2_with fail
    refine (Distance_any k (s + d) (t + d) (u + d) (v + d) _ L7).mono ?_
    rintro e w8 ⟨rfl, X⟩
    clear d0 d1 d2 d3 d4 f0 f1 f2 f3 f4
    have B8 := below_on B7 X
    have T8 := T7.below X
    have U8 := U7.below X
    have L8 := L7.below X
    clear X B7 T7 U7 L7
    have c := T8
    obtain ⟨d0, d1, d2, d3, d4⟩ := c
    have c := U8
    obtain ⟨f0, f1, f2, f3, f4⟩ := c
    go_wp2_with fail
    refine (Holds_any 0 s t u v _ L8).mono ?_
    rintro e w9 ⟨rfl, X⟩
    clear d0 d1 d2 d3 d4 f0 f1 f2 f3 f4
    have B9 := below_on B8 X
    have T9 := T8.below X
    have U9 := U8.below X
    have L9 := L8.below X
    clear X B8 T8 U8 L8
    go_wp2
    go_ret
    exact ⟨rfl, B9⟩
  | false =>
    obtain ⟨x1, x2⟩ := q4 g
    obtain ⟨y1, y2⟩ := r4 g
    rw [g] at q2 r2
    clear q3 q4 r3 r4 g s0 s1 s2 s3 u0 u1 u2 u3
    have c := T5
    obtain ⟨d0, d1, d2, d3, d4⟩ := c
    have c := U5
    obtain ⟨f0, f1, f2, f3, f4⟩ := c
    go_wp2_with fail
    refine (Holds_any k (s + d) (t + d) (u + d) (v + d) _ L5).mono ?_
    rintro e w6 ⟨rfl, X⟩
    clear d0 d1 d2 d3 d4 f0 f1 f2 f3 f4
    have B6 := below_on B5 X
    have T6 := T5.below X
    have U6 := U5.below X
    have L6 := L5.below X
    clear X B5 T5 U5 L5
    have c := T6
    obtain ⟨d0, d1, d2, d3, d4⟩ := c
    have c := U6
    obtain ⟨f0, f1, f2, f3, f4⟩ := c
    go_wp2_with fail
    refine (Distance_any k s t u v _ L6).mono ?_
    rintro e w7 ⟨rfl, X⟩
    clear d0 d1 d2 d3 d4 f0 f1 f2 f3 f4
    have B7 := below_on B6 X
    have T7 := T6.below X
    have U7 := U6.below X
    have L7 := L6.below X
    clear X B6 T6 U6 L6
    have c := T7
    obtain ⟨d0, d1, d2, d3, d4⟩ := c
    have c := U7
    obtain ⟨f0, f1, f2, f3, f4⟩ := c
    go_wp2_with fail
    refine (Distance_any k (s + d) (t + d) (u + d) (v + d) _ L7).mono ?_
    rintro e w8 ⟨rfl, X⟩
    clear d0 d1 d2 d3 d4 f0 f1 f2 f3 f4
    have B8 := below_on B7 X
    have T8 := T7.below X
    have U8 := U7.below X
    have L8 := L7.below X
    clear X B7 T7 U7 L7
    have c := T8
    obtain ⟨d0, d1, d2, d3, d4⟩ := c
    have c := U8
    obtain ⟨f0, f1, f2, f3, f4⟩ := c
    go_wp2_with fail
    refine (Holds_any 0 s t u v _ L8).mono ?_
    rintro e w9 ⟨rfl, X⟩
    clear d0 d1 d2 d3 d4 f0 f1 f2 f3 f4
    have B9 := below_on B8 X
    have T9 := T8.below X
    have U9 := U8.below X
    have L9 := L8.below X
    clear X B8 T8 U8 L8
    go_wp2
    go_ret
    exact ⟨rfl, B9⟩
end Go.Proofs.YtakimdbkkmafnacDoor
