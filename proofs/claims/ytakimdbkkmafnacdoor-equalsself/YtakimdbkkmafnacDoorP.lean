/-
  What the laws' own helpers and tick.Which answer.
-/
import Derived.Test.YtakimdbkkmafnacDoorF
import Derived.Handy
import Derived.WalkSmall
import Derived.RegionTactic
import Derived.ChangeAlike
namespace Go.Proofs.YtakimdbkkmafnacDoor
open Go.ChangeShapes Go.WideShapes Go.ChangeAt Go.RowKit
set_option linter.unusedVariables false
set_option linter.unusedSimpArgs false
theorem tm_bd (n m : Int) (hn : n < 0) (hm : 0 < m) : 0 ≤ -((n + 1).tmod m) ∧ -((n + 1).tmod m) < m := by
  have e : -((n + 1).tmod m) = (-(n + 1)).tmod m := (Int.neg_tmod _ _).symm
  rw [e]
  exact ⟨Int.tmod_nonneg _ (by omega), Int.tmod_lt_of_pos _ hm⟩
set_option maxHeartbeats 1000000 in
theorem picked_any (n m : Int) (w : World) (hn1 : -9223372036854775808 ≤ n) (hn2 : n ≤ 9223372036854775807) (hm : 0 < m) (hm2 : m ≤ 1099511627776) :
    Calls Tryd.prog 12 #[.int .i64 n, .int .i64 m] w fun e w' => ∃ k : Int, e = .returned (.int .i64 k) ∧ 0 ≤ k ∧ k < m ∧ w' = w := by
  have hm0 : ¬ m = 0 := by omega
  by_cases h : 0 ≤ n
  · go_enter Tryd.func12, Tryd.ntmps12
    go_wp2
    go_ret
    exact ⟨_, rfl, Int.emod_nonneg n hm0, Int.emod_lt_of_pos n hm, rfl⟩
  · have h' : n < 0 := by omega
    go_enter Tryd.func12, Tryd.ntmps12
    go_wp2
    go_ret
    exact ⟨_, rfl, (tm_bd n m h' hm).1, (tm_bd n m h' hm).2, rfl⟩
set_option maxHeartbeats 1000000 in
/-- A span of raw numbers: from 0 to 59, at most 24 long. -/
theorem span_any (a n : Int) (w : World) (ha1 : -9223372036854775808 ≤ a) (ha2 : a ≤ 9223372036854775807) (hn1 : -9223372036854775808 ≤ n) (hn2 : n ≤ 9223372036854775807) :
    Calls Tryd.prog 8 #[.int .i64 a, .int .i64 n] w fun e w' => ∃ s t : Int, e = .returned (.agg #[.int .i64 s, .int .i64 t]) ∧ 0 ≤ s ∧ s < 60 ∧ s ≤ t ∧ t < s + 25 ∧ Below w.heap.size w w' := by
  go_enter Tryd.func8, Tryd.ntmps8
  go_wp2_with fail
  refine (picked_any a _ _ ha1 ha2 (by omega) (by omega)).mono ?_
  rintro e w1 ⟨s, rfl, hs0, hs1, rfl⟩
  go_wp2_with fail
  refine (picked_any n _ _ hn1 hn2 (by omega) (by omega)).mono ?_
  rintro e w2 ⟨k, rfl, hk0, hk1, rfl⟩
  go_wp2
  go_returns
  exact ⟨s, s + k, rfl, hs0, hs1, by omega, by omega, by go_grown⟩
set_option maxHeartbeats 1000000 in
theorem relation_any (n : Int) (w : World) (hn1 : -9223372036854775808 ≤ n) (hn2 : n ≤ 9223372036854775807) :
    Calls Tryd.prog 11 #[.int .i64 n] w fun e w' => ∃ k : Int, e = .returned (.int .i64 k) ∧ 1 ≤ k ∧ k ≤ 13 ∧ w' = w := by
  go_enter Tryd.func11, Tryd.ntmps11
  go_wp2_with fail
  refine (picked_any n _ _ hn1 hn2 (by omega) (by omega)).mono ?_
  rintro e w1 ⟨s, rfl, hs0, hs1, rfl⟩
  go_wp2
  go_ret
  exact ⟨1 + s, ret_int (by omega), by omega, by omega, rfl⟩
/-- Two spans lie in two blocks of the world. -/
def Two (W : World) (x y : Nat) (s t u v : Int) : Prop := (x < W.heap.size ∧ y < W.heap.size) ∧ W.cell? ⟨x, 0, none⟩ = some (.int .i64 s) ∧ W.cell? ⟨x, 1, none⟩ = some (.int .i64 t) ∧ W.cell? ⟨y, 0, none⟩ = some (.int .i64 u) ∧ W.cell? ⟨y, 1, none⟩ = some (.int .i64 v)
theorem Two.below {W W' : World} {x y : Nat} {s t u v : Int} (h : Two W x y s t u v) (hb : Below W.heap.size W W') : Two W' x y s t u v := by
  obtain ⟨⟨hx, hy⟩, h1, h2, h3, h4⟩ := h
  have hz := hb.size
  exact ⟨⟨by omega, by omega⟩, (hb.cell (p := ⟨x, 0, none⟩) hx).trans h1, (hb.cell (p := ⟨x, 1, none⟩) hx).trans h2, (hb.cell (p := ⟨y, 0, none⟩) hy).trans h3, (hb.cell (p := ⟨y, 1, none⟩) hy).trans h4⟩
theorem two_start {w1 w2 : World} {s t u v : Int} {T : TypeId} (hb : Below (w1.alloc (.cells #[.int .i64 s, .int .i64 t] T)).heap.size (w1.alloc (.cells #[.int .i64 s, .int .i64 t] T)) w2) :
    Two (w2.alloc (.cells #[.int .i64 u, .int .i64 v] T)) w1.heap.size w2.heap.size s t u v := by
  have hz := hb.size
  simp only [World.size_alloc] at hz
  obtain ⟨hc, hf⟩ := bcell hb
  have g0 := hc w1.heap.size 0 (by simp)
  have g1 := hc w1.heap.size 1 (by simp)
  have hne : ¬ w1.heap.size = w2.heap.size := by omega
  refine ⟨⟨by simp; omega, by simp⟩, ?_, ?_, ?_, ?_⟩
  · rw [(below_new w2 _).cell (p := ⟨w1.heap.size, 0, none⟩) (show w1.heap.size < _ by omega), g0]; simp [go_sem]
  · rw [(below_new w2 _).cell (p := ⟨w1.heap.size, 1, none⟩) (show w1.heap.size < _ by omega), g1]; simp [go_sem]
  · simp [go_sem]
  · simp [go_sem]
theorem rel_inv (k a1 a2 b1 b2 : Int) (h1 : 1 ≤ k) (h2 : k ≤ 13) : rel (inv k) b1 b2 a1 a2 = rel k a1 a2 b1 b2 := by
  rcases rel_num k h1 h2 with rfl | rfl | rfl | rfl | rfl | rfl | rfl | rfl | rfl | rfl | rfl | rfl | rfl <;> first | rfl | (rw [Bool.eq_iff_iff]; simp [rel, inv] <;> omega)
theorem gp_inv (k a1 a2 b1 b2 : Int) (h1 : 1 ≤ k) (h2 : k ≤ 13) : gp (inv k) b1 b2 a1 a2 = gp k a1 a2 b1 b2 := by
  rcases rel_num k h1 h2 with rfl | rfl | rfl | rfl | rfl | rfl | rfl | rfl | rfl | rfl | rfl | rfl | rfl <;> simp [gp, inv]
theorem gp_pos {k a1 a2 b1 b2 : Int} (h1 : 1 ≤ k) (h2 : k ≤ 13) (h : rel k a1 a2 b1 b2 = true) : 0 ≤ gp k a1 a2 b1 b2 := by
  rcases rel_num k h1 h2 with rfl | rfl | rfl | rfl | rfl | rfl | rfl | rfl | rfl | rfl | rfl | rfl | rfl <;> simp [rel] at h <;> simp [gp] <;> omega
/-- What the calls answer at a relation and spans that may be. -/
theorem ans {k a1 a2 b1 b2 : Int} (h1 : 1 ≤ k) (h2 : k ≤ 13) (h3 : bothE a1 a2 b1 b2 = 0) :
    hE k a1 a2 b1 b2 = 0 ∧ hV k a1 a2 b1 b2 = rel k a1 a2 b1 b2 ∧ (rel k a1 a2 b1 b2 = true → dE k a1 a2 b1 b2 = 0 ∧ dV k a1 a2 b1 b2 = gp k a1 a2 b1 b2) ∧ (rel k a1 a2 b1 b2 = false → dE k a1 a2 b1 b2 = 6 ∧ dV k a1 a2 b1 b2 = 0) := by
  have e1 : hE k a1 a2 b1 b2 = 0 := by unfold hE; rw [if_pos ⟨h1, h2⟩]; exact h3
  refine ⟨e1, by unfold hV; rw [e1]; simp, fun g => ⟨by unfold dE; rw [if_pos e1, if_pos g], if_pos ⟨e1, g⟩⟩, fun g => ⟨by unfold dE; rw [if_pos e1, g]; rfl, if_neg (fun x => by rw [g] at x; cases x.2)⟩⟩
set_option maxHeartbeats 2000000 in
theorem Which_bad (a1 a2 b1 b2 : Int) (w : World) (h : ¬ bothE a1 a2 b1 b2 = 0) :
    Calls Tryd.prog 10 #[.agg #[.int .i64 a1, .int .i64 a2], .agg #[.int .i64 b1, .int .i64 b2]] w fun e w' => e = .returned (.tuple #[.int .i64 0, .int .i64 (bothE a1 a2 b1 b2)]) ∧ Below w.heap.size w w' := by
  go_enter Tryd.func10, Tryd.ntmps10
  go_wp2_with fail
  refine (checkBoth_any _ _ _ _ _).mono ?_
  rintro e w1 ⟨rfl, hb⟩
  have hb' : Below w.heap.size w w1 := below_on (below_on (below_new _ _) (below_new _ _)) hb
  clear hb
  have hn : (bothE a1 a2 b1 b2 != 0) = true := by simp [h]
  go_wp2
  go_ret2
  exact ⟨rfl, hb'⟩
set_option maxHeartbeats 4000000 in
theorem Which_ok (a1 a2 b1 b2 : Int) (w : World) (hl : Laid w) (h : bothE a1 a2 b1 b2 = 0) :
    Calls Tryd.prog 10 #[.agg #[.int .i64 a1, .int .i64 a2], .agg #[.int .i64 b1, .int .i64 b2]] w fun e w' => ∃ k, IsFirst k a1 a2 b1 b2 ∧ e = .returned (.tuple #[.int .i64 k, .int .i64 0]) ∧ Below w.heap.size w w' := by
  obtain ⟨k0, k1, k2, k3, k4, k5⟩ := both_ok h
  go_enter Tryd.func10, Tryd.ntmps10
  go_wp2_with fail
  refine (checkBoth_any _ _ _ _ _).mono ?_
  rintro e w1 ⟨rfl, hb⟩
  have hb' : Below w.heap.size w w1 := below_on (below_on (below_new _ _) (below_new _ _)) hb
  have hl1 := hl.below hb'
  obtain ⟨⟨c0, c1, c2, c3⟩, f0, f1, f2, f3⟩ := two_boxes hb
  have hz1 : w.heap.size + 1 + 1 ≤ w1.heap.size := by have := hb.size; simpa using this
  clear hb hl
  go_wp2_with fail
  go_loopw [7] (fun v wr => ∃ r : Int, 1 ≤ r ∧ r ≤ 13 ∧ v = .int .i64 r ∧ (∀ j, 1 ≤ j → j < r → rel j a1 a2 b1 b2 = false) ∧ Below w1.heap.size w1 wr) (fun v _ => 14 - (intOf v).toNat)
  case atStart => exact ⟨1, by omega, by omega, rfl, fun j _ _ => by omega, Below.refl _ _⟩
  case round =>
    obtain ⟨r, hr1, hr2, rfl, hj, hbr⟩ := hrel
    have d0 := (hbr.cell (p := ⟨w.heap.size, 0, none⟩) (show w.heap.size < _ by omega)).trans c0
    have d1 := (hbr.cell (p := ⟨w.heap.size, 1, none⟩) (show w.heap.size < _ by omega)).trans c1
    have d2 := (hbr.cell (p := ⟨w.heap.size + 1, 0, none⟩) (show w.heap.size + 1 < _ by omega)).trans c2
    have d3 := (hbr.cell (p := ⟨w.heap.size + 1, 1, none⟩) (show w.heap.size + 1 < _ by omega)).trans c3
    have hlr := hl1.below hbr
    have HJ : Hid (∀ j, 1 ≤ j → j < r → rel j a1 a2 b1 b2 = false) := hj
    clear hj c0 c1 c2 c3 f0 f1 f2 f3 hl1
    by_cases h13 : r < 13
    · by_cases g : rel r a1 a2 b1 b2 = true
      · go_wp2_with fail
        refine (holds_any _ _ _ _ _ _ hlr hr1 hr2).mono ?_
        rintro e w2 ⟨rfl, hb2⟩
        have hb3 := below_on hb' (below_on hbr hb2)
        go_wp2
        go_ret2
        exact ⟨r, ⟨hr1, hr2, g, HJ.out⟩, rfl, hb3⟩
      · have g' : rel r a1 a2 b1 b2 = false := by simpa using g
        clear g
        go_wp2_with fail
        refine (holds_any _ _ _ _ _ _ hlr hr1 hr2).mono ?_
        rintro e w2 ⟨rfl, hb2⟩
        have hb3 := below_on hbr hb2
        go_wp2
        go_roundw
        case rel =>
          refine ⟨r + 1, by omega, by omega, by go_num, fun j q1 q2 => ?_, hb3⟩
          by_cases q : j = r
          · rw [q]; exact g'
          · exact HJ.out j q1 (by omega)
        case measure => simp [intOf]; omega
    · have e13 : r = 13 := by omega
      subst e13
      go_wp2
      go_ret2
      exact ⟨13, ⟨hr1, hr2, rel_last k1 k4 HJ.out, HJ.out⟩, rfl, below_on hb' hbr⟩
end Go.Proofs.YtakimdbkkmafnacDoor
