/-
  What the program's CheckOption and Fits answer.
-/
import Derived.Test.YtgikaheojcpmpabDoorTK
import Derived.Handy
import Derived.WalkSmall
import Derived.RegionTactic
import Derived.ChangeAlike
namespace Go.Proofs.YtgikaheojcpmpabDoor.T1
open Go.ChangeShapes Go.WideShapes Go.ChangeAt Go.RowKit
set_option linter.unusedVariables false
set_option linter.unusedSimpArgs false
theorem opt_cases (r l h : Int) : ¬ 1 ≤ r ∨ (1 ≤ r ∧ ¬ r ≤ 13) ∨ (1 ≤ r ∧ r ≤ 13 ∧ ¬ 0 ≤ l) ∨ (1 ≤ r ∧ r ≤ 13 ∧ 0 ≤ l ∧ ¬ l ≤ 1073741824) ∨ (1 ≤ r ∧ r ≤ 13 ∧ 0 ≤ l ∧ l ≤ 1073741824 ∧ ¬ -1 ≤ h) ∨ (1 ≤ r ∧ r ≤ 13 ∧ 0 ≤ l ∧ l ≤ 1073741824 ∧ -1 ≤ h ∧ ¬ h ≤ 1073741824)
    ∨ (1 ≤ r ∧ r ≤ 13 ∧ 0 ≤ l ∧ l ≤ 1073741824 ∧ h = -1) ∨ (1 ≤ r ∧ r ≤ 13 ∧ 0 ≤ l ∧ l ≤ 1073741824 ∧ 0 ≤ h ∧ h ≤ 1073741824 ∧ l ≤ h) ∨ (1 ≤ r ∧ r ≤ 13 ∧ 0 ≤ l ∧ l ≤ 1073741824 ∧ 0 ≤ h ∧ h ≤ 1073741824 ∧ ¬ l ≤ h) := by omega
set_option maxHeartbeats 1000000 in
theorem opt_any (r l h : Int) (w : World) :
    Calls Tryd.prog 11 #[.agg #[.int .i64 r, .int .i64 l, .int .i64 h]] w fun e w' => e = .returned (.int .i64 (optE r l h)) ∧ Below w.heap.size w w' := by
  rcases opt_cases r l h with h0 | ⟨h0, h1⟩ | ⟨h0, h1, h2⟩ | ⟨h0, h1, h2, h3⟩ | ⟨h0, h1, h2, h3, h4⟩ | ⟨h0, h1, h2, h3, h4, h5⟩ | ⟨h0, h1, h2, h3, h4⟩ | ⟨h0, h1, h2, h3, h4, h5, h6⟩ | ⟨h0, h1, h2, h3, h4, h5, h6⟩
  · rw [show optE r l h = 3 from by unfold optE; rw [if_neg (by omega)]]
    go_enter Tryd.func11, Tryd.ntmps11
    go_wp2
    go_ret
    exact ⟨rfl, by go_grown⟩
  · rw [show optE r l h = 3 from by unfold optE; rw [if_neg (by omega)]]
    go_enter Tryd.func11, Tryd.ntmps11
    go_wp2
    go_ret
    exact ⟨rfl, by go_grown⟩
  · rw [show optE r l h = 2 from by unfold optE; rw [if_pos (by omega), if_neg (by omega)]]
    go_enter Tryd.func11, Tryd.ntmps11
    go_wp2
    go_ret
    exact ⟨rfl, by go_grown⟩
  · rw [show optE r l h = 2 from by unfold optE; rw [if_pos (by omega), if_neg (by omega)]]
    go_enter Tryd.func11, Tryd.ntmps11
    go_wp2
    go_ret
    exact ⟨rfl, by go_grown⟩
  · rw [show optE r l h = 2 from by unfold optE; rw [if_pos (by omega), if_neg (by omega)]]
    go_enter Tryd.func11, Tryd.ntmps11
    go_wp2
    go_ret
    exact ⟨rfl, by go_grown⟩
  · rw [show optE r l h = 2 from by unfold optE; rw [if_pos (by omega), if_neg (by omega)]]
    go_enter Tryd.func11, Tryd.ntmps11
    go_wp2
    go_ret
    exact ⟨rfl, by go_grown⟩
  · rw [show optE r l h = 0 from by unfold optE; rw [if_pos (by omega), if_pos (by omega), if_neg (by omega)]]
    subst h4
    go_enter Tryd.func11, Tryd.ntmps11
    go_wp2
    go_ret
    exact ⟨rfl, by go_grown⟩
  · rw [show optE r l h = 0 from by unfold optE; rw [if_pos (by omega), if_pos (by omega), if_neg (by omega)]]
    have hn : (h != -1) = true := by simp; omega
    go_enter Tryd.func11, Tryd.ntmps11
    go_wp2
    go_ret
    exact ⟨rfl, by go_grown⟩
  · rw [show optE r l h = 11 from by unfold optE; rw [if_pos (by omega), if_pos (by omega), if_pos (by omega)]]
    have hn : (h != -1) = true := by simp; omega
    go_enter Tryd.func11, Tryd.ntmps11
    go_wp2
    go_ret
    exact ⟨rfl, by go_grown⟩
theorem three_boxes {w w1 : World} {o1 o2 o3 a1 a2 b1 b2 : Value} {s t : TypeId} (hb : Below (((w.alloc (.cells #[o1, o2, o3] s)).alloc (.cells #[a1, a2] t)).alloc (.cells #[b1, b2] t)).heap.size (((w.alloc (.cells #[o1, o2, o3] s)).alloc (.cells #[a1, a2] t)).alloc (.cells #[b1, b2] t)) w1) :
    w1.cell? ⟨w.heap.size, 0, none⟩ = some o1 ∧ w1.cell? ⟨w.heap.size, 1, none⟩ = some o2 ∧ w1.cell? ⟨w.heap.size, 2, none⟩ = some o3 ∧ w1.cell? ⟨w.heap.size + 1, 0, none⟩ = some a1 ∧ w1.cell? ⟨w.heap.size + 1, 1, none⟩ = some a2 ∧ w1.cell? ⟨w.heap.size + 1 + 1, 0, none⟩ = some b1 ∧ w1.cell? ⟨w.heap.size + 1 + 1, 1, none⟩ = some b2 ∧ w.heap.size + 1 + 1 + 1 ≤ w1.heap.size := by
  obtain ⟨hc, hf⟩ := bcell hb
  have hz := hb.size
  refine ⟨?_, ?_, ?_, ?_, ?_, ?_, ?_, by simpa using hz⟩
  all_goals (rw [hc _ _ (by simp <;> omega)]; simp [go_sem]; done)
theorem seven_on {n : Nat} {w1 w2 : World} {o1 o2 o3 a1 a2 b1 b2 : Value} (hb : Below w1.heap.size w1 w2)
    (h : w1.cell? ⟨n, 0, none⟩ = some o1 ∧ w1.cell? ⟨n, 1, none⟩ = some o2 ∧ w1.cell? ⟨n, 2, none⟩ = some o3 ∧ w1.cell? ⟨n + 1, 0, none⟩ = some a1 ∧ w1.cell? ⟨n + 1, 1, none⟩ = some a2 ∧ w1.cell? ⟨n + 1 + 1, 0, none⟩ = some b1 ∧ w1.cell? ⟨n + 1 + 1, 1, none⟩ = some b2 ∧ n + 1 + 1 + 1 ≤ w1.heap.size) :
    w2.cell? ⟨n, 0, none⟩ = some o1 ∧ w2.cell? ⟨n, 1, none⟩ = some o2 ∧ w2.cell? ⟨n, 2, none⟩ = some o3 ∧ w2.cell? ⟨n + 1, 0, none⟩ = some a1 ∧ w2.cell? ⟨n + 1, 1, none⟩ = some a2 ∧ w2.cell? ⟨n + 1 + 1, 0, none⟩ = some b1 ∧ w2.cell? ⟨n + 1 + 1, 1, none⟩ = some b2 ∧ n + 1 + 1 + 1 ≤ w2.heap.size := by
  obtain ⟨h1, h2, h3, h4, h5, h6, h7, h8⟩ := h
  have hz := hb.size
  exact ⟨(hb.cell (p := ⟨n, 0, none⟩) (show n < _ by omega)).trans h1, (hb.cell (p := ⟨n, 1, none⟩) (show n < _ by omega)).trans h2, (hb.cell (p := ⟨n, 2, none⟩) (show n < _ by omega)).trans h3, (hb.cell (p := ⟨n + 1, 0, none⟩) (show n + 1 < _ by omega)).trans h4, (hb.cell (p := ⟨n + 1, 1, none⟩) (show n + 1 < _ by omega)).trans h5, (hb.cell (p := ⟨n + 1 + 1, 0, none⟩) (show n + 1 + 1 < _ by omega)).trans h6, (hb.cell (p := ⟨n + 1 + 1, 1, none⟩) (show n + 1 + 1 < _ by omega)).trans h7, by omega⟩
theorem ret_bi {a b : Bool} {v : Value} (h : a = b) : Ending.returned (.tuple #[.bool a, v]) = .returned (.tuple #[.bool b, v]) := by rw [h]
set_option maxHeartbeats 4000000 in
theorem Fits_any (r l h a1 a2 b1 b2 : Int) (w : World) (hl : Laid w) :
    Calls Tryd.prog 8 #[.agg #[.int .i64 r, .int .i64 l, .int .i64 h], .agg #[.int .i64 a1, .int .i64 a2], .agg #[.int .i64 b1, .int .i64 b2]] w fun e w' => e = .returned (.tuple #[.bool (fV r l h a1 a2 b1 b2), .int .i64 (fE r l h a1 a2 b1 b2)]) ∧ Below w.heap.size w w' := by
  by_cases ho : optE r l h = 0
  · have e1 : fE r l h a1 a2 b1 b2 = bothE a1 a2 b1 b2 := if_pos ho
    obtain ⟨hr1, hr2, hl1, hl2, hh1, hh2, hlh⟩ := opt_ok ho
    by_cases hn : bothE a1 a2 b1 b2 = 0
    · obtain ⟨k0, k1, k2, k3, k4, k5⟩ := both_ok hn
      have e2 : fV r l h a1 a2 b1 b2 = (rel r a1 a2 b1 b2 && (decide (l ≤ gp r a1 a2 b1 b2) && (decide (h = -1) || decide (gp r a1 a2 b1 b2 ≤ h)))) := by unfold fV; rw [e1, hn]; simp
      rw [e1, e2, hn]
      clear e1 e2 hlh
      by_cases g : rel r a1 a2 b1 b2 = true
      · rw [g, Bool.true_and]
        go_enter Tryd.func8, Tryd.ntmps8
        go_wp2_with fail
        refine (opt_any _ _ _ _).mono ?_
        rintro e w1 ⟨rfl, hb⟩
        have hb' : Below w.heap.size w w1 := below_on (below_on (below_on (below_new _ _) (below_new _ _)) (below_new _ _)) hb
        have h7 := three_boxes hb
        have c := h7
        obtain ⟨c1, c2, c3, c4, c5, c6, c7, c8⟩ := c
        clear hb
        go_wp2_with fail
        refine (checkBoth_any _ _ _ _ _).mono ?_
        rintro e w2 ⟨rfl, hb2⟩
        clear c1 c2 c3 c4 c5 c6 c7 c8
        have h8 := seven_on hb2 h7
        have hb3 := below_on hb' hb2
        have hl3 := hl.below hb3
        have c := h8
        obtain ⟨c1, c2, c3, c4, c5, c6, c7, c8⟩ := c
        clear hb2 h7 hb' hl
        go_wp2_with fail
        refine (holds_any _ _ _ _ _ _ hl3 hr1 hr2).mono ?_
        rintro e w3 ⟨rfl, hb2⟩
        clear c1 c2 c3 c4 c5 c6 c7 c8
        have h9 := seven_on hb2 h8
        have hb4 := below_on hb3 hb2
        have hl4 := hl3.below hb2
        have c := h9
        obtain ⟨c1, c2, c3, c4, c5, c6, c7, c8⟩ := c
        clear hb2 h8 hb3 hl3
        go_wp2_with fail
        refine (distance_any _ _ _ _ _ _ hl4 hr1 hr2 (by omega) (by omega) (by omega) (by omega) (by omega) (by omega) (by omega) (by omega)).mono ?_
        rintro e w4 ⟨rfl, hb2⟩
        clear c1 c2 c3 c4 c5 c6 c7 c8
        have h10 := seven_on hb2 h9
        have hb5 := below_on hb4 hb2
        obtain ⟨c1, c2, c3, c4, c5, c6, c7, c8⟩ := h10
        clear hb2 h9 hb4 hl4 c4 c5 c6 c7
        go_wp2
        all_goals
          go_ret2
          exact ⟨ret_bi (by first | (simp <;> omega) | (rw [Bool.eq_iff_iff]; simp <;> omega)), hb5⟩
      · have g' : rel r a1 a2 b1 b2 = false := by simpa using g
        rw [g', Bool.false_and]
        clear g
        go_enter Tryd.func8, Tryd.ntmps8
        go_wp2_with fail
        refine (opt_any _ _ _ _).mono ?_
        rintro e w1 ⟨rfl, hb⟩
        have hb' : Below w.heap.size w w1 := below_on (below_on (below_on (below_new _ _) (below_new _ _)) (below_new _ _)) hb
        have h7 := three_boxes hb
        have c := h7
        obtain ⟨c1, c2, c3, c4, c5, c6, c7, c8⟩ := c
        clear hb
        go_wp2_with fail
        refine (checkBoth_any _ _ _ _ _).mono ?_
        rintro e w2 ⟨rfl, hb2⟩
        clear c1 c2 c3 c4 c5 c6 c7 c8
        have h8 := seven_on hb2 h7
        have hb3 := below_on hb' hb2
        have hl3 := hl.below hb3
        have c := h8
        obtain ⟨c1, c2, c3, c4, c5, c6, c7, c8⟩ := c
        clear hb2 h7 hb' hl
        go_wp2_with fail
        refine (holds_any _ _ _ _ _ _ hl3 hr1 hr2).mono ?_
        rintro e w3 ⟨rfl, hb2⟩
        have hb4 := below_on hb3 hb2
        clear c1 c2 c3 c4 c5 c6 c7 c8
        go_wp2
        go_ret2
        exact ⟨rfl, hb4⟩
    · have e2 : fV r l h a1 a2 b1 b2 = false := by unfold fV; rw [e1]; simp [hn]
      rw [e1, e2]
      clear e1 e2 hlh
      have hne : (bothE a1 a2 b1 b2 != 0) = true := by simp [hn]
      go_enter Tryd.func8, Tryd.ntmps8
      go_wp2_with fail
      refine (opt_any _ _ _ _).mono ?_
      rintro e w1 ⟨rfl, hb⟩
      have hb' : Below w.heap.size w w1 := below_on (below_on (below_on (below_new _ _) (below_new _ _)) (below_new _ _)) hb
      obtain ⟨c1, c2, c3, c4, c5, c6, c7, c8⟩ := three_boxes hb
      clear hb
      go_wp2_with fail
      refine (checkBoth_any _ _ _ _ _).mono ?_
      rintro e w2 ⟨rfl, hb2⟩
      have hb3 := below_on hb' hb2
      clear c1 c2 c3 c4 c5 c6 c7 c8
      go_wp2
      go_ret2
      exact ⟨rfl, hb3⟩
  · have e1 : fE r l h a1 a2 b1 b2 = optE r l h := if_neg ho
    have e2 : fV r l h a1 a2 b1 b2 = false := by unfold fV; rw [e1]; simp [ho]
    rw [e1, e2]
    clear e1 e2
    have hne : (optE r l h != 0) = true := by simp [ho]
    go_enter Tryd.func8, Tryd.ntmps8
    go_wp2_with fail
    refine (opt_any _ _ _ _).mono ?_
    rintro e w1 ⟨rfl, hb⟩
    have hb' : Below w.heap.size w w1 := below_on (below_on (below_on (below_new _ _) (below_new _ _)) (below_new _ _)) hb
    clear hb
    go_wp2
    go_ret2
    exact ⟨rfl, hb'⟩
end Go.Proofs.YtgikaheojcpmpabDoor.T1
