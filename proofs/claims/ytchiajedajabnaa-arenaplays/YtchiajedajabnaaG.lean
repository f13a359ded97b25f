/-
  What one job answers, and what it leaves.
-/
import Derived.Test.YtchiajedajabnaaF
namespace Go.Proofs.Ytchiajedajabnaa
open Go.ChangeShapes Go.WideShapes Go.ChangeAt Go.RowKit Go.Maps
set_option linter.unusedVariables false
set_option linter.unusedSimpArgs false
set_option maxHeartbeats 4000000 in
theorem do_any (B ab : Nat) (V F : Value) (s : As) (x n p t : Int) (w : World) (k : Nat) (h : Am w B ab V F s) (hi : Ai s k) (hk : k ≤ 2000) :
    Calls Try.prog 13 #[.pointer (some ⟨ab, 0, none⟩), .agg #[.int .i64 x, .int .i64 n, .int .i64 p, .int .i64 t]] w fun e w' => e = .returned (q4V (step s (x, n, p, t)).1) ∧ After B ab (step s (x, n, p, t)).2 V F w w' := by
  obtain ⟨W, hW⟩ : ∃ W, W = (w.alloc (.cells #[.int .i64 x, .int .i64 n, .int .i64 p, .int .i64 t] 37)).alloc (.cells #[.int .i64 0, .int .i64 0, .int .i64 0, .int .i64 0] 39) := ⟨_, rfl⟩
  have hb1 := below_new' w (.cells #[.int .i64 x, .int .i64 n, .int .i64 p, .int .i64 t] 37)
  have hb2 := below_new' (w.alloc (.cells #[.int .i64 x, .int .i64 n, .int .i64 p, .int .i64 t] 37)) (.cells #[.int .i64 0, .int .i64 0, .int .i64 0, .int .i64 0] 39)
  have HA : Hid (Am W B ab V F s) := by show Am _ _ _ _ _ _; rw [hW]; exact (h.below hb1).below hb2
  have hR : Res W (w.heap.size + 1) (0, 0, 0, 0) := by
    have := res_new (w.alloc (.cells #[.int .i64 x, .int .i64 n, .int .i64 p, .int .i64 t] 37)) (0, 0, 0, 0)
    rw [show (w.alloc (.cells #[.int .i64 x, .int .i64 n, .int .i64 p, .int .i64 t] 37)).heap.size = w.heap.size + 1 by simp] at this
    rw [hW]; exact this
  have HR : Hid (Res W (w.heap.size + 1) (0, 0, 0, 0)) := hR
  have HW : Hid (Am w B ab V F s) := h
  have hB : Below w.heap.size w W := by rw [hW]; exact hb1.trans (hb2.mono (by simp))
  have HB : Hid (Below w.heap.size w W) := hB
  have HI : Hid (Ai s k) := hi
  have HK : Hid (k ≤ 2000) := hk
  have hs : w.heap.size + 1 < W.heap.size := hR.lt
  have HS : Hid (w.heap.size + 1 < W.heap.size) := hs
  have HNO : Hid (¬ Own ab V F (w.heap.size + 1)) := fun c => by have := After.lt (w' := w) HW.out c; omega
  have HP : Hid (s.ps.length ≤ 5000 ∧ s.fr.length ≤ 5000) := ⟨by have := hi.pl; omega, by have := hi.fl; omega⟩
  have b0 : W.cell? ⟨w.heap.size, 0, none⟩ = some (.int .i64 x) := by rw [hW]; go_simp
  have b1 : W.cell? ⟨w.heap.size, 1, none⟩ = some (.int .i64 n) := by rw [hW]; go_simp
  have b2 : W.cell? ⟨w.heap.size, 2, none⟩ = some (.int .i64 p) := by rw [hW]; go_simp
  have b3 : W.cell? ⟨w.heap.size, 3, none⟩ = some (.int .i64 t) := by rw [hW]; go_simp
  clear h hi hk hb1 hb2 hB hR
  unfold step
  dsimp only
  rcases (by omega : x = 1 ∨ x = 2 ∨ x = 3 ∨ x = 4 ∨ (x ≠ 1 ∧ x ≠ 2 ∧ x ≠ 3 ∧ x ≠ 4)) with rfl | rfl | rfl | rfl | ⟨k1, k2, k3, k4⟩
  · simp only [if_true]
    obtain ⟨q, S, hq⟩ : ∃ q S, ln s n = (q, S) := ⟨_, _, rfl⟩
    obtain ⟨q1, q2, q3, q4⟩ := q
    have HQ : Hid (ln s n = ((q1, q2, q3, q4), S)) := hq
    rw [hq]
    clear hq
    go_enter Try.func13, Try.ntmps13
    go_wp2_with fail
    rw [← hW]
    clear hW
    go_wp2_with fail
    refine (lend_any B ab V F s n _ k HA.out HI.out HK.out).mono ?_
    rw [HQ.out]
    unfold q4V
    rintro e w3 ⟨rfl, hA⟩
    have hR3 := HR.out.turn hA.choose_spec.choose_spec.2.1 HNO.out
    obtain ⟨r0, r1, r2, r3, rf⟩ := hR3.cells
    have HR3 : Hid (Res w3 (w.heap.size + 1) (0, 0, 0, 0)) := hR3
    have HA3 : Hid (After B ab S V F W w3) := hA
    clear hR3 hA
    go_wp2
    exact ret4 (b := w.heap.size + 1) (q := (q1, q2, q3, q4)) 4 Try.results13 (by rfl) (HR3.out.set (q1, q2, q3, q4)) (by rfl) ⟨rfl, HA3.out.far HB.out (Nat.le_succ _) HS.out HNO.out (set4_turn _ _ _ _ _ _)⟩
  · simp only [show ¬ ((2 : Int) = 1) by omega, if_true, if_false]
    obtain ⟨q, hq⟩ : ∃ q, lk s p t = q := ⟨_, rfl⟩
    obtain ⟨q1, q2, q3, q4⟩ := q
    have HQ : Hid (lk s p t = (q1, q2, q3, q4)) := hq
    rw [hq]
    clear hq
    go_enter Try.func13, Try.ntmps13
    go_wp2_with fail
    rw [← hW]
    clear hW
    go_wp2_with fail
    refine (look_any B ab V F s p t _ HA.out HP.out.1).mono ?_
    rw [HQ.out]
    unfold q4V
    rintro e w3 ⟨rfl, hA⟩
    have hR3 := HR.out.below hA
    obtain ⟨r0, r1, r2, r3, rf⟩ := hR3.cells
    have HR3 : Hid (Res w3 (w.heap.size + 1) (0, 0, 0, 0)) := hR3
    have HA3 : Hid (Below w.heap.size w w3) := HB.out.trans (hA.mono HB.out.size)
    clear hR3 hA
    go_wp2
    exact ret4 (b := w.heap.size + 1) (q := (q1, q2, q3, q4)) 4 Try.results13 (by rfl) (HR3.out.set (q1, q2, q3, q4)) (by rfl) ⟨rfl, After.same HW.out (set4_below HA3.out (Nat.le_succ _) _ _ _ _)⟩
  · simp only [show ¬ ((3 : Int) = 1) by omega, show ¬ ((3 : Int) = 2) by omega, if_true, if_false]
    obtain ⟨q, hq⟩ : ∃ q, lk s p t = q := ⟨_, rfl⟩
    obtain ⟨S, hS⟩ : ∃ S, bk s p t = S := ⟨_, rfl⟩
    obtain ⟨q1, q2, q3, q4⟩ := q
    have HQ : Hid (lk s p t = (q1, q2, q3, q4) ∧ bk s p t = S) := ⟨hq, hS⟩
    rw [hq, hS]
    clear hq hS
    go_enter Try.func13, Try.ntmps13
    go_wp2_with fail
    rw [← hW]
    clear hW
    go_wp2_with fail
    refine (back_any B ab V F s p t _ k HA.out HI.out HK.out).mono ?_
    rw [HQ.out.1, HQ.out.2]
    unfold q4V
    rintro e w3 ⟨rfl, hA⟩
    have hR3 := HR.out.turn hA.choose_spec.choose_spec.2.1 HNO.out
    obtain ⟨r0, r1, r2, r3, rf⟩ := hR3.cells
    have HR3 : Hid (Res w3 (w.heap.size + 1) (0, 0, 0, 0)) := hR3
    have HA3 : Hid (After B ab S V F W w3) := hA
    clear hR3 hA
    go_wp2
    exact ret4 (b := w.heap.size + 1) (q := (q1, q2, q3, q4)) 4 Try.results13 (by rfl) (HR3.out.set (q1, q2, q3, q4)) (by rfl) ⟨rfl, HA3.out.far HB.out (Nat.le_succ _) HS.out HNO.out (set4_turn _ _ _ _ _ _)⟩
  · simp only [show ¬ ((4 : Int) = 1) by omega, show ¬ ((4 : Int) = 2) by omega, show ¬ ((4 : Int) = 3) by omega, if_true, if_false]
    obtain ⟨L, hL⟩ : ∃ L, s.live = L := ⟨_, rfl⟩
    have HL : Hid (s.live = L) := hL
    rw [hL]
    clear hL
    go_enter Try.func13, Try.ntmps13
    go_wp2_with fail
    rw [← hW]
    clear hW
    go_wp2_with fail
    refine (live_any B ab V F s _ HA.out HP.out.1 HP.out.2).mono ?_
    rw [HL.out]
    rintro e w3 ⟨rfl, nd, hw3⟩
    have HR3 : Hid (Res w3 (w.heap.size + 1) (0, 0, 0, 0)) := by show Res _ _ _; rw [hw3]; exact HR.out
    have HA3 : Hid (Below w.heap.size w w3) := by show Below _ _ _; rw [hw3]; exact below_drewN HB.out _
    obtain ⟨r0, r1, r2, r3, rf⟩ := HR3.out.cells
    clear hw3
    go_wp2
    exact ret4 (b := w.heap.size + 1) (q := (0, L, 0, 0)) 4 Try.results13 (by rfl) (HR3.out.set (0, L, 0, 0)) (by rfl) ⟨rfl, After.same HW.out (set4_below HA3.out (Nat.le_succ _) _ _ _ _)⟩
  · simp only [k1, k2, k3, k4, if_false]
    have q1 : (x == 1) = false := by simpa using k1
    have q2 : (x == 2) = false := by simpa using k2
    have q3 : (x == 3) = false := by simpa using k3
    have q4 : (x == 4) = false := by simpa using k4
    have HR5 : Hid (Res ((w.alloc (.cells #[.int .i64 x, .int .i64 n, .int .i64 p, .int .i64 t] 37)).alloc (.cells #[.int .i64 3, .int .i64 0, .int .i64 0, .int .i64 0] 39)) (w.heap.size + 1) (3, 0, 0, 0)) := by
      have := res_new (w.alloc (.cells #[.int .i64 x, .int .i64 n, .int .i64 p, .int .i64 t] 37)) (3, 0, 0, 0)
      rw [show (w.alloc (.cells #[.int .i64 x, .int .i64 n, .int .i64 p, .int .i64 t] 37)).heap.size = w.heap.size + 1 by simp] at this
      exact this
    clear hW b0 b1 b2 b3
    go_enter Try.func13, Try.ntmps13
    go_wp2
    exact ret4 (b := w.heap.size + 1) (q := (3, 0, 0, 0)) 4 Try.results13 (by rfl) HR5.out (by rfl) ⟨rfl, After.same HW.out ((below_new' _ _).trans ((below_new' _ _).mono (by simp)))⟩
end Go.Proofs.Ytchiajedajabnaa
