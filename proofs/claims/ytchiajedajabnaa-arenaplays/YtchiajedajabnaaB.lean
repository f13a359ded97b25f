/-
  What live, check and look answer.
-/
import Derived.Test.YtchiajedajabnaaA
namespace Go.Proofs.Ytchiajedajabnaa
open Go.ChangeShapes Go.WideShapes Go.ChangeAt Go.RowKit Go.Maps
set_option linter.unusedVariables false
set_option linter.unusedSimpArgs false
set_option maxHeartbeats 4000000 in
theorem live_any (B ab : Nat) (V F : Value) (s : As) (w : World) (h : Am w B ab V F s) (hp : s.ps.length ≤ 5000) (hf : s.fr.length ≤ 5000) :
    Calls Try.prog 18 #[.pointer (some ⟨ab, 0, none⟩)] w fun e w' => e = .returned (.int .i64 s.live) ∧ ∃ n, w' = w.drewN n := by
  obtain ⟨p, cap, rfl, _⟩ := h.shapeV
  obtain ⟨q, caq, rfl, _⟩ := h.shapeF
  have c0 := h.c0
  have c1 := h.c1
  unfold As.live
  clear h
  generalize s.ps.length = m at *
  generalize s.fr.length = n at *
  go_enter Try.func18, Try.ntmps18
  go_wp2_with fail
  go_quiet (fail)
  go_wp2
  go_ret
  exact ⟨rfl, _, rfl⟩
set_option maxHeartbeats 4000000 in
theorem check_any (B ab : Nat) (V F : Value) (s : As) (p t : Int) (w : World) (h : Am w B ab V F s) (hp : s.ps.length ≤ 5000) :
    Calls Try.prog 20 #[.pointer (some ⟨ab, 0, none⟩), .agg #[.int .i64 p, .int .i64 t]] w fun e w' => e = .returned (.int .i64 (chk s p t)) ∧ Below w.heap.size w w' := by
  obtain ⟨pp, cap, rfl, hg⟩ := h.shapeV
  have c0 := (h.below (below_new' w (.cells #[.int .i64 p, .int .i64 t] 35))).c0
  unfold chk
  have hne : w.heap.size ≠ ab := by have := h.abB; have := h.BS; omega
  rcases (by omega : p < 0 ∨ (¬ p < 0 ∧ (s.ps.length : Int) ≤ p) ∨ (0 ≤ p ∧ p < (s.ps.length : Int))) with h1 | ⟨h1, h2⟩ | ⟨h1, h2⟩
  · simp only [h1, true_or, if_true]
    have d1 : decide (p < 0) = true := by simpa using h1
    generalize s.ps.length = m at *
    clear h hg
    go_enter Try.func20, Try.ntmps20
    go_wp2_with fail
    go_quiet (fail)
    go_wp2
    go_ret
    exact ⟨rfl, below_drewN (below_new' _ _) _⟩
  · simp only [h1, h2, or_true, if_true]
    have d1 : decide (p < 0) = false := by simpa using h1
    generalize s.ps.length = m at *
    have d2 : decide ((m : Int) ≤ p) = true := by simpa using h2
    clear h hg
    go_enter Try.func20, Try.ntmps20
    go_wp2_with fail
    go_quiet (fail)
    go_wp2
    go_ret
    exact ⟨rfl, below_drewN (below_new' _ _) _⟩
  · obtain ⟨j, rfl⟩ := Int.eq_ofNat_of_zero_le h1
    obtain ⟨g, rfl⟩ := hg (by omega)
    obtain ⟨k0, k1, _⟩ := (h.below (below_new' w (.cells #[.int .i64 (j : Int), .int .i64 t] 35))).place (j := j) (by omega)
    have hn1 : ¬ ((j : Int) < 0 ∨ (s.ps.length : Int) ≤ (j : Int)) := by omega
    simp only [hn1, if_false, Int.toNat_natCast]
    have d1 : decide ((j : Int) < 0) = false := decide_eq_false (by omega)
    have d2 : decide ((s.ps.length : Int) ≤ (j : Int)) = false := decide_eq_false (by omega)
    have i1 : (0 : Int) ≤ (j : Int) := by omega
    have i2 : (j : Int) < (s.ps.length : Int) := h2
    have hgw : g < w.heap.size := by have := (h.rp.lt g rfl).2; exact this
    have hne2 : w.heap.size ≠ g := by omega
    clear h hg hn1 h1 h2
    rcases (by omega : t < 1 ∨ (¬ t < 1 ∧ s.turn j < t) ∨ (¬ t < 1 ∧ ¬ s.turn j < t ∧ t < s.turn j) ∨ (¬ t < 1 ∧ ¬ s.turn j < t ∧ ¬ t < s.turn j ∧ s.num j = 0) ∨ (¬ t < 1 ∧ ¬ s.turn j < t ∧ ¬ t < s.turn j ∧ ¬ s.num j = 0)) with h3 | ⟨h3, h4⟩ | ⟨h3, h4, h5⟩ | ⟨h3, h4, h5, h6⟩ | ⟨h3, h4, h5, h6⟩
    · simp only [h3, true_or, if_true]
      generalize s.num j = n at *
      generalize s.turn j = u at *
      generalize s.ps.length = m at *
      go_enter Try.func20, Try.ntmps20
      go_wp2_with fail
      go_quiet (fail)
      go_wp2_with fail
      go_region_held3 (fun w' => w'.cell? ⟨ab, 0, none⟩ = some (.slice (some ⟨g, 0, none⟩) m cap) ∧ w'.cell? ⟨w.heap.size, 0, none⟩ = some (.int .i64 (j : Int)) ∧ w'.cell? ⟨g, j * 2, none⟩ = some (.int .i64 n) ∧ w'.cell? ⟨g, j * 2 + 1, none⟩ = some (.int .i64 u)) (go_keep) (fail)
      all_goals
        go_wp2
        go_ret
        exact ⟨rfl, by go_grown; exact below_drewN (below_new' _ _) _⟩
    · simp only [h3, h4, or_true, if_true]
      generalize s.num j = n at *
      generalize s.turn j = u at *
      generalize s.ps.length = m at *
      go_enter Try.func20, Try.ntmps20
      go_wp2_with fail
      go_quiet (fail)
      go_wp2_with fail
      go_region_held3 (fun w' => w'.cell? ⟨ab, 0, none⟩ = some (.slice (some ⟨g, 0, none⟩) m cap) ∧ w'.cell? ⟨w.heap.size, 0, none⟩ = some (.int .i64 (j : Int)) ∧ w'.cell? ⟨g, j * 2, none⟩ = some (.int .i64 n) ∧ w'.cell? ⟨g, j * 2 + 1, none⟩ = some (.int .i64 u)) (go_keep) (fail)
      all_goals
        go_wp2
        go_ret
        exact ⟨rfl, by go_grown; exact below_drewN (below_new' _ _) _⟩
    · simp only [h3, h4, h5, or_self, true_or, if_true, if_false]
      generalize s.num j = n at *
      generalize s.turn j = u at *
      generalize s.ps.length = m at *
      go_enter Try.func20, Try.ntmps20
      go_wp2_with fail
      go_quiet (fail)
      go_wp2_with fail
      go_region_held3 (fun w' => w'.cell? ⟨ab, 0, none⟩ = some (.slice (some ⟨g, 0, none⟩) m cap) ∧ w'.cell? ⟨w.heap.size, 0, none⟩ = some (.int .i64 (j : Int)) ∧ w'.cell? ⟨g, j * 2, none⟩ = some (.int .i64 n) ∧ w'.cell? ⟨g, j * 2 + 1, none⟩ = some (.int .i64 u)) (go_keep) (fail)
      all_goals
        go_wp2
        go_ret
        exact ⟨rfl, by go_grown; exact below_drewN (below_new' _ _) _⟩
    · simp only [h3, h4, h5, h6, or_self, or_true, if_true, if_false]
      generalize s.num j = n at *
      generalize s.turn j = u at *
      generalize s.ps.length = m at *
      go_enter Try.func20, Try.ntmps20
      go_wp2_with fail
      go_quiet (fail)
      go_wp2_with fail
      go_region_held3 (fun w' => w'.cell? ⟨ab, 0, none⟩ = some (.slice (some ⟨g, 0, none⟩) m cap) ∧ w'.cell? ⟨w.heap.size, 0, none⟩ = some (.int .i64 (j : Int)) ∧ w'.cell? ⟨g, j * 2, none⟩ = some (.int .i64 n) ∧ w'.cell? ⟨g, j * 2 + 1, none⟩ = some (.int .i64 u)) (go_keep) (fail)
      all_goals
        go_wp2
        go_ret
        exact ⟨rfl, by go_grown; exact below_drewN (below_new' _ _) _⟩
    · simp only [h3, h4, h5, h6, or_self, if_true, if_false]
      generalize s.num j = n at *
      generalize s.turn j = u at *
      generalize s.ps.length = m at *
      have h7 : (n == 0) = false := by simpa using h6
      go_enter Try.func20, Try.ntmps20
      go_wp2_with fail
      go_quiet (fail)
      go_wp2_with fail
      go_region_held3 (fun w' => w'.cell? ⟨ab, 0, none⟩ = some (.slice (some ⟨g, 0, none⟩) m cap) ∧ w'.cell? ⟨w.heap.size, 0, none⟩ = some (.int .i64 (j : Int)) ∧ w'.cell? ⟨g, j * 2, none⟩ = some (.int .i64 n) ∧ w'.cell? ⟨g, j * 2 + 1, none⟩ = some (.int .i64 u)) (go_keep) (fail)
      all_goals
        go_wp2
        go_ret
        exact ⟨rfl, by go_grown; exact below_drewN (below_new' _ _) _⟩
end Go.Proofs.Ytchiajedajabnaa
