/-
  The comparison of two timers, as the sort calls it.
-/
import Derived.Test.YtccddjfcceclnaaC
import Derived.Deep.RegionHeld3
import Derived.Sort.Grow
namespace Go.Proofs.Ytccddjfcceclnaa
open Go.ChangeShapes Go.WideShapes Go.ChangeAt Go.RowKit Go.Sort
set_option linter.unusedVariables false
set_option linter.unusedSimpArgs false
set_option maxHeartbeats 1000000 in
theorem closure_any (t u : Tm) (w : World) :
    Calls Try.prog 30 #[.agg #[.int .i64 t.i, .int .i64 t.a, .int .i64 t.o], .agg #[.int .i64 u.i, .int .i64 u.a, .int .i64 u.o]] w fun e w' => e = .returned (.int .i64 (cmpT t u)) ∧ ∃ q os', w' = grow (w.drewN q) os' := by
  unfold cmpT
  go_enter Try.func30, Try.ntmps30
  go_wp2_with fail
  obtain ⟨W, hW⟩ : ∃ W, W = (w.alloc (.cells #[.int .i64 t.i, .int .i64 t.a, .int .i64 t.o] 69)).alloc (.cells #[.int .i64 u.i, .int .i64 u.a, .int .i64 u.o] 69) := ⟨_, rfl⟩
  have c1 : W.cell? ⟨w.heap.size, 1, none⟩ = some (.int .i64 t.a) := by rw [hW]; go_simp
  have c2 : W.cell? ⟨w.heap.size, 2, none⟩ = some (.int .i64 t.o) := by rw [hW]; go_simp
  have c3 : W.cell? ⟨w.heap.size + 1, 1, none⟩ = some (.int .i64 u.a) := by rw [hW]; go_simp
  have c4 : W.cell? ⟨w.heap.size + 1, 2, none⟩ = some (.int .i64 u.o) := by rw [hW]; go_simp
  have hg : ∃ os, W = grow w os := ⟨_, by rw [hW, alloc_eq_grow, alloc_eq_grow, grow_grow]⟩
  rw [← hW]
  clear hW
  have e1 := World.new_ne W _ c1
  have e2 := World.new_ne W _ c2
  have e3 := World.new_ne W _ c3
  have e4 := World.new_ne W _ c4
  go_region_held3 (fun w' => w'.cell? ⟨w.heap.size, 1, none⟩ = some (.int .i64 t.a) ∧ w'.cell? ⟨w.heap.size, 2, none⟩ = some (.int .i64 t.o) ∧ w'.cell? ⟨w.heap.size + 1, 1, none⟩ = some (.int .i64 u.a) ∧ w'.cell? ⟨w.heap.size + 1, 2, none⟩ = some (.int .i64 u.o)) (go_keep)
    (first
      | (go_at_call 32; refine (compare_any _ _ _).mono ?_; rintro e w' ⟨rfl, rfl⟩)
      | (go_at_call 31; refine (or_any W.heap.size (cmpI t.a u.a) (cmpI t.o u.o) _ (by go_simp) (by go_simp)).mono ?_; rintro e w' ⟨rfl, rfl⟩))
  go_wp2
  go_ret
  obtain ⟨os, rfl⟩ := hg
  refine ⟨rfl, 1, os ++ #[.cells #[.int .i64 (cmpI t.a u.a), .int .i64 (cmpI t.o u.o)] 3], ?_⟩
  rw [alloc_eq_grow, grow_grow]
  rfl
end Go.Proofs.Ytccddjfcceclnaa
