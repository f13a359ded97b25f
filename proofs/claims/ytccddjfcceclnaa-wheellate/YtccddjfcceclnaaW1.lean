/-
  The walk of the law WheelLate.
-/
import Derived.Test.YtccddjfcceclnaaKb
namespace Go.Proofs.Ytccddjfcceclnaa
open Go.ChangeShapes Go.WideShapes Go.ChangeAt Go.RowKit
set_option linter.unusedVariables false
set_option linter.unusedSimpArgs false
set_option maxHeartbeats 4000000 in
theorem wheelLate_walk (a b : Int) (w : World) (ha : wfI a) (hb : wfI b) : Calls Try.prog 7 #[.int .i64 a, .int .i64 b] w fun e w' => e = .returned (.bool true) ∧ Below w.heap.size w w' := by
  have HA : Hid (wfI a) := ha
  have HB : Hid (wfI b) := hb
  clear ha hb
  go_enter Try.func7, Try.ntmps7
  go_wp2_with fail
  refine (picked_nat a _ 549755813888 rfl _ HA.out (by omega) (by omega)).mono ?_
  rintro e w ⟨x, hx, hx2, rfl, rfl⟩
  clear hx
  go_wp2_with fail
  refine (picked_nat b _ (1 + x) (by omega) _ HB.out (by omega) (by omega)).mono ?_
  rintro e w ⟨k, hk, hk2, rfl, rfl⟩
  clear hk
  go_wp2_with fail
  refine (play_int _ (1 + x) (by omega) _ [(1, 1, (k : Int)), (1, 1, 1 + (x : Int)), (3, 0, (k : Int)), (1, 0, 1 + (x : Int) + 1), (4, 0, 0)] _ (deeds_new _ [.int .i64 1, .int .i64 1, .int .i64 k, .int .i64 1, .int .i64 1, .int .i64 (1 + x), .int .i64 3, .int .i64 0, .int .i64 k, .int .i64 1, .int .i64 0, .int .i64 (1 + x + 1), .int .i64 4, .int .i64 0, .int .i64 0] _ rfl ?_ 5 rfl) ?_ (by omega) (by simp)).mono ?_
  · intro j hj
    rcases (by simp at hj; omega : j = 0 ∨ j = 1 ∨ j = 2 ∨ j = 3 ∨ j = 4) with rfl | rfl | rfl | rfl | rfl <;> exact ⟨rfl, rfl, rfl⟩
  · intro d hd
    simp at hd
    unfold wfI
    rcases hd with rfl | rfl | rfl | rfl | rfl <;> dsimp only <;> omega
  have hcd : codes ⟨1 + x, 0, []⟩ [(1, 1, (k : Int)), (1, 1, 1 + (x : Int)), (3, 0, (k : Int)), (1, 0, 1 + (x : Int) + 1), (4, 0, 0)] = [12, 12, 12, 2, 3] := by
    have h1 : (k : Int) ≤ 1 + (x : Int) := by omega
    have h2 : (k : Int) < 1 + (x : Int) := by omega
    simp [codes, play, step, h1, h2]
  rw [hcd]
  rintro e w2 ⟨tv, dv, rfl, hT, hD, hB⟩
  obtain ⟨b, cap, rfl, hbs, hc⟩ := hT.form (by simp)
  have c0 := hc 0 12 rfl
  have c1 := hc 1 12 rfl
  have c2 := hc 2 12 rfl
  have c3 := hc 3 2 rfl
  have c4 := hc 4 3 rfl
  have HBB : Hid (Below w.heap.size w w2) := (below_new' w _).trans (hB.mono (by simp))
  clear hT hD hB hc hcd
  go_wp2
  go_ret
  exact ⟨rfl, HBB.out⟩
end Go.Proofs.Ytccddjfcceclnaa
