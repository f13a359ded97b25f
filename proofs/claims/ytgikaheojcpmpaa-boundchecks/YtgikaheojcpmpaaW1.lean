/-
  BoundChecks: the walk.
-/
import Derived.Test.YtgikaheojcpmpaaC
import Derived.Test.YtgikaheojcpmpaaE
namespace Go.Proofs.Ytgikaheojcpmpaa
open Go.ChangeShapes Go.WideShapes Go.ChangeAt Go.RowKit Go.Maps
set_option linter.unusedVariables false
set_option linter.unusedSimpArgs false
set_option maxRecDepth 20000
set_option maxHeartbeats 4000000 in
theorem boundChecks_walk (v : Value) (n : Nat) (L : Nat → Nat) (Z : Nat → Nat → Int) (w : World) (h : MatAt w v n L Z) (hfit : Fit n L) :
    Calls Try.prog 3 #[v] w fun e w' => e = .returned (.bool true) ∧ Below w.heap.size w w' := by
  have HM : Hid (MatAt w v n L Z) := h
  have HF : Hid (Fit n L) := hfit
  obtain ⟨c, hc⟩ : ∃ c, chk n L Z = c := ⟨_, rfl⟩
  have HC : Hid (chk n L Z = c) := hc
  clear h hfit hc
  go_enter Try.func3, Try.ntmps3
  go_wp2_with fail
  refine (matrixCopy_any v n L Z _ HM.out HF.out).mono ?_
  rintro e w1 ⟨⟨V, rfl, hN⟩, hB1⟩
  have HB1 := hid hB1
  have HN := hid hN
  clear hB1 hN
  go_wp2_with fail
  refine (check_any V n L Z _ HN.out.mat).mono ?_
  rw [HC.out]
  rintro e w2 ⟨rfl, hB2⟩
  have HB2 := hid (below_then HB1.out hB2 (Nat.le_refl _))
  clear hB2
  go_wp2_with fail
  refine (matrixFault_any v n L Z _ (HM.out.later HB2.out)).mono ?_
  rw [HC.out]
  rintro e w3 ⟨rfl, hB3⟩
  have HB3 := hid (below_then HB2.out hB3 (Nat.le_refl _))
  clear hB3
  go_wp2_with fail
  go_ret
  exact ⟨by simp, HB3.out⟩
end Go.Proofs.Ytgikaheojcpmpaa
