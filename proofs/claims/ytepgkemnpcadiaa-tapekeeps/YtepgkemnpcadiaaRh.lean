/-
  Regions that draw their order, operation by operation.
-/
import Derived.Test.YtepgkemnpcadiaaRf
import Derived.Test.YtepgkemnpcadiaaWh
import Derived.Deep.RegionHeld3
import Derived.Deep.Cut
import Derived.Deep.CutBlock
namespace Go.Proofs.Ytepgkemnpcadiaa
open Go.ChangeShapes Go.WideShapes Go.ChangeAt Go.RowKit Go.Maps
set_option linter.unusedVariables false
set_option linter.unusedSimpArgs false
theorem want_mk {o : Oper} {y : _} {X E : Prop} (hg : o.guard = none) (h : X) : if Region.wanted o y = true then X else E := by
  rw [if_pos (by simp [Region.wanted, hg])]
  exact h
end Go.Proofs.Ytepgkemnpcadiaa
