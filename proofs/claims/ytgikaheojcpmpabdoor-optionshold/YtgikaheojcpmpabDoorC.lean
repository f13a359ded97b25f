/-
  What matrices may be, by the reference; rows that are the same.
-/
import Derived.Test.YtgikaheojcpmpabDoorB
namespace Go.Proofs.YtgikaheojcpmpabDoor
open Go.ChangeShapes Go.WideShapes Go.ChangeAt Go.RowKit Go.Maps
set_option linter.unusedVariables false
set_option linter.unusedSimpArgs false
set_option maxRecDepth 20000
end Go.Proofs.YtgikaheojcpmpabDoor
