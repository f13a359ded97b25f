/-
  Two matrices joined, bound by bound.
-/
import Derived.Test.YtgikaheojcpmpaaDoorG
namespace Go.Proofs.YtgikaheojcpmpaaDoor
open Go.ChangeShapes Go.WideShapes Go.ChangeAt Go.RowKit Go.Maps
set_option linter.unusedVariables false
set_option linter.unusedSimpArgs false
set_option maxRecDepth 20000
end Go.Proofs.YtgikaheojcpmpaaDoor
