/-
  An operation's bytes, by the document.
-/
import Derived.Test.YtepgkemnpcadiabWk
import Derived.Test.YtepgkemnpcadiabWi
namespace Go.Proofs.Ytepgkemnpcadiab
open Go.ChangeShapes Go.WideShapes Go.ChangeAt Go.RowKit Go.Maps
set_option linter.unusedVariables false
set_option linter.unusedSimpArgs false
set_option maxRecDepth 20000
end Go.Proofs.Ytepgkemnpcadiab
