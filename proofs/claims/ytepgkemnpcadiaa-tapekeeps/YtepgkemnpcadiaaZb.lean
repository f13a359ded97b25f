/-
  What is torn is no operation: WireTorn, by the contract of big.
-/
import Derived.Test.YtepgkemnpcadiaaXe
import Derived.Test.YtepgkemnpcadiaaXb
import Derived.Test.YtepgkemnpcadiaaZp
namespace Go.Proofs.Ytepgkemnpcadiaa
open Go.ChangeShapes Go.WideShapes Go.ChangeAt Go.RowKit Go.Maps
set_option linter.unusedVariables false
set_option linter.unusedSimpArgs false
set_option maxRecDepth 20000
abbrev ddV (kd ty lo nn de : Int) (tx : ByteArray) (co : Bool) : Value := .agg #[.int .i64 kd, .int .i64 ty, .int .i64 lo, .int .i64 nn, .int .i64 de, .string tx, .bool co]
theorem obt_pos {o : Opn} : 0 < (obt o).length := by unfold obt; simp
end Go.Proofs.Ytepgkemnpcadiaa
