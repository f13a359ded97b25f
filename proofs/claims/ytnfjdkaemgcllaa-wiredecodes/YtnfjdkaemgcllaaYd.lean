/-
  OperationOf, by the document.
-/
import Derived.Test.YtnfjdkaemgcllaaYd1
import Derived.Test.YtnfjdkaemgcllaaYd2
import Derived.Test.YtnfjdkaemgcllaaYd3
import Derived.Test.YtnfjdkaemgcllaaYd4
namespace Go.Proofs.Ytnfjdkaemgcllaa
open Go.ChangeShapes Go.WideShapes Go.ChangeAt Go.RowKit Go.Maps
theorem opOf_any (L : List UInt8) (v : Value) (w : World) (hv : BA w v L) :
    Calls Try.prog 15 #[v] w fun e w' => ∃ u, e = .returned (.tuple #[opv (dcR L).1 u, .int .i64 (dcR L).2]) ∧ VO w' w.heap.size u (dcR L).1.l ∧ Below w.heap.size w w' := by
  by_cases h1 : smV ⟨L, 0⟩ = 1
  · exact opOf_1 L v w hv h1
  · by_cases h2 : smV ⟨L, 0⟩ = 2
    · exact opOf_2 L v w hv h2
    · by_cases h3 : smV ⟨L, 0⟩ = 3
      · exact opOf_3 L v w hv h3
      · exact opOf_4 L v w hv h1 h2 h3
end Go.Proofs.Ytnfjdkaemgcllaa
