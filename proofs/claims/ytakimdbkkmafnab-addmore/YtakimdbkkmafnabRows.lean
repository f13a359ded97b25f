/-
  No cell of these rows narrows 'for every input' (looked for: loops, veiled, ifaces, maps, wideKeys, modest, calm, conditions, laid).
  DERIVED. THE GIVEN ROWS OF THIS SEAT. 3 by the template 'for every input the law returns true; each argument reads behind the call as it read before'; 0 by the template 'total and deterministic' (their statements: YtakimdbkkmafnabTotals.lean).
  GIVEN WITH THE SEED: the statements are not yours to turn. If you find one false, say at which input.
  Laid BY PROGRAM, IN A SANDBOX (cutbox-rows.mjs): the forced cells as the released guide's own fill.sh prints them over the translation 07220b8413e07c23… (all of the seat's roots in one cut). By AI agents, Wed Nov 11 2026. No macro, syntax, notation, axiom, sorry.
-/
import Derived.Test.YtakimdbkkmafnabChecked
import GoSem.Claim
import GoSem.ClaimJoined
import GoSem.ClaimMapViews
import Derived.JoinedTies
import Derived.KernelRfl
namespace Go.Proofs.Ytakimdbkkmafnab
/- THE CELL 'sum', in the pinned program and in every row, IS THE sha256 OF THE DUMP (.gsa) THAT YtakimdbkkmafnabProg.lean LOADS. Nothing in Lean hashes anything: it is a label: what it is worth is what the hold of that sum in a sandbox is worth. -/
noncomputable def Try.pinned : Pinned := { name := "ytakimdbkkmafnab", sum := "07220b8413e07c23991e09b85653519d4dd377beb33bef7fd671daafa6a0a5f4", checked := Try.checked }
namespace Rows
def none {H : Type} : Left H := { results := [], args := [] }

/-- 'dotterellaw.TickOptions': WHATEVER THE INPUT: true; the input reads as it did. -/
def tickOptionsSpec : ChangeSpec := { name := "tickOptions", fn := fun _ => fun
  | [d] => { results := [.lit (.bool true)], args := [d] }
  | _ => none }
def tickOptionsRow : OpenClaim := { program := "ytakimdbkkmafnab", sum := "07220b8413e07c23991e09b85653519d4dd377beb33bef7fd671daafa6a0a5f4", func := "dotterel/dotterellaw.TickOptions", spec := "tickOptions", apart := false }
def TickOptionsSaid : Prop := tickOptionsRow.holds Try.pinned (OpenSpec.ofChange tickOptionsSpec)

/-- ITS FALSE NEIGHBOUR: 'it returns false'. Refute it at one input. -/
def tickOptionsWrong : ChangeSpec := { name := "tickOptions", fn := fun _ => fun
  | [d] => { results := [.lit (.bool false)], args := [d] }
  | _ => none }
def TickOptionsWrongFalsely : Prop := tickOptionsRow.holds Try.pinned (OpenSpec.ofChange tickOptionsWrong)

/-- 'dotterelkeep.AddMore': WHATEVER THE INPUT: true; the input reads as it did. -/
def addMoreSpec : ChangeSpec := { name := "addMore", fn := fun _ => fun
  | [d1, d2, d3] => { results := [.lit (.bool true)], args := [d1, d2, d3] }
  | _ => none }
def addMoreRow : OpenClaim := { program := "ytakimdbkkmafnab", sum := "07220b8413e07c23991e09b85653519d4dd377beb33bef7fd671daafa6a0a5f4", func := "dotterel/dotterelkeep.AddMore", spec := "addMore", apart := false }
def AddMoreSaid : Prop := addMoreRow.holds Try.pinned (OpenSpec.ofChange addMoreSpec)

/-- ITS FALSE NEIGHBOUR: 'it returns false'. Refute it at one input. -/
def addMoreWrong : ChangeSpec := { name := "addMore", fn := fun _ => fun
  | [d1, d2, d3] => { results := [.lit (.bool false)], args := [d1, d2, d3] }
  | _ => none }
def AddMoreWrongFalsely : Prop := addMoreRow.holds Try.pinned (OpenSpec.ofChange addMoreWrong)

/-- 'dotterelkeep.SpanBad': WHATEVER THE INPUT: true; the input reads as it did. -/
def spanBadSpec : ChangeSpec := { name := "spanBad", fn := fun _ => fun
  | [d1, d2] => { results := [.lit (.bool true)], args := [d1, d2] }
  | _ => none }
def spanBadRow : OpenClaim := { program := "ytakimdbkkmafnab", sum := "07220b8413e07c23991e09b85653519d4dd377beb33bef7fd671daafa6a0a5f4", func := "dotterel/dotterelkeep.SpanBad", spec := "spanBad", apart := false }
def SpanBadSaid : Prop := spanBadRow.holds Try.pinned (OpenSpec.ofChange spanBadSpec)

/-- ITS FALSE NEIGHBOUR: 'it returns false'. Refute it at one input. -/
def spanBadWrong : ChangeSpec := { name := "spanBad", fn := fun _ => fun
  | [d1, d2] => { results := [.lit (.bool false)], args := [d1, d2] }
  | _ => none }
def SpanBadWrongFalsely : Prop := spanBadRow.holds Try.pinned (OpenSpec.ofChange spanBadWrong)

/- THE SECOND FORM. 'bulk': how many values and letters a reading holds, each counted each time it is reached (what is shared counts as often as it is met; a slice's spare places count too). A statement '..UptoSaid' is the law's where the arguments, and the package variables that the reading takes, are together of bulk at most 1048576: NARROWER than '..Said'. Prove '..Said' where nothing that the law and all that it calls make is longer than what came in: it says more and counts as full. Else prove '..UptoSaid'. A law counts once. -/
mutual
def uptoBulk {H : Type} : DataW H → Nat
  | .lit (.string bytes) => bytes.length + 1
  | .lit _ => 1
  | .nil => 1
  | .ptr d => uptoBulk d + 1
  | .slice elems spare => uptoBulkAll elems + uptoBulkAll spare + 1
  | .agg parts => uptoBulkAll parts + 1
  | .iface _ d => uptoBulk d + 1
  | .map entries => uptoBulkEntries entries + 1
  | .held _ => 1
def uptoBulkAll {H : Type} : List (DataW H) → Nat
  | [] => 0
  | d :: r => uptoBulk d + uptoBulkAll r
def uptoBulkEntries {H : Type} : List (Lit × DataW H) → Nat
  | [] => 0
  | x :: r => uptoBulkEntry x + uptoBulkEntries r
def uptoBulkEntry {H : Type} : Lit × DataW H → Nat
  | (.string bytes, d) => bytes.length + uptoBulk d + 1
  | (_, d) => uptoBulk d + 1
 end
def uptoSmall : (H : Type) → List (DataW H) → Bool := fun _ ds => decide (uptoBulkAll ds ≤ 1048576)
def OpenSpec.upto (s : _root_.Go.ChangeSpec) : _root_.Go.OpenSpec := { _root_.Go.OpenSpec.ofChange s with cond := some uptoSmall }

/-- 'dotterellaw.TickOptions', WHERE WHAT IT READS IS OF BULK AT MOST 1048576: true; the input reads as it did. -/
def tickOptionsUptoRow : OpenClaim := { program := "ytakimdbkkmafnab", sum := "07220b8413e07c23991e09b85653519d4dd377beb33bef7fd671daafa6a0a5f4", func := "dotterel/dotterellaw.TickOptions", spec := "tickOptions", apart := false, narrowed := true }
def TickOptionsUptoSaid : Prop := tickOptionsUptoRow.holds Try.pinned (OpenSpec.upto tickOptionsSpec)

/-- 'dotterelkeep.AddMore', WHERE WHAT IT READS IS OF BULK AT MOST 1048576: true; the input reads as it did. -/
def addMoreUptoRow : OpenClaim := { program := "ytakimdbkkmafnab", sum := "07220b8413e07c23991e09b85653519d4dd377beb33bef7fd671daafa6a0a5f4", func := "dotterel/dotterelkeep.AddMore", spec := "addMore", apart := false, narrowed := true }
def AddMoreUptoSaid : Prop := addMoreUptoRow.holds Try.pinned (OpenSpec.upto addMoreSpec)

/-- 'dotterelkeep.SpanBad', WHERE WHAT IT READS IS OF BULK AT MOST 1048576: true; the input reads as it did. -/
def spanBadUptoRow : OpenClaim := { program := "ytakimdbkkmafnab", sum := "07220b8413e07c23991e09b85653519d4dd377beb33bef7fd671daafa6a0a5f4", func := "dotterel/dotterelkeep.SpanBad", spec := "spanBad", apart := false, narrowed := true }
def SpanBadUptoSaid : Prop := spanBadUptoRow.holds Try.pinned (OpenSpec.upto spanBadSpec)

end Rows
end Go.Proofs.Ytakimdbkkmafnab
