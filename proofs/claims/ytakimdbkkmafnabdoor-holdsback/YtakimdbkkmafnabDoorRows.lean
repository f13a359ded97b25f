/-
  NARROWER THAN 'FOR EVERY INPUT', by the rows' own cells (each row's printed sentence says how): TickFits: laid · InverseTwice: laid · HoldsBack: laid.
  DERIVED. THE GIVEN ROWS OF THIS SEAT. 3 by the template 'for every input the law returns true; each argument reads behind the call as it read before'; 0 by the template 'total and deterministic' (their statements: YtakimdbkkmafnabDoorTotals.lean).
  GIVEN WITH THE SEED: the statements are not yours to turn. If you find one false, say at which input.
  Laid BY PROGRAM, IN A SANDBOX (cutbox-rows.mjs): the forced cells as the released guide's own fill.sh prints them over the translation d1fa8250b0f38ed0… (all of the seat's roots in one cut). By AI agents, Wed Nov 11 2026. No macro, syntax, notation, axiom, sorry.
-/
import Derived.Test.YtakimdbkkmafnabDoorChecked
import GoSem.Claim
import GoSem.ClaimJoined
import GoSem.ClaimMapViews
import Derived.JoinedTies
import Derived.KernelRfl
namespace Go.Proofs.YtakimdbkkmafnabDoor
/- THE CELL 'sum', in the pinned program and in every row, IS THE sha256 OF THE DUMP (.gsa) THAT YtakimdbkkmafnabDoorProg.lean LOADS. Nothing in Lean hashes anything: it is a label: what it is worth is what the hold of that sum in a sandbox is worth. -/
noncomputable def Tryd.pinned : Pinned := { name := "ytakimdbkkmafnabdoor", sum := "d1fa8250b0f38ed098f7c187600bb9070553f1a9a9e5055d25e50731b52fe87a", checked := Tryd.checked }
namespace Rows
def none {H : Type} : Left H := { results := [], args := [] }

/- WHAT THE LISTED PACKAGE-LEVEL VARIABLES READ AS WHEN THE CALL BEGINS. Each datum BY PROGRAM (the guide's laid-datum.mjs) off the statement by which the dump's own 'gosem.cut.vars' lays the variable. In a bare row this is a premise. The card (YtakimdbkkmafnabDoorCards.lean) ties it to the program's text. -/
def laid_dotterel_tick_inverses {H : Type} : DataW H := .agg [.lit (.int .i64 0), .lit (.int .i64 2), .lit (.int .i64 1), .lit (.int .i64 4), .lit (.int .i64 3), .lit (.int .i64 6), .lit (.int .i64 5), .lit (.int .i64 8), .lit (.int .i64 7), .lit (.int .i64 10), .lit (.int .i64 9), .lit (.int .i64 12), .lit (.int .i64 11), .lit (.int .i64 13)]

/-- 'dotterellaw.TickFits': WHATEVER THE INPUT: true; the input reads as it did. -/
def tickFitsSpec : ChangeSpec := { name := "tickFits", fn := fun _ => fun
  | [d1, d2, d3] => { results := [.lit (.bool true)], args := [d1, d2, d3] }
  | _ => none }
def tickFitsRow : OpenClaim := { program := "ytakimdbkkmafnabdoor", sum := "d1fa8250b0f38ed098f7c187600bb9070553f1a9a9e5055d25e50731b52fe87a", func := "dotterel/dotterellaw.TickFits", spec := "tickFits", named := ["dotterel/tick.inverses"], apart := false, laid := [("dotterel/tick.inverses", laid_dotterel_tick_inverses)] }
def TickFitsSaid : Prop := tickFitsRow.holds Tryd.pinned (OpenSpec.ofChange tickFitsSpec)

/-- ITS FALSE NEIGHBOUR: 'it returns false'. Refute it at one input. -/
def tickFitsWrong : ChangeSpec := { name := "tickFits", fn := fun _ => fun
  | [d1, d2, d3] => { results := [.lit (.bool false)], args := [d1, d2, d3] }
  | _ => none }
def TickFitsWrongFalsely : Prop := tickFitsRow.holds Tryd.pinned (OpenSpec.ofChange tickFitsWrong)

/-- 'dotterelkeep.InverseTwice': WHATEVER THE INPUT: true; the input reads as it did. -/
def inverseTwiceSpec : ChangeSpec := { name := "inverseTwice", fn := fun _ => fun
  | [d] => { results := [.lit (.bool true)], args := [d] }
  | _ => none }
def inverseTwiceRow : OpenClaim := { program := "ytakimdbkkmafnabdoor", sum := "d1fa8250b0f38ed098f7c187600bb9070553f1a9a9e5055d25e50731b52fe87a", func := "dotterel/dotterelkeep.InverseTwice", spec := "inverseTwice", named := ["dotterel/tick.inverses"], apart := false, laid := [("dotterel/tick.inverses", laid_dotterel_tick_inverses)] }
def InverseTwiceSaid : Prop := inverseTwiceRow.holds Tryd.pinned (OpenSpec.ofChange inverseTwiceSpec)

/-- ITS FALSE NEIGHBOUR: 'it returns false'. Refute it at one input. -/
def inverseTwiceWrong : ChangeSpec := { name := "inverseTwice", fn := fun _ => fun
  | [d] => { results := [.lit (.bool false)], args := [d] }
  | _ => none }
def InverseTwiceWrongFalsely : Prop := inverseTwiceRow.holds Tryd.pinned (OpenSpec.ofChange inverseTwiceWrong)

/-- 'dotterelkeep.HoldsBack': WHATEVER THE INPUT: true; the input reads as it did. -/
def holdsBackSpec : ChangeSpec := { name := "holdsBack", fn := fun _ => fun
  | [d1, d2, d3, d4, d5] => { results := [.lit (.bool true)], args := [d1, d2, d3, d4, d5] }
  | _ => none }
def holdsBackRow : OpenClaim := { program := "ytakimdbkkmafnabdoor", sum := "d1fa8250b0f38ed098f7c187600bb9070553f1a9a9e5055d25e50731b52fe87a", func := "dotterel/dotterelkeep.HoldsBack", spec := "holdsBack", named := ["dotterel/tick.inverses"], apart := false, laid := [("dotterel/tick.inverses", laid_dotterel_tick_inverses)] }
def HoldsBackSaid : Prop := holdsBackRow.holds Tryd.pinned (OpenSpec.ofChange holdsBackSpec)

/-- ITS FALSE NEIGHBOUR: 'it returns false'. Refute it at one input. -/
def holdsBackWrong : ChangeSpec := { name := "holdsBack", fn := fun _ => fun
  | [d1, d2, d3, d4, d5] => { results := [.lit (.bool false)], args := [d1, d2, d3, d4, d5] }
  | _ => none }
def HoldsBackWrongFalsely : Prop := holdsBackRow.holds Tryd.pinned (OpenSpec.ofChange holdsBackWrong)

/- THE SECOND FORM. 'bulk': how many values and letters a reading holds, each counted each time it is reached (what is shared counts as often as it is met; a slice's spare places count too). A statement '..UptoSaid' is the law's where the arguments, and the package variables that the reading takes, are together of bulk at most 1048576: NARROWER than '..Said'. Prove '..Said' where nothing that the law and all that it calls make is longer than what came in: it says more and counts as full. Else prove '..UptoSaid'. A law counts once. -/
mutual
def uptoBulk {H : Type} : DataW H → Nat
  | .lit (.string bytes) => bytes.length + 1
  | .lit _ => 1
  | .nil => 1
  | .ptr d => uptoBulk d + 1
  | .slice elems spare => uptoBulkAll elems + uptoBulkAll spare + 1
  | .agg parts => uptoBulkAll parts + 1
  | .iface _ d => uptoBulk d + 1
  | .map entries => uptoBulkEntries entries + 1
  | .held _ => 1
def uptoBulkAll {H : Type} : List (DataW H) → Nat
  | [] => 0
  | d :: r => uptoBulk d + uptoBulkAll r
def uptoBulkEntries {H : Type} : List (Lit × DataW H) → Nat
  | [] => 0
  | x :: r => uptoBulkEntry x + uptoBulkEntries r
def uptoBulkEntry {H : Type} : Lit × DataW H → Nat
  | (.string bytes, d) => bytes.length + uptoBulk d + 1
  | (_, d) => uptoBulk d + 1
 end
def uptoSmall : (H : Type) → List (DataW H) → Bool := fun _ ds => decide (uptoBulkAll ds ≤ 1048576)
def OpenSpec.upto (s : _root_.Go.ChangeSpec) : _root_.Go.OpenSpec := { _root_.Go.OpenSpec.ofChange s with cond := some uptoSmall }

/-- 'dotterellaw.TickFits', WHERE WHAT IT READS IS OF BULK AT MOST 1048576: true; the input reads as it did. -/
def tickFitsUptoRow : OpenClaim := { program := "ytakimdbkkmafnabdoor", sum := "d1fa8250b0f38ed098f7c187600bb9070553f1a9a9e5055d25e50731b52fe87a", func := "dotterel/dotterellaw.TickFits", spec := "tickFits", named := ["dotterel/tick.inverses"], apart := false, laid := [("dotterel/tick.inverses", laid_dotterel_tick_inverses)], narrowed := true }
def TickFitsUptoSaid : Prop := tickFitsUptoRow.holds Tryd.pinned (OpenSpec.upto tickFitsSpec)

/-- 'dotterelkeep.InverseTwice', WHERE WHAT IT READS IS OF BULK AT MOST 1048576: true; the input reads as it did. -/
def inverseTwiceUptoRow : OpenClaim := { program := "ytakimdbkkmafnabdoor", sum := "d1fa8250b0f38ed098f7c187600bb9070553f1a9a9e5055d25e50731b52fe87a", func := "dotterel/dotterelkeep.InverseTwice", spec := "inverseTwice", named := ["dotterel/tick.inverses"], apart := false, laid := [("dotterel/tick.inverses", laid_dotterel_tick_inverses)], narrowed := true }
def InverseTwiceUptoSaid : Prop := inverseTwiceUptoRow.holds Tryd.pinned (OpenSpec.upto inverseTwiceSpec)

/-- 'dotterelkeep.HoldsBack', WHERE WHAT IT READS IS OF BULK AT MOST 1048576: true; the input reads as it did. -/
def holdsBackUptoRow : OpenClaim := { program := "ytakimdbkkmafnabdoor", sum := "d1fa8250b0f38ed098f7c187600bb9070553f1a9a9e5055d25e50731b52fe87a", func := "dotterel/dotterelkeep.HoldsBack", spec := "holdsBack", named := ["dotterel/tick.inverses"], apart := false, laid := [("dotterel/tick.inverses", laid_dotterel_tick_inverses)], narrowed := true }
def HoldsBackUptoSaid : Prop := holdsBackUptoRow.holds Tryd.pinned (OpenSpec.upto holdsBackSpec)

end Rows
end Go.Proofs.YtakimdbkkmafnabDoor
