/-
  NARROWER THAN 'FOR EVERY INPUT', by the rows' own cells (each row's printed sentence says how): OneHolds: laid · WhichFirst: laid · ShiftSame: laid · FitsWithin: laid · EqualsSelf: laid.
  DERIVED. THE GIVEN ROWS OF THIS SEAT. 5 by the template 'for every input the law returns true; each argument reads behind the call as it read before'; 0 by the template 'total and deterministic' (their statements: YtakimdbkkmafnacDoorTotals.lean).
  GIVEN WITH THE SEED: the statements are not yours to turn. If you find one false, say at which input.
  Laid BY PROGRAM, IN A SANDBOX (cutbox-rows.mjs): the forced cells as the released guide's own fill.sh prints them over the translation 2410400068774aa5… (all of the seat's roots in one cut). By AI agents, Wed Nov 11 2026. No macro, syntax, notation, axiom, sorry.
-/
import Derived.Test.YtakimdbkkmafnacDoorChecked
import GoSem.Claim
import GoSem.ClaimJoined
import GoSem.ClaimMapViews
import Derived.JoinedTies
import Derived.KernelRfl
namespace Go.Proofs.YtakimdbkkmafnacDoor
/- THE CELL 'sum', in the pinned program and in every row, IS THE sha256 OF THE DUMP (.gsa) THAT YtakimdbkkmafnacDoorProg.lean LOADS. Nothing in Lean hashes anything: it is a label: what it is worth is what the hold of that sum in a sandbox is worth. -/
noncomputable def Tryd.pinned : Pinned := { name := "ytakimdbkkmafnacdoor", sum := "2410400068774aa56c10fe611c3edbda15557ef0ae2a2d5bb3c8314b9bb44df3", checked := Tryd.checked }
namespace Rows
def none {H : Type} : Left H := { results := [], args := [] }

/- WHAT THE LISTED PACKAGE-LEVEL VARIABLES READ AS WHEN THE CALL BEGINS. Each datum BY PROGRAM (the guide's laid-datum.mjs) off the statement by which the dump's own 'gosem.cut.vars' lays the variable. In a bare row this is a premise. The card (YtakimdbkkmafnacDoorCards.lean) ties it to the program's text. -/
def laid_dotterel_tick_inverses {H : Type} : DataW H := .agg [.lit (.int .i64 0), .lit (.int .i64 2), .lit (.int .i64 1), .lit (.int .i64 4), .lit (.int .i64 3), .lit (.int .i64 6), .lit (.int .i64 5), .lit (.int .i64 8), .lit (.int .i64 7), .lit (.int .i64 10), .lit (.int .i64 9), .lit (.int .i64 12), .lit (.int .i64 11), .lit (.int .i64 13)]

/-- 'dotterelkeep.OneHolds': WHATEVER THE INPUT: true; the input reads as it did. -/
def oneHoldsSpec : ChangeSpec := { name := "oneHolds", fn := fun _ => fun
  | [d1, d2, d3, d4] => { results := [.lit (.bool true)], args := [d1, d2, d3, d4] }
  | _ => none }
def oneHoldsRow : OpenClaim := { program := "ytakimdbkkmafnacdoor", sum := "2410400068774aa56c10fe611c3edbda15557ef0ae2a2d5bb3c8314b9bb44df3", func := "dotterel/dotterelkeep.OneHolds", spec := "oneHolds", named := ["dotterel/tick.inverses"], apart := false, laid := [("dotterel/tick.inverses", laid_dotterel_tick_inverses)] }
def OneHoldsSaid : Prop := oneHoldsRow.holds Tryd.pinned (OpenSpec.ofChange oneHoldsSpec)

/-- ITS FALSE NEIGHBOUR: 'it returns false'. Refute it at one input. -/
def oneHoldsWrong : ChangeSpec := { name := "oneHolds", fn := fun _ => fun
  | [d1, d2, d3, d4] => { results := [.lit (.bool false)], args := [d1, d2, d3, d4] }
  | _ => none }
def OneHoldsWrongFalsely : Prop := oneHoldsRow.holds Tryd.pinned (OpenSpec.ofChange oneHoldsWrong)

/-- 'dotterelkeep.WhichFirst': WHATEVER THE INPUT: true; the input reads as it did. -/
def whichFirstSpec : ChangeSpec := { name := "whichFirst", fn := fun _ => fun
  | [d1, d2, d3, d4] => { results := [.lit (.bool true)], args := [d1, d2, d3, d4] }
  | _ => none }
def whichFirstRow : OpenClaim := { program := "ytakimdbkkmafnacdoor", sum := "2410400068774aa56c10fe611c3edbda15557ef0ae2a2d5bb3c8314b9bb44df3", func := "dotterel/dotterelkeep.WhichFirst", spec := "whichFirst", named := ["dotterel/tick.inverses"], apart := false, laid := [("dotterel/tick.inverses", laid_dotterel_tick_inverses)] }
def WhichFirstSaid : Prop := whichFirstRow.holds Tryd.pinned (OpenSpec.ofChange whichFirstSpec)

/-- ITS FALSE NEIGHBOUR: 'it returns false'. Refute it at one input. -/
def whichFirstWrong : ChangeSpec := { name := "whichFirst", fn := fun _ => fun
  | [d1, d2, d3, d4] => { results := [.lit (.bool false)], args := [d1, d2, d3, d4] }
  | _ => none }
def WhichFirstWrongFalsely : Prop := whichFirstRow.holds Tryd.pinned (OpenSpec.ofChange whichFirstWrong)

/-- 'dotterelkeep.ShiftSame': WHATEVER THE INPUT: true; the input reads as it did. -/
def shiftSameSpec : ChangeSpec := { name := "shiftSame", fn := fun _ => fun
  | [d1, d2, d3, d4, d5, d6] => { results := [.lit (.bool true)], args := [d1, d2, d3, d4, d5, d6] }
  | _ => none }
def shiftSameRow : OpenClaim := { program := "ytakimdbkkmafnacdoor", sum := "2410400068774aa56c10fe611c3edbda15557ef0ae2a2d5bb3c8314b9bb44df3", func := "dotterel/dotterelkeep.ShiftSame", spec := "shiftSame", named := ["dotterel/tick.inverses"], apart := false, laid := [("dotterel/tick.inverses", laid_dotterel_tick_inverses)] }
def ShiftSameSaid : Prop := shiftSameRow.holds Tryd.pinned (OpenSpec.ofChange shiftSameSpec)

/-- ITS FALSE NEIGHBOUR: 'it returns false'. Refute it at one input. -/
def shiftSameWrong : ChangeSpec := { name := "shiftSame", fn := fun _ => fun
  | [d1, d2, d3, d4, d5, d6] => { results := [.lit (.bool false)], args := [d1, d2, d3, d4, d5, d6] }
  | _ => none }
def ShiftSameWrongFalsely : Prop := shiftSameRow.holds Tryd.pinned (OpenSpec.ofChange shiftSameWrong)

/-- 'dotterelkeep.FitsWithin': WHATEVER THE INPUT: true; the input reads as it did. -/
def fitsWithinSpec : ChangeSpec := { name := "fitsWithin", fn := fun _ => fun
  | [d1, d2, d3, d4, d5, d6, d7] => { results := [.lit (.bool true)], args := [d1, d2, d3, d4, d5, d6, d7] }
  | _ => none }
def fitsWithinRow : OpenClaim := { program := "ytakimdbkkmafnacdoor", sum := "2410400068774aa56c10fe611c3edbda15557ef0ae2a2d5bb3c8314b9bb44df3", func := "dotterel/dotterelkeep.FitsWithin", spec := "fitsWithin", named := ["dotterel/tick.inverses"], apart := false, laid := [("dotterel/tick.inverses", laid_dotterel_tick_inverses)] }
def FitsWithinSaid : Prop := fitsWithinRow.holds Tryd.pinned (OpenSpec.ofChange fitsWithinSpec)

/-- ITS FALSE NEIGHBOUR: 'it returns false'. Refute it at one input. -/
def fitsWithinWrong : ChangeSpec := { name := "fitsWithin", fn := fun _ => fun
  | [d1, d2, d3, d4, d5, d6, d7] => { results := [.lit (.bool false)], args := [d1, d2, d3, d4, d5, d6, d7] }
  | _ => none }
def FitsWithinWrongFalsely : Prop := fitsWithinRow.holds Tryd.pinned (OpenSpec.ofChange fitsWithinWrong)

/-- 'dotterelkeep.EqualsSelf': WHATEVER THE INPUT: true; the input reads as it did. -/
def equalsSelfSpec : ChangeSpec := { name := "equalsSelf", fn := fun _ => fun
  | [d1, d2, d3, d4] => { results := [.lit (.bool true)], args := [d1, d2, d3, d4] }
  | _ => none }
def equalsSelfRow : OpenClaim := { program := "ytakimdbkkmafnacdoor", sum := "2410400068774aa56c10fe611c3edbda15557ef0ae2a2d5bb3c8314b9bb44df3", func := "dotterel/dotterelkeep.EqualsSelf", spec := "equalsSelf", named := ["dotterel/tick.inverses"], apart := false, laid := [("dotterel/tick.inverses", laid_dotterel_tick_inverses)] }
def EqualsSelfSaid : Prop := equalsSelfRow.holds Tryd.pinned (OpenSpec.ofChange equalsSelfSpec)

/-- ITS FALSE NEIGHBOUR: 'it returns false'. Refute it at one input. -/
def equalsSelfWrong : ChangeSpec := { name := "equalsSelf", fn := fun _ => fun
  | [d1, d2, d3, d4] => { results := [.lit (.bool false)], args := [d1, d2, d3, d4] }
  | _ => none }
def EqualsSelfWrongFalsely : Prop := equalsSelfRow.holds Tryd.pinned (OpenSpec.ofChange equalsSelfWrong)

/- THE SECOND FORM. 'bulk': how many values and letters a reading holds, each counted each time it is reached (what is shared counts as often as it is met; a slice's spare places count too). A statement '..UptoSaid' is the law's where the arguments, and the package variables that the reading takes, are together of bulk at most 1048576: NARROWER than '..Said'. Prove '..Said' where nothing that the law and all that it calls make is longer than what came in: it says more and counts as full. Else prove '..UptoSaid'. A law counts once. -/
mutual
def uptoBulk {H : Type} : DataW H → Nat
  | .lit (.string bytes) => bytes.length + 1
  | .lit _ => 1
  | .nil => 1
  | .ptr d => uptoBulk d + 1
  | .slice elems spare => uptoBulkAll elems + uptoBulkAll spare + 1
  | .agg parts => uptoBulkAll parts + 1
  | .iface _ d => uptoBulk d + 1
  | .map entries => uptoBulkEntries entries + 1
  | .held _ => 1
def uptoBulkAll {H : Type} : List (DataW H) → Nat
  | [] => 0
  | d :: r => uptoBulk d + uptoBulkAll r
def uptoBulkEntries {H : Type} : List (Lit × DataW H) → Nat
  | [] => 0
  | x :: r => uptoBulkEntry x + uptoBulkEntries r
def uptoBulkEntry {H : Type} : Lit × DataW H → Nat
  | (.string bytes, d) => bytes.length + uptoBulk d + 1
  | (_, d) => uptoBulk d + 1
 end
def uptoSmall : (H : Type) → List (DataW H) → Bool := fun _ ds => decide (uptoBulkAll ds ≤ 1048576)
def OpenSpec.upto (s : _root_.Go.ChangeSpec) : _root_.Go.OpenSpec := { _root_.Go.OpenSpec.ofChange s with cond := some uptoSmall }

/-- 'dotterelkeep.OneHolds', WHERE WHAT IT READS IS OF BULK AT MOST 1048576: true; the input reads as it did. -/
def oneHoldsUptoRow : OpenClaim := { program := "ytakimdbkkmafnacdoor", sum := "2410400068774aa56c10fe611c3edbda15557ef0ae2a2d5bb3c8314b9bb44df3", func := "dotterel/dotterelkeep.OneHolds", spec := "oneHolds", named := ["dotterel/tick.inverses"], apart := false, laid := [("dotterel/tick.inverses", laid_dotterel_tick_inverses)], narrowed := true }
def OneHoldsUptoSaid : Prop := oneHoldsUptoRow.holds Tryd.pinned (OpenSpec.upto oneHoldsSpec)

/-- 'dotterelkeep.WhichFirst', WHERE WHAT IT READS IS OF BULK AT MOST 1048576: true; the input reads as it did. -/
def whichFirstUptoRow : OpenClaim := { program := "ytakimdbkkmafnacdoor", sum := "2410400068774aa56c10fe611c3edbda15557ef0ae2a2d5bb3c8314b9bb44df3", func := "dotterel/dotterelkeep.WhichFirst", spec := "whichFirst", named := ["dotterel/tick.inverses"], apart := false, laid := [("dotterel/tick.inverses", laid_dotterel_tick_inverses)], narrowed := true }
def WhichFirstUptoSaid : Prop := whichFirstUptoRow.holds Tryd.pinned (OpenSpec.upto whichFirstSpec)

/-- 'dotterelkeep.ShiftSame', WHERE WHAT IT READS IS OF BULK AT MOST 1048576: true; the input reads as it did. -/
def shiftSameUptoRow : OpenClaim := { program := "ytakimdbkkmafnacdoor", sum := "2410400068774aa56c10fe611c3edbda15557ef0ae2a2d5bb3c8314b9bb44df3", func := "dotterel/dotterelkeep.ShiftSame", spec := "shiftSame", named := ["dotterel/tick.inverses"], apart := false, laid := [("dotterel/tick.inverses", laid_dotterel_tick_inverses)], narrowed := true }
def ShiftSameUptoSaid : Prop := shiftSameUptoRow.holds Tryd.pinned (OpenSpec.upto shiftSameSpec)

/-- 'dotterelkeep.FitsWithin', WHERE WHAT IT READS IS OF BULK AT MOST 1048576: true; the input reads as it did. -/
def fitsWithinUptoRow : OpenClaim := { program := "ytakimdbkkmafnacdoor", sum := "2410400068774aa56c10fe611c3edbda15557ef0ae2a2d5bb3c8314b9bb44df3", func := "dotterel/dotterelkeep.FitsWithin", spec := "fitsWithin", named := ["dotterel/tick.inverses"], apart := false, laid := [("dotterel/tick.inverses", laid_dotterel_tick_inverses)], narrowed := true }
def FitsWithinUptoSaid : Prop := fitsWithinUptoRow.holds Tryd.pinned (OpenSpec.upto fitsWithinSpec)

/-- 'dotterelkeep.EqualsSelf', WHERE WHAT IT READS IS OF BULK AT MOST 1048576: true; the input reads as it did. -/
def equalsSelfUptoRow : OpenClaim := { program := "ytakimdbkkmafnacdoor", sum := "2410400068774aa56c10fe611c3edbda15557ef0ae2a2d5bb3c8314b9bb44df3", func := "dotterel/dotterelkeep.EqualsSelf", spec := "equalsSelf", named := ["dotterel/tick.inverses"], apart := false, laid := [("dotterel/tick.inverses", laid_dotterel_tick_inverses)], narrowed := true }
def EqualsSelfUptoSaid : Prop := equalsSelfUptoRow.holds Tryd.pinned (OpenSpec.upto equalsSelfSpec)

end Rows
end Go.Proofs.YtakimdbkkmafnacDoor
