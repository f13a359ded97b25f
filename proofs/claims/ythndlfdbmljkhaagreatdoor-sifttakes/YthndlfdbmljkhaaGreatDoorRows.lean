/-
  NARROWER THAN 'FOR EVERY INPUT', by the rows' own cells (each row's printed sentence says how): SiftTakes: loops, laid · JoinTuples: loops, laid.
  DERIVED. THE GIVEN ROWS OF THIS SEAT. 2 by the template 'for every input the law returns true; each argument reads behind the call as it read before'; 0 by the template 'total and deterministic' (their statements: YthndlfdbmljkhaaGreatDoorTotals.lean).
  GIVEN WITH THE SEED: the statements are not yours to turn. If you find one false, say at which input.
  Laid BY PROGRAM, IN A SANDBOX (cutbox-rows.mjs): the forced cells as the released guide's own fill.sh prints them over the translation ae40cf52bb4a2f23… (all of the seat's roots in one cut). By AI agents, Wed Nov 11 2026. No macro, syntax, notation, axiom, sorry.
-/
import Derived.Test.YthndlfdbmljkhaaGreatDoorChecked
import GoSem.Claim
import GoSem.ClaimJoined
import GoSem.ClaimMapViews
import Derived.JoinedTies
import Derived.KernelRfl
namespace Go.Proofs.YthndlfdbmljkhaaGreatDoor
/- THE CELL 'sum', in the pinned program and in every row, IS THE sha256 OF THE DUMP (.gsa) THAT YthndlfdbmljkhaaGreatDoorProg.lean LOADS. Nothing in Lean hashes anything: it is a label: what it is worth is what the hold of that sum in a sandbox is worth. -/
noncomputable def Tryz.pinned : Pinned := { name := "ythndlfdbmljkhaagreatdoor", sum := "ae40cf52bb4a2f2379b07a80b1d030eef5cb9e5191a252feee9489f0f4a1cb58", checked := Tryz.checked }
namespace Rows
def none {H : Type} : Left H := { results := [], args := [] }

/- WHAT THE LISTED PACKAGE-LEVEL VARIABLES READ AS WHEN THE CALL BEGINS. Each datum BY PROGRAM (the guide's laid-datum.mjs) off the statement by which the dump's own 'gosem.cut.vars' lays the variable. In a bare row this is a premise. The card (YthndlfdbmljkhaaGreatDoorCards.lean) ties it to the program's text. -/
def laid_dotterel_parse_kept {H : Type} : DataW H := .agg [.lit (.string [97, 110, 100]), .lit (.string [97, 110, 121]), .lit (.string [101, 109, 105, 116]), .lit (.string [105, 110, 116]), .lit (.string [108, 97, 115, 116]), .lit (.string [109, 97, 110, 121]), .lit (.string [110, 111, 116]), .lit (.string [111, 102]), .lit (.string [111, 114]), .lit (.string [111, 118, 101, 114]), .lit (.string [114, 117, 108, 101]), .lit (.string [116, 101, 120, 116]), .lit (.string [116, 105, 109, 101]), .lit (.string [116, 121, 112, 101]), .lit (.string [119, 104, 101, 110]), .lit (.string [119, 104, 101, 114, 101]), .lit (.string [119, 105, 116, 104, 105, 110])]
def laid_dotterel_parse_relations {H : Type} : DataW H := .agg [.lit (.string [98, 101, 102, 111, 114, 101]), .lit (.string [97, 102, 116, 101, 114]), .lit (.string [109, 101, 101, 116, 115]), .lit (.string [109, 101, 116, 98, 121]), .lit (.string [111, 118, 101, 114, 108, 97, 112, 115]), .lit (.string [111, 118, 101, 114, 108, 97, 112, 112, 101, 100]), .lit (.string [115, 116, 97, 114, 116, 115]), .lit (.string [115, 116, 97, 114, 116, 101, 100, 98, 121]), .lit (.string [100, 117, 114, 105, 110, 103]), .lit (.string [99, 111, 110, 116, 97, 105, 110, 115]), .lit (.string [102, 105, 110, 105, 115, 104, 101, 115]), .lit (.string [102, 105, 110, 105, 115, 104, 101, 100, 98, 121]), .lit (.string [101, 113, 117, 97, 108, 115])]
def laid_dotterel_tick_inverses {H : Type} : DataW H := .agg [.lit (.int .i64 0), .lit (.int .i64 2), .lit (.int .i64 1), .lit (.int .i64 4), .lit (.int .i64 3), .lit (.int .i64 6), .lit (.int .i64 5), .lit (.int .i64 8), .lit (.int .i64 7), .lit (.int .i64 10), .lit (.int .i64 9), .lit (.int .i64 12), .lit (.int .i64 11), .lit (.int .i64 13)]

/-- 'dotterellaw.SiftTakes': WHATEVER THE INPUT: true; the input reads as it did. -/
def siftTakesSpec : ChangeSpec := { name := "siftTakes", fn := fun _ => fun
  | [d1, d2, d3, d4, d5, d6] => { results := [.lit (.bool true)], args := [d1, d2, d3, d4, d5, d6] }
  | _ => none }
def siftTakesRow : OpenClaim := { program := "ythndlfdbmljkhaagreatdoor", sum := "ae40cf52bb4a2f2379b07a80b1d030eef5cb9e5191a252feee9489f0f4a1cb58", func := "dotterel/dotterellaw.SiftTakes", spec := "siftTakes", inPlace := ["internal/bytealg.abigen_runtime_cmpstring"], unfollowed := true, recurses := true, named := ["dotterel/parse.kept", "dotterel/parse.relations"], loops := true, apart := false, laid := [("dotterel/parse.kept", laid_dotterel_parse_kept), ("dotterel/parse.relations", laid_dotterel_parse_relations)] }
def SiftTakesSaid : Prop := siftTakesRow.holds Tryz.pinned (OpenSpec.ofChange siftTakesSpec)

/-- ITS FALSE NEIGHBOUR: 'it returns false'. Refute it at one input. -/
def siftTakesWrong : ChangeSpec := { name := "siftTakes", fn := fun _ => fun
  | [d1, d2, d3, d4, d5, d6] => { results := [.lit (.bool false)], args := [d1, d2, d3, d4, d5, d6] }
  | _ => none }
def SiftTakesWrongFalsely : Prop := siftTakesRow.holds Tryz.pinned (OpenSpec.ofChange siftTakesWrong)

/-- 'dotterellaw.JoinTuples': WHATEVER THE INPUT: true; the input reads as it did. -/
def joinTuplesSpec : ChangeSpec := { name := "joinTuples", fn := fun _ => fun
  | [d1, d2, d3] => { results := [.lit (.bool true)], args := [d1, d2, d3] }
  | _ => none }
def joinTuplesRow : OpenClaim := { program := "ythndlfdbmljkhaagreatdoor", sum := "ae40cf52bb4a2f2379b07a80b1d030eef5cb9e5191a252feee9489f0f4a1cb58", func := "dotterel/dotterellaw.JoinTuples", spec := "joinTuples", inPlace := ["internal/bytealg.abigen_runtime_cmpstring"], unfollowed := true, recurses := true, named := ["dotterel/parse.kept", "dotterel/parse.relations", "dotterel/tick.inverses"], loops := true, apart := false, laid := [("dotterel/tick.inverses", laid_dotterel_tick_inverses), ("dotterel/parse.kept", laid_dotterel_parse_kept), ("dotterel/parse.relations", laid_dotterel_parse_relations)] }
def JoinTuplesSaid : Prop := joinTuplesRow.holds Tryz.pinned (OpenSpec.ofChange joinTuplesSpec)

/-- ITS FALSE NEIGHBOUR: 'it returns false'. Refute it at one input. -/
def joinTuplesWrong : ChangeSpec := { name := "joinTuples", fn := fun _ => fun
  | [d1, d2, d3] => { results := [.lit (.bool false)], args := [d1, d2, d3] }
  | _ => none }
def JoinTuplesWrongFalsely : Prop := joinTuplesRow.holds Tryz.pinned (OpenSpec.ofChange joinTuplesWrong)

/- THE SECOND FORM. 'bulk': how many values and letters a reading holds, each counted each time it is reached (what is shared counts as often as it is met; a slice's spare places count too). A statement '..UptoSaid' is the law's where the arguments, and the package variables that the reading takes, are together of bulk at most 1048576: NARROWER than '..Said'. Prove '..Said' where nothing that the law and all that it calls make is longer than what came in: it says more and counts as full. Else prove '..UptoSaid'. A law counts once. -/
mutual
def uptoBulk {H : Type} : DataW H → Nat
  | .lit (.string bytes) => bytes.length + 1
  | .lit _ => 1
  | .nil => 1
  | .ptr d => uptoBulk d + 1
  | .slice elems spare => uptoBulkAll elems + uptoBulkAll spare + 1
  | .agg parts => uptoBulkAll parts + 1
  | .iface _ d => uptoBulk d + 1
  | .map entries => uptoBulkEntries entries + 1
  | .held _ => 1
def uptoBulkAll {H : Type} : List (DataW H) → Nat
  | [] => 0
  | d :: r => uptoBulk d + uptoBulkAll r
def uptoBulkEntries {H : Type} : List (Lit × DataW H) → Nat
  | [] => 0
  | x :: r => uptoBulkEntry x + uptoBulkEntries r
def uptoBulkEntry {H : Type} : Lit × DataW H → Nat
  | (.string bytes, d) => bytes.length + uptoBulk d + 1
  | (_, d) => uptoBulk d + 1
 end
def uptoSmall : (H : Type) → List (DataW H) → Bool := fun _ ds => decide (uptoBulkAll ds ≤ 1048576)
def OpenSpec.upto (s : _root_.Go.ChangeSpec) : _root_.Go.OpenSpec := { _root_.Go.OpenSpec.ofChange s with cond := some uptoSmall }

/-- 'dotterellaw.SiftTakes', WHERE WHAT IT READS IS OF BULK AT MOST 1048576: true; the input reads as it did. -/
def siftTakesUptoRow : OpenClaim := { program := "ythndlfdbmljkhaagreatdoor", sum := "ae40cf52bb4a2f2379b07a80b1d030eef5cb9e5191a252feee9489f0f4a1cb58", func := "dotterel/dotterellaw.SiftTakes", spec := "siftTakes", inPlace := ["internal/bytealg.abigen_runtime_cmpstring"], unfollowed := true, recurses := true, named := ["dotterel/parse.kept", "dotterel/parse.relations"], loops := true, apart := false, laid := [("dotterel/parse.kept", laid_dotterel_parse_kept), ("dotterel/parse.relations", laid_dotterel_parse_relations)], narrowed := true }
def SiftTakesUptoSaid : Prop := siftTakesUptoRow.holds Tryz.pinned (OpenSpec.upto siftTakesSpec)

/-- 'dotterellaw.JoinTuples', WHERE WHAT IT READS IS OF BULK AT MOST 1048576: true; the input reads as it did. -/
def joinTuplesUptoRow : OpenClaim := { program := "ythndlfdbmljkhaagreatdoor", sum := "ae40cf52bb4a2f2379b07a80b1d030eef5cb9e5191a252feee9489f0f4a1cb58", func := "dotterel/dotterellaw.JoinTuples", spec := "joinTuples", inPlace := ["internal/bytealg.abigen_runtime_cmpstring"], unfollowed := true, recurses := true, named := ["dotterel/parse.kept", "dotterel/parse.relations", "dotterel/tick.inverses"], loops := true, apart := false, laid := [("dotterel/tick.inverses", laid_dotterel_tick_inverses), ("dotterel/parse.kept", laid_dotterel_parse_kept), ("dotterel/parse.relations", laid_dotterel_parse_relations)], narrowed := true }
def JoinTuplesUptoSaid : Prop := joinTuplesUptoRow.holds Tryz.pinned (OpenSpec.upto joinTuplesSpec)

end Rows
end Go.Proofs.YthndlfdbmljkhaaGreatDoor
