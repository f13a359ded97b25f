/-
  NARROWER THAN 'FOR EVERY INPUT', by the rows' own cells (each row's printed sentence says how): TakesType: laid · PlanNever: laid · PlanDelay: laid · PlanMany: laid · FiresWithin: laid.
  DERIVED. THE GIVEN ROWS OF THIS SEAT. 5 by the template 'for every input the law returns true; each argument reads behind the call as it read before'; 0 by the template 'total and deterministic' (their statements: YtnlmknbhppdliaaGreatDoorTotals.lean).
  GIVEN WITH THE SEED: the statements are not yours to turn. If you find one false, say at which input.
  Laid BY PROGRAM, IN A SANDBOX (cutbox-rows.mjs): the forced cells as the released guide's own fill.sh prints them over the translation 92afc6e698eb9071… (all of the seat's roots in one cut). By AI agents, Wed Nov 11 2026. No macro, syntax, notation, axiom, sorry.
-/
import Derived.Test.YtnlmknbhppdliaaGreatDoorChecked
import GoSem.Claim
import GoSem.ClaimJoined
import GoSem.ClaimMapViews
import Derived.JoinedTies
import Derived.KernelRfl
namespace Go.Proofs.YtnlmknbhppdliaaGreatDoor
/- THE CELL 'sum', in the pinned program and in every row, IS THE sha256 OF THE DUMP (.gsa) THAT YtnlmknbhppdliaaGreatDoorProg.lean LOADS. Nothing in Lean hashes anything: it is a label: what it is worth is what the hold of that sum in a sandbox is worth. -/
noncomputable def Tryz.pinned : Pinned := { name := "ytnlmknbhppdliaagreatdoor", sum := "92afc6e698eb9071ae8847630f7910bcdf4118d4007de2d07369a7bf2cef8f20", checked := Tryz.checked }
namespace Rows
def none {H : Type} : Left H := { results := [], args := [] }

/- WHAT THE LISTED PACKAGE-LEVEL VARIABLES READ AS WHEN THE CALL BEGINS. Each datum BY PROGRAM (the guide's laid-datum.mjs) off the statement by which the dump's own 'gosem.cut.vars' lays the variable. In a bare row this is a premise. The card (YtnlmknbhppdliaaGreatDoorCards.lean) ties it to the program's text. -/
def laid_dotterel_parse_kept {H : Type} : DataW H := .agg [.lit (.string [97, 110, 100]), .lit (.string [97, 110, 121]), .lit (.string [101, 109, 105, 116]), .lit (.string [105, 110, 116]), .lit (.string [108, 97, 115, 116]), .lit (.string [109, 97, 110, 121]), .lit (.string [110, 111, 116]), .lit (.string [111, 102]), .lit (.string [111, 114]), .lit (.string [111, 118, 101, 114]), .lit (.string [114, 117, 108, 101]), .lit (.string [116, 101, 120, 116]), .lit (.string [116, 105, 109, 101]), .lit (.string [116, 121, 112, 101]), .lit (.string [119, 104, 101, 110]), .lit (.string [119, 104, 101, 114, 101]), .lit (.string [119, 105, 116, 104, 105, 110])]
def laid_dotterel_parse_relations {H : Type} : DataW H := .agg [.lit (.string [98, 101, 102, 111, 114, 101]), .lit (.string [97, 102, 116, 101, 114]), .lit (.string [109, 101, 101, 116, 115]), .lit (.string [109, 101, 116, 98, 121]), .lit (.string [111, 118, 101, 114, 108, 97, 112, 115]), .lit (.string [111, 118, 101, 114, 108, 97, 112, 112, 101, 100]), .lit (.string [115, 116, 97, 114, 116, 115]), .lit (.string [115, 116, 97, 114, 116, 101, 100, 98, 121]), .lit (.string [100, 117, 114, 105, 110, 103]), .lit (.string [99, 111, 110, 116, 97, 105, 110, 115]), .lit (.string [102, 105, 110, 105, 115, 104, 101, 115]), .lit (.string [102, 105, 110, 105, 115, 104, 101, 100, 98, 121]), .lit (.string [101, 113, 117, 97, 108, 115])]
def laid_dotterel_tick_inverses {H : Type} : DataW H := .agg [.lit (.int .i64 0), .lit (.int .i64 2), .lit (.int .i64 1), .lit (.int .i64 4), .lit (.int .i64 3), .lit (.int .i64 6), .lit (.int .i64 5), .lit (.int .i64 8), .lit (.int .i64 7), .lit (.int .i64 10), .lit (.int .i64 9), .lit (.int .i64 12), .lit (.int .i64 11), .lit (.int .i64 13)]

/-- 'dotterelkeep.TakesType': WHATEVER THE INPUT: true; the input reads as it did. -/
def takesTypeSpec : ChangeSpec := { name := "takesType", fn := fun _ => fun
  | [d1, d2, d3] => { results := [.lit (.bool true)], args := [d1, d2, d3] }
  | _ => none }
def takesTypeRow : OpenClaim := { program := "ytnlmknbhppdliaagreatdoor", sum := "92afc6e698eb9071ae8847630f7910bcdf4118d4007de2d07369a7bf2cef8f20", func := "dotterel/dotterelkeep.TakesType", spec := "takesType", inPlace := ["internal/bytealg.abigen_runtime_cmpstring"], unfollowed := true, recurses := true, named := ["dotterel/parse.kept", "dotterel/parse.relations"], apart := false, laid := [("dotterel/parse.kept", laid_dotterel_parse_kept), ("dotterel/parse.relations", laid_dotterel_parse_relations)] }
def TakesTypeSaid : Prop := takesTypeRow.holds Tryz.pinned (OpenSpec.ofChange takesTypeSpec)

/-- ITS FALSE NEIGHBOUR: 'it returns false'. Refute it at one input. -/
def takesTypeWrong : ChangeSpec := { name := "takesType", fn := fun _ => fun
  | [d1, d2, d3] => { results := [.lit (.bool false)], args := [d1, d2, d3] }
  | _ => none }
def TakesTypeWrongFalsely : Prop := takesTypeRow.holds Tryz.pinned (OpenSpec.ofChange takesTypeWrong)

/-- 'dotterelkeep.PlanNever': WHATEVER THE INPUT: true; the input reads as it did. -/
def planNeverSpec : ChangeSpec := { name := "planNever", fn := fun _ => fun
  | [d1, d2] => { results := [.lit (.bool true)], args := [d1, d2] }
  | _ => none }
def planNeverRow : OpenClaim := { program := "ytnlmknbhppdliaagreatdoor", sum := "92afc6e698eb9071ae8847630f7910bcdf4118d4007de2d07369a7bf2cef8f20", func := "dotterel/dotterelkeep.PlanNever", spec := "planNever", unfollowed := true, recurses := true, named := ["dotterel/parse.kept", "dotterel/parse.relations", "dotterel/tick.inverses"], apart := false, laid := [("dotterel/tick.inverses", laid_dotterel_tick_inverses), ("dotterel/parse.kept", laid_dotterel_parse_kept), ("dotterel/parse.relations", laid_dotterel_parse_relations)] }
def PlanNeverSaid : Prop := planNeverRow.holds Tryz.pinned (OpenSpec.ofChange planNeverSpec)

/-- ITS FALSE NEIGHBOUR: 'it returns false'. Refute it at one input. -/
def planNeverWrong : ChangeSpec := { name := "planNever", fn := fun _ => fun
  | [d1, d2] => { results := [.lit (.bool false)], args := [d1, d2] }
  | _ => none }
def PlanNeverWrongFalsely : Prop := planNeverRow.holds Tryz.pinned (OpenSpec.ofChange planNeverWrong)

/-- 'dotterelkeep.PlanDelay': WHATEVER THE INPUT: true; the input reads as it did. -/
def planDelaySpec : ChangeSpec := { name := "planDelay", fn := fun _ => fun
  | [d1, d2, d3] => { results := [.lit (.bool true)], args := [d1, d2, d3] }
  | _ => none }
def planDelayRow : OpenClaim := { program := "ytnlmknbhppdliaagreatdoor", sum := "92afc6e698eb9071ae8847630f7910bcdf4118d4007de2d07369a7bf2cef8f20", func := "dotterel/dotterelkeep.PlanDelay", spec := "planDelay", unfollowed := true, recurses := true, named := ["dotterel/parse.kept", "dotterel/parse.relations", "dotterel/tick.inverses"], apart := false, laid := [("dotterel/tick.inverses", laid_dotterel_tick_inverses), ("dotterel/parse.kept", laid_dotterel_parse_kept), ("dotterel/parse.relations", laid_dotterel_parse_relations)] }
def PlanDelaySaid : Prop := planDelayRow.holds Tryz.pinned (OpenSpec.ofChange planDelaySpec)

/-- ITS FALSE NEIGHBOUR: 'it returns false'. Refute it at one input. -/
def planDelayWrong : ChangeSpec := { name := "planDelay", fn := fun _ => fun
  | [d1, d2, d3] => { results := [.lit (.bool false)], args := [d1, d2, d3] }
  | _ => none }
def PlanDelayWrongFalsely : Prop := planDelayRow.holds Tryz.pinned (OpenSpec.ofChange planDelayWrong)

/-- 'dotterelkeep.PlanMany': WHATEVER THE INPUT: true; the input reads as it did. -/
def planManySpec : ChangeSpec := { name := "planMany", fn := fun _ => fun
  | [d1, d2] => { results := [.lit (.bool true)], args := [d1, d2] }
  | _ => none }
def planManyRow : OpenClaim := { program := "ytnlmknbhppdliaagreatdoor", sum := "92afc6e698eb9071ae8847630f7910bcdf4118d4007de2d07369a7bf2cef8f20", func := "dotterel/dotterelkeep.PlanMany", spec := "planMany", unfollowed := true, recurses := true, named := ["dotterel/parse.kept", "dotterel/parse.relations", "dotterel/tick.inverses"], apart := false, laid := [("dotterel/tick.inverses", laid_dotterel_tick_inverses), ("dotterel/parse.kept", laid_dotterel_parse_kept), ("dotterel/parse.relations", laid_dotterel_parse_relations)] }
def PlanManySaid : Prop := planManyRow.holds Tryz.pinned (OpenSpec.ofChange planManySpec)

/-- ITS FALSE NEIGHBOUR: 'it returns false'. Refute it at one input. -/
def planManyWrong : ChangeSpec := { name := "planMany", fn := fun _ => fun
  | [d1, d2] => { results := [.lit (.bool false)], args := [d1, d2] }
  | _ => none }
def PlanManyWrongFalsely : Prop := planManyRow.holds Tryz.pinned (OpenSpec.ofChange planManyWrong)

/-- 'dotterelkeep.FiresWithin': WHATEVER THE INPUT: true; the input reads as it did. -/
def firesWithinSpec : ChangeSpec := { name := "firesWithin", fn := fun _ => fun
  | [d1, d2] => { results := [.lit (.bool true)], args := [d1, d2] }
  | _ => none }
def firesWithinRow : OpenClaim := { program := "ytnlmknbhppdliaagreatdoor", sum := "92afc6e698eb9071ae8847630f7910bcdf4118d4007de2d07369a7bf2cef8f20", func := "dotterel/dotterelkeep.FiresWithin", spec := "firesWithin", inPlace := ["internal/bytealg.abigen_runtime_cmpstring"], unfollowed := true, recurses := true, named := ["dotterel/parse.kept", "dotterel/parse.relations", "dotterel/tick.inverses"], apart := false, laid := [("dotterel/tick.inverses", laid_dotterel_tick_inverses), ("dotterel/parse.kept", laid_dotterel_parse_kept), ("dotterel/parse.relations", laid_dotterel_parse_relations)] }
def FiresWithinSaid : Prop := firesWithinRow.holds Tryz.pinned (OpenSpec.ofChange firesWithinSpec)

/-- ITS FALSE NEIGHBOUR: 'it returns false'. Refute it at one input. -/
def firesWithinWrong : ChangeSpec := { name := "firesWithin", fn := fun _ => fun
  | [d1, d2] => { results := [.lit (.bool false)], args := [d1, d2] }
  | _ => none }
def FiresWithinWrongFalsely : Prop := firesWithinRow.holds Tryz.pinned (OpenSpec.ofChange firesWithinWrong)

/- THE SECOND FORM. 'bulk': how many values and letters a reading holds, each counted each time it is reached (what is shared counts as often as it is met; a slice's spare places count too). A statement '..UptoSaid' is the law's where the arguments, and the package variables that the reading takes, are together of bulk at most 1048576: NARROWER than '..Said'. Prove '..Said' where nothing that the law and all that it calls make is longer than what came in: it says more and counts as full. Else prove '..UptoSaid'. A law counts once. -/
mutual
def uptoBulk {H : Type} : DataW H → Nat
  | .lit (.string bytes) => bytes.length + 1
  | .lit _ => 1
  | .nil => 1
  | .ptr d => uptoBulk d + 1
  | .slice elems spare => uptoBulkAll elems + uptoBulkAll spare + 1
  | .agg parts => uptoBulkAll parts + 1
  | .iface _ d => uptoBulk d + 1
  | .map entries => uptoBulkEntries entries + 1
  | .held _ => 1
def uptoBulkAll {H : Type} : List (DataW H) → Nat
  | [] => 0
  | d :: r => uptoBulk d + uptoBulkAll r
def uptoBulkEntries {H : Type} : List (Lit × DataW H) → Nat
  | [] => 0
  | x :: r => uptoBulkEntry x + uptoBulkEntries r
def uptoBulkEntry {H : Type} : Lit × DataW H → Nat
  | (.string bytes, d) => bytes.length + uptoBulk d + 1
  | (_, d) => uptoBulk d + 1
 end
def uptoSmall : (H : Type) → List (DataW H) → Bool := fun _ ds => decide (uptoBulkAll ds ≤ 1048576)
def OpenSpec.upto (s : _root_.Go.ChangeSpec) : _root_.Go.OpenSpec := { _root_.Go.OpenSpec.ofChange s with cond := some uptoSmall }

/-- 'dotterelkeep.TakesType', WHERE WHAT IT READS IS OF BULK AT MOST 1048576: true; the input reads as it did. -/
def takesTypeUptoRow : OpenClaim := { program := "ytnlmknbhppdliaagreatdoor", sum := "92afc6e698eb9071ae8847630f7910bcdf4118d4007de2d07369a7bf2cef8f20", func := "dotterel/dotterelkeep.TakesType", spec := "takesType", inPlace := ["internal/bytealg.abigen_runtime_cmpstring"], unfollowed := true, recurses := true, named := ["dotterel/parse.kept", "dotterel/parse.relations"], apart := false, laid := [("dotterel/parse.kept", laid_dotterel_parse_kept), ("dotterel/parse.relations", laid_dotterel_parse_relations)], narrowed := true }
def TakesTypeUptoSaid : Prop := takesTypeUptoRow.holds Tryz.pinned (OpenSpec.upto takesTypeSpec)

/-- 'dotterelkeep.PlanNever', WHERE WHAT IT READS IS OF BULK AT MOST 1048576: true; the input reads as it did. -/
def planNeverUptoRow : OpenClaim := { program := "ytnlmknbhppdliaagreatdoor", sum := "92afc6e698eb9071ae8847630f7910bcdf4118d4007de2d07369a7bf2cef8f20", func := "dotterel/dotterelkeep.PlanNever", spec := "planNever", unfollowed := true, recurses := true, named := ["dotterel/parse.kept", "dotterel/parse.relations", "dotterel/tick.inverses"], apart := false, laid := [("dotterel/tick.inverses", laid_dotterel_tick_inverses), ("dotterel/parse.kept", laid_dotterel_parse_kept), ("dotterel/parse.relations", laid_dotterel_parse_relations)], narrowed := true }
def PlanNeverUptoSaid : Prop := planNeverUptoRow.holds Tryz.pinned (OpenSpec.upto planNeverSpec)

/-- 'dotterelkeep.PlanDelay', WHERE WHAT IT READS IS OF BULK AT MOST 1048576: true; the input reads as it did. -/
def planDelayUptoRow : OpenClaim := { program := "ytnlmknbhppdliaagreatdoor", sum := "92afc6e698eb9071ae8847630f7910bcdf4118d4007de2d07369a7bf2cef8f20", func := "dotterel/dotterelkeep.PlanDelay", spec := "planDelay", unfollowed := true, recurses := true, named := ["dotterel/parse.kept", "dotterel/parse.relations", "dotterel/tick.inverses"], apart := false, laid := [("dotterel/tick.inverses", laid_dotterel_tick_inverses), ("dotterel/parse.kept", laid_dotterel_parse_kept), ("dotterel/parse.relations", laid_dotterel_parse_relations)], narrowed := true }
def PlanDelayUptoSaid : Prop := planDelayUptoRow.holds Tryz.pinned (OpenSpec.upto planDelaySpec)

/-- 'dotterelkeep.PlanMany', WHERE WHAT IT READS IS OF BULK AT MOST 1048576: true; the input reads as it did. -/
def planManyUptoRow : OpenClaim := { program := "ytnlmknbhppdliaagreatdoor", sum := "92afc6e698eb9071ae8847630f7910bcdf4118d4007de2d07369a7bf2cef8f20", func := "dotterel/dotterelkeep.PlanMany", spec := "planMany", unfollowed := true, recurses := true, named := ["dotterel/parse.kept", "dotterel/parse.relations", "dotterel/tick.inverses"], apart := false, laid := [("dotterel/tick.inverses", laid_dotterel_tick_inverses), ("dotterel/parse.kept", laid_dotterel_parse_kept), ("dotterel/parse.relations", laid_dotterel_parse_relations)], narrowed := true }
def PlanManyUptoSaid : Prop := planManyUptoRow.holds Tryz.pinned (OpenSpec.upto planManySpec)

/-- 'dotterelkeep.FiresWithin', WHERE WHAT IT READS IS OF BULK AT MOST 1048576: true; the input reads as it did. -/
def firesWithinUptoRow : OpenClaim := { program := "ytnlmknbhppdliaagreatdoor", sum := "92afc6e698eb9071ae8847630f7910bcdf4118d4007de2d07369a7bf2cef8f20", func := "dotterel/dotterelkeep.FiresWithin", spec := "firesWithin", inPlace := ["internal/bytealg.abigen_runtime_cmpstring"], unfollowed := true, recurses := true, named := ["dotterel/parse.kept", "dotterel/parse.relations", "dotterel/tick.inverses"], apart := false, laid := [("dotterel/tick.inverses", laid_dotterel_tick_inverses), ("dotterel/parse.kept", laid_dotterel_parse_kept), ("dotterel/parse.relations", laid_dotterel_parse_relations)], narrowed := true }
def FiresWithinUptoSaid : Prop := firesWithinUptoRow.holds Tryz.pinned (OpenSpec.upto firesWithinSpec)

end Rows
end Go.Proofs.YtnlmknbhppdliaaGreatDoor
