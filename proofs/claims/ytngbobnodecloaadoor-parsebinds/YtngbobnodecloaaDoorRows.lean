/-
  NARROWER THAN 'FOR EVERY INPUT', by the rows' own cells (each row's printed sentence says how): ParseKept: laid · ParseParses: laid · KeptAll: laid · ParseBinds: laid · ParseDeep: laid · ParseShort: laid.
  DERIVED. THE GIVEN ROWS OF THIS SEAT. 6 by the template 'for every input the law returns true; each argument reads behind the call as it read before'; 0 by the template 'total and deterministic' (their statements: YtngbobnodecloaaDoorTotals.lean).
  GIVEN WITH THE SEED: the statements are not yours to turn. If you find one false, say at which input.
  Laid BY PROGRAM, IN A SANDBOX (cutbox-rows.mjs): the forced cells as the released guide's own fill.sh prints them over the translation 3ba3dbdec3e68342… (all of the seat's roots in one cut). By AI agents, Wed Nov 11 2026. No macro, syntax, notation, axiom, sorry.
-/
import Derived.Test.YtngbobnodecloaaDoorChecked
import GoSem.Claim
import GoSem.ClaimJoined
import GoSem.ClaimMapViews
import Derived.JoinedTies
import Derived.KernelRfl
namespace Go.Proofs.YtngbobnodecloaaDoor
/- THE CELL 'sum', in the pinned program and in every row, IS THE sha256 OF THE DUMP (.gsa) THAT YtngbobnodecloaaDoorProg.lean LOADS. Nothing in Lean hashes anything: it is a label: what it is worth is what the hold of that sum in a sandbox is worth. -/
noncomputable def Tryd.pinned : Pinned := { name := "ytngbobnodecloaadoor", sum := "3ba3dbdec3e683425900e83afe48f6ef289c804ddb5719b60f9ad9a27147a5df", checked := Tryd.checked }
namespace Rows
def none {H : Type} : Left H := { results := [], args := [] }

/- WHAT THE LISTED PACKAGE-LEVEL VARIABLES READ AS WHEN THE CALL BEGINS. Each datum BY PROGRAM (the guide's laid-datum.mjs) off the statement by which the dump's own 'gosem.cut.vars' lays the variable. In a bare row this is a premise. The card (YtngbobnodecloaaDoorCards.lean) ties it to the program's text. -/
def laid_dotterel_parse_kept {H : Type} : DataW H := .agg [.lit (.string [97, 110, 100]), .lit (.string [97, 110, 121]), .lit (.string [101, 109, 105, 116]), .lit (.string [105, 110, 116]), .lit (.string [108, 97, 115, 116]), .lit (.string [109, 97, 110, 121]), .lit (.string [110, 111, 116]), .lit (.string [111, 102]), .lit (.string [111, 114]), .lit (.string [111, 118, 101, 114]), .lit (.string [114, 117, 108, 101]), .lit (.string [116, 101, 120, 116]), .lit (.string [116, 105, 109, 101]), .lit (.string [116, 121, 112, 101]), .lit (.string [119, 104, 101, 110]), .lit (.string [119, 104, 101, 114, 101]), .lit (.string [119, 105, 116, 104, 105, 110])]
def laid_dotterel_parse_relations {H : Type} : DataW H := .agg [.lit (.string [98, 101, 102, 111, 114, 101]), .lit (.string [97, 102, 116, 101, 114]), .lit (.string [109, 101, 101, 116, 115]), .lit (.string [109, 101, 116, 98, 121]), .lit (.string [111, 118, 101, 114, 108, 97, 112, 115]), .lit (.string [111, 118, 101, 114, 108, 97, 112, 112, 101, 100]), .lit (.string [115, 116, 97, 114, 116, 115]), .lit (.string [115, 116, 97, 114, 116, 101, 100, 98, 121]), .lit (.string [100, 117, 114, 105, 110, 103]), .lit (.string [99, 111, 110, 116, 97, 105, 110, 115]), .lit (.string [102, 105, 110, 105, 115, 104, 101, 115]), .lit (.string [102, 105, 110, 105, 115, 104, 101, 100, 98, 121]), .lit (.string [101, 113, 117, 97, 108, 115])]
def laid_dotterel_lex_marks {H : Type} : DataW H := .agg [.lit (.string [60, 61]), .lit (.string [62, 61]), .lit (.string [47, 61]), .lit (.string [123]), .lit (.string [125]), .lit (.string [91]), .lit (.string [93]), .lit (.string [40]), .lit (.string [41]), .lit (.string [58]), .lit (.string [59]), .lit (.string [44]), .lit (.string [46]), .lit (.string [61]), .lit (.string [60]), .lit (.string [62]), .lit (.string [45])]
def laid_dotterel_parse_comparisons {H : Type} : DataW H := .agg [.agg [.lit (.string [61]), .lit (.int .i64 4), .lit (.bool false)], .agg [.lit (.string [47, 61]), .lit (.int .i64 5), .lit (.bool false)], .agg [.lit (.string [60]), .lit (.int .i64 6), .lit (.bool false)], .agg [.lit (.string [60, 61]), .lit (.int .i64 7), .lit (.bool false)], .agg [.lit (.string [62]), .lit (.int .i64 6), .lit (.bool true)], .agg [.lit (.string [62, 61]), .lit (.int .i64 7), .lit (.bool true)]]

/-- 'dotterellaw.ParseKept': WHATEVER THE INPUT: true; the input reads as it did. -/
def parseKeptSpec : ChangeSpec := { name := "parseKept", fn := fun _ => fun
  | [d] => { results := [.lit (.bool true)], args := [d] }
  | _ => none }
def parseKeptRow : OpenClaim := { program := "ytngbobnodecloaadoor", sum := "3ba3dbdec3e683425900e83afe48f6ef289c804ddb5719b60f9ad9a27147a5df", func := "dotterel/dotterellaw.ParseKept", spec := "parseKept", named := ["dotterel/parse.kept", "dotterel/parse.relations"], apart := false, laid := [("dotterel/parse.kept", laid_dotterel_parse_kept), ("dotterel/parse.relations", laid_dotterel_parse_relations)] }
def ParseKeptSaid : Prop := parseKeptRow.holds Tryd.pinned (OpenSpec.ofChange parseKeptSpec)

/-- ITS FALSE NEIGHBOUR: 'it returns false'. Refute it at one input. -/
def parseKeptWrong : ChangeSpec := { name := "parseKept", fn := fun _ => fun
  | [d] => { results := [.lit (.bool false)], args := [d] }
  | _ => none }
def ParseKeptWrongFalsely : Prop := parseKeptRow.holds Tryd.pinned (OpenSpec.ofChange parseKeptWrong)

/-- 'dotterellaw.ParseParses': WHATEVER THE INPUT: true; the input reads as it did. -/
def parseParsesSpec : ChangeSpec := { name := "parseParses", fn := fun _ => fun
  | [d] => { results := [.lit (.bool true)], args := [d] }
  | _ => none }
def parseParsesRow : OpenClaim := { program := "ytngbobnodecloaadoor", sum := "3ba3dbdec3e683425900e83afe48f6ef289c804ddb5719b60f9ad9a27147a5df", func := "dotterel/dotterellaw.ParseParses", spec := "parseParses", inPlace := ["internal/bytealg.IndexByteString"], unfollowed := true, recurses := true, named := ["dotterel/lex.marks", "dotterel/parse.kept", "dotterel/parse.relations", "dotterel/parse.comparisons"], apart := false, laid := [("dotterel/lex.marks", laid_dotterel_lex_marks), ("dotterel/parse.kept", laid_dotterel_parse_kept), ("dotterel/parse.relations", laid_dotterel_parse_relations), ("dotterel/parse.comparisons", laid_dotterel_parse_comparisons)] }
def ParseParsesSaid : Prop := parseParsesRow.holds Tryd.pinned (OpenSpec.ofChange parseParsesSpec)

/-- ITS FALSE NEIGHBOUR: 'it returns false'. Refute it at one input. -/
def parseParsesWrong : ChangeSpec := { name := "parseParses", fn := fun _ => fun
  | [d] => { results := [.lit (.bool false)], args := [d] }
  | _ => none }
def ParseParsesWrongFalsely : Prop := parseParsesRow.holds Tryd.pinned (OpenSpec.ofChange parseParsesWrong)

/-- 'dotterelkeep.KeptAll': WHATEVER THE INPUT: true; the input reads as it did. -/
def keptAllSpec : ChangeSpec := { name := "keptAll", fn := fun _ => fun
  | [d1, d2] => { results := [.lit (.bool true)], args := [d1, d2] }
  | _ => none }
def keptAllRow : OpenClaim := { program := "ytngbobnodecloaadoor", sum := "3ba3dbdec3e683425900e83afe48f6ef289c804ddb5719b60f9ad9a27147a5df", func := "dotterel/dotterelkeep.KeptAll", spec := "keptAll", named := ["dotterel/parse.kept", "dotterel/parse.relations"], apart := false, laid := [("dotterel/parse.kept", laid_dotterel_parse_kept), ("dotterel/parse.relations", laid_dotterel_parse_relations)] }
def KeptAllSaid : Prop := keptAllRow.holds Tryd.pinned (OpenSpec.ofChange keptAllSpec)

/-- ITS FALSE NEIGHBOUR: 'it returns false'. Refute it at one input. -/
def keptAllWrong : ChangeSpec := { name := "keptAll", fn := fun _ => fun
  | [d1, d2] => { results := [.lit (.bool false)], args := [d1, d2] }
  | _ => none }
def KeptAllWrongFalsely : Prop := keptAllRow.holds Tryd.pinned (OpenSpec.ofChange keptAllWrong)

/-- 'dotterelkeep.ParseBinds': WHATEVER THE INPUT: true; the input reads as it did. -/
def parseBindsSpec : ChangeSpec := { name := "parseBinds", fn := fun _ => fun
  | [d] => { results := [.lit (.bool true)], args := [d] }
  | _ => none }
def parseBindsRow : OpenClaim := { program := "ytngbobnodecloaadoor", sum := "3ba3dbdec3e683425900e83afe48f6ef289c804ddb5719b60f9ad9a27147a5df", func := "dotterel/dotterelkeep.ParseBinds", spec := "parseBinds", inPlace := ["internal/bytealg.IndexByteString"], unfollowed := true, recurses := true, named := ["dotterel/lex.marks", "dotterel/parse.kept", "dotterel/parse.relations", "dotterel/parse.comparisons"], apart := false, laid := [("dotterel/lex.marks", laid_dotterel_lex_marks), ("dotterel/parse.kept", laid_dotterel_parse_kept), ("dotterel/parse.relations", laid_dotterel_parse_relations), ("dotterel/parse.comparisons", laid_dotterel_parse_comparisons)] }
def ParseBindsSaid : Prop := parseBindsRow.holds Tryd.pinned (OpenSpec.ofChange parseBindsSpec)

/-- ITS FALSE NEIGHBOUR: 'it returns false'. Refute it at one input. -/
def parseBindsWrong : ChangeSpec := { name := "parseBinds", fn := fun _ => fun
  | [d] => { results := [.lit (.bool false)], args := [d] }
  | _ => none }
def ParseBindsWrongFalsely : Prop := parseBindsRow.holds Tryd.pinned (OpenSpec.ofChange parseBindsWrong)

/-- 'dotterelkeep.ParseDeep': WHATEVER THE INPUT: true; the input reads as it did. -/
def parseDeepSpec : ChangeSpec := { name := "parseDeep", fn := fun _ => fun
  | [d1, d2] => { results := [.lit (.bool true)], args := [d1, d2] }
  | _ => none }
def parseDeepRow : OpenClaim := { program := "ytngbobnodecloaadoor", sum := "3ba3dbdec3e683425900e83afe48f6ef289c804ddb5719b60f9ad9a27147a5df", func := "dotterel/dotterelkeep.ParseDeep", spec := "parseDeep", inPlace := ["internal/bytealg.IndexByteString"], unfollowed := true, recurses := true, named := ["dotterel/lex.marks", "dotterel/parse.kept", "dotterel/parse.relations", "dotterel/parse.comparisons"], apart := false, laid := [("dotterel/lex.marks", laid_dotterel_lex_marks), ("dotterel/parse.kept", laid_dotterel_parse_kept), ("dotterel/parse.relations", laid_dotterel_parse_relations), ("dotterel/parse.comparisons", laid_dotterel_parse_comparisons)] }
def ParseDeepSaid : Prop := parseDeepRow.holds Tryd.pinned (OpenSpec.ofChange parseDeepSpec)

/-- ITS FALSE NEIGHBOUR: 'it returns false'. Refute it at one input. -/
def parseDeepWrong : ChangeSpec := { name := "parseDeep", fn := fun _ => fun
  | [d1, d2] => { results := [.lit (.bool false)], args := [d1, d2] }
  | _ => none }
def ParseDeepWrongFalsely : Prop := parseDeepRow.holds Tryd.pinned (OpenSpec.ofChange parseDeepWrong)

/-- 'dotterelkeep.ParseShort': WHATEVER THE INPUT: true; the input reads as it did. -/
def parseShortSpec : ChangeSpec := { name := "parseShort", fn := fun _ => fun
  | [d] => { results := [.lit (.bool true)], args := [d] }
  | _ => none }
def parseShortRow : OpenClaim := { program := "ytngbobnodecloaadoor", sum := "3ba3dbdec3e683425900e83afe48f6ef289c804ddb5719b60f9ad9a27147a5df", func := "dotterel/dotterelkeep.ParseShort", spec := "parseShort", inPlace := ["internal/bytealg.IndexByteString"], unfollowed := true, recurses := true, named := ["dotterel/lex.marks", "dotterel/parse.kept", "dotterel/parse.relations", "dotterel/parse.comparisons"], apart := false, laid := [("dotterel/lex.marks", laid_dotterel_lex_marks), ("dotterel/parse.kept", laid_dotterel_parse_kept), ("dotterel/parse.relations", laid_dotterel_parse_relations), ("dotterel/parse.comparisons", laid_dotterel_parse_comparisons)] }
def ParseShortSaid : Prop := parseShortRow.holds Tryd.pinned (OpenSpec.ofChange parseShortSpec)

/-- ITS FALSE NEIGHBOUR: 'it returns false'. Refute it at one input. -/
def parseShortWrong : ChangeSpec := { name := "parseShort", fn := fun _ => fun
  | [d] => { results := [.lit (.bool false)], args := [d] }
  | _ => none }
def ParseShortWrongFalsely : Prop := parseShortRow.holds Tryd.pinned (OpenSpec.ofChange parseShortWrong)

/- THE SECOND FORM. 'bulk': how many values and letters a reading holds, each counted each time it is reached (what is shared counts as often as it is met; a slice's spare places count too). A statement '..UptoSaid' is the law's where the arguments, and the package variables that the reading takes, are together of bulk at most 1048576: NARROWER than '..Said'. Prove '..Said' where nothing that the law and all that it calls make is longer than what came in: it says more and counts as full. Else prove '..UptoSaid'. A law counts once. -/
mutual
def uptoBulk {H : Type} : DataW H → Nat
  | .lit (.string bytes) => bytes.length + 1
  | .lit _ => 1
  | .nil => 1
  | .ptr d => uptoBulk d + 1
  | .slice elems spare => uptoBulkAll elems + uptoBulkAll spare + 1
  | .agg parts => uptoBulkAll parts + 1
  | .iface _ d => uptoBulk d + 1
  | .map entries => uptoBulkEntries entries + 1
  | .held _ => 1
def uptoBulkAll {H : Type} : List (DataW H) → Nat
  | [] => 0
  | d :: r => uptoBulk d + uptoBulkAll r
def uptoBulkEntries {H : Type} : List (Lit × DataW H) → Nat
  | [] => 0
  | x :: r => uptoBulkEntry x + uptoBulkEntries r
def uptoBulkEntry {H : Type} : Lit × DataW H → Nat
  | (.string bytes, d) => bytes.length + uptoBulk d + 1
  | (_, d) => uptoBulk d + 1
 end
def uptoSmall : (H : Type) → List (DataW H) → Bool := fun _ ds => decide (uptoBulkAll ds ≤ 1048576)
def OpenSpec.upto (s : _root_.Go.ChangeSpec) : _root_.Go.OpenSpec := { _root_.Go.OpenSpec.ofChange s with cond := some uptoSmall }

/-- 'dotterellaw.ParseKept', WHERE WHAT IT READS IS OF BULK AT MOST 1048576: true; the input reads as it did. -/
def parseKeptUptoRow : OpenClaim := { program := "ytngbobnodecloaadoor", sum := "3ba3dbdec3e683425900e83afe48f6ef289c804ddb5719b60f9ad9a27147a5df", func := "dotterel/dotterellaw.ParseKept", spec := "parseKept", named := ["dotterel/parse.kept", "dotterel/parse.relations"], apart := false, laid := [("dotterel/parse.kept", laid_dotterel_parse_kept), ("dotterel/parse.relations", laid_dotterel_parse_relations)], narrowed := true }
def ParseKeptUptoSaid : Prop := parseKeptUptoRow.holds Tryd.pinned (OpenSpec.upto parseKeptSpec)

/-- 'dotterellaw.ParseParses', WHERE WHAT IT READS IS OF BULK AT MOST 1048576: true; the input reads as it did. -/
def parseParsesUptoRow : OpenClaim := { program := "ytngbobnodecloaadoor", sum := "3ba3dbdec3e683425900e83afe48f6ef289c804ddb5719b60f9ad9a27147a5df", func := "dotterel/dotterellaw.ParseParses", spec := "parseParses", inPlace := ["internal/bytealg.IndexByteString"], unfollowed := true, recurses := true, named := ["dotterel/lex.marks", "dotterel/parse.kept", "dotterel/parse.relations", "dotterel/parse.comparisons"], apart := false, laid := [("dotterel/lex.marks", laid_dotterel_lex_marks), ("dotterel/parse.kept", laid_dotterel_parse_kept), ("dotterel/parse.relations", laid_dotterel_parse_relations), ("dotterel/parse.comparisons", laid_dotterel_parse_comparisons)], narrowed := true }
def ParseParsesUptoSaid : Prop := parseParsesUptoRow.holds Tryd.pinned (OpenSpec.upto parseParsesSpec)

/-- 'dotterelkeep.KeptAll', WHERE WHAT IT READS IS OF BULK AT MOST 1048576: true; the input reads as it did. -/
def keptAllUptoRow : OpenClaim := { program := "ytngbobnodecloaadoor", sum := "3ba3dbdec3e683425900e83afe48f6ef289c804ddb5719b60f9ad9a27147a5df", func := "dotterel/dotterelkeep.KeptAll", spec := "keptAll", named := ["dotterel/parse.kept", "dotterel/parse.relations"], apart := false, laid := [("dotterel/parse.kept", laid_dotterel_parse_kept), ("dotterel/parse.relations", laid_dotterel_parse_relations)], narrowed := true }
def KeptAllUptoSaid : Prop := keptAllUptoRow.holds Tryd.pinned (OpenSpec.upto keptAllSpec)

/-- 'dotterelkeep.ParseBinds', WHERE WHAT IT READS IS OF BULK AT MOST 1048576: true; the input reads as it did. -/
def parseBindsUptoRow : OpenClaim := { program := "ytngbobnodecloaadoor", sum := "3ba3dbdec3e683425900e83afe48f6ef289c804ddb5719b60f9ad9a27147a5df", func := "dotterel/dotterelkeep.ParseBinds", spec := "parseBinds", inPlace := ["internal/bytealg.IndexByteString"], unfollowed := true, recurses := true, named := ["dotterel/lex.marks", "dotterel/parse.kept", "dotterel/parse.relations", "dotterel/parse.comparisons"], apart := false, laid := [("dotterel/lex.marks", laid_dotterel_lex_marks), ("dotterel/parse.kept", laid_dotterel_parse_kept), ("dotterel/parse.relations", laid_dotterel_parse_relations), ("dotterel/parse.comparisons", laid_dotterel_parse_comparisons)], narrowed := true }
def ParseBindsUptoSaid : Prop := parseBindsUptoRow.holds Tryd.pinned (OpenSpec.upto parseBindsSpec)

/-- 'dotterelkeep.ParseDeep', WHERE WHAT IT READS IS OF BULK AT MOST 1048576: true; the input reads as it did. -/
def parseDeepUptoRow : OpenClaim := { program := "ytngbobnodecloaadoor", sum := "3ba3dbdec3e683425900e83afe48f6ef289c804ddb5719b60f9ad9a27147a5df", func := "dotterel/dotterelkeep.ParseDeep", spec := "parseDeep", inPlace := ["internal/bytealg.IndexByteString"], unfollowed := true, recurses := true, named := ["dotterel/lex.marks", "dotterel/parse.kept", "dotterel/parse.relations", "dotterel/parse.comparisons"], apart := false, laid := [("dotterel/lex.marks", laid_dotterel_lex_marks), ("dotterel/parse.kept", laid_dotterel_parse_kept), ("dotterel/parse.relations", laid_dotterel_parse_relations), ("dotterel/parse.comparisons", laid_dotterel_parse_comparisons)], narrowed := true }
def ParseDeepUptoSaid : Prop := parseDeepUptoRow.holds Tryd.pinned (OpenSpec.upto parseDeepSpec)

/-- 'dotterelkeep.ParseShort', WHERE WHAT IT READS IS OF BULK AT MOST 1048576: true; the input reads as it did. -/
def parseShortUptoRow : OpenClaim := { program := "ytngbobnodecloaadoor", sum := "3ba3dbdec3e683425900e83afe48f6ef289c804ddb5719b60f9ad9a27147a5df", func := "dotterel/dotterelkeep.ParseShort", spec := "parseShort", inPlace := ["internal/bytealg.IndexByteString"], unfollowed := true, recurses := true, named := ["dotterel/lex.marks", "dotterel/parse.kept", "dotterel/parse.relations", "dotterel/parse.comparisons"], apart := false, laid := [("dotterel/lex.marks", laid_dotterel_lex_marks), ("dotterel/parse.kept", laid_dotterel_parse_kept), ("dotterel/parse.relations", laid_dotterel_parse_relations), ("dotterel/parse.comparisons", laid_dotterel_parse_comparisons)], narrowed := true }
def ParseShortUptoSaid : Prop := parseShortUptoRow.holds Tryd.pinned (OpenSpec.upto parseShortSpec)

end Rows
end Go.Proofs.YtngbobnodecloaaDoor
