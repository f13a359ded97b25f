/-
  NARROWER THAN 'FOR EVERY INPUT', by the rows' own cells (each row's printed sentence says how): ParseParses: laid · ParseOptions: laid · CheckChecks: loops, laid.
  DERIVED. THE GIVEN ROWS OF THIS SEAT. 3 by the template 'for every input the law returns true; each argument reads behind the call as it read before'; 0 by the template 'total and deterministic' (their statements: YtggfaglfchepfaaDoorTotals.lean).
  GIVEN WITH THE SEED: the statements are not yours to turn. If you find one false, say at which input.
  Laid BY PROGRAM, IN A SANDBOX (cutbox-rows.mjs): the forced cells as the released guide's own fill.sh prints them over the translation 59d5a983f6eac464… (all of the seat's roots in one cut). By AI agents, Wed Nov 11 2026. No macro, syntax, notation, axiom, sorry.
-/
import Derived.Test.YtggfaglfchepfaaDoorChecked
import GoSem.Claim
import GoSem.ClaimJoined
import GoSem.ClaimMapViews
import Derived.JoinedTies
import Derived.KernelRfl
namespace Go.Proofs.YtggfaglfchepfaaDoor
/- THE CELL 'sum', in the pinned program and in every row, IS THE sha256 OF THE DUMP (.gsa) THAT YtggfaglfchepfaaDoorProg.lean LOADS. Nothing in Lean hashes anything: it is a label: what it is worth is what the hold of that sum in a sandbox is worth. -/
noncomputable def Tryd.pinned : Pinned := { name := "ytggfaglfchepfaadoor", sum := "59d5a983f6eac4647c3e5a409c249ece3d0fb8fdf4710981a83e9287d7f4ea74", checked := Tryd.checked }
namespace Rows
def none {H : Type} : Left H := { results := [], args := [] }

/- WHAT THE LISTED PACKAGE-LEVEL VARIABLES READ AS WHEN THE CALL BEGINS. Each datum BY PROGRAM (the guide's laid-datum.mjs) off the statement by which the dump's own 'gosem.cut.vars' lays the variable. In a bare row this is a premise. The card (YtggfaglfchepfaaDoorCards.lean) ties it to the program's text. -/
def laid_dotterel_lex_marks {H : Type} : DataW H := .agg [.lit (.string [60, 61]), .lit (.string [62, 61]), .lit (.string [47, 61]), .lit (.string [123]), .lit (.string [125]), .lit (.string [91]), .lit (.string [93]), .lit (.string [40]), .lit (.string [41]), .lit (.string [58]), .lit (.string [59]), .lit (.string [44]), .lit (.string [46]), .lit (.string [61]), .lit (.string [60]), .lit (.string [62]), .lit (.string [45])]
def laid_dotterel_parse_kept {H : Type} : DataW H := .agg [.lit (.string [97, 110, 100]), .lit (.string [97, 110, 121]), .lit (.string [101, 109, 105, 116]), .lit (.string [105, 110, 116]), .lit (.string [108, 97, 115, 116]), .lit (.string [109, 97, 110, 121]), .lit (.string [110, 111, 116]), .lit (.string [111, 102]), .lit (.string [111, 114]), .lit (.string [111, 118, 101, 114]), .lit (.string [114, 117, 108, 101]), .lit (.string [116, 101, 120, 116]), .lit (.string [116, 105, 109, 101]), .lit (.string [116, 121, 112, 101]), .lit (.string [119, 104, 101, 110]), .lit (.string [119, 104, 101, 114, 101]), .lit (.string [119, 105, 116, 104, 105, 110])]
def laid_dotterel_parse_relations {H : Type} : DataW H := .agg [.lit (.string [98, 101, 102, 111, 114, 101]), .lit (.string [97, 102, 116, 101, 114]), .lit (.string [109, 101, 101, 116, 115]), .lit (.string [109, 101, 116, 98, 121]), .lit (.string [111, 118, 101, 114, 108, 97, 112, 115]), .lit (.string [111, 118, 101, 114, 108, 97, 112, 112, 101, 100]), .lit (.string [115, 116, 97, 114, 116, 115]), .lit (.string [115, 116, 97, 114, 116, 101, 100, 98, 121]), .lit (.string [100, 117, 114, 105, 110, 103]), .lit (.string [99, 111, 110, 116, 97, 105, 110, 115]), .lit (.string [102, 105, 110, 105, 115, 104, 101, 115]), .lit (.string [102, 105, 110, 105, 115, 104, 101, 100, 98, 121]), .lit (.string [101, 113, 117, 97, 108, 115])]
def laid_dotterel_parse_comparisons {H : Type} : DataW H := .agg [.agg [.lit (.string [61]), .lit (.int .i64 4), .lit (.bool false)], .agg [.lit (.string [47, 61]), .lit (.int .i64 5), .lit (.bool false)], .agg [.lit (.string [60]), .lit (.int .i64 6), .lit (.bool false)], .agg [.lit (.string [60, 61]), .lit (.int .i64 7), .lit (.bool false)], .agg [.lit (.string [62]), .lit (.int .i64 6), .lit (.bool true)], .agg [.lit (.string [62, 61]), .lit (.int .i64 7), .lit (.bool true)]]
def laid_math_bits_deBruijn32tab {H : Type} : DataW H := .agg [.lit (.int .u8 0), .lit (.int .u8 1), .lit (.int .u8 28), .lit (.int .u8 2), .lit (.int .u8 29), .lit (.int .u8 14), .lit (.int .u8 24), .lit (.int .u8 3), .lit (.int .u8 30), .lit (.int .u8 22), .lit (.int .u8 20), .lit (.int .u8 15), .lit (.int .u8 25), .lit (.int .u8 17), .lit (.int .u8 4), .lit (.int .u8 8), .lit (.int .u8 31), .lit (.int .u8 27), .lit (.int .u8 13), .lit (.int .u8 23), .lit (.int .u8 21), .lit (.int .u8 19), .lit (.int .u8 16), .lit (.int .u8 7), .lit (.int .u8 26), .lit (.int .u8 12), .lit (.int .u8 18), .lit (.int .u8 6), .lit (.int .u8 11), .lit (.int .u8 5), .lit (.int .u8 10), .lit (.int .u8 9)]
def laid_math_bits_deBruijn64tab {H : Type} : DataW H := .agg [.lit (.int .u8 0), .lit (.int .u8 1), .lit (.int .u8 56), .lit (.int .u8 2), .lit (.int .u8 57), .lit (.int .u8 49), .lit (.int .u8 28), .lit (.int .u8 3), .lit (.int .u8 61), .lit (.int .u8 58), .lit (.int .u8 42), .lit (.int .u8 50), .lit (.int .u8 38), .lit (.int .u8 29), .lit (.int .u8 17), .lit (.int .u8 4), .lit (.int .u8 62), .lit (.int .u8 47), .lit (.int .u8 59), .lit (.int .u8 36), .lit (.int .u8 45), .lit (.int .u8 43), .lit (.int .u8 51), .lit (.int .u8 22), .lit (.int .u8 53), .lit (.int .u8 39), .lit (.int .u8 33), .lit (.int .u8 30), .lit (.int .u8 24), .lit (.int .u8 18), .lit (.int .u8 12), .lit (.int .u8 5), .lit (.int .u8 63), .lit (.int .u8 55), .lit (.int .u8 48), .lit (.int .u8 27), .lit (.int .u8 60), .lit (.int .u8 41), .lit (.int .u8 37), .lit (.int .u8 16), .lit (.int .u8 46), .lit (.int .u8 35), .lit (.int .u8 44), .lit (.int .u8 21), .lit (.int .u8 52), .lit (.int .u8 32), .lit (.int .u8 23), .lit (.int .u8 11), .lit (.int .u8 54), .lit (.int .u8 26), .lit (.int .u8 40), .lit (.int .u8 15), .lit (.int .u8 34), .lit (.int .u8 20), .lit (.int .u8 31), .lit (.int .u8 10), .lit (.int .u8 25), .lit (.int .u8 14), .lit (.int .u8 19), .lit (.int .u8 9), .lit (.int .u8 13), .lit (.int .u8 8), .lit (.int .u8 7), .lit (.int .u8 6)]
def laid_internal_strconv_uint64pow10 {H : Type} : DataW H := .agg [.lit (.int .u64 1), .lit (.int .u64 10), .lit (.int .u64 100), .lit (.int .u64 1000), .lit (.int .u64 10000), .lit (.int .u64 100000), .lit (.int .u64 1000000), .lit (.int .u64 10000000), .lit (.int .u64 100000000), .lit (.int .u64 1000000000), .lit (.int .u64 10000000000), .lit (.int .u64 100000000000), .lit (.int .u64 1000000000000), .lit (.int .u64 10000000000000), .lit (.int .u64 100000000000000), .lit (.int .u64 1000000000000000), .lit (.int .u64 10000000000000000), .lit (.int .u64 100000000000000000), .lit (.int .u64 1000000000000000000), .lit (.int .u64 10000000000000000000)]

/-- 'dotterellaw.ParseParses': WHATEVER THE INPUT: true; the input reads as it did. -/
def parseParsesSpec : ChangeSpec := { name := "parseParses", fn := fun _ => fun
  | [d] => { results := [.lit (.bool true)], args := [d] }
  | _ => none }
def parseParsesRow : OpenClaim := { program := "ytggfaglfchepfaadoor", sum := "59d5a983f6eac4647c3e5a409c249ece3d0fb8fdf4710981a83e9287d7f4ea74", func := "dotterel/dotterellaw.ParseParses", spec := "parseParses", inPlace := ["internal/bytealg.IndexByteString"], unfollowed := true, recurses := true, named := ["dotterel/lex.marks", "dotterel/parse.kept", "dotterel/parse.relations", "dotterel/parse.comparisons"], apart := false, laid := [("dotterel/lex.marks", laid_dotterel_lex_marks), ("dotterel/parse.kept", laid_dotterel_parse_kept), ("dotterel/parse.relations", laid_dotterel_parse_relations), ("dotterel/parse.comparisons", laid_dotterel_parse_comparisons)] }
def ParseParsesSaid : Prop := parseParsesRow.holds Tryd.pinned (OpenSpec.ofChange parseParsesSpec)

/-- ITS FALSE NEIGHBOUR: 'it returns false'. Refute it at one input. -/
def parseParsesWrong : ChangeSpec := { name := "parseParses", fn := fun _ => fun
  | [d] => { results := [.lit (.bool false)], args := [d] }
  | _ => none }
def ParseParsesWrongFalsely : Prop := parseParsesRow.holds Tryd.pinned (OpenSpec.ofChange parseParsesWrong)

/-- 'dotterelkeep.ParseOptions': WHATEVER THE INPUT: true; the input reads as it did. -/
def parseOptionsSpec : ChangeSpec := { name := "parseOptions", fn := fun _ => fun
  | [d1, d2, d3] => { results := [.lit (.bool true)], args := [d1, d2, d3] }
  | _ => none }
def parseOptionsRow : OpenClaim := { program := "ytggfaglfchepfaadoor", sum := "59d5a983f6eac4647c3e5a409c249ece3d0fb8fdf4710981a83e9287d7f4ea74", func := "dotterel/dotterelkeep.ParseOptions", spec := "parseOptions", inPlace := ["internal/bytealg.IndexByteString", "internal/abi.NoEscape"], unfollowed := true, recurses := true, named := ["dotterel/lex.marks", "internal/strconv.uint64pow10", "math/bits.deBruijn32tab", "math/bits.deBruijn64tab", "dotterel/parse.kept", "dotterel/parse.relations", "dotterel/parse.comparisons"], apart := false, laid := [("math/bits.deBruijn32tab", laid_math_bits_deBruijn32tab), ("math/bits.deBruijn64tab", laid_math_bits_deBruijn64tab), ("internal/strconv.uint64pow10", laid_internal_strconv_uint64pow10), ("dotterel/lex.marks", laid_dotterel_lex_marks), ("dotterel/parse.kept", laid_dotterel_parse_kept), ("dotterel/parse.relations", laid_dotterel_parse_relations), ("dotterel/parse.comparisons", laid_dotterel_parse_comparisons)] }
def ParseOptionsSaid : Prop := parseOptionsRow.holds Tryd.pinned (OpenSpec.ofChange parseOptionsSpec)

/-- ITS FALSE NEIGHBOUR: 'it returns false'. Refute it at one input. -/
def parseOptionsWrong : ChangeSpec := { name := "parseOptions", fn := fun _ => fun
  | [d1, d2, d3] => { results := [.lit (.bool false)], args := [d1, d2, d3] }
  | _ => none }
def ParseOptionsWrongFalsely : Prop := parseOptionsRow.holds Tryd.pinned (OpenSpec.ofChange parseOptionsWrong)

/-- 'dotterellaw.CheckChecks': WHATEVER THE INPUT: true; the input reads as it did. -/
def checkChecksSpec : ChangeSpec := { name := "checkChecks", fn := fun _ => fun
  | [d] => { results := [.lit (.bool true)], args := [d] }
  | _ => none }
def checkChecksRow : OpenClaim := { program := "ytggfaglfchepfaadoor", sum := "59d5a983f6eac4647c3e5a409c249ece3d0fb8fdf4710981a83e9287d7f4ea74", func := "dotterel/dotterellaw.CheckChecks", spec := "checkChecks", unfollowed := true, recurses := true, named := ["dotterel/parse.kept", "dotterel/parse.relations"], loops := true, apart := false, laid := [("dotterel/parse.kept", laid_dotterel_parse_kept), ("dotterel/parse.relations", laid_dotterel_parse_relations)] }
def CheckChecksSaid : Prop := checkChecksRow.holds Tryd.pinned (OpenSpec.ofChange checkChecksSpec)

/-- ITS FALSE NEIGHBOUR: 'it returns false'. Refute it at one input. -/
def checkChecksWrong : ChangeSpec := { name := "checkChecks", fn := fun _ => fun
  | [d] => { results := [.lit (.bool false)], args := [d] }
  | _ => none }
def CheckChecksWrongFalsely : Prop := checkChecksRow.holds Tryd.pinned (OpenSpec.ofChange checkChecksWrong)

/- THE SECOND FORM. 'bulk': how many values and letters a reading holds, each counted each time it is reached (what is shared counts as often as it is met; a slice's spare places count too). A statement '..UptoSaid' is the law's where the arguments, and the package variables that the reading takes, are together of bulk at most 1048576: NARROWER than '..Said'. Prove '..Said' where nothing that the law and all that it calls make is longer than what came in: it says more and counts as full. Else prove '..UptoSaid'. A law counts once. -/
mutual
def uptoBulk {H : Type} : DataW H → Nat
  | .lit (.string bytes) => bytes.length + 1
  | .lit _ => 1
  | .nil => 1
  | .ptr d => uptoBulk d + 1
  | .slice elems spare => uptoBulkAll elems + uptoBulkAll spare + 1
  | .agg parts => uptoBulkAll parts + 1
  | .iface _ d => uptoBulk d + 1
  | .map entries => uptoBulkEntries entries + 1
  | .held _ => 1
def uptoBulkAll {H : Type} : List (DataW H) → Nat
  | [] => 0
  | d :: r => uptoBulk d + uptoBulkAll r
def uptoBulkEntries {H : Type} : List (Lit × DataW H) → Nat
  | [] => 0
  | x :: r => uptoBulkEntry x + uptoBulkEntries r
def uptoBulkEntry {H : Type} : Lit × DataW H → Nat
  | (.string bytes, d) => bytes.length + uptoBulk d + 1
  | (_, d) => uptoBulk d + 1
 end
def uptoSmall : (H : Type) → List (DataW H) → Bool := fun _ ds => decide (uptoBulkAll ds ≤ 1048576)
def OpenSpec.upto (s : _root_.Go.ChangeSpec) : _root_.Go.OpenSpec := { _root_.Go.OpenSpec.ofChange s with cond := some uptoSmall }

/-- 'dotterellaw.ParseParses', WHERE WHAT IT READS IS OF BULK AT MOST 1048576: true; the input reads as it did. -/
def parseParsesUptoRow : OpenClaim := { program := "ytggfaglfchepfaadoor", sum := "59d5a983f6eac4647c3e5a409c249ece3d0fb8fdf4710981a83e9287d7f4ea74", func := "dotterel/dotterellaw.ParseParses", spec := "parseParses", inPlace := ["internal/bytealg.IndexByteString"], unfollowed := true, recurses := true, named := ["dotterel/lex.marks", "dotterel/parse.kept", "dotterel/parse.relations", "dotterel/parse.comparisons"], apart := false, laid := [("dotterel/lex.marks", laid_dotterel_lex_marks), ("dotterel/parse.kept", laid_dotterel_parse_kept), ("dotterel/parse.relations", laid_dotterel_parse_relations), ("dotterel/parse.comparisons", laid_dotterel_parse_comparisons)], narrowed := true }
def ParseParsesUptoSaid : Prop := parseParsesUptoRow.holds Tryd.pinned (OpenSpec.upto parseParsesSpec)

/-- 'dotterelkeep.ParseOptions', WHERE WHAT IT READS IS OF BULK AT MOST 1048576: true; the input reads as it did. -/
def parseOptionsUptoRow : OpenClaim := { program := "ytggfaglfchepfaadoor", sum := "59d5a983f6eac4647c3e5a409c249ece3d0fb8fdf4710981a83e9287d7f4ea74", func := "dotterel/dotterelkeep.ParseOptions", spec := "parseOptions", inPlace := ["internal/bytealg.IndexByteString", "internal/abi.NoEscape"], unfollowed := true, recurses := true, named := ["dotterel/lex.marks", "internal/strconv.uint64pow10", "math/bits.deBruijn32tab", "math/bits.deBruijn64tab", "dotterel/parse.kept", "dotterel/parse.relations", "dotterel/parse.comparisons"], apart := false, laid := [("math/bits.deBruijn32tab", laid_math_bits_deBruijn32tab), ("math/bits.deBruijn64tab", laid_math_bits_deBruijn64tab), ("internal/strconv.uint64pow10", laid_internal_strconv_uint64pow10), ("dotterel/lex.marks", laid_dotterel_lex_marks), ("dotterel/parse.kept", laid_dotterel_parse_kept), ("dotterel/parse.relations", laid_dotterel_parse_relations), ("dotterel/parse.comparisons", laid_dotterel_parse_comparisons)], narrowed := true }
def ParseOptionsUptoSaid : Prop := parseOptionsUptoRow.holds Tryd.pinned (OpenSpec.upto parseOptionsSpec)

/-- 'dotterellaw.CheckChecks', WHERE WHAT IT READS IS OF BULK AT MOST 1048576: true; the input reads as it did. -/
def checkChecksUptoRow : OpenClaim := { program := "ytggfaglfchepfaadoor", sum := "59d5a983f6eac4647c3e5a409c249ece3d0fb8fdf4710981a83e9287d7f4ea74", func := "dotterel/dotterellaw.CheckChecks", spec := "checkChecks", unfollowed := true, recurses := true, named := ["dotterel/parse.kept", "dotterel/parse.relations"], loops := true, apart := false, laid := [("dotterel/parse.kept", laid_dotterel_parse_kept), ("dotterel/parse.relations", laid_dotterel_parse_relations)], narrowed := true }
def CheckChecksUptoSaid : Prop := checkChecksUptoRow.holds Tryd.pinned (OpenSpec.upto checkChecksSpec)

end Rows
end Go.Proofs.YtggfaglfchepfaaDoor
