/-
  NARROWER THAN 'FOR EVERY INPUT', by the rows' own cells (each row's printed sentence says how): TakesNot: laid.
  DERIVED. THE GIVEN ROWS OF THIS SEAT. 1 by the template 'for every input the law returns true; each argument reads behind the call as it read before'; 0 by the template 'total and deterministic' (their statements: YtnlmknbhppdliaaDoorTotals.lean).
  GIVEN WITH THE SEED: the statements are not yours to turn. If you find one false, say at which input.
  Laid BY PROGRAM, IN A SANDBOX (cutbox-rows.mjs): the forced cells as the released guide's own fill.sh prints them over the translation 31bc0b8b4cb5dcb0… (all of the seat's roots in one cut). By AI agents, Wed Nov 11 2026. No macro, syntax, notation, axiom, sorry.
-/
import Derived.Test.YtnlmknbhppdliaaDoorChecked
import GoSem.Claim
import GoSem.ClaimJoined
import GoSem.ClaimMapViews
import Derived.JoinedTies
import Derived.KernelRfl
namespace Go.Proofs.YtnlmknbhppdliaaDoor
/- THE CELL 'sum', in the pinned program and in every row, IS THE sha256 OF THE DUMP (.gsa) THAT YtnlmknbhppdliaaDoorProg.lean LOADS. Nothing in Lean hashes anything: it is a label: what it is worth is what the hold of that sum in a sandbox is worth. -/
noncomputable def Tryd.pinned : Pinned := { name := "ytnlmknbhppdliaadoor", sum := "31bc0b8b4cb5dcb042a4c8ee6fe71fdc91884a19d123361e900f2432e1149604", checked := Tryd.checked }
namespace Rows
def none {H : Type} : Left H := { results := [], args := [] }

/- WHAT THE LISTED PACKAGE-LEVEL VARIABLES READ AS WHEN THE CALL BEGINS. Each datum BY PROGRAM (the guide's laid-datum.mjs) off the statement by which the dump's own 'gosem.cut.vars' lays the variable. In a bare row this is a premise. The card (YtnlmknbhppdliaaDoorCards.lean) ties it to the program's text. -/
def laid_dotterel_parse_kept {H : Type} : DataW H := .agg [.lit (.string [97, 110, 100]), .lit (.string [97, 110, 121]), .lit (.string [101, 109, 105, 116]), .lit (.string [105, 110, 116]), .lit (.string [108, 97, 115, 116]), .lit (.string [109, 97, 110, 121]), .lit (.string [110, 111, 116]), .lit (.string [111, 102]), .lit (.string [111, 114]), .lit (.string [111, 118, 101, 114]), .lit (.string [114, 117, 108, 101]), .lit (.string [116, 101, 120, 116]), .lit (.string [116, 105, 109, 101]), .lit (.string [116, 121, 112, 101]), .lit (.string [119, 104, 101, 110]), .lit (.string [119, 104, 101, 114, 101]), .lit (.string [119, 105, 116, 104, 105, 110])]
def laid_dotterel_parse_relations {H : Type} : DataW H := .agg [.lit (.string [98, 101, 102, 111, 114, 101]), .lit (.string [97, 102, 116, 101, 114]), .lit (.string [109, 101, 101, 116, 115]), .lit (.string [109, 101, 116, 98, 121]), .lit (.string [111, 118, 101, 114, 108, 97, 112, 115]), .lit (.string [111, 118, 101, 114, 108, 97, 112, 112, 101, 100]), .lit (.string [115, 116, 97, 114, 116, 115]), .lit (.string [115, 116, 97, 114, 116, 101, 100, 98, 121]), .lit (.string [100, 117, 114, 105, 110, 103]), .lit (.string [99, 111, 110, 116, 97, 105, 110, 115]), .lit (.string [102, 105, 110, 105, 115, 104, 101, 115]), .lit (.string [102, 105, 110, 105, 115, 104, 101, 100, 98, 121]), .lit (.string [101, 113, 117, 97, 108, 115])]

/-- 'dotterelkeep.TakesNot': WHATEVER THE INPUT: true; the input reads as it did. -/
def takesNotSpec : ChangeSpec := { name := "takesNot", fn := fun _ => fun
  | [d1, d2] => { results := [.lit (.bool true)], args := [d1, d2] }
  | _ => none }
def takesNotRow : OpenClaim := { program := "ytnlmknbhppdliaadoor", sum := "31bc0b8b4cb5dcb042a4c8ee6fe71fdc91884a19d123361e900f2432e1149604", func := "dotterel/dotterelkeep.TakesNot", spec := "takesNot", inPlace := ["internal/bytealg.abigen_runtime_cmpstring"], unfollowed := true, recurses := true, named := ["dotterel/parse.kept", "dotterel/parse.relations"], apart := false, laid := [("dotterel/parse.kept", laid_dotterel_parse_kept), ("dotterel/parse.relations", laid_dotterel_parse_relations)] }
def TakesNotSaid : Prop := takesNotRow.holds Tryd.pinned (OpenSpec.ofChange takesNotSpec)

/-- ITS FALSE NEIGHBOUR: 'it returns false'. Refute it at one input. -/
def takesNotWrong : ChangeSpec := { name := "takesNot", fn := fun _ => fun
  | [d1, d2] => { results := [.lit (.bool false)], args := [d1, d2] }
  | _ => none }
def TakesNotWrongFalsely : Prop := takesNotRow.holds Tryd.pinned (OpenSpec.ofChange takesNotWrong)

/- THE SECOND FORM. 'bulk': how many values and letters a reading holds, each counted each time it is reached (what is shared counts as often as it is met; a slice's spare places count too). A statement '..UptoSaid' is the law's where the arguments, and the package variables that the reading takes, are together of bulk at most 1048576: NARROWER than '..Said'. Prove '..Said' where nothing that the law and all that it calls make is longer than what came in: it says more and counts as full. Else prove '..UptoSaid'. A law counts once. -/
mutual
def uptoBulk {H : Type} : DataW H → Nat
  | .lit (.string bytes) => bytes.length + 1
  | .lit _ => 1
  | .nil => 1
  | .ptr d => uptoBulk d + 1
  | .slice elems spare => uptoBulkAll elems + uptoBulkAll spare + 1
  | .agg parts => uptoBulkAll parts + 1
  | .iface _ d => uptoBulk d + 1
  | .map entries => uptoBulkEntries entries + 1
  | .held _ => 1
def uptoBulkAll {H : Type} : List (DataW H) → Nat
  | [] => 0
  | d :: r => uptoBulk d + uptoBulkAll r
def uptoBulkEntries {H : Type} : List (Lit × DataW H) → Nat
  | [] => 0
  | x :: r => uptoBulkEntry x + uptoBulkEntries r
def uptoBulkEntry {H : Type} : Lit × DataW H → Nat
  | (.string bytes, d) => bytes.length + uptoBulk d + 1
  | (_, d) => uptoBulk d + 1
 end
def uptoSmall : (H : Type) → List (DataW H) → Bool := fun _ ds => decide (uptoBulkAll ds ≤ 1048576)
def OpenSpec.upto (s : _root_.Go.ChangeSpec) : _root_.Go.OpenSpec := { _root_.Go.OpenSpec.ofChange s with cond := some uptoSmall }

/-- 'dotterelkeep.TakesNot', WHERE WHAT IT READS IS OF BULK AT MOST 1048576: true; the input reads as it did. -/
def takesNotUptoRow : OpenClaim := { program := "ytnlmknbhppdliaadoor", sum := "31bc0b8b4cb5dcb042a4c8ee6fe71fdc91884a19d123361e900f2432e1149604", func := "dotterel/dotterelkeep.TakesNot", spec := "takesNot", inPlace := ["internal/bytealg.abigen_runtime_cmpstring"], unfollowed := true, recurses := true, named := ["dotterel/parse.kept", "dotterel/parse.relations"], apart := false, laid := [("dotterel/parse.kept", laid_dotterel_parse_kept), ("dotterel/parse.relations", laid_dotterel_parse_relations)], narrowed := true }
def TakesNotUptoSaid : Prop := takesNotUptoRow.holds Tryd.pinned (OpenSpec.upto takesNotSpec)

end Rows
end Go.Proofs.YtnlmknbhppdliaaDoor
