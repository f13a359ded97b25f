/-
  NARROWER THAN 'FOR EVERY INPUT', by the rows' own cells (each row's printed sentence says how): TickInverts: laid · TickHolds: laid · TickDistances: laid · TickWhich: laid.
  DERIVED. THE GIVEN ROWS OF THIS SEAT. 4 by the template 'for every input the law returns true; each argument reads behind the call as it read before'; 0 by the template 'total and deterministic' (their statements: YtakimdbkkmafnaaDoorTotals.lean).
  GIVEN WITH THE SEED: the statements are not yours to turn. If you find one false, say at which input.
  Laid BY PROGRAM, IN A SANDBOX (cutbox-rows.mjs): the forced cells as the released guide's own fill.sh prints them over the translation de17d94490a4ce6f… (all of the seat's roots in one cut). By AI agents, Wed Nov 11 2026. No macro, syntax, notation, axiom, sorry.
-/
import Derived.Test.YtakimdbkkmafnaaDoorChecked
import GoSem.Claim
import GoSem.ClaimJoined
import GoSem.ClaimMapViews
import Derived.JoinedTies
import Derived.KernelRfl
namespace Go.Proofs.YtakimdbkkmafnaaDoor
/- THE CELL 'sum', in the pinned program and in every row, IS THE sha256 OF THE DUMP (.gsa) THAT YtakimdbkkmafnaaDoorProg.lean LOADS. Nothing in Lean hashes anything: it is a label: what it is worth is what the hold of that sum in a sandbox is worth. -/
noncomputable def Tryd.pinned : Pinned := { name := "ytakimdbkkmafnaadoor", sum := "de17d94490a4ce6fa6b0388e46d16a44a9db840421d05d9954c383c5c7588d5a", checked := Tryd.checked }
namespace Rows
def none {H : Type} : Left H := { results := [], args := [] }

/- WHAT THE LISTED PACKAGE-LEVEL VARIABLES READ AS WHEN THE CALL BEGINS. Each datum BY PROGRAM (the guide's laid-datum.mjs) off the statement by which the dump's own 'gosem.cut.vars' lays the variable. In a bare row this is a premise. The card (YtakimdbkkmafnaaDoorCards.lean) ties it to the program's text. -/
def laid_dotterel_tick_inverses {H : Type} : DataW H := .agg [.lit (.int .i64 0), .lit (.int .i64 2), .lit (.int .i64 1), .lit (.int .i64 4), .lit (.int .i64 3), .lit (.int .i64 6), .lit (.int .i64 5), .lit (.int .i64 8), .lit (.int .i64 7), .lit (.int .i64 10), .lit (.int .i64 9), .lit (.int .i64 12), .lit (.int .i64 11), .lit (.int .i64 13)]

/-- 'dotterellaw.TickInverts': WHATEVER THE INPUT: true; the input reads as it did. -/
def tickInvertsSpec : ChangeSpec := { name := "tickInverts", fn := fun _ => fun
  | [d] => { results := [.lit (.bool true)], args := [d] }
  | _ => none }
def tickInvertsRow : OpenClaim := { program := "ytakimdbkkmafnaadoor", sum := "de17d94490a4ce6fa6b0388e46d16a44a9db840421d05d9954c383c5c7588d5a", func := "dotterel/dotterellaw.TickInverts", spec := "tickInverts", named := ["dotterel/tick.inverses"], apart := false, laid := [("dotterel/tick.inverses", laid_dotterel_tick_inverses)] }
def TickInvertsSaid : Prop := tickInvertsRow.holds Tryd.pinned (OpenSpec.ofChange tickInvertsSpec)

/-- ITS FALSE NEIGHBOUR: 'it returns false'. Refute it at one input. -/
def tickInvertsWrong : ChangeSpec := { name := "tickInverts", fn := fun _ => fun
  | [d] => { results := [.lit (.bool false)], args := [d] }
  | _ => none }
def TickInvertsWrongFalsely : Prop := tickInvertsRow.holds Tryd.pinned (OpenSpec.ofChange tickInvertsWrong)

/-- 'dotterellaw.TickHolds': WHATEVER THE INPUT: true; the input reads as it did. -/
def tickHoldsSpec : ChangeSpec := { name := "tickHolds", fn := fun _ => fun
  | [d1, d2, d3] => { results := [.lit (.bool true)], args := [d1, d2, d3] }
  | _ => none }
def tickHoldsRow : OpenClaim := { program := "ytakimdbkkmafnaadoor", sum := "de17d94490a4ce6fa6b0388e46d16a44a9db840421d05d9954c383c5c7588d5a", func := "dotterel/dotterellaw.TickHolds", spec := "tickHolds", named := ["dotterel/tick.inverses"], apart := false, laid := [("dotterel/tick.inverses", laid_dotterel_tick_inverses)] }
def TickHoldsSaid : Prop := tickHoldsRow.holds Tryd.pinned (OpenSpec.ofChange tickHoldsSpec)

/-- ITS FALSE NEIGHBOUR: 'it returns false'. Refute it at one input. -/
def tickHoldsWrong : ChangeSpec := { name := "tickHolds", fn := fun _ => fun
  | [d1, d2, d3] => { results := [.lit (.bool false)], args := [d1, d2, d3] }
  | _ => none }
def TickHoldsWrongFalsely : Prop := tickHoldsRow.holds Tryd.pinned (OpenSpec.ofChange tickHoldsWrong)

/-- 'dotterellaw.TickDistances': WHATEVER THE INPUT: true; the input reads as it did. -/
def tickDistancesSpec : ChangeSpec := { name := "tickDistances", fn := fun _ => fun
  | [d1, d2, d3] => { results := [.lit (.bool true)], args := [d1, d2, d3] }
  | _ => none }
def tickDistancesRow : OpenClaim := { program := "ytakimdbkkmafnaadoor", sum := "de17d94490a4ce6fa6b0388e46d16a44a9db840421d05d9954c383c5c7588d5a", func := "dotterel/dotterellaw.TickDistances", spec := "tickDistances", named := ["dotterel/tick.inverses"], apart := false, laid := [("dotterel/tick.inverses", laid_dotterel_tick_inverses)] }
def TickDistancesSaid : Prop := tickDistancesRow.holds Tryd.pinned (OpenSpec.ofChange tickDistancesSpec)

/-- ITS FALSE NEIGHBOUR: 'it returns false'. Refute it at one input. -/
def tickDistancesWrong : ChangeSpec := { name := "tickDistances", fn := fun _ => fun
  | [d1, d2, d3] => { results := [.lit (.bool false)], args := [d1, d2, d3] }
  | _ => none }
def TickDistancesWrongFalsely : Prop := tickDistancesRow.holds Tryd.pinned (OpenSpec.ofChange tickDistancesWrong)

/-- 'dotterellaw.TickWhich': WHATEVER THE INPUT: true; the input reads as it did. -/
def tickWhichSpec : ChangeSpec := { name := "tickWhich", fn := fun _ => fun
  | [d1, d2] => { results := [.lit (.bool true)], args := [d1, d2] }
  | _ => none }
def tickWhichRow : OpenClaim := { program := "ytakimdbkkmafnaadoor", sum := "de17d94490a4ce6fa6b0388e46d16a44a9db840421d05d9954c383c5c7588d5a", func := "dotterel/dotterellaw.TickWhich", spec := "tickWhich", named := ["dotterel/tick.inverses"], apart := false, laid := [("dotterel/tick.inverses", laid_dotterel_tick_inverses)] }
def TickWhichSaid : Prop := tickWhichRow.holds Tryd.pinned (OpenSpec.ofChange tickWhichSpec)

/-- ITS FALSE NEIGHBOUR: 'it returns false'. Refute it at one input. -/
def tickWhichWrong : ChangeSpec := { name := "tickWhich", fn := fun _ => fun
  | [d1, d2] => { results := [.lit (.bool false)], args := [d1, d2] }
  | _ => none }
def TickWhichWrongFalsely : Prop := tickWhichRow.holds Tryd.pinned (OpenSpec.ofChange tickWhichWrong)

/- THE SECOND FORM. 'bulk': how many values and letters a reading holds, each counted each time it is reached (what is shared counts as often as it is met; a slice's spare places count too). A statement '..UptoSaid' is the law's where the arguments, and the package variables that the reading takes, are together of bulk at most 1048576: NARROWER than '..Said'. Prove '..Said' where nothing that the law and all that it calls make is longer than what came in: it says more and counts as full. Else prove '..UptoSaid'. A law counts once. -/
mutual
def uptoBulk {H : Type} : DataW H → Nat
  | .lit (.string bytes) => bytes.length + 1
  | .lit _ => 1
  | .nil => 1
  | .ptr d => uptoBulk d + 1
  | .slice elems spare => uptoBulkAll elems + uptoBulkAll spare + 1
  | .agg parts => uptoBulkAll parts + 1
  | .iface _ d => uptoBulk d + 1
  | .map entries => uptoBulkEntries entries + 1
  | .held _ => 1
def uptoBulkAll {H : Type} : List (DataW H) → Nat
  | [] => 0
  | d :: r => uptoBulk d + uptoBulkAll r
def uptoBulkEntries {H : Type} : List (Lit × DataW H) → Nat
  | [] => 0
  | x :: r => uptoBulkEntry x + uptoBulkEntries r
def uptoBulkEntry {H : Type} : Lit × DataW H → Nat
  | (.string bytes, d) => bytes.length + uptoBulk d + 1
  | (_, d) => uptoBulk d + 1
 end
def uptoSmall : (H : Type) → List (DataW H) → Bool := fun _ ds => decide (uptoBulkAll ds ≤ 1048576)
def OpenSpec.upto (s : _root_.Go.ChangeSpec) : _root_.Go.OpenSpec := { _root_.Go.OpenSpec.ofChange s with cond := some uptoSmall }

/-- 'dotterellaw.TickInverts', WHERE WHAT IT READS IS OF BULK AT MOST 1048576: true; the input reads as it did. -/
def tickInvertsUptoRow : OpenClaim := { program := "ytakimdbkkmafnaadoor", sum := "de17d94490a4ce6fa6b0388e46d16a44a9db840421d05d9954c383c5c7588d5a", func := "dotterel/dotterellaw.TickInverts", spec := "tickInverts", named := ["dotterel/tick.inverses"], apart := false, laid := [("dotterel/tick.inverses", laid_dotterel_tick_inverses)], narrowed := true }
def TickInvertsUptoSaid : Prop := tickInvertsUptoRow.holds Tryd.pinned (OpenSpec.upto tickInvertsSpec)

/-- 'dotterellaw.TickHolds', WHERE WHAT IT READS IS OF BULK AT MOST 1048576: true; the input reads as it did. -/
def tickHoldsUptoRow : OpenClaim := { program := "ytakimdbkkmafnaadoor", sum := "de17d94490a4ce6fa6b0388e46d16a44a9db840421d05d9954c383c5c7588d5a", func := "dotterel/dotterellaw.TickHolds", spec := "tickHolds", named := ["dotterel/tick.inverses"], apart := false, laid := [("dotterel/tick.inverses", laid_dotterel_tick_inverses)], narrowed := true }
def TickHoldsUptoSaid : Prop := tickHoldsUptoRow.holds Tryd.pinned (OpenSpec.upto tickHoldsSpec)

/-- 'dotterellaw.TickDistances', WHERE WHAT IT READS IS OF BULK AT MOST 1048576: true; the input reads as it did. -/
def tickDistancesUptoRow : OpenClaim := { program := "ytakimdbkkmafnaadoor", sum := "de17d94490a4ce6fa6b0388e46d16a44a9db840421d05d9954c383c5c7588d5a", func := "dotterel/dotterellaw.TickDistances", spec := "tickDistances", named := ["dotterel/tick.inverses"], apart := false, laid := [("dotterel/tick.inverses", laid_dotterel_tick_inverses)], narrowed := true }
def TickDistancesUptoSaid : Prop := tickDistancesUptoRow.holds Tryd.pinned (OpenSpec.upto tickDistancesSpec)

/-- 'dotterellaw.TickWhich', WHERE WHAT IT READS IS OF BULK AT MOST 1048576: true; the input reads as it did. -/
def tickWhichUptoRow : OpenClaim := { program := "ytakimdbkkmafnaadoor", sum := "de17d94490a4ce6fa6b0388e46d16a44a9db840421d05d9954c383c5c7588d5a", func := "dotterel/dotterellaw.TickWhich", spec := "tickWhich", named := ["dotterel/tick.inverses"], apart := false, laid := [("dotterel/tick.inverses", laid_dotterel_tick_inverses)], narrowed := true }
def TickWhichUptoSaid : Prop := tickWhichUptoRow.holds Tryd.pinned (OpenSpec.upto tickWhichSpec)

end Rows
end Go.Proofs.YtakimdbkkmafnaaDoor
