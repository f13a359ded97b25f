/-
  No cell of these rows narrows 'for every input' (looked for: loops, veiled, ifaces, maps, wideKeys, modest, calm, conditions, laid).
  DERIVED. THE GIVEN ROWS OF THIS SEAT. 6 by the template 'for every input the law returns true; each argument reads behind the call as it read before'; 0 by the template 'total and deterministic' (their statements: YthenkpeibkpmkabTotals.lean).
  GIVEN WITH THE SEED: the statements are not yours to turn. If you find one false, say at which input.
  Laid BY PROGRAM, IN A SANDBOX (cutbox-rows.mjs): the forced cells as the released guide's own fill.sh prints them over the translation b32f908e4114f62d… (all of the seat's roots in one cut). By AI agents, Wed Nov 11 2026. No macro, syntax, notation, axiom, sorry.
-/
import Derived.Test.YthenkpeibkpmkabChecked
import GoSem.Claim
import GoSem.ClaimJoined
import GoSem.ClaimMapViews
import Derived.JoinedTies
import Derived.KernelRfl
namespace Go.Proofs.Ythenkpeibkpmkab
/- THE CELL 'sum', in the pinned program and in every row, IS THE sha256 OF THE DUMP (.gsa) THAT YthenkpeibkpmkabProg.lean LOADS. Nothing in Lean hashes anything: it is a label: what it is worth is what the hold of that sum in a sandbox is worth. -/
noncomputable def Try.pinned : Pinned := { name := "ythenkpeibkpmkab", sum := "b32f908e4114f62d7f01e135f78ae356a2a59e8d042a669b44208bf2da17397e", checked := Try.checked }
namespace Rows
def none {H : Type} : Left H := { results := [], args := [] }

/-- 'dotterellaw.ValueEvents': WHATEVER THE INPUT: true; the input reads as it did. -/
def valueEventsSpec : ChangeSpec := { name := "valueEvents", fn := fun _ => fun
  | [d1, d2] => { results := [.lit (.bool true)], args := [d1, d2] }
  | _ => none }
def valueEventsRow : OpenClaim := { program := "ythenkpeibkpmkab", sum := "b32f908e4114f62d7f01e135f78ae356a2a59e8d042a669b44208bf2da17397e", func := "dotterel/dotterellaw.ValueEvents", spec := "valueEvents", apart := false }
def ValueEventsSaid : Prop := valueEventsRow.holds Try.pinned (OpenSpec.ofChange valueEventsSpec)

/-- ITS FALSE NEIGHBOUR: 'it returns false'. Refute it at one input. -/
def valueEventsWrong : ChangeSpec := { name := "valueEvents", fn := fun _ => fun
  | [d1, d2] => { results := [.lit (.bool false)], args := [d1, d2] }
  | _ => none }
def ValueEventsWrongFalsely : Prop := valueEventsRow.holds Try.pinned (OpenSpec.ofChange valueEventsWrong)

/-- 'dotterelkeep.CompareOrder': WHATEVER THE INPUT: true; the input reads as it did. -/
def compareOrderSpec : ChangeSpec := { name := "compareOrder", fn := fun _ => fun
  | [d1, d2, d3, d4, d5, d6, d7] => { results := [.lit (.bool true)], args := [d1, d2, d3, d4, d5, d6, d7] }
  | _ => none }
def compareOrderRow : OpenClaim := { program := "ythenkpeibkpmkab", sum := "b32f908e4114f62d7f01e135f78ae356a2a59e8d042a669b44208bf2da17397e", func := "dotterel/dotterelkeep.CompareOrder", spec := "compareOrder", inPlace := ["internal/bytealg.abigen_runtime_cmpstring"], apart := false }
def CompareOrderSaid : Prop := compareOrderRow.holds Try.pinned (OpenSpec.ofChange compareOrderSpec)

/-- ITS FALSE NEIGHBOUR: 'it returns false'. Refute it at one input. -/
def compareOrderWrong : ChangeSpec := { name := "compareOrder", fn := fun _ => fun
  | [d1, d2, d3, d4, d5, d6, d7] => { results := [.lit (.bool false)], args := [d1, d2, d3, d4, d5, d6, d7] }
  | _ => none }
def CompareOrderWrongFalsely : Prop := compareOrderRow.holds Try.pinned (OpenSpec.ofChange compareOrderWrong)

/-- 'dotterelkeep.NameSize': WHATEVER THE INPUT: true; the input reads as it did. -/
def nameSizeSpec : ChangeSpec := { name := "nameSize", fn := fun _ => fun
  | [d1, d2] => { results := [.lit (.bool true)], args := [d1, d2] }
  | _ => none }
def nameSizeRow : OpenClaim := { program := "ythenkpeibkpmkab", sum := "b32f908e4114f62d7f01e135f78ae356a2a59e8d042a669b44208bf2da17397e", func := "dotterel/dotterelkeep.NameSize", spec := "nameSize", apart := false }
def NameSizeSaid : Prop := nameSizeRow.holds Try.pinned (OpenSpec.ofChange nameSizeSpec)

/-- ITS FALSE NEIGHBOUR: 'it returns false'. Refute it at one input. -/
def nameSizeWrong : ChangeSpec := { name := "nameSize", fn := fun _ => fun
  | [d1, d2] => { results := [.lit (.bool false)], args := [d1, d2] }
  | _ => none }
def NameSizeWrongFalsely : Prop := nameSizeRow.holds Try.pinned (OpenSpec.ofChange nameSizeWrong)

/-- 'dotterelkeep.FitKinds': WHATEVER THE INPUT: true; the input reads as it did. -/
def fitKindsSpec : ChangeSpec := { name := "fitKinds", fn := fun _ => fun
  | [d1, d2] => { results := [.lit (.bool true)], args := [d1, d2] }
  | _ => none }
def fitKindsRow : OpenClaim := { program := "ythenkpeibkpmkab", sum := "b32f908e4114f62d7f01e135f78ae356a2a59e8d042a669b44208bf2da17397e", func := "dotterel/dotterelkeep.FitKinds", spec := "fitKinds", apart := false }
def FitKindsSaid : Prop := fitKindsRow.holds Try.pinned (OpenSpec.ofChange fitKindsSpec)

/-- ITS FALSE NEIGHBOUR: 'it returns false'. Refute it at one input. -/
def fitKindsWrong : ChangeSpec := { name := "fitKinds", fn := fun _ => fun
  | [d1, d2] => { results := [.lit (.bool false)], args := [d1, d2] }
  | _ => none }
def FitKindsWrongFalsely : Prop := fitKindsRow.holds Try.pinned (OpenSpec.ofChange fitKindsWrong)

/-- 'dotterelkeep.FieldTold': WHATEVER THE INPUT: true; the input reads as it did. -/
def fieldToldSpec : ChangeSpec := { name := "fieldTold", fn := fun _ => fun
  | [d1, d2] => { results := [.lit (.bool true)], args := [d1, d2] }
  | _ => none }
def fieldToldRow : OpenClaim := { program := "ythenkpeibkpmkab", sum := "b32f908e4114f62d7f01e135f78ae356a2a59e8d042a669b44208bf2da17397e", func := "dotterel/dotterelkeep.FieldTold", spec := "fieldTold", apart := false }
def FieldToldSaid : Prop := fieldToldRow.holds Try.pinned (OpenSpec.ofChange fieldToldSpec)

/-- ITS FALSE NEIGHBOUR: 'it returns false'. Refute it at one input. -/
def fieldToldWrong : ChangeSpec := { name := "fieldTold", fn := fun _ => fun
  | [d1, d2] => { results := [.lit (.bool false)], args := [d1, d2] }
  | _ => none }
def FieldToldWrongFalsely : Prop := fieldToldRow.holds Try.pinned (OpenSpec.ofChange fieldToldWrong)

/-- 'dotterelkeep.EventBad': WHATEVER THE INPUT: true; the input reads as it did. -/
def eventBadSpec : ChangeSpec := { name := "eventBad", fn := fun _ => fun
  | [d1, d2] => { results := [.lit (.bool true)], args := [d1, d2] }
  | _ => none }
def eventBadRow : OpenClaim := { program := "ythenkpeibkpmkab", sum := "b32f908e4114f62d7f01e135f78ae356a2a59e8d042a669b44208bf2da17397e", func := "dotterel/dotterelkeep.EventBad", spec := "eventBad", apart := false }
def EventBadSaid : Prop := eventBadRow.holds Try.pinned (OpenSpec.ofChange eventBadSpec)

/-- ITS FALSE NEIGHBOUR: 'it returns false'. Refute it at one input. -/
def eventBadWrong : ChangeSpec := { name := "eventBad", fn := fun _ => fun
  | [d1, d2] => { results := [.lit (.bool false)], args := [d1, d2] }
  | _ => none }
def EventBadWrongFalsely : Prop := eventBadRow.holds Try.pinned (OpenSpec.ofChange eventBadWrong)

/- THE SECOND FORM. 'bulk': how many values and letters a reading holds, each counted each time it is reached (what is shared counts as often as it is met; a slice's spare places count too). A statement '..UptoSaid' is the law's where the arguments, and the package variables that the reading takes, are together of bulk at most 1048576: NARROWER than '..Said'. Prove '..Said' where nothing that the law and all that it calls make is longer than what came in: it says more and counts as full. Else prove '..UptoSaid'. A law counts once. -/
mutual
def uptoBulk {H : Type} : DataW H → Nat
  | .lit (.string bytes) => bytes.length + 1
  | .lit _ => 1
  | .nil => 1
  | .ptr d => uptoBulk d + 1
  | .slice elems spare => uptoBulkAll elems + uptoBulkAll spare + 1
  | .agg parts => uptoBulkAll parts + 1
  | .iface _ d => uptoBulk d + 1
  | .map entries => uptoBulkEntries entries + 1
  | .held _ => 1
def uptoBulkAll {H : Type} : List (DataW H) → Nat
  | [] => 0
  | d :: r => uptoBulk d + uptoBulkAll r
def uptoBulkEntries {H : Type} : List (Lit × DataW H) → Nat
  | [] => 0
  | x :: r => uptoBulkEntry x + uptoBulkEntries r
def uptoBulkEntry {H : Type} : Lit × DataW H → Nat
  | (.string bytes, d) => bytes.length + uptoBulk d + 1
  | (_, d) => uptoBulk d + 1
 end
def uptoSmall : (H : Type) → List (DataW H) → Bool := fun _ ds => decide (uptoBulkAll ds ≤ 1048576)
def OpenSpec.upto (s : _root_.Go.ChangeSpec) : _root_.Go.OpenSpec := { _root_.Go.OpenSpec.ofChange s with cond := some uptoSmall }

/-- 'dotterellaw.ValueEvents', WHERE WHAT IT READS IS OF BULK AT MOST 1048576: true; the input reads as it did. -/
def valueEventsUptoRow : OpenClaim := { program := "ythenkpeibkpmkab", sum := "b32f908e4114f62d7f01e135f78ae356a2a59e8d042a669b44208bf2da17397e", func := "dotterel/dotterellaw.ValueEvents", spec := "valueEvents", apart := false, narrowed := true }
def ValueEventsUptoSaid : Prop := valueEventsUptoRow.holds Try.pinned (OpenSpec.upto valueEventsSpec)

/-- 'dotterelkeep.CompareOrder', WHERE WHAT IT READS IS OF BULK AT MOST 1048576: true; the input reads as it did. -/
def compareOrderUptoRow : OpenClaim := { program := "ythenkpeibkpmkab", sum := "b32f908e4114f62d7f01e135f78ae356a2a59e8d042a669b44208bf2da17397e", func := "dotterel/dotterelkeep.CompareOrder", spec := "compareOrder", inPlace := ["internal/bytealg.abigen_runtime_cmpstring"], apart := false, narrowed := true }
def CompareOrderUptoSaid : Prop := compareOrderUptoRow.holds Try.pinned (OpenSpec.upto compareOrderSpec)

/-- 'dotterelkeep.NameSize', WHERE WHAT IT READS IS OF BULK AT MOST 1048576: true; the input reads as it did. -/
def nameSizeUptoRow : OpenClaim := { program := "ythenkpeibkpmkab", sum := "b32f908e4114f62d7f01e135f78ae356a2a59e8d042a669b44208bf2da17397e", func := "dotterel/dotterelkeep.NameSize", spec := "nameSize", apart := false, narrowed := true }
def NameSizeUptoSaid : Prop := nameSizeUptoRow.holds Try.pinned (OpenSpec.upto nameSizeSpec)

/-- 'dotterelkeep.FitKinds', WHERE WHAT IT READS IS OF BULK AT MOST 1048576: true; the input reads as it did. -/
def fitKindsUptoRow : OpenClaim := { program := "ythenkpeibkpmkab", sum := "b32f908e4114f62d7f01e135f78ae356a2a59e8d042a669b44208bf2da17397e", func := "dotterel/dotterelkeep.FitKinds", spec := "fitKinds", apart := false, narrowed := true }
def FitKindsUptoSaid : Prop := fitKindsUptoRow.holds Try.pinned (OpenSpec.upto fitKindsSpec)

/-- 'dotterelkeep.FieldTold', WHERE WHAT IT READS IS OF BULK AT MOST 1048576: true; the input reads as it did. -/
def fieldToldUptoRow : OpenClaim := { program := "ythenkpeibkpmkab", sum := "b32f908e4114f62d7f01e135f78ae356a2a59e8d042a669b44208bf2da17397e", func := "dotterel/dotterelkeep.FieldTold", spec := "fieldTold", apart := false, narrowed := true }
def FieldToldUptoSaid : Prop := fieldToldUptoRow.holds Try.pinned (OpenSpec.upto fieldToldSpec)

/-- 'dotterelkeep.EventBad', WHERE WHAT IT READS IS OF BULK AT MOST 1048576: true; the input reads as it did. -/
def eventBadUptoRow : OpenClaim := { program := "ythenkpeibkpmkab", sum := "b32f908e4114f62d7f01e135f78ae356a2a59e8d042a669b44208bf2da17397e", func := "dotterel/dotterelkeep.EventBad", spec := "eventBad", apart := false, narrowed := true }
def EventBadUptoSaid : Prop := eventBadUptoRow.holds Try.pinned (OpenSpec.upto eventBadSpec)

end Rows
end Go.Proofs.Ythenkpeibkpmkab
