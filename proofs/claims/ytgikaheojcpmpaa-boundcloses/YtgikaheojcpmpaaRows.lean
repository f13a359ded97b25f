/-
  No cell of these rows narrows 'for every input' (looked for: loops, veiled, ifaces, maps, wideKeys, modest, calm, conditions, laid).
  DERIVED. THE GIVEN ROWS OF THIS SEAT. 5 by the template 'for every input the law returns true; each argument reads behind the call as it read before'; 0 by the template 'total and deterministic' (their statements: YtgikaheojcpmpaaTotals.lean).
  GIVEN WITH THE SEED: the statements are not yours to turn. If you find one false, say at which input.
  Laid BY PROGRAM, IN A SANDBOX (cutbox-rows.mjs): the forced cells as the released guide's own fill.sh prints them over the translation 31055eb749a1c0ec… (all of the seat's roots in one cut). By AI agents, Wed Nov 11 2026. No macro, syntax, notation, axiom, sorry.
-/
import Derived.Test.YtgikaheojcpmpaaChecked
import GoSem.Claim
import GoSem.ClaimJoined
import GoSem.ClaimMapViews
import Derived.JoinedTies
import Derived.KernelRfl
namespace Go.Proofs.Ytgikaheojcpmpaa
/- THE CELL 'sum', in the pinned program and in every row, IS THE sha256 OF THE DUMP (.gsa) THAT YtgikaheojcpmpaaProg.lean LOADS. Nothing in Lean hashes anything: it is a label: what it is worth is what the hold of that sum in a sandbox is worth. -/
noncomputable def Try.pinned : Pinned := { name := "ytgikaheojcpmpaa", sum := "31055eb749a1c0ec68a6a02e880692bac0b113a3576debf3d0be37524ad250e2", checked := Try.checked }
namespace Rows
def none {H : Type} : Left H := { results := [], args := [] }

/-- 'dotterellaw.BoundChecks': WHATEVER THE INPUT: true; the input reads as it did. -/
def boundChecksSpec : ChangeSpec := { name := "boundChecks", fn := fun _ => fun
  | [d] => { results := [.lit (.bool true)], args := [d] }
  | _ => none }
def boundChecksRow : OpenClaim := { program := "ytgikaheojcpmpaa", sum := "31055eb749a1c0ec68a6a02e880692bac0b113a3576debf3d0be37524ad250e2", func := "dotterel/dotterellaw.BoundChecks", spec := "boundChecks", apart := false }
def BoundChecksSaid : Prop := boundChecksRow.holds Try.pinned (OpenSpec.ofChange boundChecksSpec)

/-- ITS FALSE NEIGHBOUR: 'it returns false'. Refute it at one input. -/
def boundChecksWrong : ChangeSpec := { name := "boundChecks", fn := fun _ => fun
  | [d] => { results := [.lit (.bool false)], args := [d] }
  | _ => none }
def BoundChecksWrongFalsely : Prop := boundChecksRow.holds Try.pinned (OpenSpec.ofChange boundChecksWrong)

/-- 'dotterellaw.BoundFrees': WHATEVER THE INPUT: true; the input reads as it did. -/
def boundFreesSpec : ChangeSpec := { name := "boundFrees", fn := fun _ => fun
  | [d] => { results := [.lit (.bool true)], args := [d] }
  | _ => none }
def boundFreesRow : OpenClaim := { program := "ytgikaheojcpmpaa", sum := "31055eb749a1c0ec68a6a02e880692bac0b113a3576debf3d0be37524ad250e2", func := "dotterel/dotterellaw.BoundFrees", spec := "boundFrees", apart := false }
def BoundFreesSaid : Prop := boundFreesRow.holds Try.pinned (OpenSpec.ofChange boundFreesSpec)

/-- ITS FALSE NEIGHBOUR: 'it returns false'. Refute it at one input. -/
def boundFreesWrong : ChangeSpec := { name := "boundFrees", fn := fun _ => fun
  | [d] => { results := [.lit (.bool false)], args := [d] }
  | _ => none }
def BoundFreesWrongFalsely : Prop := boundFreesRow.holds Try.pinned (OpenSpec.ofChange boundFreesWrong)

/-- 'dotterellaw.BoundCloses': WHATEVER THE INPUT: true; the input reads as it did. -/
def boundClosesSpec : ChangeSpec := { name := "boundCloses", fn := fun _ => fun
  | [d] => { results := [.lit (.bool true)], args := [d] }
  | _ => none }
def boundClosesRow : OpenClaim := { program := "ytgikaheojcpmpaa", sum := "31055eb749a1c0ec68a6a02e880692bac0b113a3576debf3d0be37524ad250e2", func := "dotterel/dotterellaw.BoundCloses", spec := "boundCloses", unfollowed := true, recurses := true, apart := false }
def BoundClosesSaid : Prop := boundClosesRow.holds Try.pinned (OpenSpec.ofChange boundClosesSpec)

/-- ITS FALSE NEIGHBOUR: 'it returns false'. Refute it at one input. -/
def boundClosesWrong : ChangeSpec := { name := "boundCloses", fn := fun _ => fun
  | [d] => { results := [.lit (.bool false)], args := [d] }
  | _ => none }
def BoundClosesWrongFalsely : Prop := boundClosesRow.holds Try.pinned (OpenSpec.ofChange boundClosesWrong)

/-- 'dotterellaw.BoundBoth': WHATEVER THE INPUT: true; the input reads as it did. -/
def boundBothSpec : ChangeSpec := { name := "boundBoth", fn := fun _ => fun
  | [d1, d2] => { results := [.lit (.bool true)], args := [d1, d2] }
  | _ => none }
def boundBothRow : OpenClaim := { program := "ytgikaheojcpmpaa", sum := "31055eb749a1c0ec68a6a02e880692bac0b113a3576debf3d0be37524ad250e2", func := "dotterel/dotterellaw.BoundBoth", spec := "boundBoth", unfollowed := true, recurses := true, apart := false }
def BoundBothSaid : Prop := boundBothRow.holds Try.pinned (OpenSpec.ofChange boundBothSpec)

/-- ITS FALSE NEIGHBOUR: 'it returns false'. Refute it at one input. -/
def boundBothWrong : ChangeSpec := { name := "boundBoth", fn := fun _ => fun
  | [d1, d2] => { results := [.lit (.bool false)], args := [d1, d2] }
  | _ => none }
def BoundBothWrongFalsely : Prop := boundBothRow.holds Try.pinned (OpenSpec.ofChange boundBothWrong)

/-- 'dotterellaw.BoundEither': WHATEVER THE INPUT: true; the input reads as it did. -/
def boundEitherSpec : ChangeSpec := { name := "boundEither", fn := fun _ => fun
  | [d1, d2] => { results := [.lit (.bool true)], args := [d1, d2] }
  | _ => none }
def boundEitherRow : OpenClaim := { program := "ytgikaheojcpmpaa", sum := "31055eb749a1c0ec68a6a02e880692bac0b113a3576debf3d0be37524ad250e2", func := "dotterel/dotterellaw.BoundEither", spec := "boundEither", unfollowed := true, recurses := true, apart := false }
def BoundEitherSaid : Prop := boundEitherRow.holds Try.pinned (OpenSpec.ofChange boundEitherSpec)

/-- ITS FALSE NEIGHBOUR: 'it returns false'. Refute it at one input. -/
def boundEitherWrong : ChangeSpec := { name := "boundEither", fn := fun _ => fun
  | [d1, d2] => { results := [.lit (.bool false)], args := [d1, d2] }
  | _ => none }
def BoundEitherWrongFalsely : Prop := boundEitherRow.holds Try.pinned (OpenSpec.ofChange boundEitherWrong)

/- THE SECOND FORM. 'bulk': how many values and letters a reading holds, each counted each time it is reached (what is shared counts as often as it is met; a slice's spare places count too). A statement '..UptoSaid' is the law's where the arguments, and the package variables that the reading takes, are together of bulk at most 1048576: NARROWER than '..Said'. Prove '..Said' where nothing that the law and all that it calls make is longer than what came in: it says more and counts as full. Else prove '..UptoSaid'. A law counts once. -/
mutual
def uptoBulk {H : Type} : DataW H → Nat
  | .lit (.string bytes) => bytes.length + 1
  | .lit _ => 1
  | .nil => 1
  | .ptr d => uptoBulk d + 1
  | .slice elems spare => uptoBulkAll elems + uptoBulkAll spare + 1
  | .agg parts => uptoBulkAll parts + 1
  | .iface _ d => uptoBulk d + 1
  | .map entries => uptoBulkEntries entries + 1
  | .held _ => 1
def uptoBulkAll {H : Type} : List (DataW H) → Nat
  | [] => 0
  | d :: r => uptoBulk d + uptoBulkAll r
def uptoBulkEntries {H : Type} : List (Lit × DataW H) → Nat
  | [] => 0
  | x :: r => uptoBulkEntry x + uptoBulkEntries r
def uptoBulkEntry {H : Type} : Lit × DataW H → Nat
  | (.string bytes, d) => bytes.length + uptoBulk d + 1
  | (_, d) => uptoBulk d + 1
 end
def uptoSmall : (H : Type) → List (DataW H) → Bool := fun _ ds => decide (uptoBulkAll ds ≤ 1048576)
def OpenSpec.upto (s : _root_.Go.ChangeSpec) : _root_.Go.OpenSpec := { _root_.Go.OpenSpec.ofChange s with cond := some uptoSmall }

/-- 'dotterellaw.BoundChecks', WHERE WHAT IT READS IS OF BULK AT MOST 1048576: true; the input reads as it did. -/
def boundChecksUptoRow : OpenClaim := { program := "ytgikaheojcpmpaa", sum := "31055eb749a1c0ec68a6a02e880692bac0b113a3576debf3d0be37524ad250e2", func := "dotterel/dotterellaw.BoundChecks", spec := "boundChecks", apart := false, narrowed := true }
def BoundChecksUptoSaid : Prop := boundChecksUptoRow.holds Try.pinned (OpenSpec.upto boundChecksSpec)

/-- 'dotterellaw.BoundFrees', WHERE WHAT IT READS IS OF BULK AT MOST 1048576: true; the input reads as it did. -/
def boundFreesUptoRow : OpenClaim := { program := "ytgikaheojcpmpaa", sum := "31055eb749a1c0ec68a6a02e880692bac0b113a3576debf3d0be37524ad250e2", func := "dotterel/dotterellaw.BoundFrees", spec := "boundFrees", apart := false, narrowed := true }
def BoundFreesUptoSaid : Prop := boundFreesUptoRow.holds Try.pinned (OpenSpec.upto boundFreesSpec)

/-- 'dotterellaw.BoundCloses', WHERE WHAT IT READS IS OF BULK AT MOST 1048576: true; the input reads as it did. -/
def boundClosesUptoRow : OpenClaim := { program := "ytgikaheojcpmpaa", sum := "31055eb749a1c0ec68a6a02e880692bac0b113a3576debf3d0be37524ad250e2", func := "dotterel/dotterellaw.BoundCloses", spec := "boundCloses", unfollowed := true, recurses := true, apart := false, narrowed := true }
def BoundClosesUptoSaid : Prop := boundClosesUptoRow.holds Try.pinned (OpenSpec.upto boundClosesSpec)

/-- 'dotterellaw.BoundBoth', WHERE WHAT IT READS IS OF BULK AT MOST 1048576: true; the input reads as it did. -/
def boundBothUptoRow : OpenClaim := { program := "ytgikaheojcpmpaa", sum := "31055eb749a1c0ec68a6a02e880692bac0b113a3576debf3d0be37524ad250e2", func := "dotterel/dotterellaw.BoundBoth", spec := "boundBoth", unfollowed := true, recurses := true, apart := false, narrowed := true }
def BoundBothUptoSaid : Prop := boundBothUptoRow.holds Try.pinned (OpenSpec.upto boundBothSpec)

/-- 'dotterellaw.BoundEither', WHERE WHAT IT READS IS OF BULK AT MOST 1048576: true; the input reads as it did. -/
def boundEitherUptoRow : OpenClaim := { program := "ytgikaheojcpmpaa", sum := "31055eb749a1c0ec68a6a02e880692bac0b113a3576debf3d0be37524ad250e2", func := "dotterel/dotterellaw.BoundEither", spec := "boundEither", unfollowed := true, recurses := true, apart := false, narrowed := true }
def BoundEitherUptoSaid : Prop := boundEitherUptoRow.holds Try.pinned (OpenSpec.upto boundEitherSpec)

end Rows
end Go.Proofs.Ytgikaheojcpmpaa
