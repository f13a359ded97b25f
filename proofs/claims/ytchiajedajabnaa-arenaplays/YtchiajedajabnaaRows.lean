/-
  No cell of these rows narrows 'for every input' (looked for: loops, veiled, ifaces, maps, wideKeys, modest, calm, conditions, laid).
  DERIVED. THE GIVEN ROWS OF THIS SEAT. 5 by the template 'for every input the law returns true; each argument reads behind the call as it read before'; 0 by the template 'total and deterministic' (their statements: YtchiajedajabnaaTotals.lean).
  GIVEN WITH THE SEED: the statements are not yours to turn. If you find one false, say at which input.
  Laid BY PROGRAM, IN A SANDBOX (cutbox-rows.mjs): the forced cells as the released guide's own fill.sh prints them over the translation d6b9cbe8463867c7… (all of the seat's roots in one cut). By AI agents, Wed Nov 11 2026. No macro, syntax, notation, axiom, sorry.
-/
import Derived.Test.YtchiajedajabnaaChecked
import GoSem.Claim
import GoSem.ClaimJoined
import GoSem.ClaimMapViews
import Derived.JoinedTies
import Derived.KernelRfl
namespace Go.Proofs.Ytchiajedajabnaa
/- THE CELL 'sum', in the pinned program and in every row, IS THE sha256 OF THE DUMP (.gsa) THAT YtchiajedajabnaaProg.lean LOADS. Nothing in Lean hashes anything: it is a label: what it is worth is what the hold of that sum in a sandbox is worth. -/
noncomputable def Try.pinned : Pinned := { name := "ytchiajedajabnaa", sum := "d6b9cbe8463867c72ce3450d43440126d20ce1a2b33102f38f78f345099ca3d3", checked := Try.checked }
namespace Rows
def none {H : Type} : Left H := { results := [], args := [] }

/-- 'dotterellaw.ArenaPlays': WHATEVER THE INPUT: true; the input reads as it did. -/
def arenaPlaysSpec : ChangeSpec := { name := "arenaPlays", fn := fun _ => fun
  | [d] => { results := [.lit (.bool true)], args := [d] }
  | _ => none }
def arenaPlaysRow : OpenClaim := { program := "ytchiajedajabnaa", sum := "d6b9cbe8463867c72ce3450d43440126d20ce1a2b33102f38f78f345099ca3d3", func := "dotterel/dotterellaw.ArenaPlays", spec := "arenaPlays", plainKeys := false, apart := false }
def ArenaPlaysSaid : Prop := arenaPlaysRow.holds Try.pinned (OpenSpec.ofChange arenaPlaysSpec)

/-- ITS FALSE NEIGHBOUR: 'it returns false'. Refute it at one input. -/
def arenaPlaysWrong : ChangeSpec := { name := "arenaPlays", fn := fun _ => fun
  | [d] => { results := [.lit (.bool false)], args := [d] }
  | _ => none }
def ArenaPlaysWrongFalsely : Prop := arenaPlaysRow.holds Try.pinned (OpenSpec.ofChange arenaPlaysWrong)

/-- 'dotterelkeep.ArenaModel': WHATEVER THE INPUT: true; the input reads as it did. -/
def arenaModelSpec : ChangeSpec := { name := "arenaModel", fn := fun _ => fun
  | [d] => { results := [.lit (.bool true)], args := [d] }
  | _ => none }
def arenaModelRow : OpenClaim := { program := "ytchiajedajabnaa", sum := "d6b9cbe8463867c72ce3450d43440126d20ce1a2b33102f38f78f345099ca3d3", func := "dotterel/dotterelkeep.ArenaModel", spec := "arenaModel", plainKeys := false, apart := false }
def ArenaModelSaid : Prop := arenaModelRow.holds Try.pinned (OpenSpec.ofChange arenaModelSpec)

/-- ITS FALSE NEIGHBOUR: 'it returns false'. Refute it at one input. -/
def arenaModelWrong : ChangeSpec := { name := "arenaModel", fn := fun _ => fun
  | [d] => { results := [.lit (.bool false)], args := [d] }
  | _ => none }
def ArenaModelWrongFalsely : Prop := arenaModelRow.holds Try.pinned (OpenSpec.ofChange arenaModelWrong)

/-- 'dotterelkeep.ArenaAgain': WHATEVER THE INPUT: true; the input reads as it did. -/
def arenaAgainSpec : ChangeSpec := { name := "arenaAgain", fn := fun _ => fun
  | [d1, d2] => { results := [.lit (.bool true)], args := [d1, d2] }
  | _ => none }
def arenaAgainRow : OpenClaim := { program := "ytchiajedajabnaa", sum := "d6b9cbe8463867c72ce3450d43440126d20ce1a2b33102f38f78f345099ca3d3", func := "dotterel/dotterelkeep.ArenaAgain", spec := "arenaAgain", plainKeys := false, apart := false }
def ArenaAgainSaid : Prop := arenaAgainRow.holds Try.pinned (OpenSpec.ofChange arenaAgainSpec)

/-- ITS FALSE NEIGHBOUR: 'it returns false'. Refute it at one input. -/
def arenaAgainWrong : ChangeSpec := { name := "arenaAgain", fn := fun _ => fun
  | [d1, d2] => { results := [.lit (.bool false)], args := [d1, d2] }
  | _ => none }
def ArenaAgainWrongFalsely : Prop := arenaAgainRow.holds Try.pinned (OpenSpec.ofChange arenaAgainWrong)

/-- 'dotterelkeep.ArenaFull': WHATEVER THE INPUT: true; the input reads as it did. -/
def arenaFullSpec : ChangeSpec := { name := "arenaFull", fn := fun _ => fun
  | [d] => { results := [.lit (.bool true)], args := [d] }
  | _ => none }
def arenaFullRow : OpenClaim := { program := "ytchiajedajabnaa", sum := "d6b9cbe8463867c72ce3450d43440126d20ce1a2b33102f38f78f345099ca3d3", func := "dotterel/dotterelkeep.ArenaFull", spec := "arenaFull", plainKeys := false, apart := false }
def ArenaFullSaid : Prop := arenaFullRow.holds Try.pinned (OpenSpec.ofChange arenaFullSpec)

/-- ITS FALSE NEIGHBOUR: 'it returns false'. Refute it at one input. -/
def arenaFullWrong : ChangeSpec := { name := "arenaFull", fn := fun _ => fun
  | [d] => { results := [.lit (.bool false)], args := [d] }
  | _ => none }
def ArenaFullWrongFalsely : Prop := arenaFullRow.holds Try.pinned (OpenSpec.ofChange arenaFullWrong)

/-- 'dotterelkeep.ArenaCount': WHATEVER THE INPUT: true; the input reads as it did. -/
def arenaCountSpec : ChangeSpec := { name := "arenaCount", fn := fun _ => fun
  | [d] => { results := [.lit (.bool true)], args := [d] }
  | _ => none }
def arenaCountRow : OpenClaim := { program := "ytchiajedajabnaa", sum := "d6b9cbe8463867c72ce3450d43440126d20ce1a2b33102f38f78f345099ca3d3", func := "dotterel/dotterelkeep.ArenaCount", spec := "arenaCount", plainKeys := false, apart := false }
def ArenaCountSaid : Prop := arenaCountRow.holds Try.pinned (OpenSpec.ofChange arenaCountSpec)

/-- ITS FALSE NEIGHBOUR: 'it returns false'. Refute it at one input. -/
def arenaCountWrong : ChangeSpec := { name := "arenaCount", fn := fun _ => fun
  | [d] => { results := [.lit (.bool false)], args := [d] }
  | _ => none }
def ArenaCountWrongFalsely : Prop := arenaCountRow.holds Try.pinned (OpenSpec.ofChange arenaCountWrong)

/- THE SECOND FORM. 'bulk': how many values and letters a reading holds, each counted each time it is reached (what is shared counts as often as it is met; a slice's spare places count too). A statement '..UptoSaid' is the law's where the arguments, and the package variables that the reading takes, are together of bulk at most 1048576: NARROWER than '..Said'. Prove '..Said' where nothing that the law and all that it calls make is longer than what came in: it says more and counts as full. Else prove '..UptoSaid'. A law counts once. -/
mutual
def uptoBulk {H : Type} : DataW H → Nat
  | .lit (.string bytes) => bytes.length + 1
  | .lit _ => 1
  | .nil => 1
  | .ptr d => uptoBulk d + 1
  | .slice elems spare => uptoBulkAll elems + uptoBulkAll spare + 1
  | .agg parts => uptoBulkAll parts + 1
  | .iface _ d => uptoBulk d + 1
  | .map entries => uptoBulkEntries entries + 1
  | .held _ => 1
def uptoBulkAll {H : Type} : List (DataW H) → Nat
  | [] => 0
  | d :: r => uptoBulk d + uptoBulkAll r
def uptoBulkEntries {H : Type} : List (Lit × DataW H) → Nat
  | [] => 0
  | x :: r => uptoBulkEntry x + uptoBulkEntries r
def uptoBulkEntry {H : Type} : Lit × DataW H → Nat
  | (.string bytes, d) => bytes.length + uptoBulk d + 1
  | (_, d) => uptoBulk d + 1
 end
def uptoSmall : (H : Type) → List (DataW H) → Bool := fun _ ds => decide (uptoBulkAll ds ≤ 1048576)
def OpenSpec.upto (s : _root_.Go.ChangeSpec) : _root_.Go.OpenSpec := { _root_.Go.OpenSpec.ofChange s with cond := some uptoSmall }

/-- 'dotterellaw.ArenaPlays', WHERE WHAT IT READS IS OF BULK AT MOST 1048576: true; the input reads as it did. -/
def arenaPlaysUptoRow : OpenClaim := { program := "ytchiajedajabnaa", sum := "d6b9cbe8463867c72ce3450d43440126d20ce1a2b33102f38f78f345099ca3d3", func := "dotterel/dotterellaw.ArenaPlays", spec := "arenaPlays", plainKeys := false, apart := false, narrowed := true }
def ArenaPlaysUptoSaid : Prop := arenaPlaysUptoRow.holds Try.pinned (OpenSpec.upto arenaPlaysSpec)

/-- 'dotterelkeep.ArenaModel', WHERE WHAT IT READS IS OF BULK AT MOST 1048576: true; the input reads as it did. -/
def arenaModelUptoRow : OpenClaim := { program := "ytchiajedajabnaa", sum := "d6b9cbe8463867c72ce3450d43440126d20ce1a2b33102f38f78f345099ca3d3", func := "dotterel/dotterelkeep.ArenaModel", spec := "arenaModel", plainKeys := false, apart := false, narrowed := true }
def ArenaModelUptoSaid : Prop := arenaModelUptoRow.holds Try.pinned (OpenSpec.upto arenaModelSpec)

/-- 'dotterelkeep.ArenaAgain', WHERE WHAT IT READS IS OF BULK AT MOST 1048576: true; the input reads as it did. -/
def arenaAgainUptoRow : OpenClaim := { program := "ytchiajedajabnaa", sum := "d6b9cbe8463867c72ce3450d43440126d20ce1a2b33102f38f78f345099ca3d3", func := "dotterel/dotterelkeep.ArenaAgain", spec := "arenaAgain", plainKeys := false, apart := false, narrowed := true }
def ArenaAgainUptoSaid : Prop := arenaAgainUptoRow.holds Try.pinned (OpenSpec.upto arenaAgainSpec)

/-- 'dotterelkeep.ArenaFull', WHERE WHAT IT READS IS OF BULK AT MOST 1048576: true; the input reads as it did. -/
def arenaFullUptoRow : OpenClaim := { program := "ytchiajedajabnaa", sum := "d6b9cbe8463867c72ce3450d43440126d20ce1a2b33102f38f78f345099ca3d3", func := "dotterel/dotterelkeep.ArenaFull", spec := "arenaFull", plainKeys := false, apart := false, narrowed := true }
def ArenaFullUptoSaid : Prop := arenaFullUptoRow.holds Try.pinned (OpenSpec.upto arenaFullSpec)

/-- 'dotterelkeep.ArenaCount', WHERE WHAT IT READS IS OF BULK AT MOST 1048576: true; the input reads as it did. -/
def arenaCountUptoRow : OpenClaim := { program := "ytchiajedajabnaa", sum := "d6b9cbe8463867c72ce3450d43440126d20ce1a2b33102f38f78f345099ca3d3", func := "dotterel/dotterelkeep.ArenaCount", spec := "arenaCount", plainKeys := false, apart := false, narrowed := true }
def ArenaCountUptoSaid : Prop := arenaCountUptoRow.holds Try.pinned (OpenSpec.upto arenaCountSpec)

end Rows
end Go.Proofs.Ytchiajedajabnaa
