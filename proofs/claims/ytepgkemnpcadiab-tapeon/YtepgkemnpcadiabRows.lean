/-
  No cell of these rows narrows 'for every input' (looked for: loops, veiled, ifaces, maps, wideKeys, modest, calm, conditions, laid).
  DERIVED. THE GIVEN ROWS OF THIS SEAT. 6 by the template 'for every input the law returns true; each argument reads behind the call as it read before'; 0 by the template 'total and deterministic' (their statements: YtepgkemnpcadiabTotals.lean).
  GIVEN WITH THE SEED: the statements are not yours to turn. If you find one false, say at which input.
  Laid BY PROGRAM, IN A SANDBOX (cutbox-rows.mjs): the forced cells as the released guide's own fill.sh prints them over the translation cc0f53d9f1c291b3… (all of the seat's roots in one cut). By AI agents, Wed Nov 11 2026. No macro, syntax, notation, axiom, sorry.
-/
import Derived.Test.YtepgkemnpcadiabChecked
import GoSem.Claim
import GoSem.ClaimJoined
import GoSem.ClaimMapViews
import Derived.JoinedTies
import Derived.KernelRfl
namespace Go.Proofs.Ytepgkemnpcadiab
/- THE CELL 'sum', in the pinned program and in every row, IS THE sha256 OF THE DUMP (.gsa) THAT YtepgkemnpcadiabProg.lean LOADS. Nothing in Lean hashes anything: it is a label: what it is worth is what the hold of that sum in a sandbox is worth. -/
noncomputable def Try.pinned : Pinned := { name := "ytepgkemnpcadiab", sum := "cc0f53d9f1c291b38146b5c14ae62f6f6b4ad1ad39c01b3c79f54a42dbc3c435", checked := Try.checked }
namespace Rows
def none {H : Type} : Left H := { results := [], args := [] }

/-- 'dotterelkeep.TapeTorn': WHATEVER THE INPUT: true; the input reads as it did. -/
def tapeTornSpec : ChangeSpec := { name := "tapeTorn", fn := fun _ => fun
  | [d1, d2] => { results := [.lit (.bool true)], args := [d1, d2] }
  | _ => none }
def tapeTornRow : OpenClaim := { program := "ytepgkemnpcadiab", sum := "cc0f53d9f1c291b38146b5c14ae62f6f6b4ad1ad39c01b3c79f54a42dbc3c435", func := "dotterel/dotterelkeep.TapeTorn", spec := "tapeTorn", apart := false }
def TapeTornSaid : Prop := tapeTornRow.holds Try.pinned (OpenSpec.ofChange tapeTornSpec)

/-- ITS FALSE NEIGHBOUR: 'it returns false'. Refute it at one input. -/
def tapeTornWrong : ChangeSpec := { name := "tapeTorn", fn := fun _ => fun
  | [d1, d2] => { results := [.lit (.bool false)], args := [d1, d2] }
  | _ => none }
def TapeTornWrongFalsely : Prop := tapeTornRow.holds Try.pinned (OpenSpec.ofChange tapeTornWrong)

/-- 'dotterelkeep.TapeOn': WHATEVER THE INPUT: true; the input reads as it did. -/
def tapeOnSpec : ChangeSpec := { name := "tapeOn", fn := fun _ => fun
  | [d1, d2, d3] => { results := [.lit (.bool true)], args := [d1, d2, d3] }
  | _ => none }
def tapeOnRow : OpenClaim := { program := "ytepgkemnpcadiab", sum := "cc0f53d9f1c291b38146b5c14ae62f6f6b4ad1ad39c01b3c79f54a42dbc3c435", func := "dotterel/dotterelkeep.TapeOn", spec := "tapeOn", apart := false }
def TapeOnSaid : Prop := tapeOnRow.holds Try.pinned (OpenSpec.ofChange tapeOnSpec)

/-- ITS FALSE NEIGHBOUR: 'it returns false'. Refute it at one input. -/
def tapeOnWrong : ChangeSpec := { name := "tapeOn", fn := fun _ => fun
  | [d1, d2, d3] => { results := [.lit (.bool false)], args := [d1, d2, d3] }
  | _ => none }
def TapeOnWrongFalsely : Prop := tapeOnRow.holds Try.pinned (OpenSpec.ofChange tapeOnWrong)

/-- 'dotterelkeep.CrashJust': WHATEVER THE INPUT: true; the input reads as it did. -/
def crashJustSpec : ChangeSpec := { name := "crashJust", fn := fun _ => fun
  | [d1, d2, d3] => { results := [.lit (.bool true)], args := [d1, d2, d3] }
  | _ => none }
def crashJustRow : OpenClaim := { program := "ytepgkemnpcadiab", sum := "cc0f53d9f1c291b38146b5c14ae62f6f6b4ad1ad39c01b3c79f54a42dbc3c435", func := "dotterel/dotterelkeep.CrashJust", spec := "crashJust", apart := false }
def CrashJustSaid : Prop := crashJustRow.holds Try.pinned (OpenSpec.ofChange crashJustSpec)

/-- ITS FALSE NEIGHBOUR: 'it returns false'. Refute it at one input. -/
def crashJustWrong : ChangeSpec := { name := "crashJust", fn := fun _ => fun
  | [d1, d2, d3] => { results := [.lit (.bool false)], args := [d1, d2, d3] }
  | _ => none }
def CrashJustWrongFalsely : Prop := crashJustRow.holds Try.pinned (OpenSpec.ofChange crashJustWrong)

/-- 'dotterelkeep.TapeBad': WHATEVER THE INPUT: true; the input reads as it did. -/
def tapeBadSpec : ChangeSpec := { name := "tapeBad", fn := fun _ => fun
  | [d1, d2] => { results := [.lit (.bool true)], args := [d1, d2] }
  | _ => none }
def tapeBadRow : OpenClaim := { program := "ytepgkemnpcadiab", sum := "cc0f53d9f1c291b38146b5c14ae62f6f6b4ad1ad39c01b3c79f54a42dbc3c435", func := "dotterel/dotterelkeep.TapeBad", spec := "tapeBad", apart := false }
def TapeBadSaid : Prop := tapeBadRow.holds Try.pinned (OpenSpec.ofChange tapeBadSpec)

/-- ITS FALSE NEIGHBOUR: 'it returns false'. Refute it at one input. -/
def tapeBadWrong : ChangeSpec := { name := "tapeBad", fn := fun _ => fun
  | [d1, d2] => { results := [.lit (.bool false)], args := [d1, d2] }
  | _ => none }
def TapeBadWrongFalsely : Prop := tapeBadRow.holds Try.pinned (OpenSpec.ofChange tapeBadWrong)

/-- 'dotterelkeep.WireBack': WHATEVER THE INPUT: true; the input reads as it did. -/
def wireBackSpec : ChangeSpec := { name := "wireBack", fn := fun _ => fun
  | [d1, d2, d3, d4] => { results := [.lit (.bool true)], args := [d1, d2, d3, d4] }
  | _ => none }
def wireBackRow : OpenClaim := { program := "ytepgkemnpcadiab", sum := "cc0f53d9f1c291b38146b5c14ae62f6f6b4ad1ad39c01b3c79f54a42dbc3c435", func := "dotterel/dotterelkeep.WireBack", spec := "wireBack", apart := false }
def WireBackSaid : Prop := wireBackRow.holds Try.pinned (OpenSpec.ofChange wireBackSpec)

/-- ITS FALSE NEIGHBOUR: 'it returns false'. Refute it at one input. -/
def wireBackWrong : ChangeSpec := { name := "wireBack", fn := fun _ => fun
  | [d1, d2, d3, d4] => { results := [.lit (.bool false)], args := [d1, d2, d3, d4] }
  | _ => none }
def WireBackWrongFalsely : Prop := wireBackRow.holds Try.pinned (OpenSpec.ofChange wireBackWrong)

/-- 'dotterelkeep.WireTorn': WHATEVER THE INPUT: true; the input reads as it did. -/
def wireTornSpec : ChangeSpec := { name := "wireTorn", fn := fun _ => fun
  | [d1, d2, d3, d4] => { results := [.lit (.bool true)], args := [d1, d2, d3, d4] }
  | _ => none }
def wireTornRow : OpenClaim := { program := "ytepgkemnpcadiab", sum := "cc0f53d9f1c291b38146b5c14ae62f6f6b4ad1ad39c01b3c79f54a42dbc3c435", func := "dotterel/dotterelkeep.WireTorn", spec := "wireTorn", apart := false }
def WireTornSaid : Prop := wireTornRow.holds Try.pinned (OpenSpec.ofChange wireTornSpec)

/-- ITS FALSE NEIGHBOUR: 'it returns false'. Refute it at one input. -/
def wireTornWrong : ChangeSpec := { name := "wireTorn", fn := fun _ => fun
  | [d1, d2, d3, d4] => { results := [.lit (.bool false)], args := [d1, d2, d3, d4] }
  | _ => none }
def WireTornWrongFalsely : Prop := wireTornRow.holds Try.pinned (OpenSpec.ofChange wireTornWrong)

/- THE SECOND FORM. 'bulk': how many values and letters a reading holds, each counted each time it is reached (what is shared counts as often as it is met; a slice's spare places count too). A statement '..UptoSaid' is the law's where the arguments, and the package variables that the reading takes, are together of bulk at most 1048576: NARROWER than '..Said'. Prove '..Said' where nothing that the law and all that it calls make is longer than what came in: it says more and counts as full. Else prove '..UptoSaid'. A law counts once. -/
mutual
def uptoBulk {H : Type} : DataW H → Nat
  | .lit (.string bytes) => bytes.length + 1
  | .lit _ => 1
  | .nil => 1
  | .ptr d => uptoBulk d + 1
  | .slice elems spare => uptoBulkAll elems + uptoBulkAll spare + 1
  | .agg parts => uptoBulkAll parts + 1
  | .iface _ d => uptoBulk d + 1
  | .map entries => uptoBulkEntries entries + 1
  | .held _ => 1
def uptoBulkAll {H : Type} : List (DataW H) → Nat
  | [] => 0
  | d :: r => uptoBulk d + uptoBulkAll r
def uptoBulkEntries {H : Type} : List (Lit × DataW H) → Nat
  | [] => 0
  | x :: r => uptoBulkEntry x + uptoBulkEntries r
def uptoBulkEntry {H : Type} : Lit × DataW H → Nat
  | (.string bytes, d) => bytes.length + uptoBulk d + 1
  | (_, d) => uptoBulk d + 1
 end
def uptoSmall : (H : Type) → List (DataW H) → Bool := fun _ ds => decide (uptoBulkAll ds ≤ 1048576)
def OpenSpec.upto (s : _root_.Go.ChangeSpec) : _root_.Go.OpenSpec := { _root_.Go.OpenSpec.ofChange s with cond := some uptoSmall }

/-- 'dotterelkeep.TapeTorn', WHERE WHAT IT READS IS OF BULK AT MOST 1048576: true; the input reads as it did. -/
def tapeTornUptoRow : OpenClaim := { program := "ytepgkemnpcadiab", sum := "cc0f53d9f1c291b38146b5c14ae62f6f6b4ad1ad39c01b3c79f54a42dbc3c435", func := "dotterel/dotterelkeep.TapeTorn", spec := "tapeTorn", apart := false, narrowed := true }
def TapeTornUptoSaid : Prop := tapeTornUptoRow.holds Try.pinned (OpenSpec.upto tapeTornSpec)

/-- 'dotterelkeep.TapeOn', WHERE WHAT IT READS IS OF BULK AT MOST 1048576: true; the input reads as it did. -/
def tapeOnUptoRow : OpenClaim := { program := "ytepgkemnpcadiab", sum := "cc0f53d9f1c291b38146b5c14ae62f6f6b4ad1ad39c01b3c79f54a42dbc3c435", func := "dotterel/dotterelkeep.TapeOn", spec := "tapeOn", apart := false, narrowed := true }
def TapeOnUptoSaid : Prop := tapeOnUptoRow.holds Try.pinned (OpenSpec.upto tapeOnSpec)

/-- 'dotterelkeep.CrashJust', WHERE WHAT IT READS IS OF BULK AT MOST 1048576: true; the input reads as it did. -/
def crashJustUptoRow : OpenClaim := { program := "ytepgkemnpcadiab", sum := "cc0f53d9f1c291b38146b5c14ae62f6f6b4ad1ad39c01b3c79f54a42dbc3c435", func := "dotterel/dotterelkeep.CrashJust", spec := "crashJust", apart := false, narrowed := true }
def CrashJustUptoSaid : Prop := crashJustUptoRow.holds Try.pinned (OpenSpec.upto crashJustSpec)

/-- 'dotterelkeep.TapeBad', WHERE WHAT IT READS IS OF BULK AT MOST 1048576: true; the input reads as it did. -/
def tapeBadUptoRow : OpenClaim := { program := "ytepgkemnpcadiab", sum := "cc0f53d9f1c291b38146b5c14ae62f6f6b4ad1ad39c01b3c79f54a42dbc3c435", func := "dotterel/dotterelkeep.TapeBad", spec := "tapeBad", apart := false, narrowed := true }
def TapeBadUptoSaid : Prop := tapeBadUptoRow.holds Try.pinned (OpenSpec.upto tapeBadSpec)

/-- 'dotterelkeep.WireBack', WHERE WHAT IT READS IS OF BULK AT MOST 1048576: true; the input reads as it did. -/
def wireBackUptoRow : OpenClaim := { program := "ytepgkemnpcadiab", sum := "cc0f53d9f1c291b38146b5c14ae62f6f6b4ad1ad39c01b3c79f54a42dbc3c435", func := "dotterel/dotterelkeep.WireBack", spec := "wireBack", apart := false, narrowed := true }
def WireBackUptoSaid : Prop := wireBackUptoRow.holds Try.pinned (OpenSpec.upto wireBackSpec)

/-- 'dotterelkeep.WireTorn', WHERE WHAT IT READS IS OF BULK AT MOST 1048576: true; the input reads as it did. -/
def wireTornUptoRow : OpenClaim := { program := "ytepgkemnpcadiab", sum := "cc0f53d9f1c291b38146b5c14ae62f6f6b4ad1ad39c01b3c79f54a42dbc3c435", func := "dotterel/dotterelkeep.WireTorn", spec := "wireTorn", apart := false, narrowed := true }
def WireTornUptoSaid : Prop := wireTornUptoRow.holds Try.pinned (OpenSpec.upto wireTornSpec)

end Rows
end Go.Proofs.Ytepgkemnpcadiab
