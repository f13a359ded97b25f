/-
  DERIVED. GIVEN WITH THE SEED: THE CARDS: each row of YtdihklfaiiclgaaGreatDoorRows.lean that lists a variable, with what it lists TIED to the program's text (the seventh form; the later family's looks); each row that meets fmt, with fmt's text TOLD by the authors' own Lean function (tested against real Go, not proved from fmt's source: count such statements apart). THE CARD IS WHAT COUNTS. Prove the row's statement (the work); the ties are given (YtdihklfaiiclgaaGreatDoorTie.lean); close each card by the builder's one call (the guide's Derived/Test/ToyasCard.lean, 'card_holds'). Laid BY PROGRAM, IN A SANDBOX (cutbox-door.mjs). By AI agents, Wed Nov 11 2026. No macro, syntax, notation, axiom, sorry.
-/
import Derived.Test.YtdihklfaiiclgaaGreatDoorRows
import GoSem.ClaimSeven
namespace Go.Proofs.YtdihklfaiiclgaaGreatDoor
namespace Rows

/-- THE TIED CARD OF 'dotterelkeep.CheckTwice'. -/
def checkTwiceCard : Claim7 := { stood := { row := checkTwiceRow, standIns := [], harness := (true, "9c9f85c2b55c1bfd121b0b2deaa182926dffbf74a4e14e290a7f29d86f7d0b82"), looks := false }, kinds := [], alts := [], laidByText := true, laidKinds := [.data, .data, .data, .data], laidTests := true, laidLooks := .later }
def CheckTwiceCardSaid : Prop := Claim7.holds Tryz.pinned (.plain (OpenSpec.ofChange checkTwiceSpec)) checkTwiceCard

/-- THE TIED CARD OF 'dotterelkeep.TakesType'. -/
def takesTypeCard : Claim7 := { stood := { row := takesTypeRow, standIns := [], harness := (true, "9c9f85c2b55c1bfd121b0b2deaa182926dffbf74a4e14e290a7f29d86f7d0b82"), looks := false }, kinds := [], alts := [], laidByText := true, laidKinds := [.data, .data], laidTests := true, laidLooks := .later }
def TakesTypeCardSaid : Prop := Claim7.holds Tryz.pinned (.plain (OpenSpec.ofChange takesTypeSpec)) takesTypeCard

/-- THE SECOND FORM's CARD OF 'dotterelkeep.CheckTwice'. -/
def checkTwiceUptoCard : Claim7 := { stood := { row := checkTwiceUptoRow, standIns := [], harness := (true, "9c9f85c2b55c1bfd121b0b2deaa182926dffbf74a4e14e290a7f29d86f7d0b82"), looks := false }, kinds := [], alts := [], laidByText := true, laidKinds := [.data, .data, .data, .data], laidTests := true, laidLooks := .later }
def CheckTwiceUptoCardSaid : Prop := Claim7.holds Tryz.pinned (.plain (OpenSpec.upto checkTwiceSpec)) checkTwiceUptoCard

/-- THE SECOND FORM's CARD OF 'dotterelkeep.TakesType'. -/
def takesTypeUptoCard : Claim7 := { stood := { row := takesTypeUptoRow, standIns := [], harness := (true, "9c9f85c2b55c1bfd121b0b2deaa182926dffbf74a4e14e290a7f29d86f7d0b82"), looks := false }, kinds := [], alts := [], laidByText := true, laidKinds := [.data, .data], laidTests := true, laidLooks := .later }
def TakesTypeUptoCardSaid : Prop := Claim7.holds Tryz.pinned (.plain (OpenSpec.upto takesTypeSpec)) takesTypeUptoCard
end Rows
end Go.Proofs.YtdihklfaiiclgaaGreatDoor
