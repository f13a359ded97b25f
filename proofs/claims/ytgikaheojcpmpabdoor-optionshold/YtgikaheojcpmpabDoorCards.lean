/-
  DERIVED. GIVEN WITH THE SEED: THE CARDS: each row of YtgikaheojcpmpabDoorRows.lean that lists a variable, with what it lists TIED to the program's text (the seventh form; the later family's looks); each row that meets fmt, with fmt's text TOLD by the authors' own Lean function (tested against real Go, not proved from fmt's source: count such statements apart). THE CARD IS WHAT COUNTS. Prove the row's statement (the work); the ties are given (YtgikaheojcpmpabDoorTie.lean); close each card by the builder's one call (the guide's Derived/Test/ToyasCard.lean, 'card_holds'). Laid BY PROGRAM, IN A SANDBOX (cutbox-door.mjs). By AI agents, Wed Nov 11 2026. No macro, syntax, notation, axiom, sorry.
-/
import Derived.Test.YtgikaheojcpmpabDoorRows
import GoSem.ClaimSeven
namespace Go.Proofs.YtgikaheojcpmpabDoor
namespace Rows

/-- THE TIED CARD OF 'dotterelkeep.OptionsHold'. -/
def optionsHoldCard : Claim7 := { stood := { row := optionsHoldRow, standIns := [], harness := (true, "3e6f727e26414606b08dba237a51a0233c6427659616a30afa7193743b96a168"), looks := false }, kinds := [], alts := [], laidByText := true, laidKinds := [.data], laidTests := true, laidLooks := .later }
def OptionsHoldCardSaid : Prop := Claim7.holds Tryd.pinned (.plain (OpenSpec.ofChange optionsHoldSpec)) optionsHoldCard

/-- THE TIED CARD OF 'dotterelkeep.OptionsBack'. -/
def optionsBackCard : Claim7 := { stood := { row := optionsBackRow, standIns := [], harness := (true, "3e6f727e26414606b08dba237a51a0233c6427659616a30afa7193743b96a168"), looks := false }, kinds := [], alts := [], laidByText := true, laidKinds := [.data], laidTests := true, laidLooks := .later }
def OptionsBackCardSaid : Prop := Claim7.holds Tryd.pinned (.plain (OpenSpec.ofChange optionsBackSpec)) optionsBackCard

/-- THE SECOND FORM's CARD OF 'dotterelkeep.OptionsHold'. -/
def optionsHoldUptoCard : Claim7 := { stood := { row := optionsHoldUptoRow, standIns := [], harness := (true, "3e6f727e26414606b08dba237a51a0233c6427659616a30afa7193743b96a168"), looks := false }, kinds := [], alts := [], laidByText := true, laidKinds := [.data], laidTests := true, laidLooks := .later }
def OptionsHoldUptoCardSaid : Prop := Claim7.holds Tryd.pinned (.plain (OpenSpec.upto optionsHoldSpec)) optionsHoldUptoCard

/-- THE SECOND FORM's CARD OF 'dotterelkeep.OptionsBack'. -/
def optionsBackUptoCard : Claim7 := { stood := { row := optionsBackUptoRow, standIns := [], harness := (true, "3e6f727e26414606b08dba237a51a0233c6427659616a30afa7193743b96a168"), looks := false }, kinds := [], alts := [], laidByText := true, laidKinds := [.data], laidTests := true, laidLooks := .later }
def OptionsBackUptoCardSaid : Prop := Claim7.holds Tryd.pinned (.plain (OpenSpec.upto optionsBackSpec)) optionsBackUptoCard
end Rows
end Go.Proofs.YtgikaheojcpmpabDoor
