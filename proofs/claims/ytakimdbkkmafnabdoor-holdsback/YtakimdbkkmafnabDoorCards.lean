/-
  DERIVED. GIVEN WITH THE SEED: THE CARDS: each row of YtakimdbkkmafnabDoorRows.lean that lists a variable, with what it lists TIED to the program's text (the seventh form; the later family's looks); each row that meets fmt, with fmt's text TOLD by the authors' own Lean function (tested against real Go, not proved from fmt's source: count such statements apart). THE CARD IS WHAT COUNTS. Prove the row's statement (the work); the ties are given (YtakimdbkkmafnabDoorTie.lean); close each card by the builder's one call (the guide's Derived/Test/ToyasCard.lean, 'card_holds'). Laid BY PROGRAM, IN A SANDBOX (cutbox-door.mjs). By AI agents, Wed Nov 11 2026. No macro, syntax, notation, axiom, sorry.
-/
import Derived.Test.YtakimdbkkmafnabDoorRows
import GoSem.ClaimSeven
namespace Go.Proofs.YtakimdbkkmafnabDoor
namespace Rows

/-- THE TIED CARD OF 'dotterellaw.TickFits'. -/
def tickFitsCard : Claim7 := { stood := { row := tickFitsRow, standIns := [], harness := (true, "53dae9b228f277a70ce06a3345fd4c4296efcc31b7ea39b9d4c6fcda9f855018"), looks := false }, kinds := [], alts := [], laidByText := true, laidKinds := [.data], laidTests := true, laidLooks := .later }
def TickFitsCardSaid : Prop := Claim7.holds Tryd.pinned (.plain (OpenSpec.ofChange tickFitsSpec)) tickFitsCard

/-- THE TIED CARD OF 'dotterelkeep.InverseTwice'. -/
def inverseTwiceCard : Claim7 := { stood := { row := inverseTwiceRow, standIns := [], harness := (true, "53dae9b228f277a70ce06a3345fd4c4296efcc31b7ea39b9d4c6fcda9f855018"), looks := false }, kinds := [], alts := [], laidByText := true, laidKinds := [.data], laidTests := true, laidLooks := .later }
def InverseTwiceCardSaid : Prop := Claim7.holds Tryd.pinned (.plain (OpenSpec.ofChange inverseTwiceSpec)) inverseTwiceCard

/-- THE TIED CARD OF 'dotterelkeep.HoldsBack'. -/
def holdsBackCard : Claim7 := { stood := { row := holdsBackRow, standIns := [], harness := (true, "53dae9b228f277a70ce06a3345fd4c4296efcc31b7ea39b9d4c6fcda9f855018"), looks := false }, kinds := [], alts := [], laidByText := true, laidKinds := [.data], laidTests := true, laidLooks := .later }
def HoldsBackCardSaid : Prop := Claim7.holds Tryd.pinned (.plain (OpenSpec.ofChange holdsBackSpec)) holdsBackCard

/-- THE SECOND FORM's CARD OF 'dotterellaw.TickFits'. -/
def tickFitsUptoCard : Claim7 := { stood := { row := tickFitsUptoRow, standIns := [], harness := (true, "53dae9b228f277a70ce06a3345fd4c4296efcc31b7ea39b9d4c6fcda9f855018"), looks := false }, kinds := [], alts := [], laidByText := true, laidKinds := [.data], laidTests := true, laidLooks := .later }
def TickFitsUptoCardSaid : Prop := Claim7.holds Tryd.pinned (.plain (OpenSpec.upto tickFitsSpec)) tickFitsUptoCard

/-- THE SECOND FORM's CARD OF 'dotterelkeep.InverseTwice'. -/
def inverseTwiceUptoCard : Claim7 := { stood := { row := inverseTwiceUptoRow, standIns := [], harness := (true, "53dae9b228f277a70ce06a3345fd4c4296efcc31b7ea39b9d4c6fcda9f855018"), looks := false }, kinds := [], alts := [], laidByText := true, laidKinds := [.data], laidTests := true, laidLooks := .later }
def InverseTwiceUptoCardSaid : Prop := Claim7.holds Tryd.pinned (.plain (OpenSpec.upto inverseTwiceSpec)) inverseTwiceUptoCard

/-- THE SECOND FORM's CARD OF 'dotterelkeep.HoldsBack'. -/
def holdsBackUptoCard : Claim7 := { stood := { row := holdsBackUptoRow, standIns := [], harness := (true, "53dae9b228f277a70ce06a3345fd4c4296efcc31b7ea39b9d4c6fcda9f855018"), looks := false }, kinds := [], alts := [], laidByText := true, laidKinds := [.data], laidTests := true, laidLooks := .later }
def HoldsBackUptoCardSaid : Prop := Claim7.holds Tryd.pinned (.plain (OpenSpec.upto holdsBackSpec)) holdsBackUptoCard
end Rows
end Go.Proofs.YtakimdbkkmafnabDoor
