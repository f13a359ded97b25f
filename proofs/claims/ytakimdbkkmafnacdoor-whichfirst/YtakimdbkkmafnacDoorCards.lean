/-
  DERIVED. GIVEN WITH THE SEED: THE CARDS: each row of YtakimdbkkmafnacDoorRows.lean that lists a variable, with what it lists TIED to the program's text (the seventh form; the later family's looks); each row that meets fmt, with fmt's text TOLD by the authors' own Lean function (tested against real Go, not proved from fmt's source: count such statements apart). THE CARD IS WHAT COUNTS. Prove the row's statement (the work); the ties are given (YtakimdbkkmafnacDoorTie.lean); close each card by the builder's one call (the guide's Derived/Test/ToyasCard.lean, 'card_holds'). Laid BY PROGRAM, IN A SANDBOX (cutbox-door.mjs). By AI agents, Wed Nov 11 2026. No macro, syntax, notation, axiom, sorry.
-/
import Derived.Test.YtakimdbkkmafnacDoorRows
import GoSem.ClaimSeven
namespace Go.Proofs.YtakimdbkkmafnacDoor
namespace Rows

/-- THE TIED CARD OF 'dotterelkeep.OneHolds'. -/
def oneHoldsCard : Claim7 := { stood := { row := oneHoldsRow, standIns := [], harness := (true, "2c5cc395b8b16489c4130ef413bc6b42ae4d5083d8f2894a55a014c1b0ea4a0c"), looks := false }, kinds := [], alts := [], laidByText := true, laidKinds := [.data], laidTests := true, laidLooks := .later }
def OneHoldsCardSaid : Prop := Claim7.holds Tryd.pinned (.plain (OpenSpec.ofChange oneHoldsSpec)) oneHoldsCard

/-- THE TIED CARD OF 'dotterelkeep.WhichFirst'. -/
def whichFirstCard : Claim7 := { stood := { row := whichFirstRow, standIns := [], harness := (true, "2c5cc395b8b16489c4130ef413bc6b42ae4d5083d8f2894a55a014c1b0ea4a0c"), looks := false }, kinds := [], alts := [], laidByText := true, laidKinds := [.data], laidTests := true, laidLooks := .later }
def WhichFirstCardSaid : Prop := Claim7.holds Tryd.pinned (.plain (OpenSpec.ofChange whichFirstSpec)) whichFirstCard

/-- THE TIED CARD OF 'dotterelkeep.ShiftSame'. -/
def shiftSameCard : Claim7 := { stood := { row := shiftSameRow, standIns := [], harness := (true, "2c5cc395b8b16489c4130ef413bc6b42ae4d5083d8f2894a55a014c1b0ea4a0c"), looks := false }, kinds := [], alts := [], laidByText := true, laidKinds := [.data], laidTests := true, laidLooks := .later }
def ShiftSameCardSaid : Prop := Claim7.holds Tryd.pinned (.plain (OpenSpec.ofChange shiftSameSpec)) shiftSameCard

/-- THE TIED CARD OF 'dotterelkeep.FitsWithin'. -/
def fitsWithinCard : Claim7 := { stood := { row := fitsWithinRow, standIns := [], harness := (true, "2c5cc395b8b16489c4130ef413bc6b42ae4d5083d8f2894a55a014c1b0ea4a0c"), looks := false }, kinds := [], alts := [], laidByText := true, laidKinds := [.data], laidTests := true, laidLooks := .later }
def FitsWithinCardSaid : Prop := Claim7.holds Tryd.pinned (.plain (OpenSpec.ofChange fitsWithinSpec)) fitsWithinCard

/-- THE TIED CARD OF 'dotterelkeep.EqualsSelf'. -/
def equalsSelfCard : Claim7 := { stood := { row := equalsSelfRow, standIns := [], harness := (true, "2c5cc395b8b16489c4130ef413bc6b42ae4d5083d8f2894a55a014c1b0ea4a0c"), looks := false }, kinds := [], alts := [], laidByText := true, laidKinds := [.data], laidTests := true, laidLooks := .later }
def EqualsSelfCardSaid : Prop := Claim7.holds Tryd.pinned (.plain (OpenSpec.ofChange equalsSelfSpec)) equalsSelfCard

/-- THE SECOND FORM's CARD OF 'dotterelkeep.OneHolds'. -/
def oneHoldsUptoCard : Claim7 := { stood := { row := oneHoldsUptoRow, standIns := [], harness := (true, "2c5cc395b8b16489c4130ef413bc6b42ae4d5083d8f2894a55a014c1b0ea4a0c"), looks := false }, kinds := [], alts := [], laidByText := true, laidKinds := [.data], laidTests := true, laidLooks := .later }
def OneHoldsUptoCardSaid : Prop := Claim7.holds Tryd.pinned (.plain (OpenSpec.upto oneHoldsSpec)) oneHoldsUptoCard

/-- THE SECOND FORM's CARD OF 'dotterelkeep.WhichFirst'. -/
def whichFirstUptoCard : Claim7 := { stood := { row := whichFirstUptoRow, standIns := [], harness := (true, "2c5cc395b8b16489c4130ef413bc6b42ae4d5083d8f2894a55a014c1b0ea4a0c"), looks := false }, kinds := [], alts := [], laidByText := true, laidKinds := [.data], laidTests := true, laidLooks := .later }
def WhichFirstUptoCardSaid : Prop := Claim7.holds Tryd.pinned (.plain (OpenSpec.upto whichFirstSpec)) whichFirstUptoCard

/-- THE SECOND FORM's CARD OF 'dotterelkeep.ShiftSame'. -/
def shiftSameUptoCard : Claim7 := { stood := { row := shiftSameUptoRow, standIns := [], harness := (true, "2c5cc395b8b16489c4130ef413bc6b42ae4d5083d8f2894a55a014c1b0ea4a0c"), looks := false }, kinds := [], alts := [], laidByText := true, laidKinds := [.data], laidTests := true, laidLooks := .later }
def ShiftSameUptoCardSaid : Prop := Claim7.holds Tryd.pinned (.plain (OpenSpec.upto shiftSameSpec)) shiftSameUptoCard

/-- THE SECOND FORM's CARD OF 'dotterelkeep.FitsWithin'. -/
def fitsWithinUptoCard : Claim7 := { stood := { row := fitsWithinUptoRow, standIns := [], harness := (true, "2c5cc395b8b16489c4130ef413bc6b42ae4d5083d8f2894a55a014c1b0ea4a0c"), looks := false }, kinds := [], alts := [], laidByText := true, laidKinds := [.data], laidTests := true, laidLooks := .later }
def FitsWithinUptoCardSaid : Prop := Claim7.holds Tryd.pinned (.plain (OpenSpec.upto fitsWithinSpec)) fitsWithinUptoCard

/-- THE SECOND FORM's CARD OF 'dotterelkeep.EqualsSelf'. -/
def equalsSelfUptoCard : Claim7 := { stood := { row := equalsSelfUptoRow, standIns := [], harness := (true, "2c5cc395b8b16489c4130ef413bc6b42ae4d5083d8f2894a55a014c1b0ea4a0c"), looks := false }, kinds := [], alts := [], laidByText := true, laidKinds := [.data], laidTests := true, laidLooks := .later }
def EqualsSelfUptoCardSaid : Prop := Claim7.holds Tryd.pinned (.plain (OpenSpec.upto equalsSelfSpec)) equalsSelfUptoCard
end Rows
end Go.Proofs.YtakimdbkkmafnacDoor
