/-
  DERIVED. GIVEN WITH THE SEED: THE CARDS: each row of YtnlmknbhppdliaaGreatDoorRows.lean that lists a variable, with what it lists TIED to the program's text (the seventh form; the later family's looks); each row that meets fmt, with fmt's text TOLD by the authors' own Lean function (tested against real Go, not proved from fmt's source: count such statements apart). THE CARD IS WHAT COUNTS. Prove the row's statement (the work); the ties are given (YtnlmknbhppdliaaGreatDoorTie.lean); close each card by the builder's one call (the guide's Derived/Test/ToyasCard.lean, 'card_holds'). Laid BY PROGRAM, IN A SANDBOX (cutbox-door.mjs). By AI agents, Wed Nov 11 2026. No macro, syntax, notation, axiom, sorry.
-/
import Derived.Test.YtnlmknbhppdliaaGreatDoorRows
import GoSem.ClaimSeven
namespace Go.Proofs.YtnlmknbhppdliaaGreatDoor
namespace Rows

/-- THE TIED CARD OF 'dotterelkeep.TakesType'. -/
def takesTypeCard : Claim7 := { stood := { row := takesTypeRow, standIns := [], harness := (true, "cb7956a01983798f239c92b3725aad0e8e14dfded3fd0eefdbccdb9a32abeb15"), looks := false }, kinds := [], alts := [], laidByText := true, laidKinds := [.data, .data], laidTests := true, laidLooks := .later }
def TakesTypeCardSaid : Prop := Claim7.holds Tryz.pinned (.plain (OpenSpec.ofChange takesTypeSpec)) takesTypeCard

/-- THE TIED CARD OF 'dotterelkeep.PlanNever'. -/
def planNeverCard : Claim7 := { stood := { row := planNeverRow, standIns := [], harness := (true, "cb7956a01983798f239c92b3725aad0e8e14dfded3fd0eefdbccdb9a32abeb15"), looks := false }, kinds := [], alts := [], laidByText := true, laidKinds := [.data, .data, .data], laidTests := true, laidLooks := .later }
def PlanNeverCardSaid : Prop := Claim7.holds Tryz.pinned (.plain (OpenSpec.ofChange planNeverSpec)) planNeverCard

/-- THE TIED CARD OF 'dotterelkeep.PlanDelay'. -/
def planDelayCard : Claim7 := { stood := { row := planDelayRow, standIns := [], harness := (true, "cb7956a01983798f239c92b3725aad0e8e14dfded3fd0eefdbccdb9a32abeb15"), looks := false }, kinds := [], alts := [], laidByText := true, laidKinds := [.data, .data, .data], laidTests := true, laidLooks := .later }
def PlanDelayCardSaid : Prop := Claim7.holds Tryz.pinned (.plain (OpenSpec.ofChange planDelaySpec)) planDelayCard

/-- THE TIED CARD OF 'dotterelkeep.PlanMany'. -/
def planManyCard : Claim7 := { stood := { row := planManyRow, standIns := [], harness := (true, "cb7956a01983798f239c92b3725aad0e8e14dfded3fd0eefdbccdb9a32abeb15"), looks := false }, kinds := [], alts := [], laidByText := true, laidKinds := [.data, .data, .data], laidTests := true, laidLooks := .later }
def PlanManyCardSaid : Prop := Claim7.holds Tryz.pinned (.plain (OpenSpec.ofChange planManySpec)) planManyCard

/-- THE TIED CARD OF 'dotterelkeep.FiresWithin'. -/
def firesWithinCard : Claim7 := { stood := { row := firesWithinRow, standIns := [], harness := (true, "cb7956a01983798f239c92b3725aad0e8e14dfded3fd0eefdbccdb9a32abeb15"), looks := false }, kinds := [], alts := [], laidByText := true, laidKinds := [.data, .data, .data], laidTests := true, laidLooks := .later }
def FiresWithinCardSaid : Prop := Claim7.holds Tryz.pinned (.plain (OpenSpec.ofChange firesWithinSpec)) firesWithinCard

/-- THE SECOND FORM's CARD OF 'dotterelkeep.TakesType'. -/
def takesTypeUptoCard : Claim7 := { stood := { row := takesTypeUptoRow, standIns := [], harness := (true, "cb7956a01983798f239c92b3725aad0e8e14dfded3fd0eefdbccdb9a32abeb15"), looks := false }, kinds := [], alts := [], laidByText := true, laidKinds := [.data, .data], laidTests := true, laidLooks := .later }
def TakesTypeUptoCardSaid : Prop := Claim7.holds Tryz.pinned (.plain (OpenSpec.upto takesTypeSpec)) takesTypeUptoCard

/-- THE SECOND FORM's CARD OF 'dotterelkeep.PlanNever'. -/
def planNeverUptoCard : Claim7 := { stood := { row := planNeverUptoRow, standIns := [], harness := (true, "cb7956a01983798f239c92b3725aad0e8e14dfded3fd0eefdbccdb9a32abeb15"), looks := false }, kinds := [], alts := [], laidByText := true, laidKinds := [.data, .data, .data], laidTests := true, laidLooks := .later }
def PlanNeverUptoCardSaid : Prop := Claim7.holds Tryz.pinned (.plain (OpenSpec.upto planNeverSpec)) planNeverUptoCard

/-- THE SECOND FORM's CARD OF 'dotterelkeep.PlanDelay'. -/
def planDelayUptoCard : Claim7 := { stood := { row := planDelayUptoRow, standIns := [], harness := (true, "cb7956a01983798f239c92b3725aad0e8e14dfded3fd0eefdbccdb9a32abeb15"), looks := false }, kinds := [], alts := [], laidByText := true, laidKinds := [.data, .data, .data], laidTests := true, laidLooks := .later }
def PlanDelayUptoCardSaid : Prop := Claim7.holds Tryz.pinned (.plain (OpenSpec.upto planDelaySpec)) planDelayUptoCard

/-- THE SECOND FORM's CARD OF 'dotterelkeep.PlanMany'. -/
def planManyUptoCard : Claim7 := { stood := { row := planManyUptoRow, standIns := [], harness := (true, "cb7956a01983798f239c92b3725aad0e8e14dfded3fd0eefdbccdb9a32abeb15"), looks := false }, kinds := [], alts := [], laidByText := true, laidKinds := [.data, .data, .data], laidTests := true, laidLooks := .later }
def PlanManyUptoCardSaid : Prop := Claim7.holds Tryz.pinned (.plain (OpenSpec.upto planManySpec)) planManyUptoCard

/-- THE SECOND FORM's CARD OF 'dotterelkeep.FiresWithin'. -/
def firesWithinUptoCard : Claim7 := { stood := { row := firesWithinUptoRow, standIns := [], harness := (true, "cb7956a01983798f239c92b3725aad0e8e14dfded3fd0eefdbccdb9a32abeb15"), looks := false }, kinds := [], alts := [], laidByText := true, laidKinds := [.data, .data, .data], laidTests := true, laidLooks := .later }
def FiresWithinUptoCardSaid : Prop := Claim7.holds Tryz.pinned (.plain (OpenSpec.upto firesWithinSpec)) firesWithinUptoCard
end Rows
end Go.Proofs.YtnlmknbhppdliaaGreatDoor
