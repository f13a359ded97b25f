/-
  DERIVED. GIVEN WITH THE SEED: THE CARDS: each row of YtakimdbkkmafnaaDoorRows.lean that lists a variable, with what it lists TIED to the program's text (the seventh form; the later family's looks); each row that meets fmt, with fmt's text TOLD by the authors' own Lean function (tested against real Go, not proved from fmt's source: count such statements apart). THE CARD IS WHAT COUNTS. Prove the row's statement (the work); the ties are given (YtakimdbkkmafnaaDoorTie.lean); close each card by the builder's one call (the guide's Derived/Test/ToyasCard.lean, 'card_holds'). Laid BY PROGRAM, IN A SANDBOX (cutbox-door.mjs). By AI agents, Wed Nov 11 2026. No macro, syntax, notation, axiom, sorry.
-/
import Derived.Test.YtakimdbkkmafnaaDoorRows
import GoSem.ClaimSeven
namespace Go.Proofs.YtakimdbkkmafnaaDoor
namespace Rows

/-- THE TIED CARD OF 'dotterellaw.TickInverts'. -/
def tickInvertsCard : Claim7 := { stood := { row := tickInvertsRow, standIns := [], harness := (true, "1b0a31c080db6571b3a259a95cb492fc41869ffda56e81879e7e7c7de7b74386"), looks := false }, kinds := [], alts := [], laidByText := true, laidKinds := [.data], laidTests := true, laidLooks := .later }
def TickInvertsCardSaid : Prop := Claim7.holds Tryd.pinned (.plain (OpenSpec.ofChange tickInvertsSpec)) tickInvertsCard

/-- THE TIED CARD OF 'dotterellaw.TickHolds'. -/
def tickHoldsCard : Claim7 := { stood := { row := tickHoldsRow, standIns := [], harness := (true, "1b0a31c080db6571b3a259a95cb492fc41869ffda56e81879e7e7c7de7b74386"), looks := false }, kinds := [], alts := [], laidByText := true, laidKinds := [.data], laidTests := true, laidLooks := .later }
def TickHoldsCardSaid : Prop := Claim7.holds Tryd.pinned (.plain (OpenSpec.ofChange tickHoldsSpec)) tickHoldsCard

/-- THE TIED CARD OF 'dotterellaw.TickDistances'. -/
def tickDistancesCard : Claim7 := { stood := { row := tickDistancesRow, standIns := [], harness := (true, "1b0a31c080db6571b3a259a95cb492fc41869ffda56e81879e7e7c7de7b74386"), looks := false }, kinds := [], alts := [], laidByText := true, laidKinds := [.data], laidTests := true, laidLooks := .later }
def TickDistancesCardSaid : Prop := Claim7.holds Tryd.pinned (.plain (OpenSpec.ofChange tickDistancesSpec)) tickDistancesCard

/-- THE TIED CARD OF 'dotterellaw.TickWhich'. -/
def tickWhichCard : Claim7 := { stood := { row := tickWhichRow, standIns := [], harness := (true, "1b0a31c080db6571b3a259a95cb492fc41869ffda56e81879e7e7c7de7b74386"), looks := false }, kinds := [], alts := [], laidByText := true, laidKinds := [.data], laidTests := true, laidLooks := .later }
def TickWhichCardSaid : Prop := Claim7.holds Tryd.pinned (.plain (OpenSpec.ofChange tickWhichSpec)) tickWhichCard

/-- THE SECOND FORM's CARD OF 'dotterellaw.TickInverts'. -/
def tickInvertsUptoCard : Claim7 := { stood := { row := tickInvertsUptoRow, standIns := [], harness := (true, "1b0a31c080db6571b3a259a95cb492fc41869ffda56e81879e7e7c7de7b74386"), looks := false }, kinds := [], alts := [], laidByText := true, laidKinds := [.data], laidTests := true, laidLooks := .later }
def TickInvertsUptoCardSaid : Prop := Claim7.holds Tryd.pinned (.plain (OpenSpec.upto tickInvertsSpec)) tickInvertsUptoCard

/-- THE SECOND FORM's CARD OF 'dotterellaw.TickHolds'. -/
def tickHoldsUptoCard : Claim7 := { stood := { row := tickHoldsUptoRow, standIns := [], harness := (true, "1b0a31c080db6571b3a259a95cb492fc41869ffda56e81879e7e7c7de7b74386"), looks := false }, kinds := [], alts := [], laidByText := true, laidKinds := [.data], laidTests := true, laidLooks := .later }
def TickHoldsUptoCardSaid : Prop := Claim7.holds Tryd.pinned (.plain (OpenSpec.upto tickHoldsSpec)) tickHoldsUptoCard

/-- THE SECOND FORM's CARD OF 'dotterellaw.TickDistances'. -/
def tickDistancesUptoCard : Claim7 := { stood := { row := tickDistancesUptoRow, standIns := [], harness := (true, "1b0a31c080db6571b3a259a95cb492fc41869ffda56e81879e7e7c7de7b74386"), looks := false }, kinds := [], alts := [], laidByText := true, laidKinds := [.data], laidTests := true, laidLooks := .later }
def TickDistancesUptoCardSaid : Prop := Claim7.holds Tryd.pinned (.plain (OpenSpec.upto tickDistancesSpec)) tickDistancesUptoCard

/-- THE SECOND FORM's CARD OF 'dotterellaw.TickWhich'. -/
def tickWhichUptoCard : Claim7 := { stood := { row := tickWhichUptoRow, standIns := [], harness := (true, "1b0a31c080db6571b3a259a95cb492fc41869ffda56e81879e7e7c7de7b74386"), looks := false }, kinds := [], alts := [], laidByText := true, laidKinds := [.data], laidTests := true, laidLooks := .later }
def TickWhichUptoCardSaid : Prop := Claim7.holds Tryd.pinned (.plain (OpenSpec.upto tickWhichSpec)) tickWhichUptoCard
end Rows
end Go.Proofs.YtakimdbkkmafnaaDoor
