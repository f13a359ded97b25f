/-
  DERIVED. GIVEN WITH THE SEED: THE CARDS: each row of YthndlfdbmljkhaaDoorRows.lean that lists a variable, with what it lists TIED to the program's text (the seventh form; the later family's looks); each row that meets fmt, with fmt's text TOLD by the authors' own Lean function (tested against real Go, not proved from fmt's source: count such statements apart). THE CARD IS WHAT COUNTS. Prove the row's statement (the work); the ties are given (YthndlfdbmljkhaaDoorTie.lean); close each card by the builder's one call (the guide's Derived/Test/ToyasCard.lean, 'card_holds'). Laid BY PROGRAM, IN A SANDBOX (cutbox-door.mjs). By AI agents, Wed Nov 11 2026. No macro, syntax, notation, axiom, sorry.
-/
import Derived.Test.YthndlfdbmljkhaaDoorRows
import GoSem.ClaimSeven
namespace Go.Proofs.YthndlfdbmljkhaaDoor
namespace Rows

/-- THE TIED CARD OF 'dotterellaw.JoinEvents'. -/
def joinEventsCard : Claim7 := { stood := { row := joinEventsRow, standIns := [], harness := (true, "fb2dea8ddcf4c554bdfa0b801b35f4ad0b1ebdd54469c748358457070c53ce77"), looks := false }, kinds := [], alts := [], laidByText := true, laidKinds := [.data, .data], laidTests := true, laidLooks := .later }
def JoinEventsCardSaid : Prop := Claim7.holds Tryd.pinned (.plain (OpenSpec.ofChange joinEventsSpec)) joinEventsCard

/-- THE SECOND FORM's CARD OF 'dotterellaw.JoinEvents'. -/
def joinEventsUptoCard : Claim7 := { stood := { row := joinEventsUptoRow, standIns := [], harness := (true, "fb2dea8ddcf4c554bdfa0b801b35f4ad0b1ebdd54469c748358457070c53ce77"), looks := false }, kinds := [], alts := [], laidByText := true, laidKinds := [.data, .data], laidTests := true, laidLooks := .later }
def JoinEventsUptoCardSaid : Prop := Claim7.holds Tryd.pinned (.plain (OpenSpec.upto joinEventsSpec)) joinEventsUptoCard
end Rows
end Go.Proofs.YthndlfdbmljkhaaDoor
