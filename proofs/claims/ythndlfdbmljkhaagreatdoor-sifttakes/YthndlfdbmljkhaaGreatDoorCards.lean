/-
  DERIVED. GIVEN WITH THE SEED: THE CARDS: each row of YthndlfdbmljkhaaGreatDoorRows.lean that lists a variable, with what it lists TIED to the program's text (the seventh form; the later family's looks); each row that meets fmt, with fmt's text TOLD by the authors' own Lean function (tested against real Go, not proved from fmt's source: count such statements apart). THE CARD IS WHAT COUNTS. Prove the row's statement (the work); the ties are given (YthndlfdbmljkhaaGreatDoorTie.lean); close each card by the builder's one call (the guide's Derived/Test/ToyasCard.lean, 'card_holds'). Laid BY PROGRAM, IN A SANDBOX (cutbox-door.mjs). By AI agents, Wed Nov 11 2026. No macro, syntax, notation, axiom, sorry.
-/
import Derived.Test.YthndlfdbmljkhaaGreatDoorRows
import GoSem.ClaimSeven
namespace Go.Proofs.YthndlfdbmljkhaaGreatDoor
namespace Rows

/-- THE TIED CARD OF 'dotterellaw.SiftTakes'. -/
def siftTakesCard : Claim7 := { stood := { row := siftTakesRow, standIns := [], harness := (true, "66ec3978092a3bde7d5073854018e72517885d788a20292f84ee2691b96769d3"), looks := false }, kinds := [], alts := [], laidByText := true, laidKinds := [.data, .data], laidTests := true, laidLooks := .later }
def SiftTakesCardSaid : Prop := Claim7.holds Tryz.pinned (.plain (OpenSpec.ofChange siftTakesSpec)) siftTakesCard

/-- THE TIED CARD OF 'dotterellaw.JoinTuples'. -/
def joinTuplesCard : Claim7 := { stood := { row := joinTuplesRow, standIns := [], harness := (true, "66ec3978092a3bde7d5073854018e72517885d788a20292f84ee2691b96769d3"), looks := false }, kinds := [], alts := [], laidByText := true, laidKinds := [.data, .data, .data], laidTests := true, laidLooks := .later }
def JoinTuplesCardSaid : Prop := Claim7.holds Tryz.pinned (.plain (OpenSpec.ofChange joinTuplesSpec)) joinTuplesCard

/-- THE SECOND FORM's CARD OF 'dotterellaw.SiftTakes'. -/
def siftTakesUptoCard : Claim7 := { stood := { row := siftTakesUptoRow, standIns := [], harness := (true, "66ec3978092a3bde7d5073854018e72517885d788a20292f84ee2691b96769d3"), looks := false }, kinds := [], alts := [], laidByText := true, laidKinds := [.data, .data], laidTests := true, laidLooks := .later }
def SiftTakesUptoCardSaid : Prop := Claim7.holds Tryz.pinned (.plain (OpenSpec.upto siftTakesSpec)) siftTakesUptoCard

/-- THE SECOND FORM's CARD OF 'dotterellaw.JoinTuples'. -/
def joinTuplesUptoCard : Claim7 := { stood := { row := joinTuplesUptoRow, standIns := [], harness := (true, "66ec3978092a3bde7d5073854018e72517885d788a20292f84ee2691b96769d3"), looks := false }, kinds := [], alts := [], laidByText := true, laidKinds := [.data, .data, .data], laidTests := true, laidLooks := .later }
def JoinTuplesUptoCardSaid : Prop := Claim7.holds Tryz.pinned (.plain (OpenSpec.upto joinTuplesSpec)) joinTuplesUptoCard
end Rows
end Go.Proofs.YthndlfdbmljkhaaGreatDoor
