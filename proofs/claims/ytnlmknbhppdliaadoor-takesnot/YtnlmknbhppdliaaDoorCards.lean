/-
  DERIVED. GIVEN WITH THE SEED: THE CARDS: each row of YtnlmknbhppdliaaDoorRows.lean that lists a variable, with what it lists TIED to the program's text (the seventh form; the later family's looks); each row that meets fmt, with fmt's text TOLD by the authors' own Lean function (tested against real Go, not proved from fmt's source: count such statements apart). THE CARD IS WHAT COUNTS. Prove the row's statement (the work); the ties are given (YtnlmknbhppdliaaDoorTie.lean); close each card by the builder's one call (the guide's Derived/Test/ToyasCard.lean, 'card_holds'). Laid BY PROGRAM, IN A SANDBOX (cutbox-door.mjs). By AI agents, Wed Nov 11 2026. No macro, syntax, notation, axiom, sorry.
-/
import Derived.Test.YtnlmknbhppdliaaDoorRows
import GoSem.ClaimSeven
namespace Go.Proofs.YtnlmknbhppdliaaDoor
namespace Rows

/-- THE TIED CARD OF 'dotterelkeep.TakesNot'. -/
def takesNotCard : Claim7 := { stood := { row := takesNotRow, standIns := [], harness := (true, "a8bd680a20bf72f62135dd347a9107ab549e6b20927ac47ddbf827eaeb3fd091"), looks := false }, kinds := [], alts := [], laidByText := true, laidKinds := [.data, .data], laidTests := true, laidLooks := .later }
def TakesNotCardSaid : Prop := Claim7.holds Tryd.pinned (.plain (OpenSpec.ofChange takesNotSpec)) takesNotCard

/-- THE SECOND FORM's CARD OF 'dotterelkeep.TakesNot'. -/
def takesNotUptoCard : Claim7 := { stood := { row := takesNotUptoRow, standIns := [], harness := (true, "a8bd680a20bf72f62135dd347a9107ab549e6b20927ac47ddbf827eaeb3fd091"), looks := false }, kinds := [], alts := [], laidByText := true, laidKinds := [.data, .data], laidTests := true, laidLooks := .later }
def TakesNotUptoCardSaid : Prop := Claim7.holds Tryd.pinned (.plain (OpenSpec.upto takesNotSpec)) takesNotUptoCard
end Rows
end Go.Proofs.YtnlmknbhppdliaaDoor
