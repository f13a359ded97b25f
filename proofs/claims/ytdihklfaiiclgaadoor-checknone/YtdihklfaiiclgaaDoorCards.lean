/-
  DERIVED. GIVEN WITH THE SEED: THE CARDS: each row of YtdihklfaiiclgaaDoorRows.lean that lists a variable, with what it lists TIED to the program's text (the seventh form; the later family's looks); each row that meets fmt, with fmt's text TOLD by the authors' own Lean function (tested against real Go, not proved from fmt's source: count such statements apart). THE CARD IS WHAT COUNTS. Prove the row's statement (the work); the ties are given (YtdihklfaiiclgaaDoorTie.lean); close each card by the builder's one call (the guide's Derived/Test/ToyasCard.lean, 'card_holds'). Laid BY PROGRAM, IN A SANDBOX (cutbox-door.mjs). By AI agents, Wed Nov 11 2026. No macro, syntax, notation, axiom, sorry.
-/
import Derived.Test.YtdihklfaiiclgaaDoorRows
import GoSem.ClaimSeven
namespace Go.Proofs.YtdihklfaiiclgaaDoor
namespace Rows

/-- THE TIED CARD OF 'dotterelkeep.CheckNone'. -/
def checkNoneCard : Claim7 := { stood := { row := checkNoneRow, standIns := [], harness := (true, "216d0a0d352c632447dd58365d856659ff6ee2daf0aa55bf1391764c42725c5e"), looks := false }, kinds := [], alts := [], laidByText := true, laidKinds := [.data, .data], laidTests := true, laidLooks := .later }
def CheckNoneCardSaid : Prop := Claim7.holds Tryd.pinned (.plain (OpenSpec.ofChange checkNoneSpec)) checkNoneCard

/-- THE TIED CARD OF 'dotterelkeep.CheckLoop'. -/
def checkLoopCard : Claim7 := { stood := { row := checkLoopRow, standIns := [], harness := (true, "216d0a0d352c632447dd58365d856659ff6ee2daf0aa55bf1391764c42725c5e"), looks := false }, kinds := [], alts := [], laidByText := true, laidKinds := [.data, .data], laidTests := true, laidLooks := .later }
def CheckLoopCardSaid : Prop := Claim7.holds Tryd.pinned (.plain (OpenSpec.ofChange checkLoopSpec)) checkLoopCard

/-- THE SECOND FORM's CARD OF 'dotterelkeep.CheckNone'. -/
def checkNoneUptoCard : Claim7 := { stood := { row := checkNoneUptoRow, standIns := [], harness := (true, "216d0a0d352c632447dd58365d856659ff6ee2daf0aa55bf1391764c42725c5e"), looks := false }, kinds := [], alts := [], laidByText := true, laidKinds := [.data, .data], laidTests := true, laidLooks := .later }
def CheckNoneUptoCardSaid : Prop := Claim7.holds Tryd.pinned (.plain (OpenSpec.upto checkNoneSpec)) checkNoneUptoCard

/-- THE SECOND FORM's CARD OF 'dotterelkeep.CheckLoop'. -/
def checkLoopUptoCard : Claim7 := { stood := { row := checkLoopUptoRow, standIns := [], harness := (true, "216d0a0d352c632447dd58365d856659ff6ee2daf0aa55bf1391764c42725c5e"), looks := false }, kinds := [], alts := [], laidByText := true, laidKinds := [.data, .data], laidTests := true, laidLooks := .later }
def CheckLoopUptoCardSaid : Prop := Claim7.holds Tryd.pinned (.plain (OpenSpec.upto checkLoopSpec)) checkLoopUptoCard
end Rows
end Go.Proofs.YtdihklfaiiclgaaDoor
