/-
  DERIVED. GIVEN WITH THE SEED: THE CARDS: each row of YtgikaheojcpmpaaDoorRows.lean that lists a variable, with what it lists TIED to the program's text (the seventh form; the later family's looks); each row that meets fmt, with fmt's text TOLD by the authors' own Lean function (tested against real Go, not proved from fmt's source: count such statements apart). THE CARD IS WHAT COUNTS. Prove the row's statement (the work); the ties are given (YtgikaheojcpmpaaDoorTie.lean); close each card by the builder's one call (the guide's Derived/Test/ToyasCard.lean, 'card_holds'). Laid BY PROGRAM, IN A SANDBOX (cutbox-door.mjs). By AI agents, Wed Nov 11 2026. No macro, syntax, notation, axiom, sorry.
-/
import Derived.Test.YtgikaheojcpmpaaDoorRows
import GoSem.ClaimSeven
namespace Go.Proofs.YtgikaheojcpmpaaDoor
namespace Rows

/-- THE TIED CARD OF 'dotterellaw.BoundOptions'. -/
def boundOptionsCard : Claim7 := { stood := { row := boundOptionsRow, standIns := [], harness := (true, "e8a25ee34f5ea66d7b2e17ab14dfd364ea720100c654a86b79c1704d0254d12b"), looks := false }, kinds := [], alts := [], laidByText := true, laidKinds := [.data], laidTests := true, laidLooks := .later }
def BoundOptionsCardSaid : Prop := Claim7.holds Tryd.pinned (.plain (OpenSpec.ofChange boundOptionsSpec)) boundOptionsCard

/-- THE SECOND FORM's CARD OF 'dotterellaw.BoundOptions'. -/
def boundOptionsUptoCard : Claim7 := { stood := { row := boundOptionsUptoRow, standIns := [], harness := (true, "e8a25ee34f5ea66d7b2e17ab14dfd364ea720100c654a86b79c1704d0254d12b"), looks := false }, kinds := [], alts := [], laidByText := true, laidKinds := [.data], laidTests := true, laidLooks := .later }
def BoundOptionsUptoCardSaid : Prop := Claim7.holds Tryd.pinned (.plain (OpenSpec.upto boundOptionsSpec)) boundOptionsUptoCard
end Rows
end Go.Proofs.YtgikaheojcpmpaaDoor
