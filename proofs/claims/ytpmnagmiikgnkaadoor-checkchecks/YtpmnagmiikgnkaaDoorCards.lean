/-
  DERIVED. GIVEN WITH THE SEED: THE CARDS: each row of YtpmnagmiikgnkaaDoorRows.lean that lists a variable, with what it lists TIED to the program's text (the seventh form; the later family's looks); each row that meets fmt, with fmt's text TOLD by the authors' own Lean function (tested against real Go, not proved from fmt's source: count such statements apart). THE CARD IS WHAT COUNTS. Prove the row's statement (the work); the ties are given (YtpmnagmiikgnkaaDoorTie.lean); close each card by the builder's one call (the guide's Derived/Test/ToyasCard.lean, 'card_holds'). Laid BY PROGRAM, IN A SANDBOX (cutbox-door.mjs). By AI agents, Wed Nov 11 2026. No macro, syntax, notation, axiom, sorry.
-/
import Derived.Test.YtpmnagmiikgnkaaDoorRows
import GoSem.ClaimSeven
namespace Go.Proofs.YtpmnagmiikgnkaaDoor
namespace Rows

/-- THE TIED CARD OF 'dotterellaw.CheckChecks'. -/
def checkChecksCard : Claim7 := { stood := { row := checkChecksRow, standIns := [], harness := (true, "0220738f1f9d456cb83e89b1654e08ffab2c6e9297d55469a78fffc8aa987e74"), looks := false }, kinds := [], alts := [], laidByText := true, laidKinds := [.data, .data], laidTests := true, laidLooks := .later }
def CheckChecksCardSaid : Prop := Claim7.holds Tryd.pinned (.plain (OpenSpec.ofChange checkChecksSpec)) checkChecksCard

/-- THE TIED CARD OF 'dotterelkeep.CheckNone'. -/
def checkNoneCard : Claim7 := { stood := { row := checkNoneRow, standIns := [], harness := (true, "0220738f1f9d456cb83e89b1654e08ffab2c6e9297d55469a78fffc8aa987e74"), looks := false }, kinds := [], alts := [], laidByText := true, laidKinds := [.data, .data], laidTests := true, laidLooks := .later }
def CheckNoneCardSaid : Prop := Claim7.holds Tryd.pinned (.plain (OpenSpec.ofChange checkNoneSpec)) checkNoneCard

/-- THE TIED CARD OF 'dotterelkeep.CheckLoop'. -/
def checkLoopCard : Claim7 := { stood := { row := checkLoopRow, standIns := [], harness := (true, "0220738f1f9d456cb83e89b1654e08ffab2c6e9297d55469a78fffc8aa987e74"), looks := false }, kinds := [], alts := [], laidByText := true, laidKinds := [.data, .data], laidTests := true, laidLooks := .later }
def CheckLoopCardSaid : Prop := Claim7.holds Tryd.pinned (.plain (OpenSpec.ofChange checkLoopSpec)) checkLoopCard

/-- THE SECOND FORM's CARD OF 'dotterellaw.CheckChecks'. -/
def checkChecksUptoCard : Claim7 := { stood := { row := checkChecksUptoRow, standIns := [], harness := (true, "0220738f1f9d456cb83e89b1654e08ffab2c6e9297d55469a78fffc8aa987e74"), looks := false }, kinds := [], alts := [], laidByText := true, laidKinds := [.data, .data], laidTests := true, laidLooks := .later }
def CheckChecksUptoCardSaid : Prop := Claim7.holds Tryd.pinned (.plain (OpenSpec.upto checkChecksSpec)) checkChecksUptoCard

/-- THE SECOND FORM's CARD OF 'dotterelkeep.CheckNone'. -/
def checkNoneUptoCard : Claim7 := { stood := { row := checkNoneUptoRow, standIns := [], harness := (true, "0220738f1f9d456cb83e89b1654e08ffab2c6e9297d55469a78fffc8aa987e74"), looks := false }, kinds := [], alts := [], laidByText := true, laidKinds := [.data, .data], laidTests := true, laidLooks := .later }
def CheckNoneUptoCardSaid : Prop := Claim7.holds Tryd.pinned (.plain (OpenSpec.upto checkNoneSpec)) checkNoneUptoCard

/-- THE SECOND FORM's CARD OF 'dotterelkeep.CheckLoop'. -/
def checkLoopUptoCard : Claim7 := { stood := { row := checkLoopUptoRow, standIns := [], harness := (true, "0220738f1f9d456cb83e89b1654e08ffab2c6e9297d55469a78fffc8aa987e74"), looks := false }, kinds := [], alts := [], laidByText := true, laidKinds := [.data, .data], laidTests := true, laidLooks := .later }
def CheckLoopUptoCardSaid : Prop := Claim7.holds Tryd.pinned (.plain (OpenSpec.upto checkLoopSpec)) checkLoopUptoCard
end Rows
end Go.Proofs.YtpmnagmiikgnkaaDoor
