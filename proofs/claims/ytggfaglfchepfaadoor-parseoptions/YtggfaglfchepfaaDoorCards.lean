/-
  DERIVED. GIVEN WITH THE SEED: THE CARDS: each row of YtggfaglfchepfaaDoorRows.lean that lists a variable, with what it lists TIED to the program's text (the seventh form; the later family's looks); each row that meets fmt, with fmt's text TOLD by the authors' own Lean function (tested against real Go, not proved from fmt's source: count such statements apart). THE CARD IS WHAT COUNTS. Prove the row's statement (the work); the ties are given (YtggfaglfchepfaaDoorTie.lean); close each card by the builder's one call (the guide's Derived/Test/ToyasCard.lean, 'card_holds'). Laid BY PROGRAM, IN A SANDBOX (cutbox-door.mjs). By AI agents, Wed Nov 11 2026. No macro, syntax, notation, axiom, sorry.
-/
import Derived.Test.YtggfaglfchepfaaDoorRows
import GoSem.ClaimSeven
namespace Go.Proofs.YtggfaglfchepfaaDoor
namespace Rows

/-- THE TIED CARD OF 'dotterellaw.ParseParses'. -/
def parseParsesCard : Claim7 := { stood := { row := parseParsesRow, standIns := [], harness := (true, "a06284143967cf0e256a9ae07b94dbb14d20ba42b610c2e17a3d3e4c3b2dec25"), looks := false }, kinds := [], alts := [], laidByText := true, laidKinds := [.data, .data, .data, .data], laidTests := true, laidLooks := .later }
def ParseParsesCardSaid : Prop := Claim7.holds Tryd.pinned (.plain (OpenSpec.ofChange parseParsesSpec)) parseParsesCard

/-- THE TIED CARD OF 'dotterelkeep.ParseOptions'. -/
def parseOptionsCard : Claim7 := { stood := { row := parseOptionsRow, standIns := [], harness := (true, "a06284143967cf0e256a9ae07b94dbb14d20ba42b610c2e17a3d3e4c3b2dec25"), looks := false }, kinds := [], alts := [], laidByText := true, laidKinds := [.data, .data, .data, .data, .data, .data, .data], laidTests := true, laidLooks := .later }
def ParseOptionsCardSaid : Prop := Claim7.holds Tryd.pinned (.plain (OpenSpec.ofChange parseOptionsSpec)) parseOptionsCard

/-- THE TIED CARD OF 'dotterellaw.CheckChecks'. -/
def checkChecksCard : Claim7 := { stood := { row := checkChecksRow, standIns := [], harness := (true, "a06284143967cf0e256a9ae07b94dbb14d20ba42b610c2e17a3d3e4c3b2dec25"), looks := false }, kinds := [], alts := [], laidByText := true, laidKinds := [.data, .data], laidTests := true, laidLooks := .later }
def CheckChecksCardSaid : Prop := Claim7.holds Tryd.pinned (.plain (OpenSpec.ofChange checkChecksSpec)) checkChecksCard

/-- THE SECOND FORM's CARD OF 'dotterellaw.ParseParses'. -/
def parseParsesUptoCard : Claim7 := { stood := { row := parseParsesUptoRow, standIns := [], harness := (true, "a06284143967cf0e256a9ae07b94dbb14d20ba42b610c2e17a3d3e4c3b2dec25"), looks := false }, kinds := [], alts := [], laidByText := true, laidKinds := [.data, .data, .data, .data], laidTests := true, laidLooks := .later }
def ParseParsesUptoCardSaid : Prop := Claim7.holds Tryd.pinned (.plain (OpenSpec.upto parseParsesSpec)) parseParsesUptoCard

/-- THE SECOND FORM's CARD OF 'dotterelkeep.ParseOptions'. -/
def parseOptionsUptoCard : Claim7 := { stood := { row := parseOptionsUptoRow, standIns := [], harness := (true, "a06284143967cf0e256a9ae07b94dbb14d20ba42b610c2e17a3d3e4c3b2dec25"), looks := false }, kinds := [], alts := [], laidByText := true, laidKinds := [.data, .data, .data, .data, .data, .data, .data], laidTests := true, laidLooks := .later }
def ParseOptionsUptoCardSaid : Prop := Claim7.holds Tryd.pinned (.plain (OpenSpec.upto parseOptionsSpec)) parseOptionsUptoCard

/-- THE SECOND FORM's CARD OF 'dotterellaw.CheckChecks'. -/
def checkChecksUptoCard : Claim7 := { stood := { row := checkChecksUptoRow, standIns := [], harness := (true, "a06284143967cf0e256a9ae07b94dbb14d20ba42b610c2e17a3d3e4c3b2dec25"), looks := false }, kinds := [], alts := [], laidByText := true, laidKinds := [.data, .data], laidTests := true, laidLooks := .later }
def CheckChecksUptoCardSaid : Prop := Claim7.holds Tryd.pinned (.plain (OpenSpec.upto checkChecksSpec)) checkChecksUptoCard
end Rows
end Go.Proofs.YtggfaglfchepfaaDoor
