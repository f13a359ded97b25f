/-
  DERIVED. GIVEN WITH THE SEED: THE CARDS: each row of YtngbobnodecloaaDoorRows.lean that lists a variable, with what it lists TIED to the program's text (the seventh form; the later family's looks); each row that meets fmt, with fmt's text TOLD by the authors' own Lean function (tested against real Go, not proved from fmt's source: count such statements apart). THE CARD IS WHAT COUNTS. Prove the row's statement (the work); the ties are given (YtngbobnodecloaaDoorTie.lean); close each card by the builder's one call (the guide's Derived/Test/ToyasCard.lean, 'card_holds'). Laid BY PROGRAM, IN A SANDBOX (cutbox-door.mjs). By AI agents, Wed Nov 11 2026. No macro, syntax, notation, axiom, sorry.
-/
import Derived.Test.YtngbobnodecloaaDoorRows
import GoSem.ClaimSeven
namespace Go.Proofs.YtngbobnodecloaaDoor
namespace Rows

/-- THE TIED CARD OF 'dotterellaw.ParseKept'. -/
def parseKeptCard : Claim7 := { stood := { row := parseKeptRow, standIns := [], harness := (true, "a00fbffa3f8720436f98e759e8dcd53edb48f5773f1f5d070fdedaa10fa9df68"), looks := false }, kinds := [], alts := [], laidByText := true, laidKinds := [.data, .data], laidTests := true, laidLooks := .later }
def ParseKeptCardSaid : Prop := Claim7.holds Tryd.pinned (.plain (OpenSpec.ofChange parseKeptSpec)) parseKeptCard

/-- THE TIED CARD OF 'dotterellaw.ParseParses'. -/
def parseParsesCard : Claim7 := { stood := { row := parseParsesRow, standIns := [], harness := (true, "a00fbffa3f8720436f98e759e8dcd53edb48f5773f1f5d070fdedaa10fa9df68"), looks := false }, kinds := [], alts := [], laidByText := true, laidKinds := [.data, .data, .data, .data], laidTests := true, laidLooks := .later }
def ParseParsesCardSaid : Prop := Claim7.holds Tryd.pinned (.plain (OpenSpec.ofChange parseParsesSpec)) parseParsesCard

/-- THE TIED CARD OF 'dotterelkeep.KeptAll'. -/
def keptAllCard : Claim7 := { stood := { row := keptAllRow, standIns := [], harness := (true, "a00fbffa3f8720436f98e759e8dcd53edb48f5773f1f5d070fdedaa10fa9df68"), looks := false }, kinds := [], alts := [], laidByText := true, laidKinds := [.data, .data], laidTests := true, laidLooks := .later }
def KeptAllCardSaid : Prop := Claim7.holds Tryd.pinned (.plain (OpenSpec.ofChange keptAllSpec)) keptAllCard

/-- THE TIED CARD OF 'dotterelkeep.ParseBinds'. -/
def parseBindsCard : Claim7 := { stood := { row := parseBindsRow, standIns := [], harness := (true, "a00fbffa3f8720436f98e759e8dcd53edb48f5773f1f5d070fdedaa10fa9df68"), looks := false }, kinds := [], alts := [], laidByText := true, laidKinds := [.data, .data, .data, .data], laidTests := true, laidLooks := .later }
def ParseBindsCardSaid : Prop := Claim7.holds Tryd.pinned (.plain (OpenSpec.ofChange parseBindsSpec)) parseBindsCard

/-- THE TIED CARD OF 'dotterelkeep.ParseDeep'. -/
def parseDeepCard : Claim7 := { stood := { row := parseDeepRow, standIns := [], harness := (true, "a00fbffa3f8720436f98e759e8dcd53edb48f5773f1f5d070fdedaa10fa9df68"), looks := false }, kinds := [], alts := [], laidByText := true, laidKinds := [.data, .data, .data, .data], laidTests := true, laidLooks := .later }
def ParseDeepCardSaid : Prop := Claim7.holds Tryd.pinned (.plain (OpenSpec.ofChange parseDeepSpec)) parseDeepCard

/-- THE TIED CARD OF 'dotterelkeep.ParseShort'. -/
def parseShortCard : Claim7 := { stood := { row := parseShortRow, standIns := [], harness := (true, "a00fbffa3f8720436f98e759e8dcd53edb48f5773f1f5d070fdedaa10fa9df68"), looks := false }, kinds := [], alts := [], laidByText := true, laidKinds := [.data, .data, .data, .data], laidTests := true, laidLooks := .later }
def ParseShortCardSaid : Prop := Claim7.holds Tryd.pinned (.plain (OpenSpec.ofChange parseShortSpec)) parseShortCard

/-- THE SECOND FORM's CARD OF 'dotterellaw.ParseKept'. -/
def parseKeptUptoCard : Claim7 := { stood := { row := parseKeptUptoRow, standIns := [], harness := (true, "a00fbffa3f8720436f98e759e8dcd53edb48f5773f1f5d070fdedaa10fa9df68"), looks := false }, kinds := [], alts := [], laidByText := true, laidKinds := [.data, .data], laidTests := true, laidLooks := .later }
def ParseKeptUptoCardSaid : Prop := Claim7.holds Tryd.pinned (.plain (OpenSpec.upto parseKeptSpec)) parseKeptUptoCard

/-- THE SECOND FORM's CARD OF 'dotterellaw.ParseParses'. -/
def parseParsesUptoCard : Claim7 := { stood := { row := parseParsesUptoRow, standIns := [], harness := (true, "a00fbffa3f8720436f98e759e8dcd53edb48f5773f1f5d070fdedaa10fa9df68"), looks := false }, kinds := [], alts := [], laidByText := true, laidKinds := [.data, .data, .data, .data], laidTests := true, laidLooks := .later }
def ParseParsesUptoCardSaid : Prop := Claim7.holds Tryd.pinned (.plain (OpenSpec.upto parseParsesSpec)) parseParsesUptoCard

/-- THE SECOND FORM's CARD OF 'dotterelkeep.KeptAll'. -/
def keptAllUptoCard : Claim7 := { stood := { row := keptAllUptoRow, standIns := [], harness := (true, "a00fbffa3f8720436f98e759e8dcd53edb48f5773f1f5d070fdedaa10fa9df68"), looks := false }, kinds := [], alts := [], laidByText := true, laidKinds := [.data, .data], laidTests := true, laidLooks := .later }
def KeptAllUptoCardSaid : Prop := Claim7.holds Tryd.pinned (.plain (OpenSpec.upto keptAllSpec)) keptAllUptoCard

/-- THE SECOND FORM's CARD OF 'dotterelkeep.ParseBinds'. -/
def parseBindsUptoCard : Claim7 := { stood := { row := parseBindsUptoRow, standIns := [], harness := (true, "a00fbffa3f8720436f98e759e8dcd53edb48f5773f1f5d070fdedaa10fa9df68"), looks := false }, kinds := [], alts := [], laidByText := true, laidKinds := [.data, .data, .data, .data], laidTests := true, laidLooks := .later }
def ParseBindsUptoCardSaid : Prop := Claim7.holds Tryd.pinned (.plain (OpenSpec.upto parseBindsSpec)) parseBindsUptoCard

/-- THE SECOND FORM's CARD OF 'dotterelkeep.ParseDeep'. -/
def parseDeepUptoCard : Claim7 := { stood := { row := parseDeepUptoRow, standIns := [], harness := (true, "a00fbffa3f8720436f98e759e8dcd53edb48f5773f1f5d070fdedaa10fa9df68"), looks := false }, kinds := [], alts := [], laidByText := true, laidKinds := [.data, .data, .data, .data], laidTests := true, laidLooks := .later }
def ParseDeepUptoCardSaid : Prop := Claim7.holds Tryd.pinned (.plain (OpenSpec.upto parseDeepSpec)) parseDeepUptoCard

/-- THE SECOND FORM's CARD OF 'dotterelkeep.ParseShort'. -/
def parseShortUptoCard : Claim7 := { stood := { row := parseShortUptoRow, standIns := [], harness := (true, "a00fbffa3f8720436f98e759e8dcd53edb48f5773f1f5d070fdedaa10fa9df68"), looks := false }, kinds := [], alts := [], laidByText := true, laidKinds := [.data, .data, .data, .data], laidTests := true, laidLooks := .later }
def ParseShortUptoCardSaid : Prop := Claim7.holds Tryd.pinned (.plain (OpenSpec.upto parseShortSpec)) parseShortUptoCard
end Rows
end Go.Proofs.YtngbobnodecloaaDoor
