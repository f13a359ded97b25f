/-
  DERIVED. GIVEN WITH THE SEED: THE PROGRAM's TIES (one call each: nine closed facts by the kernel) AND EACH ROW's TIE, after the 31st guide's Derived/Test/Toyas{Tie, Card}.lean. No idea stands in it: it is a product of the set-up. Laid BY PROGRAM, IN A SANDBOX (cutbox-door.mjs). By AI agents, Wed Nov 11 2026. No macro, syntax, notation, axiom, sorry.
-/
import Derived.Test.YtnlmknbhppdliaaGreatDoorRows
import Derived.LaidByTextLater
import Derived.SevenTiedAt
import Derived.LaidSub
import Derived.LaidOnce
namespace Go.Proofs.YtnlmknbhppdliaaGreatDoor
open Go
set_option maxRecDepth 100000
theorem seatTie1 : Tryz.prog.laidByTextLater [("dotterel/tick.inverses", Rows.laid_dotterel_tick_inverses), ("dotterel/parse.kept", Rows.laid_dotterel_parse_kept), ("dotterel/parse.relations", Rows.laid_dotterel_parse_relations)] [.data, .data, .data] true :=
  Program.laidByTextLater_by_one 24 8 18 (by kernel_rfl) (by kernel_rfl) (by kernel_rfl) (by kernel_rfl) (by kernel_rfl) (by kernel_rfl) (fun _ _ => by kernel_rfl)
theorem noOwnUnsafe : Tryz.pinned.checked.prog.headLifts.contains "ownunsafe" = false := by kernel_rfl
theorem tie : Tryz.prog.laidByTextLater [("dotterel/parse.kept", Rows.laid_dotterel_parse_kept), ("dotterel/parse.relations", Rows.laid_dotterel_parse_relations)] [.data, .data] true :=
  Program.laidByTextLater.sub seatTie1 ["dotterel/parse.kept", "dotterel/parse.relations"] (by kernel_rfl) (by kernel_rfl)
theorem takesType_row_tie : Rows.takesTypeRow.laidByTextAt .later Tryz.pinned [.data, .data] true :=
  OpenClaim.laidByTextAt_later rfl rfl tie noOwnUnsafe
theorem tie2 : Tryz.prog.laidByTextLater [("dotterel/tick.inverses", Rows.laid_dotterel_tick_inverses), ("dotterel/parse.kept", Rows.laid_dotterel_parse_kept), ("dotterel/parse.relations", Rows.laid_dotterel_parse_relations)] [.data, .data, .data] true :=
  Program.laidByTextLater.sub seatTie1 ["dotterel/tick.inverses", "dotterel/parse.kept", "dotterel/parse.relations"] (by kernel_rfl) (by kernel_rfl)
theorem planNever_row_tie : Rows.planNeverRow.laidByTextAt .later Tryz.pinned [.data, .data, .data] true :=
  OpenClaim.laidByTextAt_later rfl rfl tie2 noOwnUnsafe
theorem planDelay_row_tie : Rows.planDelayRow.laidByTextAt .later Tryz.pinned [.data, .data, .data] true :=
  OpenClaim.laidByTextAt_later rfl rfl tie2 noOwnUnsafe
theorem planMany_row_tie : Rows.planManyRow.laidByTextAt .later Tryz.pinned [.data, .data, .data] true :=
  OpenClaim.laidByTextAt_later rfl rfl tie2 noOwnUnsafe
theorem firesWithin_row_tie : Rows.firesWithinRow.laidByTextAt .later Tryz.pinned [.data, .data, .data] true :=
  OpenClaim.laidByTextAt_later rfl rfl tie2 noOwnUnsafe
theorem takesTypeUpto_row_tie : Rows.takesTypeUptoRow.laidByTextAt .later Tryz.pinned [.data, .data] true :=
  OpenClaim.laidByTextAt_later rfl rfl tie noOwnUnsafe
theorem planNeverUpto_row_tie : Rows.planNeverUptoRow.laidByTextAt .later Tryz.pinned [.data, .data, .data] true :=
  OpenClaim.laidByTextAt_later rfl rfl tie2 noOwnUnsafe
theorem planDelayUpto_row_tie : Rows.planDelayUptoRow.laidByTextAt .later Tryz.pinned [.data, .data, .data] true :=
  OpenClaim.laidByTextAt_later rfl rfl tie2 noOwnUnsafe
theorem planManyUpto_row_tie : Rows.planManyUptoRow.laidByTextAt .later Tryz.pinned [.data, .data, .data] true :=
  OpenClaim.laidByTextAt_later rfl rfl tie2 noOwnUnsafe
theorem firesWithinUpto_row_tie : Rows.firesWithinUptoRow.laidByTextAt .later Tryz.pinned [.data, .data, .data] true :=
  OpenClaim.laidByTextAt_later rfl rfl tie2 noOwnUnsafe
end Go.Proofs.YtnlmknbhppdliaaGreatDoor
