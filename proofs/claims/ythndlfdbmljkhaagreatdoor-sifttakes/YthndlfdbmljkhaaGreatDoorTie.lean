/-
  DERIVED. GIVEN WITH THE SEED: THE PROGRAM's TIES (one call each: nine closed facts by the kernel) AND EACH ROW's TIE, after the 31st guide's Derived/Test/Toyas{Tie, Card}.lean. No idea stands in it: it is a product of the set-up. Laid BY PROGRAM, IN A SANDBOX (cutbox-door.mjs). By AI agents, Wed Nov 11 2026. No macro, syntax, notation, axiom, sorry.
-/
import Derived.Test.YthndlfdbmljkhaaGreatDoorRows
import Derived.LaidByTextLater
import Derived.SevenTiedAt
import Derived.LaidSub
import Derived.LaidOnce
namespace Go.Proofs.YthndlfdbmljkhaaGreatDoor
open Go
set_option maxRecDepth 100000
theorem seatTie1 : Tryz.prog.laidByTextLater [("dotterel/tick.inverses", Rows.laid_dotterel_tick_inverses), ("dotterel/parse.kept", Rows.laid_dotterel_parse_kept), ("dotterel/parse.relations", Rows.laid_dotterel_parse_relations)] [.data, .data, .data] true :=
  Program.laidByTextLater_by_one 24 8 18 (by kernel_rfl) (by kernel_rfl) (by kernel_rfl) (by kernel_rfl) (by kernel_rfl) (by kernel_rfl) (fun _ _ => by kernel_rfl)
theorem noOwnUnsafe : Tryz.pinned.checked.prog.headLifts.contains "ownunsafe" = false := by kernel_rfl
theorem tie : Tryz.prog.laidByTextLater [("dotterel/parse.kept", Rows.laid_dotterel_parse_kept), ("dotterel/parse.relations", Rows.laid_dotterel_parse_relations)] [.data, .data] true :=
  Program.laidByTextLater.sub seatTie1 ["dotterel/parse.kept", "dotterel/parse.relations"] (by kernel_rfl) (by kernel_rfl)
theorem siftTakes_row_tie : Rows.siftTakesRow.laidByTextAt .later Tryz.pinned [.data, .data] true :=
  OpenClaim.laidByTextAt_later rfl rfl tie noOwnUnsafe
theorem tie2 : Tryz.prog.laidByTextLater [("dotterel/tick.inverses", Rows.laid_dotterel_tick_inverses), ("dotterel/parse.kept", Rows.laid_dotterel_parse_kept), ("dotterel/parse.relations", Rows.laid_dotterel_parse_relations)] [.data, .data, .data] true :=
  Program.laidByTextLater.sub seatTie1 ["dotterel/tick.inverses", "dotterel/parse.kept", "dotterel/parse.relations"] (by kernel_rfl) (by kernel_rfl)
theorem joinTuples_row_tie : Rows.joinTuplesRow.laidByTextAt .later Tryz.pinned [.data, .data, .data] true :=
  OpenClaim.laidByTextAt_later rfl rfl tie2 noOwnUnsafe
theorem siftTakesUpto_row_tie : Rows.siftTakesUptoRow.laidByTextAt .later Tryz.pinned [.data, .data] true :=
  OpenClaim.laidByTextAt_later rfl rfl tie noOwnUnsafe
theorem joinTuplesUpto_row_tie : Rows.joinTuplesUptoRow.laidByTextAt .later Tryz.pinned [.data, .data, .data] true :=
  OpenClaim.laidByTextAt_later rfl rfl tie2 noOwnUnsafe
end Go.Proofs.YthndlfdbmljkhaaGreatDoor
