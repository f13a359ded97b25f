/-
  The table of inverses.
-/
import Derived.Test.YtgikaheojcpmpabDoorO6
import Derived.LaidMore
import Derived.Stop.Joined
import Derived.Deep.Slices
import Derived.Deep.Strs
import Derived.SizedLaws
import Derived.Lib.SmallJoins
namespace Go.Proofs.YtgikaheojcpmpabDoor
open Go.ChangeShapes Go.WideShapes Go.ChangeAt Go.RowKit Go.Maps Go.Deep Go.Joins
set_option linter.unusedVariables false
set_option linter.unusedSimpArgs false
set_option maxRecDepth 20000
theorem gInv : Tryd.prog.globalNamed "dotterel/tick.inverses" = some 0 := by kernel_rfl
theorem tInv : (Tryd.prog.globals[0]?).map (·.type) = some 50 := by kernel_rfl
theorem laid_list (i : Nat) (h1 : 1 ≤ i) (hi : i < 14) : ([.lit (.int .i64 0), .lit (.int .i64 2), .lit (.int .i64 1), .lit (.int .i64 4), .lit (.int .i64 3), .lit (.int .i64 6), .lit (.int .i64 5), .lit (.int .i64 8), .lit (.int .i64 7), .lit (.int .i64 10), .lit (.int .i64 9), .lit (.int .i64 12), .lit (.int .i64 11), .lit (.int .i64 13)] : List (DataW Unit))[i]? = some (.lit (.int .i64 (invN i : Nat))) := by
  rcases (by omega : i = 1 ∨ i = 2 ∨ i = 3 ∨ i = 4 ∨ i = 5 ∨ i = 6 ∨ i = 7 ∨ i = 8 ∨ i = 9 ∨ i = 10 ∨ i = 11 ∨ i = 12 ∨ i = 13) with rfl | rfl | rfl | rfl | rfl | rfl | rfl | rfl | rfl | rfl | rfl | rfl | rfl <;> rfl
theorem laid_cells {W : World} (h : laidMetH Tryd.prog [("dotterel/tick.inverses", Rows.laid_dotterel_tick_inverses)] W) : Tab W := by
  rw [MakeChecks.laidMetH_plain _ _ _ (by kernel_rfl)] at h
  obtain ⟨ps, ⟨g0, t0, cs0, f0, p0, q0, hg0, ht0, hv0, hd0, _, _⟩, _, _⟩ := h
  obtain rfl := Option.some.inj (gInv.symm.trans hg0)
  obtain rfl := Option.some.inj (tInv.symm.trans ht0)
  obtain ⟨xs, m, rfl, hx, hlen, hn, hel⟩ := DataW.trod_array Tryd.underlying50 hd0
  have c3 : Tryd.prog.cellsOf 3 = 1 := by kernel_rfl
  simp only [Prod.mk.injEq, Rows.laid_dotterel_tick_inverses, DataW.agg.injEq] at hx
  have hxl := hx.1
  have key : ∀ i : Nat, 1 ≤ i → i < 14 → W.cell? ⟨0, i, none⟩ = some (.int .i64 (invN i : Nat)) := by
    intro i h1 hi
    have he := hel i hi
    rw [c3] at he
    have hlt : i < xs.length := by omega
    rw [List.getElem?_eq_getElem hlt] at he
    obtain ⟨k, e1, e2, _⟩ := DataW.trod_int Tryd.underlying3 he
    have hk := laid_list i h1 hi
    rw [hxl, List.getElem?_map, List.getElem?_eq_getElem hlt] at hk
    simp only [Option.map_some, e2, Option.some.injEq, DataW.lit.injEq, Lit.int.injEq, true_and] at hk
    subst hk
    have hc := World.var?_cell hg0 hv0 i
    rw [hc]
    have e3 : (cs0.toList.drop (i * 1)).take 1 = [.int .i64 (invN i : Nat)] := e1
    have e4 : cs0.toList[i]? = some (.int .i64 (invN i : Nat)) := by
      have := congrArg (fun l => l[0]?) e3
      simpa using this
    simpa using e4
  exact ⟨World.block_lt_of_cell? _ _ (key 1 (by decide) (by decide)), fun k h1 h2 => key k h1 (by omega)⟩
end Go.Proofs.YtgikaheojcpmpabDoor
