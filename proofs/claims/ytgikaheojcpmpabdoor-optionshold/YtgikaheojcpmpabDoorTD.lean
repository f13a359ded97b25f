/-
  The table of the inverses lies in its block.
-/
import Derived.Test.YtgikaheojcpmpabDoorTB
import Derived.Handy
import Derived.LaidMore
import Derived.Stop.Joined
namespace Go.Proofs.YtgikaheojcpmpabDoor.T1
open Go.ChangeShapes Go.WideShapes Go.ChangeAt Go.RowKit
set_option linter.unusedVariables false
set_option linter.unusedSimpArgs false
theorem gInv : Tryd.prog.globalNamed "dotterel/tick.inverses" = some 0 := by kernel_rfl
theorem tInv : (Tryd.prog.globals[0]?).map (·.type) = some 50 := by kernel_rfl
theorem laid_list (i : Nat) (hi : i < 14) : ([.lit (.int .i64 0), .lit (.int .i64 2), .lit (.int .i64 1), .lit (.int .i64 4), .lit (.int .i64 3), .lit (.int .i64 6), .lit (.int .i64 5), .lit (.int .i64 8), .lit (.int .i64 7), .lit (.int .i64 10), .lit (.int .i64 9), .lit (.int .i64 12), .lit (.int .i64 11), .lit (.int .i64 13)] : List (DataW Unit))[i]? = some (.lit (.int .i64 (if i = 0 then 0 else inv i))) := by
  match i, hi with
  | 0, _ => rfl
  | 1, _ => rfl
  | 2, _ => rfl
  | 3, _ => rfl
  | 4, _ => rfl
  | 5, _ => rfl
  | 6, _ => rfl
  | 7, _ => rfl
  | 8, _ => rfl
  | 9, _ => rfl
  | 10, _ => rfl
  | 11, _ => rfl
  | 12, _ => rfl
  | 13, _ => rfl
theorem laid_cells {W : World} (h : laidMetH Tryd.prog [("dotterel/tick.inverses", Rows.laid_dotterel_tick_inverses)] W) : Laid W := by
  rw [MakeChecks.laidMetH_plain _ _ _ (by kernel_rfl)] at h
  obtain ⟨ps, ⟨g0, t0, cs0, f0, p0, q0, hg0, ht0, hv0, hd0, _, _⟩, _, _⟩ := h
  obtain rfl := Option.some.inj (gInv.symm.trans hg0)
  obtain rfl := Option.some.inj (tInv.symm.trans ht0)
  obtain ⟨xs, m, rfl, hx, hlen, hn, hel⟩ := DataW.trod_array Tryd.underlying50 hd0
  have c3 : Tryd.prog.cellsOf 3 = 1 := by kernel_rfl
  simp only [Prod.mk.injEq, Rows.laid_dotterel_tick_inverses, DataW.agg.injEq] at hx
  have hxl := hx.1
  have key : ∀ i : Nat, i < 14 → W.cell? ⟨0, i, none⟩ = some (.int .i64 (if i = 0 then 0 else inv i)) := by
    intro i hi
    have he := hel i hi
    rw [c3] at he
    have hlt : i < xs.length := by omega
    rw [List.getElem?_eq_getElem hlt] at he
    obtain ⟨k, e1, e2, _⟩ := DataW.trod_int Tryd.underlying3 he
    have hk := laid_list i hi
    rw [hxl, List.getElem?_map, List.getElem?_eq_getElem hlt] at hk
    simp only [Option.map_some, e2, Option.some.injEq, DataW.lit.injEq, Lit.int.injEq, true_and] at hk
    subst hk
    have hc := World.var?_cell hg0 hv0 i
    rw [hc]
    have e3 : (cs0.toList.drop (i * 1)).take 1 = [.int .i64 (if i = 0 then 0 else inv i)] := e1
    have e4 : cs0.toList[i]? = some (.int .i64 (if i = 0 then 0 else inv i)) := by
      have := congrArg (fun l => l[0]?) e3
      simpa using this
    simpa using e4
  refine ⟨?_, key⟩
  have h00 := key 0 (by omega)
  rcases Nat.eq_zero_or_pos W.heap.size with hz | hz
  · have hno : W.heap[0]? = none := by simp [hz]
    simp [World.cell?, hno] at h00
  · exact hz
end Go.Proofs.YtgikaheojcpmpabDoor.T1
