/-
  The tables that the program's text lays: what lies in memory.
-/
import Derived.Lib.LaidU8
import Derived.MakeChecks
import Derived.FnData
import Derived.Lib.SmallJoins
import Derived.Test.YtnlmknbhppdliaaGreatDoorB8K
set_option maxHeartbeats 64000000
namespace Go.Proofs.YtnlmknbhppdliaaGreatDoor
open Go.ChangeShapes Go.WideShapes Go.ChangeAt Go.RowKit Go.Joins
set_option linter.unusedVariables false
set_option linter.unusedSimpArgs false
theorem zEB {W : World} {l : List (String × DataW Unit)} {name : String} {D : DataW Unit} {g : Nat} {ty : TypeId} {n : Nat} (ws : List (List UInt8)) (hD : D = .agg (ws.map fun x => .lit (.string x))) (hn : ws.length = n) (h0 : 0 < ws.length)
  (hg : Tryz.prog.globalNamed name = some g) (ht : (Tryz.prog.globals[g]?).map (·.type) = some ty) (hu : Tryz.prog.underlying ty = some (.array n 9)) (hm : (name, D) ∈ l) (h : laidMet Tryz.prog l W) : Tab W g ws := by
 obtain ⟨g0, t0, cs0, f0, p0, hg0, ht0, hv0, hd0⟩ := Lib.laidMet.reads h hm
 obtain rfl := Option.some.inj (hg.symm.trans hg0)
 obtain rfl := Option.some.inj (ht.symm.trans ht0)
 have c9 : Tryz.prog.cellsOf 9 = 1 := by kernel_rfl
 obtain ⟨xs, m, rfl, hx, hlen, hnn, hel⟩ := DataW.trod_array hu hd0
 rw [hD] at hx
 simp only [Prod.mk.injEq, DataW.agg.injEq] at hx
 have hxl := hx.1
 have key : ∀ i : Nat, i < ws.length → W.cell? ⟨g, i, none⟩ = some (.string (txt (ws.getD i []))) := by
  intro i hi
  have he := hel i (by omega)
  rw [c9] at he
  have hlt : i < xs.length := by omega
  rw [List.getElem?_eq_getElem hlt] at he
  obtain ⟨k, e1, e2, _⟩ := DataW.trod_string Tryz.underlying9 he
  have hk := congrArg (fun q => q[i]?) hxl
  simp only [List.getElem?_map, List.getElem?_eq_getElem hlt, List.getElem?_eq_getElem hi, Option.map_some, e2, Option.some.injEq, DataW.lit.injEq, Lit.string.injEq] at hk
  have hc := World.var?_cell hg0 hv0 i
  rw [hc]
  have e4 : cs0.toList[i]? = some (.string k) := by
   have := congrArg (fun l => l[0]?) e1
   simpa using this
  rw [zCJ ws i hi, hk, txt_of]
  simpa using e4
 refine ⟨?_, key⟩
 have h00 := key 0 (by omega)
 exact World.block_lt_of_cell? _ _ h00
theorem zG0 {W : World} {l : List (String × DataW Unit)} (hm : ("dotterel/parse.kept", Rows.laid_dotterel_parse_kept) ∈ l) (h : laidMet Tryz.prog l W) : Tab W 0 kpl :=
  zEB kpl rfl rfl (by decide) (by kernel_rfl) (by kernel_rfl) Tryz.underlying167 hm h
theorem laid_rel {W : World} {l : List (String × DataW Unit)} (hm : ("dotterel/parse.relations", Rows.laid_dotterel_parse_relations) ∈ l) (h : laidMet Tryz.prog l W) : Tab W 1 rll :=
  zEB rll rfl rfl (by decide) (by kernel_rfl) (by kernel_rfl) Tryz.underlying208 hm h
end Go.Proofs.YtnlmknbhppdliaaGreatDoor
namespace Go.Proofs.YtnlmknbhppdliaaGreatDoor
open Go.ChangeShapes Go.WideShapes Go.ChangeAt Go.RowKit Go.Joins
set_option linter.unusedVariables false
set_option linter.unusedSimpArgs false
set_option maxRecDepth 20000
theorem gInv : Tryz.prog.globalNamed "dotterel/tick.inverses" = some 3 := by kernel_rfl
theorem tInv : (Tryz.prog.globals[3]?).map (·.type) = some 257 := by kernel_rfl
theorem zGK (i : Nat) (h1 : 1 ≤ i) (hi : i < 14) : ([.lit (.int .i64 0), .lit (.int .i64 2), .lit (.int .i64 1), .lit (.int .i64 4), .lit (.int .i64 3), .lit (.int .i64 6), .lit (.int .i64 5), .lit (.int .i64 8), .lit (.int .i64 7), .lit (.int .i64 10), .lit (.int .i64 9), .lit (.int .i64 12), .lit (.int .i64 11), .lit (.int .i64 13)] : List (DataW Unit))[i]? = some (.lit (.int .i64 (B8.invN i : Nat))) := by
  rcases (by omega : i = 1 ∨ i = 2 ∨ i = 3 ∨ i = 4 ∨ i = 5 ∨ i = 6 ∨ i = 7 ∨ i = 8 ∨ i = 9 ∨ i = 10 ∨ i = 11 ∨ i = 12 ∨ i = 13) with rfl | rfl | rfl | rfl | rfl | rfl | rfl | rfl | rfl | rfl | rfl | rfl | rfl <;> rfl
theorem laid_inv {W : World} {l : List (String × DataW Unit)} (hm : ("dotterel/tick.inverses", Rows.laid_dotterel_tick_inverses) ∈ l) (h : laidMet Tryz.prog l W) : B8.Tab W := by
 obtain ⟨g0, t0, cs0, f0, p0, hg0, ht0, hv0, hd0⟩ := Lib.laidMet.reads h hm
 obtain rfl := Option.some.inj (gInv.symm.trans hg0)
 obtain rfl := Option.some.inj (tInv.symm.trans ht0)
 obtain ⟨xs, m, rfl, hx, hlen, hn, hel⟩ := DataW.trod_array Tryz.underlying257 hd0
 have c3 : Tryz.prog.cellsOf 3 = 1 := by kernel_rfl
 simp only [Prod.mk.injEq, Rows.laid_dotterel_tick_inverses, DataW.agg.injEq] at hx
 have hxl := hx.1
 have key : ∀ i : Nat, 1 ≤ i → i < 14 → W.cell? ⟨3, i, none⟩ = some (.int .i64 (B8.invN i : Nat)) := by
  intro i h1 hi
  have he := hel i hi
  rw [c3] at he
  have hlt : i < xs.length := by omega
  rw [List.getElem?_eq_getElem hlt] at he
  obtain ⟨k, e1, e2, _⟩ := DataW.trod_int Tryz.underlying3 he
  have hk := zGK i h1 hi
  rw [hxl, List.getElem?_map, List.getElem?_eq_getElem hlt] at hk
  simp only [Option.map_some, e2, Option.some.injEq, DataW.lit.injEq, Lit.int.injEq, true_and] at hk
  subst hk
  have hc := World.var?_cell hg0 hv0 i
  rw [hc]
  have e3 : (cs0.toList.drop (i * 1)).take 1 = [.int .i64 (B8.invN i : Nat)] := e1
  have e4 : cs0.toList[i]? = some (.int .i64 (B8.invN i : Nat)) := by
   have := congrArg (fun l => l[0]?) e3
   simpa using this
  simpa using e4
 exact ⟨World.block_lt_of_cell? _ _ (key 1 (by decide) (by decide)), fun k h1 h2 => key k h1 (by omega)⟩
theorem zF1 {W : World} (h : laidMetH Tryz.prog [("dotterel/tick.inverses", Rows.laid_dotterel_tick_inverses), ("dotterel/parse.kept", Rows.laid_dotterel_parse_kept), ("dotterel/parse.relations", Rows.laid_dotterel_parse_relations)] W) : B8.Tab W := by
  rw [MakeChecks.laidMetH_plain _ _ _ (by kernel_rfl)] at h
  exact laid_inv (by simp) h
end Go.Proofs.YtnlmknbhppdliaaGreatDoor
