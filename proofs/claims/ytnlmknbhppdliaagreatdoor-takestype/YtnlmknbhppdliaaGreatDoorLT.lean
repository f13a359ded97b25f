/-
  The tables that the program's text lays: what lies in memory.
-/
import Derived.Lib.SmallJoins
import Derived.Lib.LaidU8
import Derived.MakeChecks
import Derived.FnData
import Derived.Test.YtnlmknbhppdliaaGreatDoorA
namespace Go.Proofs.YtnlmknbhppdliaaGreatDoor
open Go.ChangeShapes Go.WideShapes Go.ChangeAt Go.RowKit Go.Joins
set_option linter.unusedVariables false
set_option linter.unusedSimpArgs false
theorem zF2 {W : World} {l : List (String × DataW Unit)} {name : String} {D : DataW Unit} {g : Nat} {ty : TypeId} {n : Nat} (ws : List (List UInt8)) (hD : D = .agg (ws.map fun x => .lit (.string x))) (hn : ws.length = n) (h0 : 0 < ws.length)
  (hg : Tryz.prog.globalNamed name = some g) (ht : (Tryz.prog.globals[g]?).map (·.type) = some ty) (hu : Tryz.prog.underlying ty = some (.array n 9)) (hm : (name, D) ∈ l) (h : laidMet Tryz.prog l W) : Tab W g ws := by
 obtain ⟨g0, t0, cs0, f0, p0, hg0, ht0, hv0, hd0⟩ := Lib.laidMet.reads h hm
 obtain rfl := Option.some.inj (hg.symm.trans hg0)
 obtain rfl := Option.some.inj (ht.symm.trans ht0)
 have c9 : Tryz.prog.cellsOf 9 = 1 := by kernel_rfl
 obtain ⟨xs, m, rfl, hx, hlen, hnn, hel⟩ := DataW.trod_array hu hd0
 rw [hD] at hx
 simp only [Prod.mk.injEq, DataW.agg.injEq] at hx
 have hxl := hx.1
 have key : ∀ i : Nat, i < ws.length → W.cell? ⟨g, i, none⟩ = some (.string (txt (ws.getD i []))) := by
  intro i hi
  have he := hel i (by omega)
  rw [c9] at he
  have hlt : i < xs.length := by omega
  rw [List.getElem?_eq_getElem hlt] at he
  obtain ⟨k, e1, e2, _⟩ := DataW.trod_string Tryz.underlying9 he
  have hk := congrArg (fun q => q[i]?) hxl
  simp only [List.getElem?_map, List.getElem?_eq_getElem hlt, List.getElem?_eq_getElem hi, Option.map_some, e2, Option.some.injEq, DataW.lit.injEq, Lit.string.injEq] at hk
  have hc := World.var?_cell hg0 hv0 i
  rw [hc]
  have e4 : cs0.toList[i]? = some (.string k) := by
   have := congrArg (fun l => l[0]?) e1
   simpa using this
  rw [zD0 ws i hi, hk, txt_of]
  simpa using e4
 refine ⟨?_, key⟩
 have h00 := key 0 (by omega)
 exact World.block_lt_of_cell? _ _ h00
theorem zKP {W : World} {l : List (String × DataW Unit)} (hm : ("dotterel/parse.kept", Rows.laid_dotterel_parse_kept) ∈ l) (h : laidMet Tryz.prog l W) : Tab W 0 kpl :=
  zF2 kpl rfl rfl (by decide) (by kernel_rfl) (by kernel_rfl) Tryz.underlying167 hm h
theorem laid_rel {W : World} {l : List (String × DataW Unit)} (hm : ("dotterel/parse.relations", Rows.laid_dotterel_parse_relations) ∈ l) (h : laidMet Tryz.prog l W) : Tab W 1 rll :=
  zF2 rll rfl rfl (by decide) (by kernel_rfl) (by kernel_rfl) Tryz.underlying208 hm h
end Go.Proofs.YtnlmknbhppdliaaGreatDoor
