/-
  The table of comparisons, as the program's text lays it; all tables.
-/
import Derived.Test.YtnlmkdncifijlaaDoorLT
import Derived.Test.YtnlmkdncifijlaaDoorPa
import Derived.Test.YtnlmkdncifijlaaDoorFr
namespace Go.Proofs.YtnlmkdncifijlaaDoor
open Go.ChangeShapes Go.WideShapes Go.ChangeAt Go.RowKit Go.Joins Go.Deep
set_option linter.unusedVariables false
set_option linter.unusedSimpArgs false
set_option maxRecDepth 20000
def cmD : List (DataW Unit) := cml.map fun c => .agg [.lit (.string c.1), .lit (.int .i64 c.2.1), .lit (.bool c.2.2)]
theorem laid_cmp {W : World} {l : List (String × DataW Unit)} (hm : ("dotterel/parse.comparisons", Rows.laid_dotterel_parse_comparisons) ∈ l) (h : laidMet Tryd.prog l W) : Cmt W := by
  obtain ⟨g0, t0, cs0, f0, p0, hg0, ht0, hv0, hd0⟩ := Lib.laidMet.reads h hm
  obtain rfl := Option.some.inj ((show Tryd.prog.globalNamed "dotterel/parse.comparisons" = some 4 by kernel_rfl).symm.trans hg0)
  obtain rfl := Option.some.inj ((show (Tryd.prog.globals[4]?).map (·.type) = some 209 by kernel_rfl).symm.trans ht0)
  have cC : Tryd.prog.cellsOf 208 = 3 := by kernel_rfl
  have c4 : Tryd.prog.cellsOf 4 = 1 := by kernel_rfl
  obtain ⟨xs, m, rfl, hx, hlen, hnn, hel⟩ := DataW.trod_array Tryd.underlying209 hd0
  have hx1 : cmD = xs.map (·.1) := by
    have := congrArg Prod.fst hx
    simp only [DataW.agg.injEq] at this
    exact (DataW.agg.injEq _ _ ▸ this : _)
  have key : ∀ i : Nat, i < 6 → W.cell? ⟨4, i * 3, none⟩ = some (.string (txt (cml.getD i ([], 0, false)).1)) ∧ W.cell? ⟨4, i * 3 + 1, none⟩ = some (.int .i64 (cml.getD i ([], 0, false)).2.1) ∧ W.cell? ⟨4, i * 3 + 2, none⟩ = some (.bool (cml.getD i ([], 0, false)).2.2) := by
    intro i hi
    have he := hel i hi
    rw [cC] at he
    have hlt : i < xs.length := by omega
    rw [List.getElem?_eq_getElem hlt] at he
    obtain ⟨y0, y1, y2, n', e1, e2, r0, r1, r2⟩ := trod_struct3 Tryd.underlying208 he
    have c9' : Tryd.prog.cellsOf 9 = 1 := by kernel_rfl
    have c3' : Tryd.prog.cellsOf 3 = 1 := by kernel_rfl
    simp only [c9', c3', c4] at r0 r1 r2
    obtain ⟨a0, s0, d0, _⟩ := DataW.trod_string Tryd.underlying9 r0
    obtain ⟨a1, s1, d1, _⟩ := DataW.trod_int Tryd.underlying3 r1
    obtain ⟨a2, s2, d2⟩ := DataW.trod_bool Tryd.underlying4 r2
    have hi' : i < cml.length := hi
    have hk := congrArg (fun q => q[i]?) hx1
    simp only [cmD, List.getElem?_map, List.getElem?_eq_getElem hlt, List.getElem?_eq_getElem hi', Option.map_some, e1, d0, d1, d2, Option.some.injEq, DataW.agg.injEq, List.cons.injEq, DataW.lit.injEq, Lit.string.injEq, Lit.int.injEq, Lit.bool.injEq, and_true, true_and] at hk
    obtain ⟨k0, k1, k2⟩ := hk
    have eg : cml.getD i ([], 0, false) = cml[i] := by simp [List.getD, List.getElem?_eq_getElem hi']
    rw [eg, k0, k1, k2, txt_of]
    have q0 := congrArg (fun l => l[0]?) s0
    have q1 := congrArg (fun l => l[0]?) s1
    have q2 := congrArg (fun l => l[0]?) s2
    simp [List.getElem?_take, List.getElem?_drop] at q0 q1 q2
    refine ⟨?_, ?_, ?_⟩
    · rw [World.var?_cell hg0 hv0 (i * 3)]; simpa using q0
    · rw [World.var?_cell hg0 hv0 (i * 3 + 1)]; simpa using q1
    · rw [World.var?_cell hg0 hv0 (i * 3 + 2)]; simpa using q2
  exact ⟨World.block_lt_of_cell? _ _ (key 0 (by omega)).1, key⟩
theorem laid_all {W : World} {l : List (String × DataW Unit)} (h1 : Marks W) (h2 : Tab W 0 kpl) (h3 : Tab W 2 rll) (h4 : Cmt W) : Tbs W := ⟨h1, h2, h3, h4⟩
end Go.Proofs.YtnlmkdncifijlaaDoor
