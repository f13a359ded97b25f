/-
  A book that came in: what lies in memory. Raw numbers that came in. The tables that the program's text lays: what lies in memory.
-/
import Derived.Lib.SmallJoins
import Derived.Lib.LaidU8
import Derived.MakeChecks
import Derived.FnData
import Derived.Test.YtnlmknbhppdliaaDoorDu
import Derived.Test.YtnlmknbhppdliaaDoorG
import Derived.Test.YtnlmknbhppdliaaDoorTf
import Derived.Test.YtnlmknbhppdliaaDoorA
namespace Go.Proofs.YtnlmknbhppdliaaDoor.Chk
open Go.Deep Go.ChangeShapes Go.WideShapes Go.ChangeAt Go.RowKit Go.Maps
set_option linter.unusedVariables false
set_option linter.unusedSimpArgs false
set_option maxRecDepth 20000
variable {H : Type} {enc : TypeId × Value → H} {W : World} {base b0 : Nat} {r : Reach} {spare : Nat → Bool} {held : Bool} {v : Value} {d : DataW H} {p : List MemPlace}
def Tr (enc : TypeId × Value → H) (W : World) (base : Nat) (spare : Nat → Bool) (held : Bool) (n : Nat) (t : TypeId) (cs : List Value) : Prop := ∃ x, DataW.trod enc Tryd.prog W base spare held n t cs = some x
theorem tr_str {n : Nat} {cs : List Value} (h : Tr enc W base spare held n 9 cs) : ∃ s : ByteArray, cs = [.string s] ∧ s.size ≤ maxLen := by
  obtain ⟨x, h⟩ := h
  obtain ⟨a, e, _, h2⟩ := DataW.trod_string Tryd.underlying9 h
  exact ⟨a, e, h2⟩
theorem tr_fld {n : Nat} {t : TypeId} {fs : Array Field} {cs : List Value} (ht : Tryd.prog.underlying t = some (.struct fs)) (h : Tr enc W base spare held n t cs) : ∃ m, n = m + 1 ∧ cs.length = Tryd.prog.cellsOf t ∧ ∀ (i : Nat) (f : Field), fs[i]? = some f → Tr enc W base spare held m f.type ((cs.drop f.offset).take (Tryd.prog.cellsOf f.type)) := by
  obtain ⟨x, h⟩ := h
  obtain ⟨xs, m, e, _, hl, hlen, hf⟩ := DataW.trod_struct ht h
  refine ⟨m, e, hl, fun i f hfi => ?_⟩
  have h1 := hf i f hfi
  have hi : i < xs.length := by rw [hlen]; exact (Array.getElem?_eq_some_iff.1 hfi).1
  rw [List.getElem?_eq_getElem hi] at h1
  exact ⟨_, h1⟩
/-! Fields, one behind the other. -/
theorem k3 : Tryd.prog.cellsOf 3 = 1 := by kernel_rfl
theorem k9 : Tryd.prog.cellsOf 9 = 1 := by kernel_rfl
section
variable {H : Type} {enc : TypeId × Value → H} {W : World} {base b0 : Nat} {r : Reach} {spare : Nat → Bool} {held : Bool} {v : Value} {d : DataW H} {p : List MemPlace}
theorem zBB {n : Nat} {cs : List Value} (h : Tr enc W base spare held n 3 cs) : ∃ a, cs = [.int .i64 a] ∧ -9223372036854775808 ≤ a ∧ a ≤ 9223372036854775807 := by
  obtain ⟨x, h⟩ := h
  obtain ⟨a, e, _, hw⟩ := DataW.trod_int Tryd.underlying3 h
  exact ⟨a, e, bounds_i64 hw⟩
theorem tr_bool {n : Nat} {cs : List Value} (h : Tr enc W base spare held n 4 cs) : ∃ b, cs = [.bool b] := by
  obtain ⟨x, h⟩ := h
  obtain ⟨b, e, _⟩ := DataW.trod_bool Tryd.underlying4 h
  exact ⟨b, e⟩
theorem k4 : Tryd.prog.cellsOf 4 = 1 := by kernel_rfl
theorem kCa : Tryd.prog.cellsOf 23 = 5 := by kernel_rfl
theorem kDe : Tryd.prog.cellsOf 25 = 7 := by kernel_rfl
theorem open_cast (hv : Value.okWide Tryd.prog W r b0 23 v) (h : DataW.Trod enc Tryd.prog W base spare held 23 v d p) : ∃ a0 a1 a2 a3 a4 : Int, v = .agg #[.int .i64 a0, .int .i64 a1, .int .i64 a2, .int .i64 a3, .int .i64 a4] ∧ -9223372036854775808 ≤ a0 ∧ a0 ≤ 9223372036854775807 ∧ -9223372036854775808 ≤ a1 ∧ a1 ≤ 9223372036854775807 ∧ -9223372036854775808 ≤ a2 ∧ a2 ≤ 9223372036854775807 ∧ -9223372036854775808 ≤ a3 ∧ a3 ≤ 9223372036854775807 ∧ -9223372036854775808 ≤ a4 ∧ a4 ≤ 9223372036854775807 := by
 obtain ⟨cs, rfl, hsz⟩ := okWide_struct Tryd.underlying23 hv
 obtain ⟨fuel, hf⟩ := h
 have h : Tr enc W base spare held fuel 23 cs.toList := ⟨_, by simpa [Value.cells] using hf⟩
 clear hf
 obtain ⟨m, hm, hl, hf⟩ := tr_fld Tryd.underlying23 h
 rw [kCa] at hl
 have h0 : Tr enc W base spare held m 3 ((cs.toList.drop 0).take (Tryd.prog.cellsOf 3)) := hf 0 _ rfl
 rw [k3] at h0
 have h1 : Tr enc W base spare held m 3 ((cs.toList.drop 1).take (Tryd.prog.cellsOf 3)) := hf 1 _ rfl
 rw [k3] at h1
 have h2 : Tr enc W base spare held m 3 ((cs.toList.drop 2).take (Tryd.prog.cellsOf 3)) := hf 2 _ rfl
 rw [k3] at h2
 have h3 : Tr enc W base spare held m 3 ((cs.toList.drop 3).take (Tryd.prog.cellsOf 3)) := hf 3 _ rfl
 rw [k3] at h3
 have h4 : Tr enc W base spare held m 3 ((cs.toList.drop 4).take (Tryd.prog.cellsOf 3)) := hf 4 _ rfl
 rw [k3] at h4
 obtain ⟨a0, e0, l0, u0⟩ := zBB h0
 obtain ⟨a1, e1, l1, u1⟩ := zBB h1
 obtain ⟨a2, e2, l2, u2⟩ := zBB h2
 obtain ⟨a3, e3, l3, u3⟩ := zBB h3
 obtain ⟨a4, e4, l4, u4⟩ := zBB h4
 refine ⟨a0, a1, a2, a3, a4, ?_, l0, u0, l1, u1, l2, u2, l3, u3, l4, u4⟩
 obtain ⟨l⟩ := cs
 match l, hl with
 | [x0, x1, x2, x3, x4], _ =>
  simp at e0 e1 e2 e3 e4
  rw [e0, e1, e2, e3, e4]
theorem open_deed (hv : Value.okWide Tryd.prog W r b0 25 v) (h : DataW.Trod enc Tryd.prog W base spare held 25 v d p) : ∃ (a0 a1 a2 a3 a4 : Int) (a5 : ByteArray) (a6 : Bool), v = .agg #[.int .i64 a0, .int .i64 a1, .int .i64 a2, .int .i64 a3, .int .i64 a4, .string a5, .bool a6] ∧ -9223372036854775808 ≤ a0 ∧ a0 ≤ 9223372036854775807 ∧ -9223372036854775808 ≤ a1 ∧ a1 ≤ 9223372036854775807 ∧ -9223372036854775808 ≤ a2 ∧ a2 ≤ 9223372036854775807 ∧ -9223372036854775808 ≤ a3 ∧ a3 ≤ 9223372036854775807 ∧ -9223372036854775808 ≤ a4 ∧ a4 ≤ 9223372036854775807 := by
 obtain ⟨cs, rfl, hsz⟩ := okWide_struct Tryd.underlying25 hv
 obtain ⟨fuel, hf⟩ := h
 have h : Tr enc W base spare held fuel 25 cs.toList := ⟨_, by simpa [Value.cells] using hf⟩
 clear hf
 obtain ⟨m, hm, hl, hf⟩ := tr_fld Tryd.underlying25 h
 rw [kDe] at hl
 have h0 : Tr enc W base spare held m 3 ((cs.toList.drop 0).take (Tryd.prog.cellsOf 3)) := hf 0 _ rfl
 rw [k3] at h0
 have h1 : Tr enc W base spare held m 3 ((cs.toList.drop 1).take (Tryd.prog.cellsOf 3)) := hf 1 _ rfl
 rw [k3] at h1
 have h2 : Tr enc W base spare held m 3 ((cs.toList.drop 2).take (Tryd.prog.cellsOf 3)) := hf 2 _ rfl
 rw [k3] at h2
 have h3 : Tr enc W base spare held m 3 ((cs.toList.drop 3).take (Tryd.prog.cellsOf 3)) := hf 3 _ rfl
 rw [k3] at h3
 have h4 : Tr enc W base spare held m 3 ((cs.toList.drop 4).take (Tryd.prog.cellsOf 3)) := hf 4 _ rfl
 rw [k3] at h4
 have h5 : Tr enc W base spare held m 9 ((cs.toList.drop 5).take (Tryd.prog.cellsOf 9)) := hf 5 _ rfl
 rw [k9] at h5
 have h6 : Tr enc W base spare held m 4 ((cs.toList.drop 6).take (Tryd.prog.cellsOf 4)) := hf 6 _ rfl
 rw [k4] at h6
 obtain ⟨a0, e0, l0, u0⟩ := zBB h0
 obtain ⟨a1, e1, l1, u1⟩ := zBB h1
 obtain ⟨a2, e2, l2, u2⟩ := zBB h2
 obtain ⟨a3, e3, l3, u3⟩ := zBB h3
 obtain ⟨a4, e4, l4, u4⟩ := zBB h4
 obtain ⟨a5, e5, _⟩ := tr_str h5
 obtain ⟨a6, e6⟩ := tr_bool h6
 refine ⟨a0, a1, a2, a3, a4, a5, a6, ?_, l0, u0, l1, u1, l2, u2, l3, u3, l4, u4⟩
 obtain ⟨l⟩ := cs
 match l, hl with
 | [x0, x1, x2, x3, x4, x5, x6], _ =>
  simp at e0 e1 e2 e3 e4 e5 e6
  rw [e0, e1, e2, e3, e4, e5, e6]
end
end Go.Proofs.YtnlmknbhppdliaaDoor.Chk
namespace Go.Proofs.YtnlmknbhppdliaaDoor
open Go.ChangeShapes Go.WideShapes Go.ChangeAt Go.RowKit Go.Joins
set_option linter.unusedVariables false
set_option linter.unusedSimpArgs false
theorem zEY {W : World} {l : List (String × DataW Unit)} {name : String} {D : DataW Unit} {g : Nat} {ty : TypeId} {n : Nat} (ws : List (List UInt8)) (hD : D = .agg (ws.map fun x => .lit (.string x))) (hn : ws.length = n) (h0 : 0 < ws.length)
  (hg : Tryd.prog.globalNamed name = some g) (ht : (Tryd.prog.globals[g]?).map (·.type) = some ty) (hu : Tryd.prog.underlying ty = some (.array n 9)) (hm : (name, D) ∈ l) (h : laidMet Tryd.prog l W) : Tab W g ws := by
 obtain ⟨g0, t0, cs0, f0, p0, hg0, ht0, hv0, hd0⟩ := Lib.laidMet.reads h hm
 obtain rfl := Option.some.inj (hg.symm.trans hg0)
 obtain rfl := Option.some.inj (ht.symm.trans ht0)
 have c9 : Tryd.prog.cellsOf 9 = 1 := by kernel_rfl
 obtain ⟨xs, m, rfl, hx, hlen, hnn, hel⟩ := DataW.trod_array hu hd0
 rw [hD] at hx
 simp only [Prod.mk.injEq, DataW.agg.injEq] at hx
 have hxl := hx.1
 have key : ∀ i : Nat, i < ws.length → W.cell? ⟨g, i, none⟩ = some (.string (txt (ws.getD i []))) := by
  intro i hi
  have he := hel i (by omega)
  rw [c9] at he
  have hlt : i < xs.length := by omega
  rw [List.getElem?_eq_getElem hlt] at he
  obtain ⟨k, e1, e2, _⟩ := DataW.trod_string Tryd.underlying9 he
  have hk := congrArg (fun q => q[i]?) hxl
  simp only [List.getElem?_map, List.getElem?_eq_getElem hlt, List.getElem?_eq_getElem hi, Option.map_some, e2, Option.some.injEq, DataW.lit.injEq, Lit.string.injEq] at hk
  have hc := World.var?_cell hg0 hv0 i
  rw [hc]
  have e4 : cs0.toList[i]? = some (.string k) := by
   have := congrArg (fun l => l[0]?) e1
   simpa using this
  rw [zC1 ws i hi, hk, txt_of]
  simpa using e4
 refine ⟨?_, key⟩
 have h00 := key 0 (by omega)
 exact World.block_lt_of_cell? _ _ h00
theorem zIB {W : World} {l : List (String × DataW Unit)} (hm : ("dotterel/parse.kept", Rows.laid_dotterel_parse_kept) ∈ l) (h : laidMet Tryd.prog l W) : Tab W 0 kpl :=
  zEY kpl rfl rfl (by decide) (by kernel_rfl) (by kernel_rfl) Tryd.underlying112 hm h
theorem laid_rel {W : World} {l : List (String × DataW Unit)} (hm : ("dotterel/parse.relations", Rows.laid_dotterel_parse_relations) ∈ l) (h : laidMet Tryd.prog l W) : Tab W 1 rll :=
  zEY rll rfl rfl (by decide) (by kernel_rfl) (by kernel_rfl) Tryd.underlying140 hm h
end Go.Proofs.YtnlmknbhppdliaaDoor
