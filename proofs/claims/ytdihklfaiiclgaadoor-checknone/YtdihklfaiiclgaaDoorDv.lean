/-
  A book that came in: what lies in memory. Books of raw numbers that came in. The tables that the program's text lays: what lies in memory.
-/
import Derived.Lib.SmallJoins
import Derived.Lib.LaidU8
import Derived.MakeChecks
import Derived.FnData
import Derived.Test.YtdihklfaiiclgaaDoorDt
import Derived.Test.YtdihklfaiiclgaaDoorF2
import Derived.Test.YtdihklfaiiclgaaDoorA
namespace Go.Proofs.YtdihklfaiiclgaaDoor.Chk
open Go.Deep Go.ChangeShapes Go.WideShapes Go.ChangeAt Go.RowKit Go.Maps
set_option linter.unusedVariables false
set_option linter.unusedSimpArgs false
set_option maxRecDepth 20000
variable {H : Type} {enc : TypeId × Value → H} {W : World} {base b0 : Nat} {r : Reach} {spare : Nat → Bool} {held : Bool} {v : Value} {d : DataW H} {p : List MemPlace}
def Tr (enc : TypeId × Value → H) (W : World) (base : Nat) (spare : Nat → Bool) (held : Bool) (n : Nat) (t : TypeId) (cs : List Value) : Prop := ∃ x, DataW.trod enc Tryd.prog W base spare held n t cs = some x
theorem tr_fld {n : Nat} {t : TypeId} {fs : Array Field} {cs : List Value} (ht : Tryd.prog.underlying t = some (.struct fs)) (h : Tr enc W base spare held n t cs) : ∃ m, n = m + 1 ∧ cs.length = Tryd.prog.cellsOf t ∧ ∀ (i : Nat) (f : Field), fs[i]? = some f → Tr enc W base spare held m f.type ((cs.drop f.offset).take (Tryd.prog.cellsOf f.type)) := by
  obtain ⟨x, h⟩ := h
  obtain ⟨xs, m, e, _, hl, hlen, hf⟩ := DataW.trod_struct ht h
  refine ⟨m, e, hl, fun i f hfi => ?_⟩
  have h1 := hf i f hfi
  have hi : i < xs.length := by rw [hlen]; exact (Array.getElem?_eq_some_iff.1 hfi).1
  rw [List.getElem?_eq_getElem hi] at h1
  exact ⟨_, h1⟩
theorem cells_get {a : Addr} {z : Nat} {cs : List Value} (h : W.cells? base a z = some cs) : cs.length = z ∧ ∀ j, j < z → W.cell? (a.add j) = cs[j]? := by
  unfold World.cells? at h
  split at h
  . exact ⟨by simpa using mapM_some_length h, fun j hj => mapM_some_get h j j (by rw [List.getElem?_range hj])⟩
  . cases h
theorem range_app {w : World} {g o : Nat} {xs ys : List Value} (h : w.rangeAt g o xs) (k : w.rangeAt g (o + xs.length) ys) : w.rangeAt g o (xs ++ ys) := fun j u hu => by
 by_cases c : j < xs.length
 . rw [List.getElem?_append_left c] at hu
   exact h j u hu
 . rw [List.getElem?_append_right (by omega)] at hu
   have := k (j - xs.length) u hu
   rw [show o + xs.length + (j - xs.length) = o + j by omega] at this
   exact this
theorem rows_of {α : Type} {enc : α → List Dat} {z g off : Nat} {Q : α → Prop} : ∀ (len : Nat), (∀ i, i < len → ∃ x, Q x ∧ ∃ cs : List Value, cs.length = z ∧ W.rangeAt g (off + i * z) cs ∧ RdL W (enc x) cs) →
  ∃ (l : List α) (xs : List Value), l.length = len ∧ xs.length = len * z ∧ W.rangeAt g off xs ∧ RdL W (l.map enc).flatten xs ∧ ∀ x, x ∈ l → Q x
 | 0, _ => ⟨[], [], rfl, by simp, fun j u hu => by simp at hu, RdL.nil _, fun x hx => by cases hx⟩
 | n + 1, h => by
  obtain ⟨l, xs, h1, h2, h3, h4, h5⟩ := rows_of n (fun i hi => h i (by omega))
  obtain ⟨x, hq, cs, c1, c2, c3⟩ := h n (by omega)
  refine ⟨l ++ [x], xs ++ cs, by simp [h1], by rw [List.length_append, h2, c1, Nat.add_mul, Nat.one_mul], range_app h3 (by rw [h2]; exact c2), ?_, fun y hy => ?_⟩
  . rw [List.map_append, List.flatten_append]
    exact rdl_app h4 (by simpa using c3)
  . rcases List.mem_append.1 hy with hy | hy
    . exact h5 y hy
    . rw [List.mem_singleton.1 hy]; exact hq
theorem tr_row {α : Type} {ec : α → List Dat} {z : Nat} {t e : TypeId} {n : Nat} {cs : List Value} {Q : α → Prop} (hu : Tryd.prog.underlying t = some (.slice e)) (hc : Tryd.prog.cellsOf e = z) (hz : 0 < z) (h : Tr enc W base spare held n t cs)
   (hel : ∀ m, m < n → ∀ cs', Tr enc W base spare held m e cs' → ∃ x, Q x ∧ RdL W (ec x) cs') : ∃ (v : Value) (l : List α), cs = [v] ∧ Rd W (.row e z (l.map ec)) v ∧ ∀ x, x ∈ l → Q x := by
 obtain ⟨x, h⟩ := h
 rcases DataW.trod_slice hu h with ⟨rfl, _⟩ | ⟨a, len, cap, elems, rest, m, hm, rfl, _, _, hl, hmx, hlen, hg, _, _⟩
 . exact ⟨_, [], rfl, .nil e z none 0 (Nat.zero_le _), fun x hx => by cases hx⟩
 . have each : ∀ i, i < len → ∃ cs', W.cells? base (a.add (i * z)) z = some cs' ∧ Tr enc W base spare held m e cs' := fun i hi => by
     have h1 := hg i hi
     rw [hc, List.getElem?_eq_getElem (by omega)] at h1
     cases hq : W.cells? base (a.add (i * z)) z with
     | none => rw [hq] at h1; cases h1
     | some cs' => rw [hq] at h1; exact ⟨cs', rfl, _, h1⟩
   by_cases h0 : len = 0
   . subst h0
     exact ⟨_, [], rfl, .nil e z (some a) cap hmx, fun x hx => by cases hx⟩
   . have hsp : a.spot = none := by
      obtain ⟨cs', h1, _⟩ := each 0 (by omega)
      obtain ⟨h2, h3⟩ := cells_get h1
      have h4 := h3 0 (by omega)
      rw [List.getElem?_eq_getElem (by omega)] at h4
      have h5 := spot_none h4
      cases hxs : a.spot with
      | none => rfl
      | some q =>
       exfalso
       cases a
       simp at hxs
       subst hxs
       revert h5
       simp [Addr.add]
     obtain ⟨g, off, rfl⟩ : ∃ g off, a = ⟨g, off, none⟩ := ⟨a.block, a.off, by cases a; simp at hsp; subst hsp; rfl⟩
     obtain ⟨l, xs, l1, l2, l3, l4, l5⟩ := rows_of (W := W) (enc := ec) (z := z) (g := g) (off := off) (Q := Q) len (fun i hi => by
      obtain ⟨cs', h1, h2⟩ := each i hi
      obtain ⟨h3, h4⟩ := cells_get h1
      obtain ⟨x, hx, hr⟩ := hel m (by omega) cs' h2
      refine ⟨x, hx, cs', h3, fun j u hj => ?_, hr⟩
      have hjl : j < z := by rw [← h3]; exact (List.getElem?_eq_some_iff.1 hj).1
      have h5 := h4 j hjl
      rw [Addr.add_mid, Addr.add_mid, hj] at h5
      exact h5)
     refine ⟨_, l, rfl, ?_, l5⟩
     have := Rd.row (w := W) e z (l.map ec) g off cap xs (by simp; omega) (by simp; omega) hmx l3 l4.1 l4.2
     rw [List.length_map, l1] at this
     exact this
/-! Fields, one behind the other. -/
theorem rdl_fld {ds es : List Dat} {cs : List Value} {a z b : Nat} (h : RdL W ds ((cs.drop a).take z)) (hb : a + z = b) (k : RdL W es (cs.drop b)) : RdL W (ds ++ es) (cs.drop a) := by
  subst hb
  have e : cs.drop a = (cs.drop a).take z ++ cs.drop (a + z) := by rw [← List.drop_drop, List.take_append_drop]
  rw [e]
  exact rdl_app h k
theorem rdl_end {cs : List Value} {n : Nat} (h : cs.length = n) : RdL W [] (cs.drop n) := by
  rw [List.drop_of_length_le (by omega)]
  exact RdL.nil _
theorem rdl_lit {v : Value} {cs : List Value} (h : cs = [v]) : RdL W [.lit v] cs := by subst h; exact RdL.cons (.lit _) (RdL.nil _)
theorem rdl_val {d : Dat} {v : Value} {cs : List Value} (h : cs = [v]) (k : Rd W d v) : RdL W [d] cs := by subst h; exact RdL.cons k (RdL.nil _)
theorem k3 : Tryd.prog.cellsOf 3 = 1 := by kernel_rfl
section
variable {H : Type} {enc : TypeId × Value → H} {W : World} {base b0 : Nat} {r : Reach} {spare : Nat → Bool} {held : Bool} {v : Value} {d : DataW H} {p : List MemPlace}
theorem tr_intR {n : Nat} {cs : List Value} (h : Tr enc W base spare held n 3 cs) : ∃ a, cs = [.int .i64 a] ∧ i64ok a := by
  obtain ⟨x, h⟩ := h
  obtain ⟨a, e, _, hw⟩ := DataW.trod_int Tryd.underlying3 h
  exact ⟨a, e, bounds_i64 hw⟩
theorem kCa : Tryd.prog.cellsOf 73 = 5 := by kernel_rfl
theorem kBd : Tryd.prog.cellsOf 80 = 6 := by kernel_rfl
theorem kPl : Tryd.prog.cellsOf 63 = 5 := by kernel_rfl
theorem ksCa : Tryd.prog.cellsOf 60 = 1 := by kernel_rfl
theorem ksBd : Tryd.prog.cellsOf 61 = 1 := by kernel_rfl
theorem tr_cast {n : Nat} {cs : List Value} (h : Tr enc W base spare held n 73 cs) : ∃ c : Cst, c.ok ∧ RdL W (encCs c) cs := by
  obtain ⟨m, hm, hl, hf⟩ := tr_fld Tryd.underlying73 h
  rw [kCa] at hl
  have h0 : Tr enc W base spare held m 3 ((cs.drop 0).take (Tryd.prog.cellsOf 3)) := hf 0 _ rfl
  rw [k3] at h0
  obtain ⟨a0, e0, q0⟩ := tr_intR h0
  have h1 : Tr enc W base spare held m 3 ((cs.drop 1).take (Tryd.prog.cellsOf 3)) := hf 1 _ rfl
  rw [k3] at h1
  obtain ⟨a1, e1, q1⟩ := tr_intR h1
  have h2 : Tr enc W base spare held m 3 ((cs.drop 2).take (Tryd.prog.cellsOf 3)) := hf 2 _ rfl
  rw [k3] at h2
  obtain ⟨a2, e2, q2⟩ := tr_intR h2
  have h3 : Tr enc W base spare held m 3 ((cs.drop 3).take (Tryd.prog.cellsOf 3)) := hf 3 _ rfl
  rw [k3] at h3
  obtain ⟨a3, e3, q3⟩ := tr_intR h3
  have h4 : Tr enc W base spare held m 3 ((cs.drop 4).take (Tryd.prog.cellsOf 3)) := hf 4 _ rfl
  rw [k3] at h4
  obtain ⟨a4, e4, q4⟩ := tr_intR h4
  exact ⟨⟨a0, a1, a2, a3, a4⟩, ⟨q0, q1, q2, q3, q4⟩, rdl_fld (a := 0) (z := 1) (rdl_lit e0) rfl (rdl_fld (z := 1) (rdl_lit e1) rfl (rdl_fld (z := 1) (rdl_lit e2) rfl (rdl_fld (z := 1) (rdl_lit e3) rfl (rdl_fld (z := 1) (rdl_lit e4) rfl (rdl_end hl)))))⟩
theorem tr_bond {n : Nat} {cs : List Value} (h : Tr enc W base spare held n 80 cs) : ∃ c : Bd6, c.ok ∧ RdL W (encBd c) cs := by
  obtain ⟨m, hm, hl, hf⟩ := tr_fld Tryd.underlying80 h
  rw [kBd] at hl
  have h0 : Tr enc W base spare held m 3 ((cs.drop 0).take (Tryd.prog.cellsOf 3)) := hf 0 _ rfl
  rw [k3] at h0
  obtain ⟨a0, e0, q0⟩ := tr_intR h0
  have h1 : Tr enc W base spare held m 3 ((cs.drop 1).take (Tryd.prog.cellsOf 3)) := hf 1 _ rfl
  rw [k3] at h1
  obtain ⟨a1, e1, q1⟩ := tr_intR h1
  have h2 : Tr enc W base spare held m 3 ((cs.drop 2).take (Tryd.prog.cellsOf 3)) := hf 2 _ rfl
  rw [k3] at h2
  obtain ⟨a2, e2, q2⟩ := tr_intR h2
  have h3 : Tr enc W base spare held m 3 ((cs.drop 3).take (Tryd.prog.cellsOf 3)) := hf 3 _ rfl
  rw [k3] at h3
  obtain ⟨a3, e3, q3⟩ := tr_intR h3
  have h4 : Tr enc W base spare held m 3 ((cs.drop 4).take (Tryd.prog.cellsOf 3)) := hf 4 _ rfl
  rw [k3] at h4
  obtain ⟨a4, e4, q4⟩ := tr_intR h4
  have h5 : Tr enc W base spare held m 3 ((cs.drop 5).take (Tryd.prog.cellsOf 3)) := hf 5 _ rfl
  rw [k3] at h5
  obtain ⟨a5, e5, q5⟩ := tr_intR h5
  exact ⟨⟨a0, a1, a2, a3, a4, a5⟩, ⟨q0, q1, q2, q3, q4, q5⟩, rdl_fld (a := 0) (z := 1) (rdl_lit e0) rfl (rdl_fld (z := 1) (rdl_lit e1) rfl (rdl_fld (z := 1) (rdl_lit e2) rfl (rdl_fld (z := 1) (rdl_lit e3) rfl (rdl_fld (z := 1) (rdl_lit e4) rfl (rdl_fld (z := 1) (rdl_lit e5) rfl (rdl_end hl))))))⟩
theorem tr_plot {n : Nat} {cs : List Value} (h : Tr enc W base spare held n 63 cs) : ∃ c : Plt, c.ok ∧ RdL W (encPl c) cs := by
  obtain ⟨m, hm, hl, hf⟩ := tr_fld Tryd.underlying63 h
  rw [kPl] at hl
  have h0 : Tr enc W base spare held m 60 ((cs.drop 0).take (Tryd.prog.cellsOf 60)) := hf 0 _ rfl
  rw [ksCa] at h0
  obtain ⟨v0, l0, e0, q0, o0⟩ := tr_row (ec := encCs) (z := 5) (Q := fun c => c.ok) Tryd.underlying60 kCa (by omega) h0 (fun m' hm' cs' h' => tr_cast h')
  have h1 : Tr enc W base spare held m 60 ((cs.drop 1).take (Tryd.prog.cellsOf 60)) := hf 1 _ rfl
  rw [ksCa] at h1
  obtain ⟨v1, l1, e1, q1, o1⟩ := tr_row (ec := encCs) (z := 5) (Q := fun c => c.ok) Tryd.underlying60 kCa (by omega) h1 (fun m' hm' cs' h' => tr_cast h')
  have h2 : Tr enc W base spare held m 60 ((cs.drop 2).take (Tryd.prog.cellsOf 60)) := hf 2 _ rfl
  rw [ksCa] at h2
  obtain ⟨v2, l2, e2, q2, o2⟩ := tr_row (ec := encCs) (z := 5) (Q := fun c => c.ok) Tryd.underlying60 kCa (by omega) h2 (fun m' hm' cs' h' => tr_cast h')
  have h3 : Tr enc W base spare held m 61 ((cs.drop 3).take (Tryd.prog.cellsOf 61)) := hf 3 _ rfl
  rw [ksBd] at h3
  obtain ⟨v3, l3, e3, q3, o3⟩ := tr_row (ec := encBd) (z := 6) (Q := fun c => c.ok) Tryd.underlying61 kBd (by omega) h3 (fun m' hm' cs' h' => tr_bond h')
  have h4 : Tr enc W base spare held m 3 ((cs.drop 4).take (Tryd.prog.cellsOf 3)) := hf 4 _ rfl
  rw [k3] at h4
  obtain ⟨a4, e4, q4'⟩ := tr_intR h4
  exact ⟨⟨l0, l1, l2, l3, a4⟩, ⟨o0, o1, o2, o3, q4'⟩, rdl_fld (a := 0) (z := 1) (rdl_val e0 q0) rfl (rdl_fld (z := 1) (rdl_val e1 q1) rfl (rdl_fld (z := 1) (rdl_val e2 q2) rfl (rdl_fld (z := 1) (rdl_val e3 q3) rfl (rdl_fld (z := 1) (rdl_lit e4) rfl (rdl_end hl)))))⟩
theorem open_plots (hv : Value.okWide Tryd.prog W r b0 22 v) (h : DataW.Trod enc Tryd.prog W base spare held 22 v d p) : ∃ l : List Plt, Rd W (.row 63 5 (l.map encPl)) v ∧ ∀ c, c ∈ l → c.ok := by
  obtain ⟨s, n, c, rfl⟩ := okWide_slice Tryd.underlying22 hv
  obtain ⟨fuel, hf⟩ := h
  have h : Tr enc W base spare held fuel 22 [.slice s n c] := ⟨_, by simpa [Value.cells] using hf⟩
  obtain ⟨v, l, e, q, o⟩ := tr_row (ec := encPl) (z := 5) (Q := fun c => c.ok) Tryd.underlying22 kPl (by omega) h (fun m' hm' cs' h' => tr_plot h')
  simp only [List.cons.injEq, and_true] at e
  subst e
  exact ⟨l, q, o⟩
end
end Go.Proofs.YtdihklfaiiclgaaDoor.Chk
namespace Go.Proofs.YtdihklfaiiclgaaDoor
open Go.ChangeShapes Go.WideShapes Go.ChangeAt Go.RowKit Go.Joins
set_option linter.unusedVariables false
set_option linter.unusedSimpArgs false
theorem laid_strs {W : World} {l : List (String × DataW Unit)} {name : String} {D : DataW Unit} {g : Nat} {ty : TypeId} {n : Nat} (ws : List (List UInt8)) (hD : D = .agg (ws.map fun x => .lit (.string x))) (hn : ws.length = n) (h0 : 0 < ws.length)
  (hg : Tryd.prog.globalNamed name = some g) (ht : (Tryd.prog.globals[g]?).map (·.type) = some ty) (hu : Tryd.prog.underlying ty = some (.array n 9)) (hm : (name, D) ∈ l) (h : laidMet Tryd.prog l W) : Tab W g ws := by
 obtain ⟨g0, t0, cs0, f0, p0, hg0, ht0, hv0, hd0⟩ := Lib.laidMet.reads h hm
 obtain rfl := Option.some.inj (hg.symm.trans hg0)
 obtain rfl := Option.some.inj (ht.symm.trans ht0)
 have c9 : Tryd.prog.cellsOf 9 = 1 := by kernel_rfl
 obtain ⟨xs, m, rfl, hx, hlen, hnn, hel⟩ := DataW.trod_array hu hd0
 rw [hD] at hx
 simp only [Prod.mk.injEq, DataW.agg.injEq] at hx
 have hxl := hx.1
 have key : ∀ i : Nat, i < ws.length → W.cell? ⟨g, i, none⟩ = some (.string (txt (ws.getD i []))) := by
  intro i hi
  have he := hel i (by omega)
  rw [c9] at he
  have hlt : i < xs.length := by omega
  rw [List.getElem?_eq_getElem hlt] at he
  obtain ⟨k, e1, e2, _⟩ := DataW.trod_string Tryd.underlying9 he
  have hk := congrArg (fun q => q[i]?) hxl
  simp only [List.getElem?_map, List.getElem?_eq_getElem hlt, List.getElem?_eq_getElem hi, Option.map_some, e2, Option.some.injEq, DataW.lit.injEq, Lit.string.injEq] at hk
  have hc := World.var?_cell hg0 hv0 i
  rw [hc]
  have e4 : cs0.toList[i]? = some (.string k) := by
   have := congrArg (fun l => l[0]?) e1
   simpa using this
  rw [getD_eq ws i hi, hk, txt_of]
  simpa using e4
 refine ⟨?_, key⟩
 have h00 := key 0 (by omega)
 exact World.block_lt_of_cell? _ _ h00
theorem laid_kept {W : World} {l : List (String × DataW Unit)} (hm : ("dotterel/parse.kept", Rows.laid_dotterel_parse_kept) ∈ l) (h : laidMet Tryd.prog l W) : Tab W 0 kpl :=
  laid_strs kpl rfl rfl (by decide) (by kernel_rfl) (by kernel_rfl) Tryd.underlying101 hm h
theorem laid_rel {W : World} {l : List (String × DataW Unit)} (hm : ("dotterel/parse.relations", Rows.laid_dotterel_parse_relations) ∈ l) (h : laidMet Tryd.prog l W) : Tab W 1 rll :=
  laid_strs rll rfl rfl (by decide) (by kernel_rfl) (by kernel_rfl) Tryd.underlying122 hm h
end Go.Proofs.YtdihklfaiiclgaaDoor
