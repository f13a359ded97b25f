/-
  Tokens and raw tokens that came in, and the tables that the program's text lays: what lies in memory.
-/
import Derived.Test.YtnlmkdncifijlaaDoorA
import Derived.Deep.Slices
import Derived.Deep.Strs
import Derived.Lib.SmallJoins
import Derived.Lib.LaidU8
import Derived.MakeChecks
import Derived.FnData
namespace Go.Proofs.YtnlmkdncifijlaaDoor
open Go.ChangeShapes Go.WideShapes Go.ChangeAt Go.RowKit Go.Deep Go.Joins
open Go.ChangeMaps (open_string shut_string)
set_option linter.unusedVariables false
set_option linter.unusedSimpArgs false
set_option maxRecDepth 20000
def wfI (a : Int) : Prop := -9223372036854775808 ≤ a ∧ a ≤ 9223372036854775807
/-- A raw token: kind, number, text. -/
structure Pc where
  k : Int
  n : Int
  s : ByteArray
def PiecesAt (w : World) (v : Value) (l : List Pc) : Prop :=
  ∃ p cap, v = .slice p l.length cap ∧ l.length ≤ cap ∧ cap ≤ maxLen ∧ (0 < l.length → ∃ g off, p = some ⟨g, off, none⟩ ∧ ∀ j (hj : j < l.length), g < w.heap.size ∧ w.cell? ⟨g, off + j * 3, none⟩ = some (.int .i64 l[j].k) ∧ w.cell? ⟨g, off + j * 3 + 1, none⟩ = some (.int .i64 l[j].n) ∧ w.cell? ⟨g, off + j * 3 + 2, none⟩ = some (.string l[j].s))
theorem PiecesAt.below {w w' : World} {v : Value} {fs : List Pc} (h : PiecesAt w v fs) (b : Below w.heap.size w w') : PiecesAt w' v fs := by
  obtain ⟨p, cap, h1, hc, hm, h2⟩ := h
  refine ⟨p, cap, h1, hc, hm, fun h0 => ?_⟩
  obtain ⟨g, off, h3, h4⟩ := h2 h0
  refine ⟨g, off, h3, fun j hj => ?_⟩
  obtain ⟨a, b0, b1, b2⟩ := h4 j hj
  exact ⟨Nat.lt_of_lt_of_le a b.size, (b.cell (p := ⟨g, off + j * 3, none⟩) a).trans b0, (b.cell (p := ⟨g, off + j * 3 + 1, none⟩) a).trans b1, (b.cell (p := ⟨g, off + j * 3 + 2, none⟩) a).trans b2⟩
def wfT (v : Tk) : Prop := wfI v.k ∧ v.s.size ≤ maxLen ∧ wfI v.n
def wfP (v : Pc) : Prop := wfI v.k ∧ wfI v.n ∧ v.s.size ≤ maxLen
theorem bounds64 {n : Int} (h : (Lit.int .i64 n).wf = true) : wfI n := by
  simpa [Lit.wf, IntKind.min, IntKind.max, IntKind.signed, IntKind.bits, wfI] using h
theorem cells3 {w : World} {base : Nat} {a : Addr} {cs : List Value} (h : w.cells? base a 3 = some cs) : ∃ x y z, cs = [x, y, z] ∧ w.cell? (a.add 0) = some x ∧ w.cell? (a.add 1) = some y ∧ w.cell? (a.add 2) = some z := by
  unfold World.cells? at h
  split at h
  · simp [List.range_succ, List.mapM_cons] at h
    cases h0 : w.cell? (a.add 0) with
    | none => simp [h0] at h
    | some x =>
      cases h1 : w.cell? (a.add 1) with
      | none => simp [h0, h1] at h
      | some y =>
        cases h2 : w.cell? (a.add 2) with
        | none => simp [h0, h1, h2] at h
        | some z =>
          simp [h0, h1, h2] at h
          exact ⟨x, y, z, h.symm, rfl, rfl, rfl⟩
  · cases h
theorem spot_none {w : World} {a : Addr} {v : Value} (h : w.cell? a = some v) : a.spot = none := by
  unfold World.cell? at h
  split at h
  · split at h
    · cases h
    · rename_i hs
      cases hp : a.spot with
      | none => rfl
      | some _ => rw [hp] at hs; simp at hs
  · cases h
theorem spot_of {x : Addr} {m : Nat} (hs : (x.add (0 * m)).spot = none) : x.spot = none := by
  cases hxs : x.spot with
  | none => rfl
  | some q =>
    exfalso
    cases x
    simp at hxs
    subst hxs
    revert hs
    simp [Addr.add]
theorem key_of {x : Addr} (hx0 : x.spot = none) : ∀ k, x.add k = ⟨x.block, x.off + k, none⟩ := fun k => by
  cases x; simp at hx0; subst hx0; exact Addr.add_mid _ _ _
theorem c3 : Tryd.prog.cellsOf 3 = 1 := by kernel_rfl
theorem c9 : Tryd.prog.cellsOf 9 = 1 := by kernel_rfl
theorem cT : Tryd.prog.cellsOf 65 = 3 := by kernel_rfl
theorem c17 : Tryd.prog.cellsOf 148 = 17 := by kernel_rfl
theorem toks_of {W : World} {x : Addr} {len cap : Nat} (hl : len ≤ cap) (hm : cap ≤ maxLen) (each : ∀ i, i < len → ∃ y : Tk, wfT y ∧ W.cell? (x.add (i * 3)) = some (.int .i64 y.k) ∧ W.cell? (x.add (i * 3 + 1)) = some (.string y.s) ∧ W.cell? (x.add (i * 3 + 2)) = some (.int .i64 y.n)) :
    ∃ ds : List Tk, ds.length = len ∧ TokensAt W (.slice (some x) len cap) ds ∧ ∀ y, y ∈ ds → wfT y := by
  obtain ⟨f, hF⟩ : ∃ f : Nat → Tk, ∀ i, i < len → wfT (f i) ∧ W.cell? (x.add (i * 3)) = some (.int .i64 (f i).k) ∧ W.cell? (x.add (i * 3 + 1)) = some (.string (f i).s) ∧ W.cell? (x.add (i * 3 + 2)) = some (.int .i64 (f i).n) := by
    refine ⟨fun i => if h : i < len then (each i h).choose else ⟨0, ByteArray.empty, 0⟩, fun i hi => ?_⟩
    simp only [hi, dif_pos]
    exact (each i hi).choose_spec
  refine ⟨(List.range len).map f, by simp, ⟨some x, cap, by simp, by simpa using hl, hm, fun hp => ?_⟩, fun y hy => ?_⟩
  · have hp' : 0 < len := by simpa using hp
    have hx0 : x.spot = none := spot_of (spot_none (hF 0 hp').2.1)
    refine ⟨x.block, x.off, ?_, fun j hj => ?_⟩
    · cases x; simp at hx0; subst hx0; rfl
    · have hj' : j < len := by simpa using hj
      obtain ⟨_, g0, g1, g2⟩ := hF j hj'
      rw [key_of hx0] at g0 g1 g2
      have hb := World.block_lt_of_cell? _ _ g0
      refine ⟨hb, ?_, ?_, ?_⟩
      · simpa using g0
      · simpa [Nat.add_assoc] using g1
      · simpa [Nat.add_assoc] using g2
  · obtain ⟨j, hj, rfl⟩ := List.mem_map.1 hy
    exact (hF j (by simpa using hj)).1
theorem pcs_of {W : World} {x : Addr} {len cap : Nat} (hl : len ≤ cap) (hm : cap ≤ maxLen) (each : ∀ i, i < len → ∃ y : Pc, wfP y ∧ W.cell? (x.add (i * 3)) = some (.int .i64 y.k) ∧ W.cell? (x.add (i * 3 + 1)) = some (.int .i64 y.n) ∧ W.cell? (x.add (i * 3 + 2)) = some (.string y.s)) :
    ∃ ds : List Pc, ds.length = len ∧ PiecesAt W (.slice (some x) len cap) ds ∧ ∀ y, y ∈ ds → wfP y := by
  obtain ⟨f, hF⟩ : ∃ f : Nat → Pc, ∀ i, i < len → wfP (f i) ∧ W.cell? (x.add (i * 3)) = some (.int .i64 (f i).k) ∧ W.cell? (x.add (i * 3 + 1)) = some (.int .i64 (f i).n) ∧ W.cell? (x.add (i * 3 + 2)) = some (.string (f i).s) := by
    refine ⟨fun i => if h : i < len then (each i h).choose else ⟨0, 0, ByteArray.empty⟩, fun i hi => ?_⟩
    simp only [hi, dif_pos]
    exact (each i hi).choose_spec
  refine ⟨(List.range len).map f, by simp, ⟨some x, cap, by simp, by simpa using hl, hm, fun hp => ?_⟩, fun y hy => ?_⟩
  · have hp' : 0 < len := by simpa using hp
    have hx0 : x.spot = none := spot_of (spot_none (hF 0 hp').2.1)
    refine ⟨x.block, x.off, ?_, fun j hj => ?_⟩
    · cases x; simp at hx0; subst hx0; rfl
    · have hj' : j < len := by simpa using hj
      obtain ⟨_, g0, g1, g2⟩ := hF j hj'
      rw [key_of hx0] at g0 g1 g2
      have hb := World.block_lt_of_cell? _ _ g0
      refine ⟨hb, ?_, ?_, ?_⟩
      · simpa using g0
      · simpa [Nat.add_assoc] using g1
      · simpa [Nat.add_assoc] using g2
  · obtain ⟨j, hj, rfl⟩ := List.mem_map.1 hy
    exact (hF j (by simpa using hj)).1
theorem gMarks : Tryd.prog.globalNamed "dotterel/lex.marks" = some 1 := by kernel_rfl
theorem tMarks : (Tryd.prog.globals[1]?).map (·.type) = some 148 := by kernel_rfl
theorem mark_list (i : Nat) (hi : i < 17) : ([.lit (.string [60, 61]), .lit (.string [62, 61]), .lit (.string [47, 61]), .lit (.string [123]), .lit (.string [125]), .lit (.string [91]), .lit (.string [93]), .lit (.string [40]), .lit (.string [41]), .lit (.string [58]), .lit (.string [59]), .lit (.string [44]), .lit (.string [46]), .lit (.string [61]), .lit (.string [60]), .lit (.string [62]), .lit (.string [45])] : List (DataW Unit))[i]? = some (.lit (.string (mkl.getD i []))) := by
  match i, hi with
  | 0, _ => rfl
  | 1, _ => rfl
  | 2, _ => rfl
  | 3, _ => rfl
  | 4, _ => rfl
  | 5, _ => rfl
  | 6, _ => rfl
  | 7, _ => rfl
  | 8, _ => rfl
  | 9, _ => rfl
  | 10, _ => rfl
  | 11, _ => rfl
  | 12, _ => rfl
  | 13, _ => rfl
  | 14, _ => rfl
  | 15, _ => rfl
  | 16, _ => rfl
  | n + 17, h => exact absurd h (by omega)
theorem laid_marks {W : World} {l : List (String × DataW Unit)} (hm : ("dotterel/lex.marks", Rows.laid_dotterel_lex_marks) ∈ l) (h : laidMet Tryd.prog l W) : Marks W := by
  obtain ⟨g0, t0, cs0, f0, p0, hg0, ht0, hv0, hd0⟩ := Lib.laidMet.reads h hm
  obtain rfl := Option.some.inj (gMarks.symm.trans hg0)
  obtain rfl := Option.some.inj (tMarks.symm.trans ht0)
  obtain ⟨xs, m, rfl, hx, hlen, hn, hel⟩ := DataW.trod_array Tryd.underlying148 hd0
  simp only [Prod.mk.injEq, Rows.laid_dotterel_lex_marks, DataW.agg.injEq] at hx
  have hxl := hx.1
  have key : ∀ i : Nat, i < 17 → W.cell? ⟨1, i, none⟩ = some (.string (txt (mkl.getD i []))) := by
    intro i hi
    have he := hel i hi
    rw [c9] at he
    have hlt : i < xs.length := by omega
    rw [List.getElem?_eq_getElem hlt] at he
    obtain ⟨k, e1, e2, _⟩ := DataW.trod_string Tryd.underlying9 he
    have hk := mark_list i hi
    rw [hxl, List.getElem?_map, List.getElem?_eq_getElem hlt] at hk
    simp only [Option.map_some, e2, Option.some.injEq, DataW.lit.injEq, Lit.string.injEq] at hk
    have hc := World.var?_cell hg0 hv0 i
    rw [hc]
    have e4 : cs0.toList[i]? = some (.string k) := by
      have := congrArg (fun l => l[0]?) e1
      simpa using this
    rw [← hk]
    rw [txt_of]
    simpa using e4
  refine ⟨?_, key⟩
  have h00 := key 0 (by omega)
  exact World.block_lt_of_cell? _ _ h00
/-- The table of powers of ten lies where the library reads it. -/
def Pow (w : World) : Prop := Lib.TabIs Tryd.prog w "internal/strconv.uint64pow10" .u64 Lib.pow10Tab
variable {H : Type} {enc : TypeId × Value → H} {W : World} {base b0 : Nat} {r : Reach} {spare : Nat → Bool} {held : Bool} {v : Value} {d : DataW H} {p : List MemPlace}
theorem open_tok (hv : Value.okWide Tryd.prog W r b0 65 v) (h : DataW.Trod enc Tryd.prog W base spare held 65 v d p) : ∃ x : Tk, v = tV x ∧ wfT x := by
  obtain ⟨c0, c1, c2, y0, y1, y2, m, rfl, rfl, rfl, h0, h1, h2⟩ := open_agg3 Tryd.underlying65 (by kernel_rfl) cT hv h
  obtain ⟨a0, e0, _, w0⟩ := DataW.trod_int Tryd.underlying3 h0
  obtain ⟨s, e1, _, w1⟩ := DataW.trod_string Tryd.underlying9 h1
  obtain ⟨a1, e2, _, w2⟩ := DataW.trod_int Tryd.underlying3 h2
  simp at e0 e1 e2
  subst e0 e1 e2
  exact ⟨⟨a0, s, a1⟩, rfl, bounds64 w0, w1, bounds64 w2⟩
theorem trod_toks {fuel : Nat} {x : DataW H × List MemPlace} (h : DataW.trod enc Tryd.prog W base spare held fuel 22 [v] = some x) : ∃ l : List Tk, TokensAt W v l ∧ (∀ y, y ∈ l → wfT y) := by
  rcases open_slice Tryd.underlying22 h with ⟨hcs, _⟩ | ⟨x, l, c, m, n, D, Pl, hcs, _, hl, hm, hme, _, hcell⟩
  · simp at hcs
    subst hcs
    exact ⟨[], ⟨none, 0, rfl, by simp, Nat.zero_le _, fun h => absurd h (by simp)⟩, fun x hx => (by cases hx)⟩
  · simp at hcs
    subst hcs
    have hlm : l ≤ m := by rw [hme]; split <;> omega
    have each : ∀ i, i < l → ∃ y : Tk, wfT y ∧ W.cell? (x.add (i * 3)) = some (.int .i64 y.k) ∧ W.cell? (x.add (i * 3 + 1)) = some (.string y.s) ∧ W.cell? (x.add (i * 3 + 2)) = some (.int .i64 y.n) := fun i hi => by
      obtain ⟨cs', hq1, hq2⟩ := hcell i (by omega)
      rw [cT] at hq1
      obtain ⟨u0, u1, u2, rfl, q0, q1, q2⟩ := cells3 hq1
      obtain ⟨y0, y1, y2, n', _, _, r0, r1, r2⟩ := trod_struct3 Tryd.underlying65 hq2
      simp [c3, c9] at r0 r1 r2
      obtain ⟨a0, s0, _, w0⟩ := DataW.trod_int Tryd.underlying3 r0
      obtain ⟨a1, s1, _, w1⟩ := DataW.trod_string Tryd.underlying9 r1
      obtain ⟨a2, s2, _, w2⟩ := DataW.trod_int Tryd.underlying3 r2
      simp at s0 s1 s2
      subst s0 s1 s2
      rw [add_add] at q0 q1 q2
      exact ⟨⟨a0, a1, a2⟩, ⟨bounds64 w0, w1, bounds64 w2⟩, q0, q1, q2⟩
    obtain ⟨ds, e1, e2, e3⟩ := toks_of hl hm each
    exact ⟨ds, e2, e3⟩
theorem open_toks (hv : Value.okWide Tryd.prog W r b0 22 v) (h : DataW.Trod enc Tryd.prog W base spare held 22 v d p) : ∃ l : List Tk, TokensAt W v l ∧ (∀ y, y ∈ l → wfT y) := by
  obtain ⟨s, n, c, rfl⟩ := okWide_slice Tryd.underlying22 hv
  obtain ⟨fuel, hf⟩ := h
  exact trod_toks (by simpa [Value.cells] using hf)
end Go.Proofs.YtnlmkdncifijlaaDoor
