/-
  Tokens and raw tokens that came in, and the tables that the program's text lays: what lies in memory.
-/
import Derived.Test.YthndlfdbmljkhaaGreatDoorA
import Derived.Deep.Slices
import Derived.Deep.Strs
import Derived.Lib.SmallJoins
import Derived.MakeChecks
import Derived.FnData
namespace Go.Proofs.YthndlfdbmljkhaaGreatDoor
open Go.ChangeShapes Go.WideShapes Go.ChangeAt Go.RowKit Go.Deep Go.Joins
open Go.ChangeMaps (open_string shut_string)
set_option linter.unusedVariables false
set_option linter.unusedSimpArgs false
set_option maxRecDepth 20000
def wfI (a : Int) : Prop := -9223372036854775808 ≤ a ∧ a ≤ 9223372036854775807
/-- A raw token: kind, number, text. -/
structure Pc where
  k : Int
  n : Int
  s : ByteArray
def PiecesAt (w : World) (v : Value) (l : List Pc) : Prop :=
  ∃ p cap, v = .slice p l.length cap ∧ l.length ≤ cap ∧ cap ≤ maxLen ∧ (0 < l.length → ∃ g off, p = some ⟨g, off, none⟩ ∧ ∀ j (hj : j < l.length), g < w.heap.size ∧ w.cell? ⟨g, off + j * 3, none⟩ = some (.int .i64 l[j].k) ∧ w.cell? ⟨g, off + j * 3 + 1, none⟩ = some (.int .i64 l[j].n) ∧ w.cell? ⟨g, off + j * 3 + 2, none⟩ = some (.string l[j].s))
theorem PiecesAt.below {w w' : World} {v : Value} {fs : List Pc} (h : PiecesAt w v fs) (b : Below w.heap.size w w') : PiecesAt w' v fs := by
  obtain ⟨p, cap, h1, hc, hm, h2⟩ := h
  refine ⟨p, cap, h1, hc, hm, fun h0 => ?_⟩
  obtain ⟨g, off, h3, h4⟩ := h2 h0
  refine ⟨g, off, h3, fun j hj => ?_⟩
  obtain ⟨a, b0, b1, b2⟩ := h4 j hj
  exact ⟨Nat.lt_of_lt_of_le a b.size, (b.cell (p := ⟨g, off + j * 3, none⟩) a).trans b0, (b.cell (p := ⟨g, off + j * 3 + 1, none⟩) a).trans b1, (b.cell (p := ⟨g, off + j * 3 + 2, none⟩) a).trans b2⟩
def wfT (v : Tk) : Prop := wfI v.k ∧ v.s.size ≤ maxLen ∧ wfI v.n
def wfP (v : Pc) : Prop := wfI v.k ∧ wfI v.n ∧ v.s.size ≤ maxLen
theorem bounds64 {n : Int} (h : (Lit.int .i64 n).wf = true) : wfI n := by
  simpa [Lit.wf, IntKind.min, IntKind.max, IntKind.signed, IntKind.bits, wfI] using h
theorem cells3 {w : World} {base : Nat} {a : Addr} {cs : List Value} (h : w.cells? base a 3 = some cs) : ∃ x y z, cs = [x, y, z] ∧ w.cell? (a.add 0) = some x ∧ w.cell? (a.add 1) = some y ∧ w.cell? (a.add 2) = some z := by
  unfold World.cells? at h
  split at h
  · simp [List.range_succ, List.mapM_cons] at h
    cases h0 : w.cell? (a.add 0) with
    | none => simp [h0] at h
    | some x =>
      cases h1 : w.cell? (a.add 1) with
      | none => simp [h0, h1] at h
      | some y =>
        cases h2 : w.cell? (a.add 2) with
        | none => simp [h0, h1, h2] at h
        | some z =>
          simp [h0, h1, h2] at h
          exact ⟨x, y, z, h.symm, rfl, rfl, rfl⟩
  · cases h
theorem spot_none {w : World} {a : Addr} {v : Value} (h : w.cell? a = some v) : a.spot = none := by
  unfold World.cell? at h
  split at h
  · split at h
    · cases h
    · rename_i hs
      cases hp : a.spot with
      | none => rfl
      | some _ => rw [hp] at hs; simp at hs
  · cases h
theorem spot_of {x : Addr} {m : Nat} (hs : (x.add (0 * m)).spot = none) : x.spot = none := by
  cases hxs : x.spot with
  | none => rfl
  | some q =>
    exfalso
    cases x
    simp at hxs
    subst hxs
    revert hs
    simp [Addr.add]
theorem key_of {x : Addr} (hx0 : x.spot = none) : ∀ k, x.add k = ⟨x.block, x.off + k, none⟩ := fun k => by
  cases x; simp at hx0; subst hx0; exact Addr.add_mid _ _ _
theorem c3 : Tryz.prog.cellsOf 3 = 1 := by kernel_rfl
theorem c9 : Tryz.prog.cellsOf 9 = 1 := by kernel_rfl
theorem c17 : Tryz.prog.cellsOf 156 = 17 := by kernel_rfl
theorem toks_of {W : World} {x : Addr} {len cap : Nat} (hl : len ≤ cap) (hm : cap ≤ maxLen) (each : ∀ i, i < len → ∃ y : Tk, wfT y ∧ W.cell? (x.add (i * 3)) = some (.int .i64 y.k) ∧ W.cell? (x.add (i * 3 + 1)) = some (.string y.s) ∧ W.cell? (x.add (i * 3 + 2)) = some (.int .i64 y.n)) :
    ∃ ds : List Tk, ds.length = len ∧ TokensAt W (.slice (some x) len cap) ds ∧ ∀ y, y ∈ ds → wfT y := by
  obtain ⟨f, hF⟩ : ∃ f : Nat → Tk, ∀ i, i < len → wfT (f i) ∧ W.cell? (x.add (i * 3)) = some (.int .i64 (f i).k) ∧ W.cell? (x.add (i * 3 + 1)) = some (.string (f i).s) ∧ W.cell? (x.add (i * 3 + 2)) = some (.int .i64 (f i).n) := by
    refine ⟨fun i => if h : i < len then (each i h).choose else ⟨0, ByteArray.empty, 0⟩, fun i hi => ?_⟩
    simp only [hi, dif_pos]
    exact (each i hi).choose_spec
  refine ⟨(List.range len).map f, by simp, ⟨some x, cap, by simp, by simpa using hl, hm, fun hp => ?_⟩, fun y hy => ?_⟩
  · have hp' : 0 < len := by simpa using hp
    have hx0 : x.spot = none := spot_of (spot_none (hF 0 hp').2.1)
    refine ⟨x.block, x.off, ?_, fun j hj => ?_⟩
    · cases x; simp at hx0; subst hx0; rfl
    · have hj' : j < len := by simpa using hj
      obtain ⟨_, g0, g1, g2⟩ := hF j hj'
      rw [key_of hx0] at g0 g1 g2
      have hb := World.block_lt_of_cell? _ _ g0
      refine ⟨hb, ?_, ?_, ?_⟩
      · simpa using g0
      · simpa [Nat.add_assoc] using g1
      · simpa [Nat.add_assoc] using g2
  · obtain ⟨j, hj, rfl⟩ := List.mem_map.1 hy
    exact (hF j (by simpa using hj)).1
theorem pcs_of {W : World} {x : Addr} {len cap : Nat} (hl : len ≤ cap) (hm : cap ≤ maxLen) (each : ∀ i, i < len → ∃ y : Pc, wfP y ∧ W.cell? (x.add (i * 3)) = some (.int .i64 y.k) ∧ W.cell? (x.add (i * 3 + 1)) = some (.int .i64 y.n) ∧ W.cell? (x.add (i * 3 + 2)) = some (.string y.s)) :
    ∃ ds : List Pc, ds.length = len ∧ PiecesAt W (.slice (some x) len cap) ds ∧ ∀ y, y ∈ ds → wfP y := by
  obtain ⟨f, hF⟩ : ∃ f : Nat → Pc, ∀ i, i < len → wfP (f i) ∧ W.cell? (x.add (i * 3)) = some (.int .i64 (f i).k) ∧ W.cell? (x.add (i * 3 + 1)) = some (.int .i64 (f i).n) ∧ W.cell? (x.add (i * 3 + 2)) = some (.string (f i).s) := by
    refine ⟨fun i => if h : i < len then (each i h).choose else ⟨0, 0, ByteArray.empty⟩, fun i hi => ?_⟩
    simp only [hi, dif_pos]
    exact (each i hi).choose_spec
  refine ⟨(List.range len).map f, by simp, ⟨some x, cap, by simp, by simpa using hl, hm, fun hp => ?_⟩, fun y hy => ?_⟩
  · have hp' : 0 < len := by simpa using hp
    have hx0 : x.spot = none := spot_of (spot_none (hF 0 hp').2.1)
    refine ⟨x.block, x.off, ?_, fun j hj => ?_⟩
    · cases x; simp at hx0; subst hx0; rfl
    · have hj' : j < len := by simpa using hj
      obtain ⟨_, g0, g1, g2⟩ := hF j hj'
      rw [key_of hx0] at g0 g1 g2
      have hb := World.block_lt_of_cell? _ _ g0
      refine ⟨hb, ?_, ?_, ?_⟩
      · simpa using g0
      · simpa [Nat.add_assoc] using g1
      · simpa [Nat.add_assoc] using g2
  · obtain ⟨j, hj, rfl⟩ := List.mem_map.1 hy
    exact (hF j (by simpa using hj)).1
theorem mark_list (i : Nat) (hi : i < 17) : ([.lit (.string [60, 61]), .lit (.string [62, 61]), .lit (.string [47, 61]), .lit (.string [123]), .lit (.string [125]), .lit (.string [91]), .lit (.string [93]), .lit (.string [40]), .lit (.string [41]), .lit (.string [58]), .lit (.string [59]), .lit (.string [44]), .lit (.string [46]), .lit (.string [61]), .lit (.string [60]), .lit (.string [62]), .lit (.string [45])] : List (DataW Unit))[i]? = some (.lit (.string (mkl.getD i []))) := by
  match i, hi with
  | 0, _ => rfl
  | 1, _ => rfl
  | 2, _ => rfl
  | 3, _ => rfl
  | 4, _ => rfl
  | 5, _ => rfl
  | 6, _ => rfl
  | 7, _ => rfl
  | 8, _ => rfl
  | 9, _ => rfl
  | 10, _ => rfl
  | 11, _ => rfl
  | 12, _ => rfl
  | 13, _ => rfl
  | 14, _ => rfl
  | 15, _ => rfl
  | 16, _ => rfl
  | n + 17, h => exact absurd h (by omega)
/-- The table of powers of ten lies where the library reads it. -/
def Pow (w : World) : Prop := Lib.TabIs Tryz.prog w "internal/strconv.uint64pow10" .u64 Lib.pow10Tab
variable {H : Type} {enc : TypeId × Value → H} {W : World} {base b0 : Nat} {r : Reach} {spare : Nat → Bool} {held : Bool} {v : Value} {d : DataW H} {p : List MemPlace}
end Go.Proofs.YthndlfdbmljkhaaGreatDoor
