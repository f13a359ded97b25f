/-
  Values, fields and types that came in: what lies in memory.
-/
import Derived.Test.YtepgkemnpcadiabA
import Derived.Deep.Slices
import Derived.Deep.Strs
import Derived.Lib.SmallJoins
namespace Go.Proofs.Ytepgkemnpcadiab
open Go.ChangeShapes Go.WideShapes Go.ChangeAt Go.RowKit Go.Deep Go.Joins
open Go.ChangeMaps (open_string shut_string)
set_option linter.unusedVariables false
set_option linter.unusedSimpArgs false
set_option maxRecDepth 20000
def wfI (a : Int) : Prop := -9223372036854775808 ≤ a ∧ a ≤ 9223372036854775807
def wfV (v : Vl) : Prop := wfI v.k ∧ wfI v.n ∧ v.s.size ≤ maxLen
def wfF (f : Fd) : Prop := f.s.size ≤ maxLen ∧ wfI f.k
theorem bounds64 {n : Int} (h : (Lit.int .i64 n).wf = true) : wfI n := by
  simpa [Lit.wf, IntKind.min, IntKind.max, IntKind.signed, IntKind.bits, wfI] using h
theorem cells2 {w : World} {base : Nat} {a : Addr} {cs : List Value} (h : w.cells? base a 2 = some cs) : ∃ x y, cs = [x, y] ∧ w.cell? (a.add 0) = some x ∧ w.cell? (a.add 1) = some y := by
  unfold World.cells? at h
  split at h
  · simp [List.range_succ, List.mapM_cons] at h
    cases h0 : w.cell? (a.add 0) with
    | none => simp [h0] at h
    | some x =>
      cases h1 : w.cell? (a.add 1) with
      | none => simp [h0, h1] at h
      | some y =>
        simp [h0, h1] at h
        exact ⟨x, y, h.symm, rfl, rfl⟩
  · cases h
theorem cells3 {w : World} {base : Nat} {a : Addr} {cs : List Value} (h : w.cells? base a 3 = some cs) : ∃ x y z, cs = [x, y, z] ∧ w.cell? (a.add 0) = some x ∧ w.cell? (a.add 1) = some y ∧ w.cell? (a.add 2) = some z := by
  unfold World.cells? at h
  split at h
  · simp [List.range_succ, List.mapM_cons] at h
    cases h0 : w.cell? (a.add 0) with
    | none => simp [h0] at h
    | some x =>
      cases h1 : w.cell? (a.add 1) with
      | none => simp [h0, h1] at h
      | some y =>
        cases h2 : w.cell? (a.add 2) with
        | none => simp [h0, h1, h2] at h
        | some z =>
          simp [h0, h1, h2] at h
          exact ⟨x, y, z, h.symm, rfl, rfl, rfl⟩
  · cases h
theorem spot_none {w : World} {a : Addr} {v : Value} (h : w.cell? a = some v) : a.spot = none := by
  unfold World.cell? at h
  split at h
  · split at h
    · cases h
    · rename_i hs
      cases hp : a.spot with
      | none => rfl
      | some _ => rw [hp] at hs; simp at hs
  · cases h
theorem spot_of {x : Addr} {m : Nat} (hs : (x.add (0 * m)).spot = none) : x.spot = none := by
  cases hxs : x.spot with
  | none => rfl
  | some q =>
    exfalso
    cases x
    simp at hxs
    subst hxs
    revert hs
    simp [Addr.add]
theorem key_of {x : Addr} (hx0 : x.spot = none) : ∀ k, x.add k = ⟨x.block, x.off + k, none⟩ := fun k => by
  cases x; simp at hx0; subst hx0; exact Addr.add_mid _ _ _
theorem c3 : Try.prog.cellsOf 3 = 1 := by kernel_rfl
theorem c9 : Try.prog.cellsOf 9 = 1 := by kernel_rfl
theorem cV : Try.prog.cellsOf 73 = 3 := by kernel_rfl
theorem vals_of {W : World} {x : Addr} {len cap : Nat} (hl : len ≤ cap) (hm : cap ≤ maxLen) (each : ∀ i, i < len → ∃ y : Vl, wfV y ∧ W.cell? (x.add (i * 3)) = some (.int .i64 y.k) ∧ W.cell? (x.add (i * 3 + 1)) = some (.int .i64 y.n) ∧ W.cell? (x.add (i * 3 + 2)) = some (.string y.s)) :
    ∃ ds : List Vl, ds.length = len ∧ ValsAt W (.slice (some x) len cap) ds ∧ ∀ y, y ∈ ds → wfV y := by
  obtain ⟨f, hF⟩ : ∃ f : Nat → Vl, ∀ i, i < len → wfV (f i) ∧ W.cell? (x.add (i * 3)) = some (.int .i64 (f i).k) ∧ W.cell? (x.add (i * 3 + 1)) = some (.int .i64 (f i).n) ∧ W.cell? (x.add (i * 3 + 2)) = some (.string (f i).s) := by
    refine ⟨fun i => if h : i < len then (each i h).choose else ⟨0, 0, ByteArray.empty⟩, fun i hi => ?_⟩
    simp only [hi, dif_pos]
    exact (each i hi).choose_spec
  refine ⟨(List.range len).map f, by simp, ⟨some x, cap, by simp, by simpa using hl, hm, fun hp => ?_⟩, fun y hy => ?_⟩
  · have hp' : 0 < len := by simpa using hp
    have hx0 : x.spot = none := spot_of (spot_none (hF 0 hp').2.1)
    refine ⟨x.block, x.off, ?_, fun j hj => ?_⟩
    · cases x; simp at hx0; subst hx0; rfl
    · have hj' : j < len := by simpa using hj
      obtain ⟨_, g0, g1, g2⟩ := hF j hj'
      rw [key_of hx0] at g0 g1 g2
      have hb := World.block_lt_of_cell? _ _ g0
      refine ⟨hb, ?_, ?_, ?_⟩
      · simpa using g0
      · simpa [Nat.add_assoc] using g1
      · simpa [Nat.add_assoc] using g2
  · obtain ⟨j, hj, rfl⟩ := List.mem_map.1 hy
    exact (hF j (by simpa using hj)).1
theorem fields_of {W : World} {x : Addr} {len cap : Nat} (hl : len ≤ cap) (hm : cap ≤ maxLen) (each : ∀ i, i < len → ∃ y : Fd, wfF y ∧ W.cell? (x.add (i * 2)) = some (.string y.s) ∧ W.cell? (x.add (i * 2 + 1)) = some (.int .i64 y.k)) :
    ∃ ds : List Fd, ds.length = len ∧ FieldsAt W (.slice (some x) len cap) ds ∧ ∀ y, y ∈ ds → wfF y := by
  obtain ⟨f, hF⟩ : ∃ f : Nat → Fd, ∀ i, i < len → wfF (f i) ∧ W.cell? (x.add (i * 2)) = some (.string (f i).s) ∧ W.cell? (x.add (i * 2 + 1)) = some (.int .i64 (f i).k) := by
    refine ⟨fun i => if h : i < len then (each i h).choose else ⟨ByteArray.empty, 0⟩, fun i hi => ?_⟩
    simp only [hi, dif_pos]
    exact (each i hi).choose_spec
  refine ⟨(List.range len).map f, by simp, ⟨some x, cap, by simp, by simpa using hl, hm, fun hp => ?_⟩, fun y hy => ?_⟩
  · have hp' : 0 < len := by simpa using hp
    have hx0 : x.spot = none := spot_of (spot_none (hF 0 hp').2.1)
    refine ⟨x.block, x.off, ?_, fun j hj => ?_⟩
    · cases x; simp at hx0; subst hx0; rfl
    · have hj' : j < len := by simpa using hj
      obtain ⟨_, g0, g1⟩ := hF j hj'
      rw [key_of hx0] at g0 g1
      have hb := World.block_lt_of_cell? _ _ g0
      refine ⟨hb, ?_, ?_⟩
      · simpa using g0
      · simpa [Nat.add_assoc] using g1
  · obtain ⟨j, hj, rfl⟩ := List.mem_map.1 hy
    exact (hF j (by simpa using hj)).1
variable {H : Type} {enc : TypeId × Value → H} {W : World} {base b0 : Nat} {r : Reach} {spare : Nat → Bool} {held : Bool} {v : Value} {d : DataW H} {p : List MemPlace}
theorem open_val (hv : Value.okWide Try.prog W r b0 73 v) (h : DataW.Trod enc Try.prog W base spare held 73 v d p) : ∃ x : Vl, v = vV x ∧ wfV x := by
  obtain ⟨c0, c1, c2, y0, y1, y2, m, rfl, rfl, rfl, h0, h1, h2⟩ := open_agg3 Try.underlying73 (by kernel_rfl) cV hv h
  obtain ⟨a0, e0, _, w0⟩ := DataW.trod_int Try.underlying3 h0
  obtain ⟨a1, e1, _, w1⟩ := DataW.trod_int Try.underlying3 h1
  obtain ⟨s, e2, _, w2⟩ := DataW.trod_string Try.underlying9 h2
  simp at e0 e1 e2
  subst e0 e1 e2
  exact ⟨⟨a0, a1, s⟩, rfl, bounds64 w0, bounds64 w1, w2⟩
theorem trod_vals {fuel : Nat} {x : DataW H × List MemPlace} (h : DataW.trod enc Try.prog W base spare held fuel 42 [v] = some x) : ∃ l : List Vl, ValsAt W v l ∧ (∀ y, y ∈ l → wfV y) := by
  rcases open_slice Try.underlying42 h with ⟨hcs, _⟩ | ⟨x, l, c, m, n, D, Pl, hcs, _, hl, hm, hme, _, hcell⟩
  · simp at hcs
    subst hcs
    exact ⟨[], ⟨none, 0, rfl, by simp, Nat.zero_le _, fun h => absurd h (by simp)⟩, fun x hx => (by cases hx)⟩
  · simp at hcs
    subst hcs
    have hlm : l ≤ m := by rw [hme]; split <;> omega
    have each : ∀ i, i < l → ∃ y : Vl, wfV y ∧ W.cell? (x.add (i * 3)) = some (.int .i64 y.k) ∧ W.cell? (x.add (i * 3 + 1)) = some (.int .i64 y.n) ∧ W.cell? (x.add (i * 3 + 2)) = some (.string y.s) := fun i hi => by
      obtain ⟨cs', hq1, hq2⟩ := hcell i (by omega)
      rw [cV] at hq1
      obtain ⟨u0, u1, u2, rfl, q0, q1, q2⟩ := cells3 hq1
      obtain ⟨y0, y1, y2, n', _, _, r0, r1, r2⟩ := trod_struct3 Try.underlying73 hq2
      simp [c3, c9] at r0 r1 r2
      obtain ⟨a0, s0, _, w0⟩ := DataW.trod_int Try.underlying3 r0
      obtain ⟨a1, s1, _, w1⟩ := DataW.trod_int Try.underlying3 r1
      obtain ⟨a2, s2, _, w2⟩ := DataW.trod_string Try.underlying9 r2
      simp at s0 s1 s2
      subst s0 s1 s2
      rw [add_add] at q0 q1 q2
      exact ⟨⟨a0, a1, a2⟩, ⟨bounds64 w0, bounds64 w1, w2⟩, q0, q1, q2⟩
    obtain ⟨ds, e1, e2, e3⟩ := vals_of hl hm each
    exact ⟨ds, e2, e3⟩
theorem open_vals (hv : Value.okWide Try.prog W r b0 42 v) (h : DataW.Trod enc Try.prog W base spare held 42 v d p) : ∃ l : List Vl, ValsAt W v l ∧ (∀ y, y ∈ l → wfV y) := by
  obtain ⟨s, n, c, rfl⟩ := okWide_slice Try.underlying42 hv
  obtain ⟨fuel, hf⟩ := h
  exact trod_vals (by simpa [Value.cells] using hf)
end Go.Proofs.Ytepgkemnpcadiab
