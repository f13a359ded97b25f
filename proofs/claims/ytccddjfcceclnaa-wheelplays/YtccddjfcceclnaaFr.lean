/-
  A slice of structs of three numbers that came in: its cells.
-/
import Derived.Test.YtccddjfcceclnaaKb
import Derived.Deep.Slices
import Derived.Deep.Strs
namespace Go.Proofs.Ytccddjfcceclnaa
open Go.ChangeShapes Go.WideShapes Go.ChangeAt Go.RowKit Go.Deep Go.Deep
set_option linter.unusedVariables false
set_option linter.unusedSimpArgs false
/-- A slice of structs of three numbers that came in, as it is read. -/
def Trips (w : World) (v : Value) (ds : List Dd) : Prop :=
  ∃ p cap, v = .slice p ds.length cap ∧ ds.length ≤ maxLen ∧ (0 < ds.length → ∃ g off, p = some ⟨g, off, none⟩ ∧ ∀ j (hj : j < ds.length), g < w.heap.size ∧ w.cell? ⟨g, off + j * 3, none⟩ = some (.int .i64 ds[j].1) ∧ w.cell? ⟨g, off + j * 3 + 1, none⟩ = some (.int .i64 ds[j].2.1) ∧ w.cell? ⟨g, off + j * 3 + 2, none⟩ = some (.int .i64 ds[j].2.2))
def wfD (d : Dd) : Prop := wfI d.1 ∧ wfI d.2.1 ∧ wfI d.2.2
theorem cells3 {w : World} {base : Nat} {a : Addr} {cs : List Value} (h : w.cells? base a 3 = some cs) : ∃ x y z, cs = [x, y, z] ∧ w.cell? (a.add 0) = some x ∧ w.cell? (a.add 1) = some y ∧ w.cell? (a.add 2) = some z := by
  unfold World.cells? at h
  split at h
  · simp [List.range_succ, List.mapM_cons] at h
    cases h0 : w.cell? (a.add 0) with
    | none => simp [h0] at h
    | some x =>
      cases h1 : w.cell? (a.add 1) with
      | none => simp [h0, h1] at h
      | some y =>
        cases h2 : w.cell? (a.add 2) with
        | none => simp [h0, h1, h2] at h
        | some z =>
          simp [h0, h1, h2] at h
          exact ⟨x, y, z, h.symm, rfl, rfl, rfl⟩
  · cases h
theorem spot_none {w : World} {a : Addr} {v : Value} (h : w.cell? a = some v) : a.spot = none := by
  unfold World.cell? at h
  split at h
  · split at h
    · cases h
    · rename_i hs
      cases hp : a.spot with
      | none => rfl
      | some _ => rw [hp] at hs; simp at hs
  · cases h
theorem open_trips {H : Type} {enc : TypeId × Value → H} {W : World} {base : Nat} {spare : Nat → Bool} {held : Bool} {t e : TypeId} {f0 f1 f2 : Field} {a : Option Addr} {len cap : Nat} {d : DataW H} {p : List MemPlace}
    (ht : Try.prog.underlying t = some (.slice e)) (he : Try.prog.underlying e = some (.struct #[f0, f1, f2])) (hc : Try.prog.cellsOf e = 3) (h0 : f0.type = 3 ∧ f0.offset = 0) (h1 : f1.type = 3 ∧ f1.offset = 1) (h2 : f2.type = 3 ∧ f2.offset = 2)
    (h : DataW.Trod enc Try.prog W base spare held t (.slice a len cap) d p) : ∃ ds : List Dd, ds.length = len ∧ Trips W (.slice a len cap) ds ∧ ∀ x, x ∈ ds → wfD x := by
  obtain ⟨fuel, hf⟩ := h
  have c3 : Try.prog.cellsOf 3 = 1 := by kernel_rfl
  rcases open_slice ht hf with ⟨hcs, _⟩ | ⟨x, l, c, m, n, D, Pl, hcs, _, hl, hm, hme, _, hcell⟩
  · simp [Value.cells] at hcs
    obtain ⟨rfl, rfl, rfl⟩ := hcs
    exact ⟨[], rfl, ⟨none, 0, rfl, by simp, fun h => absurd h (by simp)⟩, fun x hx => by cases hx⟩
  · simp [Value.cells] at hcs
    obtain ⟨rfl, rfl, rfl⟩ := hcs
    have hlm : len ≤ m := by rw [hme]; split <;> omega
    have each : ∀ i, i < len → ∃ y : Dd, wfD y ∧ W.cell? (x.add (i * 3)) = some (.int .i64 y.1) ∧ W.cell? (x.add (i * 3 + 1)) = some (.int .i64 y.2.1) ∧ W.cell? (x.add (i * 3 + 2)) = some (.int .i64 y.2.2) := fun i hi => by
      obtain ⟨cs', hq1, hq2⟩ := hcell i (by omega)
      rw [hc] at hq1
      obtain ⟨u0, u1, u2, rfl, q0, q1, q2⟩ := cells3 hq1
      obtain ⟨y0, y1, y2, n', _, _, r0, r1, r2⟩ := trod_struct3 he hq2
      rw [h0.1, h0.2, c3] at r0
      rw [h1.1, h1.2, c3] at r1
      rw [h2.1, h2.2, c3] at r2
      simp at r0 r1 r2
      obtain ⟨b0, s0, _, w0⟩ := DataW.trod_int Try.underlying3 r0
      obtain ⟨b1, s1, _, w1⟩ := DataW.trod_int Try.underlying3 r1
      obtain ⟨b2, s2, _, w2⟩ := DataW.trod_int Try.underlying3 r2
      simp at s0 s1 s2
      subst s0 s1 s2
      rw [add_add] at q0 q1 q2
      exact ⟨(b0, b1, b2), ⟨bounds_i64 w0, bounds_i64 w1, bounds_i64 w2⟩, q0, q1, q2⟩
    obtain ⟨f, hF⟩ := choose_lt each
    refine ⟨(List.range len).map f, by simp, ⟨some x, cap, by simp, by simp; omega, fun hp => ?_⟩, fun y hy => ?_⟩
    · have hp' : 0 < len := by simpa using hp
      have hs := spot_none (hF 0 hp').2.1
      have hx0 : x.spot = none := by
        cases hxs : x.spot with
        | none => rfl
        | some q =>
          exfalso
          cases x
          simp at hxs
          subst hxs
          revert hs
          simp [Addr.add]
      refine ⟨x.block, x.off, ?_, fun j hj => ?_⟩
      · cases x; simp at hx0; subst hx0; rfl
      · have hj' : j < len := by simpa using hj
        have key : ∀ k, x.add k = ⟨x.block, x.off + k, none⟩ := fun k => by
          cases x; simp at hx0; subst hx0; exact Addr.add_mid _ _ _
        obtain ⟨_, g0, g1, g2⟩ := hF j hj'
        rw [key] at g0 g1 g2
        have hb := World.block_lt_of_cell? _ _ g0
        refine ⟨hb, ?_, ?_, ?_⟩
        · simpa using g0
        · simpa [Nat.add_assoc] using g1
        · simpa [Nat.add_assoc] using g2
    · obtain ⟨j, hj, rfl⟩ := List.mem_map.1 hy
      exact (hF j (by simpa using hj)).1
end Go.Proofs.Ytccddjfcceclnaa
