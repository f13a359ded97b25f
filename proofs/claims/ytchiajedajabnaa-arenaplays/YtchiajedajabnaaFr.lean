/-
  A slice of structs of four numbers that came in: its cells.
-/
import Derived.Test.YtchiajedajabnaaJ
import Derived.Deep.Slices
import Derived.Deep.Strs
import Derived.Lib.SmallJoins
namespace Go.Proofs.Ytchiajedajabnaa
open Go.ChangeShapes Go.WideShapes Go.ChangeAt Go.RowKit Go.Deep Go.Joins
set_option linter.unusedVariables false
set_option linter.unusedSimpArgs false
def wf4 (d : Q4) : Prop := wfI d.1 ∧ wfI d.2.1 ∧ wfI d.2.2.1 ∧ wfI d.2.2.2
theorem cells4 {w : World} {base : Nat} {a : Addr} {cs : List Value} (h : w.cells? base a 4 = some cs) : ∃ x y z u, cs = [x, y, z, u] ∧ w.cell? (a.add 0) = some x ∧ w.cell? (a.add 1) = some y ∧ w.cell? (a.add 2) = some z ∧ w.cell? (a.add 3) = some u := by
  unfold World.cells? at h
  split at h
  · simp [List.range_succ, List.mapM_cons] at h
    cases h0 : w.cell? (a.add 0) with
    | none => simp [h0] at h
    | some x =>
      cases h1 : w.cell? (a.add 1) with
      | none => simp [h0, h1] at h
      | some y =>
        cases h2 : w.cell? (a.add 2) with
        | none => simp [h0, h1, h2] at h
        | some z =>
          cases h3 : w.cell? (a.add 3) with
          | none => simp [h0, h1, h2, h3] at h
          | some u =>
            simp [h0, h1, h2, h3] at h
            exact ⟨x, y, z, u, h.symm, rfl, rfl, rfl, rfl⟩
  · cases h
theorem spot_none {w : World} {a : Addr} {v : Value} (h : w.cell? a = some v) : a.spot = none := by
  unfold World.cell? at h
  split at h
  · split at h
    · cases h
    · rename_i hs
      cases hp : a.spot with
      | none => rfl
      | some _ => rw [hp] at hs; simp at hs
  · cases h
theorem c3 : Try.prog.cellsOf 3 = 1 := by kernel_rfl
theorem quads_of {W : World} {x : Addr} {len cap : Nat} (each : ∀ i, i < len → ∃ y : Q4, wf4 y ∧ W.cell? (x.add (i * 4)) = some (.int .i64 y.1) ∧ W.cell? (x.add (i * 4 + 1)) = some (.int .i64 y.2.1) ∧ W.cell? (x.add (i * 4 + 2)) = some (.int .i64 y.2.2.1) ∧ W.cell? (x.add (i * 4 + 3)) = some (.int .i64 y.2.2.2)) :
    ∃ ds : List Q4, ds.length = len ∧ JobsAt W (.slice (some x) len cap) ds ∧ ∀ y, y ∈ ds → wf4 y := by
  obtain ⟨f, hF⟩ := choose_lt each
  refine ⟨(List.range len).map f, by simp, ⟨some x, cap, by simp, fun hp => ?_⟩, fun y hy => ?_⟩
  · have hp' : 0 < len := by simpa using hp
    have hs := spot_none (hF 0 hp').2.1
    have hx0 : x.spot = none := by
      cases hxs : x.spot with
      | none => rfl
      | some q =>
        exfalso
        cases x
        simp at hxs
        subst hxs
        revert hs
        simp [Addr.add]
    refine ⟨x.block, x.off, ?_, fun j hj => ?_⟩
    · cases x; simp at hx0; subst hx0; rfl
    · have hj' : j < len := by simpa using hj
      have key : ∀ k, x.add k = ⟨x.block, x.off + k, none⟩ := fun k => by
        cases x; simp at hx0; subst hx0; exact Addr.add_mid _ _ _
      obtain ⟨_, g0, g1, g2, g3⟩ := hF j hj'
      rw [key] at g0 g1 g2 g3
      have hb := World.block_lt_of_cell? _ _ g0
      refine ⟨hb, ?_, ?_, ?_, ?_⟩
      · simpa using g0
      · simpa [Nat.add_assoc] using g1
      · simpa [Nat.add_assoc] using g2
      · simpa [Nat.add_assoc] using g3
  · obtain ⟨j, hj, rfl⟩ := List.mem_map.1 hy
    exact (hF j (by simpa using hj)).1
theorem open_quads {H : Type} {enc : TypeId × Value → H} {W : World} {base : Nat} {spare : Nat → Bool} {held : Bool} {t e : TypeId} {f0 f1 f2 f3 : Field} {a : Option Addr} {len cap : Nat} {d : DataW H} {p : List MemPlace}
    (ht : Try.prog.underlying t = some (.slice e)) (he : Try.prog.underlying e = some (.struct #[f0, f1, f2, f3])) (hc : Try.prog.cellsOf e = 4) (h0 : f0.type = 3 ∧ f0.offset = 0) (h1 : f1.type = 3 ∧ f1.offset = 1) (h2 : f2.type = 3 ∧ f2.offset = 2) (h3 : f3.type = 3 ∧ f3.offset = 3)
    (h : DataW.Trod enc Try.prog W base spare held t (.slice a len cap) d p) : ∃ ds : List Q4, ds.length = len ∧ JobsAt W (.slice a len cap) ds ∧ (∀ x, x ∈ ds → wf4 x) ∧ len ≤ maxLen := by
  obtain ⟨fuel, hf⟩ := h
  rcases open_slice ht hf with ⟨hcs, _⟩ | ⟨x, l, c, m, n, D, Pl, hcs, _, hl, hm, hme, _, hcell⟩
  · simp [Value.cells] at hcs
    obtain ⟨rfl, rfl, rfl⟩ := hcs
    exact ⟨[], rfl, ⟨none, 0, rfl, fun h => absurd h (by simp)⟩, fun x hx => (by cases hx), Nat.zero_le _⟩
  · simp [Value.cells] at hcs
    obtain ⟨rfl, rfl, rfl⟩ := hcs
    have hlm : len ≤ m := by rw [hme]; split <;> omega
    have each : ∀ i, i < len → ∃ y : Q4, wf4 y ∧ W.cell? (x.add (i * 4)) = some (.int .i64 y.1) ∧ W.cell? (x.add (i * 4 + 1)) = some (.int .i64 y.2.1) ∧ W.cell? (x.add (i * 4 + 2)) = some (.int .i64 y.2.2.1) ∧ W.cell? (x.add (i * 4 + 3)) = some (.int .i64 y.2.2.2) := fun i hi => by
      obtain ⟨cs', hq1, hq2⟩ := hcell i (by omega)
      rw [hc] at hq1
      obtain ⟨u0, u1, u2, u3, rfl, q0, q1, q2, q3⟩ := cells4 hq1
      obtain ⟨y0, y1, y2, y3, n', _, _, r0, r1, r2, r3⟩ := trod_struct4 he hq2
      rw [h0.1, h0.2, c3] at r0
      rw [h1.1, h1.2, c3] at r1
      rw [h2.1, h2.2, c3] at r2
      rw [h3.1, h3.2, c3] at r3
      simp at r0 r1 r2 r3
      obtain ⟨b0, s0, _, w0⟩ := DataW.trod_int Try.underlying3 r0
      obtain ⟨b1, s1, _, w1⟩ := DataW.trod_int Try.underlying3 r1
      obtain ⟨b2, s2, _, w2⟩ := DataW.trod_int Try.underlying3 r2
      obtain ⟨b3, s3, _, w3⟩ := DataW.trod_int Try.underlying3 r3
      simp at s0 s1 s2 s3
      subst s0 s1 s2 s3
      rw [add_add] at q0 q1 q2 q3
      exact ⟨(b0, b1, b2, b3), ⟨bounds_i64 w0, bounds_i64 w1, bounds_i64 w2, bounds_i64 w3⟩, q0, q1, q2, q3⟩
    obtain ⟨ds, e1, e2, e3⟩ := quads_of (cap := cap) each
    exact ⟨ds, e1, e2, e3, by omega⟩
/-- Jobs: two numbers, and a handle of two. -/
theorem open_jobs {H : Type} {enc : TypeId × Value → H} {W : World} {base : Nat} {spare : Nat → Bool} {held : Bool} {t e : TypeId} {f0 f1 f2 g0 g1 : Field} {a : Option Addr} {len cap : Nat} {d : DataW H} {p : List MemPlace}
    (ht : Try.prog.underlying t = some (.slice e)) (he : Try.prog.underlying e = some (.struct #[f0, f1, f2])) (hg : Try.prog.underlying f2.type = some (.struct #[g0, g1])) (hc : Try.prog.cellsOf e = 4) (hc2 : Try.prog.cellsOf f2.type = 2) (h0 : f0.type = 3 ∧ f0.offset = 0) (h1 : f1.type = 3 ∧ f1.offset = 1) (h2 : f2.offset = 2) (k0 : g0.type = 3 ∧ g0.offset = 0) (k1 : g1.type = 3 ∧ g1.offset = 1)
    (h : DataW.Trod enc Try.prog W base spare held t (.slice a len cap) d p) : ∃ ds : List Q4, ds.length = len ∧ JobsAt W (.slice a len cap) ds ∧ (∀ x, x ∈ ds → wf4 x) ∧ len ≤ maxLen := by
  obtain ⟨fuel, hf⟩ := h
  rcases open_slice ht hf with ⟨hcs, _⟩ | ⟨x, l, c, m, n, D, Pl, hcs, _, hl, hm, hme, _, hcell⟩
  · simp [Value.cells] at hcs
    obtain ⟨rfl, rfl, rfl⟩ := hcs
    exact ⟨[], rfl, ⟨none, 0, rfl, fun h => absurd h (by simp)⟩, fun x hx => (by cases hx), Nat.zero_le _⟩
  · simp [Value.cells] at hcs
    obtain ⟨rfl, rfl, rfl⟩ := hcs
    have hlm : len ≤ m := by rw [hme]; split <;> omega
    have each : ∀ i, i < len → ∃ y : Q4, wf4 y ∧ W.cell? (x.add (i * 4)) = some (.int .i64 y.1) ∧ W.cell? (x.add (i * 4 + 1)) = some (.int .i64 y.2.1) ∧ W.cell? (x.add (i * 4 + 2)) = some (.int .i64 y.2.2.1) ∧ W.cell? (x.add (i * 4 + 3)) = some (.int .i64 y.2.2.2) := fun i hi => by
      obtain ⟨cs', hq1, hq2⟩ := hcell i (by omega)
      rw [hc] at hq1
      obtain ⟨u0, u1, u2, u3, rfl, q0, q1, q2, q3⟩ := cells4 hq1
      obtain ⟨y0, y1, y2, n', _, _, r0, r1, r2⟩ := trod_struct3 he hq2
      rw [h0.1, h0.2, c3] at r0
      rw [h1.1, h1.2, c3] at r1
      rw [h2, hc2] at r2
      simp at r0 r1 r2
      obtain ⟨z0, z1, n2, _, _, t0, t1⟩ := trod_struct2 hg r2
      rw [k0.1, k0.2, c3] at t0
      rw [k1.1, k1.2, c3] at t1
      simp at t0 t1
      obtain ⟨b0, s0, _, w0⟩ := DataW.trod_int Try.underlying3 r0
      obtain ⟨b1, s1, _, w1⟩ := DataW.trod_int Try.underlying3 r1
      obtain ⟨b2, s2, _, w2⟩ := DataW.trod_int Try.underlying3 t0
      obtain ⟨b3, s3, _, w3⟩ := DataW.trod_int Try.underlying3 t1
      simp at s0 s1 s2 s3
      subst s0 s1 s2 s3
      rw [add_add] at q0 q1 q2 q3
      exact ⟨(b0, b1, b2, b3), ⟨bounds_i64 w0, bounds_i64 w1, bounds_i64 w2, bounds_i64 w3⟩, q0, q1, q2, q3⟩
    obtain ⟨ds, e1, e2, e3⟩ := quads_of (cap := cap) each
    exact ⟨ds, e1, e2, e3, by omega⟩
end Go.Proofs.Ytchiajedajabnaa
