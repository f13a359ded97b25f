/-
  Types and an event that came in; the walk of ValueEvents.
-/
import Derived.Test.YthenkpeibkpmkabR
import Derived.Lib.SmallJoins
namespace Go.Proofs.Ythenkpeibkpmkab
open Go.ChangeShapes Go.WideShapes Go.ChangeAt Go.RowKit Go.Deep
set_option linter.unusedVariables false
set_option linter.unusedSimpArgs false
theorem tys_of {W : World} {x : Addr} {len cap : Nat} (hl : len ≤ cap) (hm : cap ≤ maxLen) (each : ∀ i, i < len → ∃ y : Ty, W.cell? (x.add (i * 2)) = some (.string y.s) ∧ ∃ u, W.cell? (x.add (i * 2 + 1)) = some u ∧ FieldsAt W u y.fs) :
    ∃ ds : List Ty, ds.length = len ∧ TysAt W (.slice (some x) len cap) ds := by
  obtain ⟨f, hF⟩ : ∃ f : Nat → Ty, ∀ i, i < len → W.cell? (x.add (i * 2)) = some (.string (f i).s) ∧ ∃ u, W.cell? (x.add (i * 2 + 1)) = some u ∧ FieldsAt W u (f i).fs := by
    refine ⟨fun i => if h : i < len then (each i h).choose else ⟨ByteArray.empty, []⟩, fun i hi => ?_⟩
    simp only [hi, dif_pos]
    exact (each i hi).choose_spec
  refine ⟨(List.range len).map f, by simp, ⟨some x, cap, by simp, by simpa using hl, hm, fun hp => ?_⟩⟩
  have hp' : 0 < len := by simpa using hp
  have hx0 : x.spot = none := spot_of (spot_none (hF 0 hp').1)
  refine ⟨x.block, x.off, ?_, fun j hj => ?_⟩
  · cases x; simp at hx0; subst hx0; rfl
  · have hj' : j < len := by simpa using hj
    obtain ⟨g0, u, g1, g2⟩ := hF j hj'
    rw [key_of hx0] at g0 g1
    have hb := World.block_lt_of_cell? _ _ g0
    refine ⟨hb, ?_, u, ?_, ?_⟩
    · simpa using g0
    · simpa [Nat.add_assoc] using g1
    · simpa using g2
variable {H : Type} {enc : TypeId × Value → H} {W : World} {base b0 : Nat} {r : Reach} {spare : Nat → Bool} {held : Bool} {v : Value} {d : DataW H} {p : List MemPlace}
theorem cFs : Try.prog.cellsOf 42 = 1 := by kernel_rfl
theorem cVs : Try.prog.cellsOf 25 = 1 := by kernel_rfl
theorem cSp : Try.prog.cellsOf 24 = 2 := by kernel_rfl
theorem cEv : Try.prog.cellsOf 27 = 5 := by kernel_rfl
theorem trod_tys {fuel : Nat} {x : DataW H × List MemPlace} (h : DataW.trod enc Try.prog W base spare held fuel 22 [v] = some x) : ∃ l : List Ty, TysAt W v l := by
  rcases open_slice Try.underlying22 h with ⟨hcs, _⟩ | ⟨x, l, c, m, n, D, Pl, hcs, _, hl, hm, hme, _, hcell⟩
  · simp at hcs
    subst hcs
    exact ⟨[], ⟨none, 0, rfl, by simp, Nat.zero_le _, fun h => absurd h (by simp)⟩⟩
  · simp at hcs
    subst hcs
    have hlm : l ≤ m := by rw [hme]; split <;> omega
    have each : ∀ i, i < l → ∃ y : Ty, W.cell? (x.add (i * 2)) = some (.string y.s) ∧ ∃ u, W.cell? (x.add (i * 2 + 1)) = some u ∧ FieldsAt W u y.fs := fun i hi => by
      obtain ⟨cs', hq1, hq2⟩ := hcell i (by omega)
      rw [cT] at hq1
      obtain ⟨u0, u1, rfl, q0, q1⟩ := cells2 hq1
      obtain ⟨y0, y1, n', _, _, r0, r1⟩ := trod_struct2 Try.underlying44 hq2
      simp [cFs, c9] at r0 r1
      obtain ⟨a0, s0, _, w0⟩ := DataW.trod_string Try.underlying9 r0
      obtain ⟨fl, hfl, _⟩ := trod_fields r1
      simp at s0
      subst s0
      rw [add_add] at q0 q1
      exact ⟨⟨a0, fl⟩, q0, u1, q1, hfl⟩
    obtain ⟨ds, _, e2⟩ := tys_of hl hm each
    exact ⟨ds, e2⟩
theorem open_tys (hv : Value.okWide Try.prog W r b0 22 v) (h : DataW.Trod enc Try.prog W base spare held 22 v d p) : ∃ l : List Ty, TysAt W v l := by
  obtain ⟨s, n, c, rfl⟩ := okWide_slice Try.underlying22 hv
  obtain ⟨fuel, hf⟩ := h
  exact trod_tys (by simpa [Value.cells] using hf)
theorem array5 {α : Type} {cs : Array α} (h : cs.size = 5) : ∃ c0 c1 c2 c3 c4, cs = #[c0, c1, c2, c3, c4] := by
  obtain ⟨l⟩ := cs
  match l, h with
  | [c0, c1, c2, c3, c4], _ => exact ⟨c0, c1, c2, c3, c4, rfl⟩
theorem open_event (hv : Value.okWide Try.prog W r b0 27 v) (h : DataW.Trod enc Try.prog W base spare held 27 v d p) : ∃ (a b c e : Int) (u : Value) (l : List Vl), v = .agg #[.int .i64 a, .int .i64 b, .int .i64 c, .int .i64 e, u] ∧ ValsAt W u l := by
  obtain ⟨cs, rfl, hsz⟩ := okWide_struct Try.underlying27 hv
  obtain ⟨c0, c1, c2, c3, c4, rfl⟩ := array5 (hsz.trans cEv)
  obtain ⟨fuel, hf⟩ := h
  obtain ⟨y0, y1, y2, y3, n, _, _, r0, r1, r2, r3⟩ := Go.Joins.trod_struct4 Try.underlying27 hf
  simp [Value.cells, Go.Proofs.Ythenkpeibkpmkab.c3, cSp, cVs] at r0 r1 r2 r3
  obtain ⟨a, s0, _, _⟩ := DataW.trod_int Try.underlying3 r0
  obtain ⟨b, s1, _, _⟩ := DataW.trod_int Try.underlying3 r1
  obtain ⟨z0, z1, n2, _, _, t0, t1⟩ := trod_struct2 Try.underlying24 r2
  simp [Go.Proofs.Ythenkpeibkpmkab.c3] at t0 t1
  obtain ⟨c, s2, _, _⟩ := DataW.trod_int Try.underlying3 t0
  obtain ⟨e, s3, _, _⟩ := DataW.trod_int Try.underlying3 t1
  obtain ⟨l, hl, _⟩ := trod_vals r3
  simp at s0 s1 s2 s3
  subst s0 s1 s2 s3
  exact ⟨a, b, c, e, c4, l, rfl, hl⟩
set_option maxHeartbeats 4000000 in
theorem valueEvents_walk (v : Value) (ts : List Ty) (num typ st en : Int) (u : Value) (l : List Vl) (w : World) (hv : TysAt w v ts) (hu : ValsAt w u l) :
    Calls Try.prog 3 #[v, .agg #[.int .i64 num, .int .i64 typ, .int .i64 st, .int .i64 en, u]] w fun e w' => e = .returned (.bool true) ∧ Below w.heap.size w w' := by
  obtain ⟨r, hr⟩ : ∃ r, echk ts num typ st en l = r := ⟨_, rfl⟩
  have HV : Hid (TysAt w v ts) := hv
  have HU : Hid (ValsAt w u l) := hu
  have H1 : Hid (∀ W, Below w.heap.size w W → Calls Try.prog 9 #[v, .agg #[.int .i64 num, .int .i64 typ, .int .i64 st, .int .i64 en, u]] W fun e w' => e = .returned (.int .i64 r) ∧ Below W.heap.size W w') := fun W hb => by rw [← hr]; exact checkEvent_any _ _ _ _ _ _ _ _ _ (HV.out.below hb) (HU.out.below hb)
  have H2 : Hid (∀ W, Below w.heap.size w W → Calls Try.prog 10 #[v, .agg #[.int .i64 num, .int .i64 typ, .int .i64 st, .int .i64 en, u]] W fun e w' => e = .returned (.int .i64 r) ∧ Below W.heap.size W w') := fun W hb => by rw [← hr]; exact eventFault_any _ _ _ _ _ _ _ _ _ (HV.out.below hb) (HU.out.below hb)
  obtain ⟨p, cap, hsh, _⟩ := hv
  obtain ⟨p2, cap2, hsh2, _, _⟩ := hu.shape
  obtain ⟨n, hn⟩ : ∃ n, ts.length = n := ⟨_, rfl⟩
  obtain ⟨m, hm⟩ : ∃ m, l.length = m := ⟨_, rfl⟩
  rw [hn] at hsh
  rw [hm] at hsh2
  subst hsh hsh2
  clear hr hu hn hm
  go_enter Try.func3, Try.ntmps3
  go_wp2_with fail
  refine (H1.out _ ((Below.refl _ w).alloc (Nat.le_refl _) _)).mono ?_
  rintro e w1 ⟨rfl, hb1⟩
  have HB1 : Hid (Below w.heap.size w w1) := below_trans ((Below.refl _ w).alloc (Nat.le_refl _) _) hb1 (by simp)
  have c0 : w1.cell? ⟨w.heap.size, 0, none⟩ = some (.int .i64 num) := (hb1.cell (by simp)).trans (cell_new rfl rfl)
  have c1 : w1.cell? ⟨w.heap.size, 1, none⟩ = some (.int .i64 typ) := (hb1.cell (by simp)).trans (cell_new rfl rfl)
  have c2 : w1.cell? ⟨w.heap.size, 2, none⟩ = some (.int .i64 st) := (hb1.cell (by simp)).trans (cell_new rfl rfl)
  have c3 : w1.cell? ⟨w.heap.size, 3, none⟩ = some (.int .i64 en) := (hb1.cell (by simp)).trans (cell_new rfl rfl)
  have c4 : w1.cell? ⟨w.heap.size, 4, none⟩ = some (.slice p2 m cap2) := (hb1.cell (by simp)).trans (cell_new rfl rfl)
  clear hb1
  go_wp2_with fail
  refine (H2.out _ HB1.out).mono ?_
  rintro e w2 ⟨rfl, hb2⟩
  have HB2 : Hid (Below w.heap.size w w2) := below_trans HB1.out hb2 HB1.out.size
  clear hb2 c0 c1 c2 c3 c4
  go_wp2
  go_ret
  exact ⟨ret_bool (by simp), HB2.out⟩
end Go.Proofs.Ythenkpeibkpmkab
