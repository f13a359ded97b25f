/-
  Bytes that came in; a copy of them.
-/
import Derived.Test.YtepgkemnpcadiaaXa
import Derived.Test.YtepgkemnpcadiaaFr
import Derived.SizedLaws
namespace Go.Proofs.Ytepgkemnpcadiaa
open Go.Deep Go.ChangeShapes Go.WideShapes Go.ChangeAt Go.RowKit Go.Maps Go.Joins
set_option linter.unusedVariables false
set_option linter.unusedSimpArgs false
set_option maxRecDepth 20000
theorem cells1 {w : World} {base : Nat} {a : Addr} {cs : List Value} (h : w.cells? base a 1 = some cs) : ∃ x, cs = [x] ∧ w.cell? (a.add 0) = some x := by
  unfold World.cells? at h
  split at h
  · simp [List.range_succ, List.mapM_cons] at h
    cases h0 : w.cell? (a.add 0) with
    | none => simp [h0] at h
    | some x =>
      simp [h0] at h
      exact ⟨x, h.symm, rfl⟩
  · cases h
theorem c5 : Try.prog.cellsOf 5 = 1 := by kernel_rfl
theorem bounds8 {n : Int} (h : (Lit.int .u8 n).wf = true) : 0 ≤ n ∧ n < 256 := by
  have : 0 ≤ n ∧ n ≤ 255 := by simpa [Lit.wf, IntKind.min, IntKind.max, IntKind.signed, IntKind.bits] using h
  omega
theorem bytes_of {W : World} {x : Addr} {len cap : Nat} (hl : len ≤ cap) (hm : cap ≤ maxLen) (each : ∀ i, i < len → ∃ y : UInt8, W.cell? (x.add (i * 1)) = some (.int .u8 (y.toNat : Int))) :
    ∃ ds : List UInt8, ds.length = len ∧ BA W (.slice (some x) len cap) ds := by
  obtain ⟨f, hF⟩ : ∃ f : Nat → UInt8, ∀ i, i < len → W.cell? (x.add (i * 1)) = some (.int .u8 ((f i).toNat : Int)) := by
    refine ⟨fun i => if h : i < len then (each i h).choose else 0, fun i hi => ?_⟩
    simp only [hi, dif_pos]
    exact (each i hi).choose_spec
  refine ⟨(List.range len).map f, by simp, ⟨some x, cap, by simp, by simpa using hl, hm, fun hp => ?_⟩⟩
  have hp' : 0 < len := by simpa using hp
  have hx0 : x.spot = none := spot_of (spot_none (hF 0 hp'))
  refine ⟨x.block, x.off, ?_, fun j hj => ?_⟩
  · cases x; simp at hx0; subst hx0; rfl
  · have hj' : j < len := by simpa using hj
    have g0 := hF j hj'
    rw [key_of hx0, Nat.mul_one] at g0
    refine ⟨World.block_lt_of_cell? _ ⟨x.block, x.off + j, none⟩ g0, ?_⟩
    simpa using g0
section
variable {H : Type} {enc : TypeId × Value → H} {W : World} {base b0 : Nat} {r : Reach} {spare : Nat → Bool} {held : Bool} {v : Value} {d : DataW H} {p : List MemPlace}
theorem trod_bytes {fuel : Nat} {x : DataW H × List MemPlace} (h : DataW.trod enc Try.prog W base spare held fuel 32 [v] = some x) : ∃ l : List UInt8, BA W v l := by
  rcases open_slice Try.underlying32 h with ⟨hcs, _⟩ | ⟨x, l, c, m, n, D, Pl, hcs, _, hl, hm, hme, _, hcell⟩
  · simp at hcs
    subst hcs
    exact ⟨[], ⟨none, 0, rfl, by simp, Nat.zero_le _, fun h => absurd h (by simp)⟩⟩
  · simp at hcs
    subst hcs
    have hlm : l ≤ m := by rw [hme]; split <;> omega
    have each : ∀ i, i < l → ∃ y : UInt8, W.cell? (x.add (i * 1)) = some (.int .u8 (y.toNat : Int)) := fun i hi => by
      obtain ⟨cs', hq1, hq2⟩ := hcell i (by omega)
      rw [c5] at hq1
      obtain ⟨u0, rfl, q0⟩ := cells1 hq1
      obtain ⟨a0, s0, _, w0⟩ := DataW.trod_int Try.underlying5 hq2
      simp at s0
      subst s0
      rw [add_add] at q0
      obtain ⟨b1, b2⟩ := bounds8 w0
      refine ⟨UInt8.ofNat a0.toNat, ?_⟩
      have e := u8_of a0.toNat (by omega)
      rw [← e]
      have : (a0.toNat : Int) = a0 := by omega
      rw [this]
      simpa using q0
    obtain ⟨ds, e1, e2⟩ := bytes_of hl hm each
    exact ⟨ds, e2⟩
theorem open_bytes (hv : Value.okWide Try.prog W r b0 32 v) (h : DataW.Trod enc Try.prog W base spare held 32 v d p) : ∃ l : List UInt8, BA W v l := by
  obtain ⟨s, n, c, rfl⟩ := okWide_slice Try.underlying32 hv
  obtain ⟨fuel, hf⟩ := h
  exact trod_bytes (by simpa [Value.cells] using hf)
end
theorem bytes5 : Try.prog.bytesOf 5 = 1 := by kernel_rfl
theorem slice_len {H : Type} {enc : TypeId × Value → H} {W : World} {base : Nat} {spare : Nat → Bool} {held : Bool} {t e : TypeId} {a : Option Addr} {len cap : Nat} {d : DataW H} {p : List MemPlace} (ht : Try.prog.underlying t = some (.slice e))
    (h : DataW.Trod enc Try.prog W base spare held t (.slice a len cap) d p) : len = 0 ∨ ∃ elems sp, d = .slice elems sp ∧ elems.length = len := by
  obtain ⟨fuel, hf⟩ := h
  rcases open_slice ht hf with ⟨hcs, _⟩ | ⟨x, l, c, m, n, D, Pl, hcs, _, hl, hm, hme, hx, hcell⟩
  · simp [Value.cells] at hcs
    exact Or.inl hcs.2.1
  · simp [Value.cells] at hcs
    obtain ⟨rfl, rfl, rfl⟩ := hcs
    simp at hx
    exact Or.inr ⟨_, _, hx.1, by simp⟩
theorem bytes_bound {H : Type} {enc : TypeId × Value → H} {W : World} {base : Nat} {spare : Nat → Bool} {held : Bool} {v : Value} {l : List UInt8} {d : DataW H} {p : List MemPlace} {ts : List TypeId} {ds : List (DataW H)} {j : Nat}
    (hv : BA W v l) (h : DataW.Trod enc Try.prog W base spare held 32 v d p) (hsz : (DataW.weightsEach Try.prog ts ds).all (· ≤ reachBytes) = true) (h1 : ts[j]? = some 32) (h2 : ds[j]? = some d) : l.length ≤ 140737488355328 := by
  obtain ⟨a, cap, rfl, _⟩ := hv
  generalize l.length = len at h ⊢
  rcases slice_len Try.underlying32 h with rfl | ⟨elems, sp, rfl, rfl⟩
  · omega
  · have := sized_slice hsz h1 h2 Try.underlying32
    rw [bytes5] at this
    have hr : reachBytes ≤ 140737488355328 := by decide
    omega
/-- A copy of bytes. -/
theorem wp_copyB {ops : Array Oper} {rest : List Oper} {o : Oper} {a : Act} {Q : Exit → Act → World → Prop} (hgd : o.guard = none) (s x : Operand)
    (ho : o.op = .call { callee := .builtin .append, args := #[s, x], argTypes := #[32, 32] }) (W : World) (v : Value) (l : List UInt8) (hs : a.eval s = .slice none 0 0) (hx : a.eval x = v) (h : BR W v l) (hl : l.length ≤ 140737488355328)
    (k : ∀ v' w', BO w' W.heap.size v' l → Below W.heap.size W w' → wpList Try.prog ops Q rest (a.put o.dst v') w') :
    wpList Try.prog ops Q (o :: rest) a W := by
  obtain ⟨i0, hi, hz0, hz1, hz2⟩ := info_parts infoB
  have run : ∃ v' w', (Builtin.append_ #[32, 32] o.type #[.slice none 0 0, v]).run Try.prog W = .ok v' w' ∧ BO w' W.heap.size v' l ∧ Below W.heap.size W w' := by
    obtain ⟨p, cap, rfl, hp⟩ := h
    by_cases h0 : l.length = 0
    · have e : l = [] := List.eq_nil_of_length_eq_zero h0
      subst e
      refine ⟨.slice none 0 0, W, ?_, BO.nil _ _, Below.refl _ _⟩
      cases p <;> simp [Builtin.append_, run_underlying Try.underlying32, sizeOf, typeInfo, hi, Builtin.lenOf, Builtin.firstCells, loadCells, loadCellsFrom]
    · obtain ⟨g, off, rfl, hc⟩ := hp (by omega)
      obtain ⟨v', w', r1, r2, r3, _, r5⟩ := run_append_own_at (P := Try.prog) W W.heap.size 32 o.type 5 i0 (.int .u8 0) 1 1 Try.underlying32 hi hz0 hz1 hz2 rfl (by omega) (.slice none 0 0) 0 [] (World.ownsRow_nil W W.heap.size 5 1) ⟨g, off, none⟩ l.length cap (bc l) (by rw [bc_len]; omega) (fun r u hr => by
        have hlt : r < l.length := by have := (List.getElem?_eq_some_iff.1 hr).1; rwa [bc_len] at this
        rw [bc_at hlt] at hr
        cases hr
        rw [Addr.add_mid]
        exact (hc r hlt).2) (by
        intro u hu
        obtain ⟨b, _, rfl⟩ := List.mem_map.1 hu
        rfl) (by unfold maxLen; omega) (by omega) (Nat.le_refl _)
      refine ⟨v', w', r1, by unfold BO; simpa using r2, ?_⟩
      exact (Below.refl _ _).grown r3 (Nat.le_refl _) (fun k hk => by cases hk)
  obtain ⟨v', w', hr, h2, h3⟩ := run
  refine wpList_plain hgd fun K hK => ?_
  unfold Oper.wp execOp
  simp only [ho, resolve, invoke, builtin, Sem.run_bind, Sem.run_pure, Result.andThen_ok, List.map_toArray, List.map_cons, List.map_nil, hs, hx, hr]
  exact hK _ _ (k v' w' h2 h3)
end Go.Proofs.Ytepgkemnpcadiaa
