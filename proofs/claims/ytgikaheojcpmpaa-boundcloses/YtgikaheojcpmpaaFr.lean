/-
  Matrices that came in.
-/
import Derived.Test.YtgikaheojcpmpaaE
import Derived.Deep.Matrix
import Derived.SizedLaws
import Derived.Lib.SmallJoins
namespace Go.Proofs.Ytgikaheojcpmpaa
open Go.ChangeShapes Go.WideShapes Go.ChangeAt Go.RowKit Go.Deep Go.Joins
set_option linter.unusedVariables false
set_option linter.unusedSimpArgs false
def wfI (a : Int) : Prop := -9223372036854775808 ≤ a ∧ a ≤ 9223372036854775807
theorem bounds64 {n : Int} (h : (Lit.int .i64 n).wf = true) : wfI n := by
  simpa [Lit.wf, IntKind.min, IntKind.max, IntKind.signed, IntKind.bits, wfI] using h
theorem spot_none {w : World} {a : Addr} {v : Value} (h : w.cell? a = some v) : a.spot = none := by
  unfold World.cell? at h
  split at h
  · split at h
    · cases h
    · rename_i hs
      cases hp : a.spot with
      | none => rfl
      | some _ => rw [hp] at hs; simp at hs
  · cases h
theorem spot_of {x : Addr} (hs : (x.add 0).spot = none) : x.spot = none := by
  cases hxs : x.spot with
  | none => rfl
  | some q =>
    exfalso
    cases x
    simp at hxs
    subst hxs
    revert hs
    simp [Addr.add]
theorem key_of {x : Addr} (hx0 : x.spot = none) : ∀ k, x.add k = ⟨x.block, x.off + k, none⟩ := fun k => by
  cases x; simp at hx0; subst hx0; exact Addr.add_mid _ _ _
theorem addr_of {x : Addr} (hx0 : x.spot = none) : x = ⟨x.block, x.off, none⟩ := by cases x; simp at hx0; subst hx0; rfl
theorem cellsI : Try.prog.cellsOf 3 = 1 := by kernel_rfl
theorem cellsR : Try.prog.cellsOf 35 = 1 := by kernel_rfl
theorem bytesI : Try.prog.bytesOf 3 = 8 := by kernel_rfl
theorem bytesR : Try.prog.bytesOf 35 = 24 := by kernel_rfl
theorem weights_all {H : Type} {P : Program} {e : TypeId} : ∀ {l : List (DataW H)} {d : DataW H} {n : Nat}, d ∈ l → n ∈ d.weights P e → n ∈ DataW.weightsAll P e l
  | x :: r, d, n, hd, hn => by
    simp only [DataW.weightsAll, List.mem_append]
    rcases List.mem_cons.1 hd with rfl | hd
    · exact Or.inl hn
    · exact Or.inr (weights_all hd hn)
theorem open_mat {H : Type} {enc : TypeId × Value → H} {W : World} {b0 : Nat} {r : Reach} {held : Bool} {v : Value} {d : DataW H} {p : List MemPlace} {ts : List TypeId} {ds : List (DataW H)} {j : Nat}
    (hv : Value.okWide Try.prog W r b0 23 v) (h : DataW.Trod enc Try.prog W 0 (fun _ => true) held 23 v d p) (hsz : (DataW.weightsEach Try.prog ts ds).all (· ≤ reachBytes) = true) (h1 : ts[j]? = some 23) (h2 : ds[j]? = some d) :
    ∃ n L Z, MatAt W v n L Z ∧ Fit n L := by
  obtain ⟨s, n, c, rfl⟩ := okWide_slice Try.underlying23 hv
  obtain ⟨fuel, hf⟩ := h
  rcases open_int_rows Try.underlying23 Try.underlying35 Try.underlying3 cellsR cellsI (by simpa [Value.cells] using hf) with ⟨hcs, _⟩ | ⟨a, len, cap, A, L, C, Z, hcs, _, hl, hm, hx, hrow⟩
  · simp at hcs
    obtain ⟨rfl, rfl, rfl⟩ := hcs
    exact ⟨0, fun _ => 0, fun _ _ => 0, ⟨none, 0, rfl, Nat.le_refl _, Nat.zero_le _, fun h => by omega⟩, by omega, fun i hi => by omega⟩
  · simp at hcs
    obtain ⟨rfl, rfl, rfl⟩ := hcs
    simp only [Prod.mk.injEq] at hx
    obtain ⟨rfl, _⟩ := hx
    have hr : reachBytes ≤ 140737488355328 := by decide
    have hw := DataW.weights_mem_each (P := Try.prog) h1 h2
    have hle : ∀ x, x ∈ DataW.weightsEach Try.prog ts ds → x ≤ 140737488355328 := fun x hx => by
      have := List.all_eq_true.1 hsz x hx
      simp at this; omega
    refine ⟨n, L, fun i k => (Z i).getD k 0, ⟨some a, c, rfl, hl, hm, fun h0 => ?_⟩, ?_, fun i hi => ?_⟩
    · have hs : a.spot = none := spot_of (spot_none (hrow 0 (by omega)).1)
      refine ⟨a.block, a.off, by rw [← addr_of hs], fun i hi => ?_⟩
      obtain ⟨e1, e2, e3, e4, e5, e6, e7⟩ := hrow i (by omega)
      rw [key_of hs] at e1
      refine ⟨_, e1, A i, C i, rfl, e2, e3, fun h0 => ?_⟩
      cases hA : A i with
      | none => have := e6 hA; omega
      | some a' =>
        have hs' : a'.spot = none := spot_of (spot_none ((e7 a' hA).2 0 (by omega)))
        refine ⟨a'.block, a'.off, by rw [← addr_of hs'], fun k hk => ?_⟩
        have := (e7 a' hA).2 k (by omega)
        rw [key_of hs'] at this
        exact this
    · have := hle ((n + (c - n)) * 24) (hw _ (by simp [DataW.weights, Try.underlying23, bytesR]))
      omega
    · obtain ⟨e1, e2, e3, e4, e5, e6, e7⟩ := hrow i (by omega)
      cases hA : A i with
      | none => have := e6 hA; omega
      | some a' =>
        have hin : (L i + (C i - L i)) * 8 ∈ (intRow (H := H) IntKind.i64 (A i) (L i) (Z i)).weights Try.prog 35 := by
          rw [hA]
          simp only [intRow, DataW.weights, Try.underlying35, bytesI]
          refine List.mem_cons.2 (Or.inl ?_)
          simp [lits, e4]
          omega
        have := hle _ (hw _ (by
          simp only [DataW.weights, Try.underlying23]
          refine List.mem_cons.2 (Or.inr (List.mem_append.2 (Or.inl (weights_all ?_ hin))))
          exact List.mem_map.2 ⟨i, List.mem_range.2 hi, rfl⟩))
        omega
end Go.Proofs.Ytgikaheojcpmpaa
