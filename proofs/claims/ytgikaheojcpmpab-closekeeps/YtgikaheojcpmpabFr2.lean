/-
  Rows of numbers that came in.
-/
import Derived.Test.YtgikaheojcpmpabA
import Derived.Deep.Matrix
import Derived.Lib.SmallJoins
namespace Go.Proofs.Ytgikaheojcpmpab
open Go.ChangeShapes Go.WideShapes Go.ChangeAt Go.RowKit Go.Deep Go.Joins
set_option linter.unusedVariables false
set_option linter.unusedSimpArgs false
theorem bounds64' {n : Int} (h : (Lit.int .i64 n).wf = true) : -9223372036854775808 ≤ n ∧ n ≤ 9223372036854775807 := by
  simpa [Lit.wf, IntKind.min, IntKind.max, IntKind.signed, IntKind.bits] using h
theorem spot_none' {w : World} {a : Addr} {v : Value} (h : w.cell? a = some v) : a.spot = none := by
  unfold World.cell? at h
  split at h
  · split at h
    · cases h
    · rename_i hs
      cases hp : a.spot with
      | none => rfl
      | some _ => rw [hp] at hs; simp at hs
  · cases h
theorem spot_of' {x : Addr} (hs : (x.add 0).spot = none) : x.spot = none := by
  cases hxs : x.spot with
  | none => rfl
  | some q =>
    exfalso
    cases x
    simp at hxs
    subst hxs
    revert hs
    simp [Addr.add]
theorem key_of' {x : Addr} (hx0 : x.spot = none) : ∀ k, x.add k = ⟨x.block, x.off + k, none⟩ := fun k => by
  cases x; simp at hx0; subst hx0; exact Addr.add_mid _ _ _
theorem addr_of' {x : Addr} (hx0 : x.spot = none) : x = ⟨x.block, x.off, none⟩ := by cases x; simp at hx0; subst hx0; rfl
theorem cellsI' : Try.prog.cellsOf 3 = 1 := by kernel_rfl
theorem open_row {H : Type} {enc : TypeId × Value → H} {W : World} {b0 : Nat} {r : Reach} {held : Bool} {v : Value} {d : DataW H} {p : List MemPlace}
    (hv : Value.okWide Try.prog W r b0 22 v) (h : DataW.Trod enc Try.prog W 0 (fun _ => true) held 22 v d p) :
    ∃ l z, RowAt W v l z ∧ ∀ k, k < l → -9223372036854775808 ≤ z k ∧ z k ≤ 9223372036854775807 := by
  obtain ⟨s, n, c, rfl⟩ := okWide_slice Try.underlying22 hv
  obtain ⟨fuel, hf⟩ := h
  rcases open_ints Try.underlying22 Try.underlying3 cellsI' (by simpa [Value.cells] using hf) with ⟨hcs, _⟩ | ⟨a', len', cap', zs, hcs, hb', hl', hm', hz, hy, hcell, hwz⟩
  · simp at hcs
    obtain ⟨rfl, rfl, rfl⟩ := hcs
    exact ⟨0, fun _ => 0, ⟨none, 0, rfl, Nat.le_refl _, Nat.zero_le _, fun h => by omega⟩, fun k hk => by omega⟩
  · simp at hcs
    obtain ⟨rfl, rfl, rfl⟩ := hcs
    simp only [if_true] at hz
    refine ⟨n, fun k => zs.getD k 0, ⟨some a', c, rfl, hl', hm', fun h0 => ?_⟩, fun k hk => ?_⟩
    · have hs' : a'.spot = none := spot_of' (spot_none' (hcell 0 (by omega)))
      refine ⟨a'.block, a'.off, by rw [← addr_of' hs'], fun k hk => ?_⟩
      have := hcell k (by omega)
      rw [key_of' hs'] at this
      exact this
    · have hk' : k < zs.length := by omega
      have : zs.getD k 0 = zs[k] := by simp [List.getD_eq_getElem?_getD, hk']
      show _ ≤ zs.getD k 0 ∧ zs.getD k 0 ≤ _
      rw [this]
      exact bounds64' (hwz _ (List.getElem_mem hk'))
end Go.Proofs.Ytgikaheojcpmpab
