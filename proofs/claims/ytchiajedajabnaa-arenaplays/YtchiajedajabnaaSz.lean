/-
  How long a slice of jobs that came in may be.
-/
import Derived.Test.YtchiajedajabnaaFr
import Derived.SizedLaws
namespace Go.Proofs.Ytchiajedajabnaa
open Go.ChangeShapes Go.WideShapes Go.ChangeAt Go.RowKit Go.Deep
set_option linter.unusedVariables false
set_option linter.unusedSimpArgs false
theorem bytes37 : Try.prog.bytesOf 37 = 32 := by kernel_rfl
theorem slice_len {H : Type} {enc : TypeId × Value → H} {W : World} {base : Nat} {spare : Nat → Bool} {held : Bool} {t e : TypeId} {a : Option Addr} {len cap : Nat} {d : DataW H} {p : List MemPlace} (ht : Try.prog.underlying t = some (.slice e))
    (h : DataW.Trod enc Try.prog W base spare held t (.slice a len cap) d p) : len = 0 ∨ ∃ elems sp, d = .slice elems sp ∧ elems.length = len := by
  obtain ⟨fuel, hf⟩ := h
  rcases open_slice ht hf with ⟨hcs, _⟩ | ⟨x, l, c, m, n, D, Pl, hcs, _, hl, hm, hme, hx, hcell⟩
  · simp [Value.cells] at hcs
    exact Or.inl hcs.2.1
  · simp [Value.cells] at hcs
    obtain ⟨rfl, rfl, rfl⟩ := hcs
    simp at hx
    exact Or.inr ⟨_, _, hx.1, by simp⟩
theorem jobs_bound {H : Type} {enc : TypeId × Value → H} {W : World} {base : Nat} {spare : Nat → Bool} {held : Bool} {a : Option Addr} {len cap : Nat} {d : DataW H} {p : List MemPlace} {ts : List TypeId} {ds : List (DataW H)}
    (h : DataW.Trod enc Try.prog W base spare held 22 (.slice a len cap) d p) (hsz : (DataW.weightsEach Try.prog ts ds).all (· ≤ reachBytes) = true) (h1 : ts[0]? = some 22) (h2 : ds[0]? = some d) : len * 32 ≤ 140737488355328 := by
  rcases slice_len Try.underlying22 h with rfl | ⟨elems, sp, rfl, rfl⟩
  · omega
  · have := sized_slice hsz h1 h2 Try.underlying22
    rw [bytes37] at this
    have hr : reachBytes ≤ 140737488355328 := by decide
    have e : elems.length * 32 ≤ (elems.length + sp.length) * 32 := Nat.mul_le_mul_right _ (by omega)
    omega
end Go.Proofs.Ytchiajedajabnaa
