/-
  How many bytes a tape that came in may have; the walks' frames.
-/
import Derived.Test.YtepgkemnpcadiaaTf
namespace Go.Proofs.Ytepgkemnpcadiaa
open Go.Deep Go.ChangeShapes Go.WideShapes Go.ChangeAt Go.RowKit Go.Joins
set_option linter.unusedVariables false
set_option linter.unusedSimpArgs false
set_option maxRecDepth 20000
theorem tape_bound {H : Type} {enc : TypeId × Value → H} {W : World} {base : Nat} {spare : Nat → Bool} {held : Bool} {v : Value} {l : List UInt8} {s : Int} {d : DataW H} {p : List MemPlace} {ts : List TypeId} {ds : List (DataW H)} {j : Nat}
    (hv : BA W v l) (h : DataW.Trod enc Try.prog W base spare held 34 (tpv v s) d p) (hsz : (DataW.weightsEach Try.prog ts ds).all (· ≤ reachBytes) = true) (h1 : ts[j]? = some 34) (h2 : ds[j]? = some d) : l.length ≤ 140737488355328 := by
  obtain ⟨a, cap, rfl, _⟩ := hv
  generalize l.length = len at h ⊢
  obtain ⟨fuel, hf⟩ := h
  obtain ⟨xs, m, e, hx, hl, hlen, hfl⟩ := DataW.trod_struct Try.underlying34 hf
  have h0 : DataW.trod enc Try.prog W base spare held m 32 (([.slice a len cap, .int .i64 s].drop 0).take (Try.prog.cellsOf 32)) = xs[0]? := hfl 0 _ rfl
  have hx0 : 0 < xs.length := by rw [hlen]; decide
  rw [List.getElem?_eq_getElem hx0] at h0
  have h0' : DataW.trod enc Try.prog W base spare held m 32 [.slice a len cap] = some xs[0] := by
    rw [← h0, kBy]
    rfl
  obtain ⟨y, hy⟩ : ∃ y, xs[0] = y := ⟨_, rfl⟩
  rw [hy] at h0'
  obtain ⟨d0, p0⟩ := y
  rcases slice_len (d := d0) (p := p0) Try.underlying32 ⟨m, by simpa [Value.cells] using h0'⟩ with rfl | ⟨elems, sp, rfl, rfl⟩
  · omega
  · have hd : d = .agg (xs.map (·.1)) := by
      have := congrArg Prod.fst hx
      simpa using this
    have hm : (elems.length + sp.length) * Try.prog.bytesOf 5 ∈ d.weights Try.prog 34 := by
      subst hd
      simp only [DataW.weights, Try.underlying34]
      refine DataW.weights_mem_each (j := 0) (t := 32) (d := .slice elems sp) rfl ?_ _ ?_
      · rw [List.getElem?_map, List.getElem?_eq_getElem hx0, hy]
        rfl
      · simp [DataW.weights, Try.underlying32]
    have := List.all_eq_true.1 hsz _ (DataW.weights_mem_each h1 h2 _ hm)
    rw [bytes5] at this
    have hr : reachBytes ≤ 140737488355328 := by decide
    simp at this
    omega
end Go.Proofs.Ytepgkemnpcadiaa
