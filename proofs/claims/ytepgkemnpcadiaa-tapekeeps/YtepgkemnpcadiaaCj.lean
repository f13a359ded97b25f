/-
  A crash leaves what was synced, and just so many bytes more: CrashJust.
-/
import Derived.Test.YtepgkemnpcadiaaTt
namespace Go.Proofs.Ytepgkemnpcadiaa
open Go.ChangeShapes Go.WideShapes Go.ChangeAt Go.RowKit Go.Maps
set_option linter.unusedVariables false
set_option linter.unusedSimpArgs false
set_option maxRecDepth 20000
theorem notes_ok (ds : List Rw) : (∀ a ∈ (ds.take 24).map noteA, ach a = 0) ∧ ((ds.take 24).map noteA).length ≤ 24 := by
  refine ⟨fun a ha => ?_, by rw [List.length_map, List.length_take]; omega⟩
  obtain ⟨d, _, rfl⟩ := List.mem_map.1 ha
  exact note_ok d
theorem tcr_fits {l : List UInt8} {s k : Int} (h : l.length ≤ 100000) (hs : 0 ≤ s ∧ s ≤ l.length) : tcr l s k = if k < 0 then ([], 0, 2) else (l.take (tcrN l s k), (tcrN l s k : Int), 0) := by
  unfold tcr
  rw [if_pos (by unfold tmay; simp; omega)]
end Go.Proofs.Ytepgkemnpcadiaa
