/-
  An operation's bytes: Encode tells what the document says.
-/
import Derived.Test.YtepgkemnpcadiaaWl
namespace Go.Proofs.Ytepgkemnpcadiaa
open Go.ChangeShapes Go.WideShapes Go.ChangeAt Go.RowKit Go.Maps
set_option linter.unusedVariables false
set_option linter.unusedSimpArgs false
set_option maxRecDepth 20000
def tx (l : List UInt8) : ByteArray := ⟨l.toArray⟩
theorem BR.conv {w : World} {v : Value} {l : List UInt8} (h : BR w v l) : (convert 32 9 v).run Try.prog w = .ok (.string (tx l)) w := by
  obtain ⟨p, cap, rfl, hc⟩ := h
  by_cases h0 : l.length = 0
  · have e : l = [] := List.eq_nil_of_length_eq_zero h0
    subst e
    rw [run_convert_bytes_string w 32 9 5 p [].length cap Try.underlying32 Try.underlying5 Try.underlying9]
    cases p <;> simp [Conv.bytesToString, loadCells, loadCellsFrom] <;> rfl
  · obtain ⟨g, off, rfl, hx⟩ := hc (by omega)
    exact run_convert_bytes_back w 32 9 5 ⟨g, off, none⟩ cap l Try.underlying32 Try.underlying5 Try.underlying9 (fun j hj => by
      rw [Addr.add_mid]
      exact (hx j hj).2)
end Go.Proofs.Ytepgkemnpcadiaa
