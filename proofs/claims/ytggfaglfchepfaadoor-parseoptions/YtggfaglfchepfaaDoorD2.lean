/-
  There is a bound for how deep a condition is: the walk.
-/
import Derived.Test.YtggfaglfchepfaaDoorD1
import Derived.Test.YtggfaglfchepfaaDoorKA
namespace Go.Proofs.YtggfaglfchepfaaDoor
open Go.ChangeShapes Go.WideShapes Go.ChangeAt Go.RowKit Go.Maps
set_option linter.unusedVariables false
set_option linter.unusedSimpArgs false
set_option maxRecDepth 20000
theorem txt_app (a b : List UInt8) : txt a ++ txt b = txt (a ++ b) := by
  have : (txt a ++ txt b).data.toList = a ++ b := by simp [txt]
  rw [← txt_of (txt a ++ txt b), this]
theorem rpt_len (n : Nat) (m : List UInt8) : (rpt n m).length = n * m.length := by
  induction n with
  | zero => simp [rpt]
  | succ n ih => rw [rpt, List.length_append, ih, Nat.succ_mul]
/-- The tuple that Cut hands back, and what Parse tells of it. -/
theorem cut_of (S : ByteArray) (l : List UInt8) (hS : S = txt l) (ts : List Tk) (h : cutF 200 (skd l) = some ts) (hl : l.length ≤ 3000) (ht : ts.length < 700) (w : World) (hM : Marks w) :
    Calls Tryd.prog 29 #[.string S] w fun e w' => ∃ p cap, e = .returned (.tuple #[.slice p ts.length cap, .int .i64 0, .int .i64 0]) ∧ TokensAt w' (.slice p ts.length cap) ts ∧ Below w.heap.size w w' := by
  subst hS
  have := cut_any (txt l) w ts 0 0 hM (by rw [txt_size]; exact hl) (by rw [txt_list]; exact cutF_run _ 200 _ ts h) ht
  refine this.mono ?_
  rintro e w' ⟨v, rfl, h1, h2⟩
  rw [if_pos rfl] at h1
  obtain ⟨p, cap, rfl, h3⟩ := h1
  exact ⟨p, cap, rfl, ⟨p, cap, rfl, h3⟩, h2⟩
end Go.Proofs.YtggfaglfchepfaaDoor
