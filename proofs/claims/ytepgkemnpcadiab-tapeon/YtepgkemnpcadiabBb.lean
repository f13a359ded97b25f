/-
  Whether an operation has just what its kind has: the program's Bare, and the document's.
-/
import Derived.Test.YtepgkemnpcadiabRows
import Derived.Handy
import Derived.Deep.Slices
import Derived.Deep.Strs
import Derived.Lib.SmallJoins
namespace Go.Proofs.Ytepgkemnpcadiab.S
open Go.ChangeShapes Go.WideShapes Go.ChangeAt Go.RowKit
set_option linter.unusedVariables false
set_option linter.unusedSimpArgs false
set_option maxRecDepth 20000
def Hid (P : Prop) : Prop := P
theorem Hid.out {P : Prop} (h : Hid P) : P := h
theorem hid {P : Prop} (h : P) : Hid P := h
theorem ret_int {k : IntKind} {a b : Int} (h : a = b) : Ending.returned (.int k a) = .returned (.int k b) := by rw [h]
theorem ret_bool {a b : Bool} (h : a = b) : Ending.returned (.bool a) = .returned (.bool b) := by rw [h]
theorem below_trans {B B' : Nat} {w w1 w2 : World} (h : Below B w w1) (h2 : Below B' w1 w2) (hb : B ≤ B') : Below B w w2 :=
  ⟨h2.os.trans h.os, h2.tape.trans h.tape, h2.output.trans h.output, Nat.le_trans h.size h2.size, fun k hk => (h2.block k (by omega)).trans (h.block k hk)⟩
theorem cell_new {X : World} {cs : Array Value} {t : TypeId} {g j : Nat} {v : Value} (hg : g = X.heap.size) (hv : cs[j]? = some v) : (X.alloc (.cells cs t)).cell? ⟨g, j, none⟩ = some v := by
  subst hg
  have h : (X.alloc (.cells cs t)).heap[X.heap.size]? = some (.cells cs t (0, 0)) := by first | exact heap_alloc_new X _ | exact _root_.Go.heap_alloc_new X _
  rw [cell_of_row _ _ _ _ t (0, 0) h]
  simpa using hv
def bare (k : Int) (s : ByteArray) (a b : Int) (n : Nat) (d : Int) (c : Bool) : Int :=
  if k = 1 then (if d ≠ 0 ∨ c = true then 4 else 0)
  else if k = 2 then (if s.toList ≠ [] ∨ a ≠ 0 ∨ b ≠ 0 ∨ 0 < n then 4 else 0)
  else if k = 3 then (if a ≠ 0 ∨ b ≠ 0 ∨ 0 < n ∨ d ≠ 0 ∨ c = true then 4 else 0) else 3
def opV (k : Int) (s : ByteArray) (a b : Int) (p : Option Addr) (n cp : Nat) (d : Int) (c : Bool) : Value := .agg #[.int .i64 k, .string s, .int .i64 a, .int .i64 b, .slice p n cp, .int .i64 d, .bool c]
set_option maxHeartbeats 8000000 in
theorem bare_any (k : Int) (s : ByteArray) (a b : Int) (p : Option Addr) (n cp : Nat) (d : Int) (c : Bool) (w : World) (e : Int) (he : bare k s a b n d c = e) :
    Calls Try.prog 37 #[.agg #[.int .i64 k, .string s, .int .i64 a, .int .i64 b, .slice p n cp, .int .i64 d, .bool c]] w fun x w' => x = .returned (.int .i64 e) ∧ Below w.heap.size w w' := by
  have HE := hid he
  clear he
  go_enter Try.func37, Try.ntmps37
  go_wp2
  all_goals
    go_ret
    refine ⟨ret_int ?_, (Below.refl _ w).alloc (Nat.le_refl _) _⟩
    have h := HE.out
    rw [← h]
    clear h HE
    unfold bare
    simp only [beq_iff_eq, bne_iff_ne, decide_eq_true_eq, Bool.not_eq_true', List.isEmpty_iff, List.isEmpty_eq_false_iff, beq_eq_false_iff_ne] at *
    first | (simp_all; done) | (simp_all <;> omega)
end Go.Proofs.Ytepgkemnpcadiab.S
