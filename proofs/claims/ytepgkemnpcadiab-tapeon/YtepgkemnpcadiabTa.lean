/-
  Acts and tapes: what may be on a tape.
-/
import Derived.Test.YtepgkemnpcadiabWd
import Derived.Test.YtepgkemnpcadiabXb
namespace Go.Proofs.Ytepgkemnpcadiab
open Go.ChangeShapes Go.WideShapes Go.ChangeAt Go.RowKit Go.Maps
set_option linter.unusedVariables false
set_option linter.unusedSimpArgs false
set_option maxRecDepth 20000
/-- An act: kind, operation, number, source. -/
structure Ac where
  k : Int
  o : Opn
  p : Int
  s : ByteArray
def acC (a : Ac) (u : Value) : List Value := [.int .i64 a.k, .int .i64 a.o.k, .string a.o.s, .int .i64 a.o.a, .int .i64 a.o.b, u, .int .i64 a.o.d, .bool a.o.c, .int .i64 a.p, .string a.s]
def acv (a : Ac) (u : Value) : Value := .agg #[.int .i64 a.k, .int .i64 a.o.k, .string a.o.s, .int .i64 a.o.a, .int .i64 a.o.b, u, .int .i64 a.o.d, .bool a.o.c, .int .i64 a.p, .string a.s]
/-- Has an operation nothing at all? -/
def emp (o : Opn) : Bool := decide (o.k = 0 ∧ o.s.toList = [] ∧ o.a = 0 ∧ o.b = 0 ∧ o.l.length = 0 ∧ o.d = 0 ∧ o.c = false)
def ach (a : Ac) : Int := if a.k = 1 then (if a.p ≠ 0 ∨ a.s.toList ≠ [] then 4 else ochk a.o) else if a.k = 4 then (if a.p ≠ 0 ∨ emp a.o = false then 4 else if 3000 < a.s.size then 1 else 0) else 3
def tpv (v : Value) (s : Int) : Value := .agg #[v, .int .i64 s]
def tmay (n : Nat) (s : Int) : Bool := decide (n ≤ 200000 ∧ 0 ≤ s ∧ s ≤ n)
set_option maxHeartbeats 8000000 in
theorem empty_any (o : Opn) (p : Option Addr) (cap : Nat) (w : World) (z : Bool) (hz : emp o = z) :
    Calls Try.prog 30 #[opv o (.slice p o.l.length cap)] w fun e w' => e = .returned (.bool z) ∧ Below w.heap.size w w' := by
  have HE := hid hz
  obtain ⟨k, s, a, b, l, d, c⟩ := o
  unfold opv
  simp only
  obtain ⟨n, hn⟩ : ∃ n, l.length = n := ⟨_, rfl⟩
  have HN := hid hn
  rw [hn]
  clear hz hn
  go_enter Try.func30, Try.ntmps30
  go_wp2
  all_goals
    go_ret
    refine ⟨ret_bool ?_, (Below.refl _ w).alloc (Nat.le_refl _) _⟩
    have h := HE.out
    rw [← h]
    have hn := HN.out
    clear h HE HN
    unfold emp
    simp only [beq_iff_eq, bne_iff_ne, decide_eq_true_eq, Bool.not_eq_true', List.isEmpty_iff, List.isEmpty_eq_false_iff, beq_eq_false_iff_ne, hn] at *
    first | (simp_all; done) | (simp_all <;> omega)
set_option maxHeartbeats 4000000 in
theorem mayBe_any (n : Nat) (p : Option Addr) (cap : Nat) (s : Int) (w : World) (hn : n ≤ maxLen) :
    Calls Try.prog 24 #[.agg #[.slice p n cap, .int .i64 s]] w fun e w' => e = .returned (.bool (tmay n s)) ∧ Below w.heap.size w w' := by
  obtain ⟨z, hz⟩ : ∃ z, tmay n s = z := ⟨_, rfl⟩
  have HZ := hid hz
  rw [hz]
  clear hz
  go_enter Try.func24, Try.ntmps24
  go_wp2
  all_goals
    go_ret
    refine ⟨ret_bool ?_, (Below.refl _ w).alloc (Nat.le_refl _) _⟩
    rw [← HZ.out]
    unfold tmay
    rw [Bool.eq_iff_iff]
    simp at *
    omega
end Go.Proofs.Ytepgkemnpcadiab
