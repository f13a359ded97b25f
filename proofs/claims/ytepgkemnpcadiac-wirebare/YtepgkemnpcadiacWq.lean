/-
  A reader of bytes: refuse, small, long, signed, flag.
-/
import Derived.Test.YtepgkemnpcadiacWp
namespace Go.Proofs.Ytepgkemnpcadiac
open Go.ChangeShapes Go.WideShapes Go.ChangeAt Go.RowKit Go.Maps
set_option linter.unusedVariables false
set_option linter.unusedSimpArgs false
set_option maxRecDepth 20000
/-- A long number's digits: from the i-th on, k of them at most. -/
def lnV : Nat → Nat → Nat → Sx → Nat
  | 0, _, _, _ => 0
  | k + 1, i, n, s => if 128 ≤ smV s then lnV k (i + 1) (n + smV s % 128 * 128 ^ i) (smS s) else n + smV s % 128 * 128 ^ i
def lnS : Nat → Nat → Nat → Sx → Sx
  | 0, _, _, s => rfx s 4
  | k + 1, i, n, s => if 128 ≤ smV s then lnS k (i + 1) (n + smV s % 128 * 128 ^ i) (smS s) else if smV s = 0 ∧ 0 < i then rfx (smS s) 4 else smS s
theorem pow_le (i : Nat) (h : i ≤ 9) : 128 ^ i ≤ 9223372036854775808 := by
  have : 128 ^ i ≤ 128 ^ 9 := Nat.pow_le_pow_right (by omega) h
  have e : (128 : Nat) ^ 9 = 9223372036854775808 := by decide
  omega
theorem ln_step {i n c : Nat} (hi : i < 9) (hn : n < 128 ^ i) : n + c % 128 * 128 ^ i < 128 ^ (i + 1) := by
  have h1 : c % 128 ≤ 127 := by omega
  have h2 : c % 128 * 128 ^ i ≤ 127 * 128 ^ i := Nat.mul_le_mul_right _ h1
  rw [Nat.pow_succ]
  omega
theorem ln_num {n c j : Nat} (hj : j < 9) (hn : n < 128 ^ j) : wrap64 ((n : Int) + wrap64 ((c : Int) % 128 * 2 ^ (7 * j))) = ((n + c % 128 * 128 ^ j : Nat) : Int) := by
  have e : (2 : Int) ^ (7 * j) = ((128 ^ j : Nat) : Int) := by
    rw [Int.pow_mul]
    simp
  have h1 := ln_step (c := c) hj hn
  have h2 := pow_le (j + 1) (by omega)
  have e2 : (c : Int) % 128 * 2 ^ (7 * j) = ((c % 128 * 128 ^ j : Nat) : Int) := by
    rw [e]
    simp
  rw [e2]
  generalize hX : c % 128 * 128 ^ j = X at *
  generalize 128 ^ (j + 1) = Y at *
  have w1 : wrap64 (X : Int) = X := by unfold wrap64; omega
  rw [w1]
  have w2 : wrap64 ((n : Int) + X) = (n : Int) + X := by unfold wrap64; omega
  rw [w2]
  omega
end Go.Proofs.Ytepgkemnpcadiac
