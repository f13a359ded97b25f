/-
  Words of the language are kept, others are not: the walk.
-/
import Derived.Test.YtggfaglfchepfaaDoorKT
namespace Go.Proofs.YtggfaglfchepfaaDoor
open Go.ChangeShapes Go.WideShapes Go.ChangeAt Go.RowKit
set_option linter.unusedVariables false
set_option linter.unusedSimpArgs false
def pk (n m : Int) : Int := if 0 ≤ n then n % m else -((n + 1).tmod m)
theorem pk_bd (n m : Int) (hm : 0 < m) : 0 ≤ pk n m ∧ pk n m < m := by
  unfold pk
  split
  · exact ⟨Int.emod_nonneg n (by omega), Int.emod_lt_of_pos n hm⟩
  · have h2 := Int.tmod_lt_of_pos (-(n + 1)) hm
    have h1 := Int.tmod_nonneg m (by omega : 0 ≤ -(n + 1))
    rw [Int.neg_tmod] at h1 h2
    omega
theorem picked_any (n m : Int) (w : World) (hn1 : -9223372036854775808 ≤ n) (hn2 : n ≤ 9223372036854775807) (hm : 0 < m) (hm2 : m ≤ 1125899906842624) :
    Calls Tryd.prog 10 #[.int .i64 n, .int .i64 m] w fun e w' => e = .returned (.int .i64 (pk n m)) ∧ w' = w := by
  have hm0 : ¬ m = 0 := by omega
  unfold pk
  by_cases h : 0 ≤ n
  · simp only [h, if_true]
    go_enter Tryd.func10, Tryd.ntmps10
    go_wp2
    go_ret
    exact ⟨rfl, rfl⟩
  · have h' : n < 0 := by omega
    simp only [h, if_false]
    go_enter Tryd.func10, Tryd.ntmps10
    go_wp2
    go_ret
    exact ⟨rfl, rfl⟩
theorem picked_const (n M : Int) (m : Nat) (hM : M = m) (hn : -9223372036854775808 ≤ n ∧ n ≤ 9223372036854775807) (hm : 0 < m) (hm2 : m ≤ 1125899906842624) : ∃ x : Nat, x < m ∧ ∀ W, Calls Tryd.prog 10 #[.int .i64 n, .int .i64 M] W fun e w' => e = .returned (.int .i64 x) ∧ w' = W := by
  subst hM
  have hb := pk_bd n m (by omega)
  obtain ⟨k, hk⟩ := Int.eq_ofNat_of_zero_le hb.1
  refine ⟨k, by omega, fun W => ?_⟩
  have := picked_any n m W hn.1 hn.2 (by omega) (by omega)
  rw [hk] at this
  exact this
def allW : List (List UInt8) := kpl ++ rll
def allA : Array Value := (allW.map fun m => Value.string (txt m)).toArray
theorem kpt_in (s : ByteArray) : kpt s = true ↔ s.data.toList ∈ allW := by simp [kpt, allW]
theorem in_x (x : List UInt8) (h : x ∈ allW) : x ++ [120] ∉ allW := by
  have : ∀ x ∈ allW, x ++ [120] ∉ allW := by decide
  exact this x h
end Go.Proofs.YtggfaglfchepfaaDoor
