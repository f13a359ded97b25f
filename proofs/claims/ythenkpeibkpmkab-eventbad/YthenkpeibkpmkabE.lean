/-
  How two values compare.
-/
import Derived.Test.YthenkpeibkpmkabD
namespace Go.Proofs.Ythenkpeibkpmkab
open Go.ChangeShapes Go.WideShapes Go.ChangeAt Go.RowKit
set_option linter.unusedVariables false
set_option linter.unusedSimpArgs false
def sgnI (x y : Int) : Int := if x < y then -1 else if y < x then 1 else 0
def ord (a b : Vl) : Int := if a.k = 2 then Lib.compareBytes a.s.data.toList b.s.data.toList else sgnI a.n b.n
def cmpE (a b : Vl) : Int := if vchk a ≠ 0 then vchk a else if vchk b ≠ 0 then vchk b else if a.k ≠ b.k then 13 else 0
def cmpV (a b : Vl) : Int := if cmpE a b ≠ 0 then 0 else ord a b
theorem cmpB_eq : ∀ (x y : List UInt8), Lib.compareBytes x y = if x = y then 0 else if Op.bytesLess x y = true then -1 else 1
  | [], [] => by simp [Lib.compareBytes]
  | [], _ :: _ => by simp [Lib.compareBytes, Op.bytesLess]
  | _ :: _, [] => by simp [Lib.compareBytes, Op.bytesLess]
  | a :: x, b :: y => by
    unfold Lib.compareBytes Op.bytesLess
    rw [cmpB_eq x y]
    by_cases h1 : a < b
    · have hne : a ≠ b := fun h => by subst h; exact absurd h1 (by simp [UInt8.lt_iff_toNat_lt])
      simp [h1, hne]
    · by_cases h2 : b < a
      · have hne : a ≠ b := fun h => by subst h; exact absurd h2 (by simp [UInt8.lt_iff_toNat_lt])
        have hbe : (a == b) = false := by simpa using hne
        simp [h1, h2, hne]
      · have he : a = b := by
          apply UInt8.toNat_inj.1
          rw [UInt8.lt_iff_toNat_lt] at h1 h2
          omega
        subst he
        simp [h1]
theorem strCmp_any (a b : ByteArray) (w : World) :
    Calls Try.prog 26 #[.string a, .string b] w fun e w' => e = .returned (.int .i64 (Lib.compareBytes a.data.toList b.data.toList)) ∧ w' = w := by
  have c : ∀ w, Calls Try.prog 38 #[.string a, .string b] w fun e w' => e = .returned (.int .i64 (Lib.compareBytes a.data.toList b.data.toList)) ∧ w' = w := fun w => by
    go_enter Try.func38, Try.ntmps38
    go_wp2
    rw [run_callFunc_extern Try.func42 (by kernel_rfl) (by kernel_rfl) (by kernel_rfl) (e := Extern.BytealgCompare.compare) (by kernel_rfl), Lib.run_compareString]
    simp only [Result.andThen]
    rw [Oper.upon_value]
    go_wp2
    go_ret
    exact ⟨rfl, rfl⟩
  have C : Hid (∀ w, Calls Try.prog 38 #[.string a, .string b] w fun e w' => e = .returned (.int .i64 (Lib.compareBytes a.data.toList b.data.toList)) ∧ w' = w) := c
  clear c
  go_enter Try.func26, Try.ntmps26
  go_wp2_with (go_at_call 38; refine (C.out _).mono ?_; rintro e w ⟨rfl, rfl⟩)
  go_ret
  exact ⟨rfl, rfl⟩
theorem intCmp_any (a b : Int) (w : World) :
    Calls Try.prog 27 #[.int .i64 a, .int .i64 b] w fun e w' => e = .returned (.int .i64 (sgnI a b)) ∧ w' = w := by
  go_enter Try.func27, Try.ntmps27
  go_wp2
  all_goals
    go_ret
    refine ⟨ret_int ?_, rfl⟩
    unfold sgnI
    (repeat' split) <;> omega
end Go.Proofs.Ythenkpeibkpmkab
