/-
  The small functions: what each answers at every argument.
-/
import Derived.Test.YtccddjfcceclnaaRows
import Derived.Test.YtccddjfcceclnaaSpec
import Derived.Handy
import Derived.WalkSmall
import Derived.Deep.QuietTactic
import Derived.BigQuiet
import Derived.Deep.RegionHeld3
namespace Go.Proofs.Ytccddjfcceclnaa
open Go.ChangeShapes Go.WideShapes Go.ChangeAt Go.RowKit
set_option linter.unusedVariables false
set_option linter.unusedSimpArgs false
theorem shr_lv (v t : Nat) : ((t : Int) / 2 ^ (v * 6)) = (lv v t : Int) := by
  unfold lv
  rw [Int.natCast_ediv]
  congr 1
  rw [show (64 : Nat) = 2 ^ 6 from rfl, ← Nat.pow_mul, Nat.mul_comm]
  simp
theorem sl_int (v t : Nat) : ((t : Int) / 2 ^ (v * 6)).tmod 64 = (sl v t : Int) := by
  rw [shr_lv, Int.tmod_eq_emod_of_nonneg (by omega)]
  unfold sl
  omega
set_option maxHeartbeats 1000000 in
theorem isTime_any (t : Int) (w : World) : Calls Try.prog 16 #[.int .i64 t] w fun e w' => e = .returned (.bool (decide (0 ≤ t ∧ t ≤ 1099511627776))) ∧ w' = w := by
  rcases (by omega : ¬ 0 ≤ t ∨ (0 ≤ t ∧ ¬ t ≤ 1099511627776) ∨ (0 ≤ t ∧ t ≤ 1099511627776)) with h | ⟨h, h1⟩ | ⟨h, h1⟩
  all_goals
    simp only [*, true_and, false_and, and_true, and_false]
    go_enter Try.func16, Try.ntmps16
    go_wp2
    go_ret
    exact ⟨rfl, rfl⟩
set_option maxHeartbeats 1000000 in
theorem slotOf_any (v t : Nat) (hv : v ≤ 6) (ht : t ≤ 1099511627776) (w : World) : Calls Try.prog 35 #[.int .i64 v, .int .i64 t] w fun e w' => e = .returned (.int .i64 (sl v t)) ∧ w' = w := by
  rw [← sl_int]
  go_enter Try.func35, Try.ntmps35
  go_wp2
  go_ret
  exact ⟨rfl, rfl⟩
set_option maxHeartbeats 1000000 in
theorem wheelOf_any (a b : Nat) (ha : a ≤ 1099511627776) (hb : b ≤ 1099511627776) (w : World) : Calls Try.prog 34 #[.int .i64 a, .int .i64 b] w fun e w' => e = .returned (.int .i64 (wh a b)) ∧ ∃ n, w' = w.drewN n := by
  go_enter Try.func34, Try.ntmps34
  go_wp2
  go_loopw [5] (fun y wr => ∃ k : Nat, k ≤ 6 ∧ y = .int .i64 k ∧ (∀ v, v < k → lv (v + 1) a ≠ lv (v + 1) b) ∧ ∃ n, wr = w.drewN n) (fun y _ => 7 - (intOf y).toNat)
  case atStart => exact ⟨0, by omega, rfl, by omega, 0, rfl⟩
  case round =>
    obtain ⟨k, hk, rfl, hv, n, rfl⟩ := hrel
    have HV : Hid (∀ v, v < k → lv (v + 1) a ≠ lv (v + 1) b) := hv
    clear hv
    go_wp2_with fail
    go_quiet (fail)
    go_wp2
    · rename_i h
      rw [shr_lv, shr_lv] at h
      have hne : lv (k + 1) a ≠ lv (k + 1) b := fun e => by simp [e] at h
      have hk6 : k ≠ 6 := fun e => by subst e; exact hne (by rw [lv7 ha, lv7 hb])
      refine ⟨⟨k + 1, by omega, by simp, fun v hv => ?_, _, rfl⟩, by simp [intOf]; omega⟩
      rcases Nat.lt_or_ge v k with c | c
      · exact HV.out v c
      · obtain rfl : v = k := by omega
        exact hne
    · rename_i h
      rw [shr_lv, shr_lv] at h
      have he : lv (k + 1) a = lv (k + 1) b := by have : (lv (k + 1) a : Int) = (lv (k + 1) b : Int) := by simpa using h
                                                  omega
      have hw : k = wh a b := IsWh.eq ha hb ⟨hk, he, HV.out⟩
      go_ret
      exact ⟨by rw [← hw]; rfl, _, World.drewN_drewN _ _ _⟩
def cmpI (x y : Int) : Int := if x < y then -1 else if y < x then 1 else 0
set_option maxHeartbeats 1000000 in
theorem isNaN_any (x : Int) (w : World) : Calls Try.prog 38 #[.int .i64 x] w fun e w' => e = .returned (.bool false) ∧ w' = w := by
  go_enter Try.func38, Try.ntmps38
  go_wp2
  go_ret
  exact ⟨rfl, rfl⟩
set_option maxHeartbeats 1000000 in
theorem compare_any (x y : Int) (w : World) : Calls Try.prog 32 #[.int .i64 x, .int .i64 y] w fun e w' => e = .returned (.int .i64 (cmpI x y)) ∧ w' = w := by
  unfold cmpI
  rcases (by omega : x < y ∨ (¬ x < y ∧ y < x) ∨ (¬ x < y ∧ ¬ y < x)) with h | ⟨h, h1⟩ | ⟨h, h1⟩
  all_goals
    simp only [*, if_true, if_false]
    go_enter Try.func32, Try.ntmps32
    go_wp2_with (go_at_call 38; refine (isNaN_any _ _).mono ?_; rintro e w' ⟨rfl, rfl⟩)
    go_ret
    exact ⟨rfl, rfl⟩
def orI (x y : Int) : Int := if x ≠ 0 then x else y
set_option maxHeartbeats 1000000 in
theorem or_any (b : Nat) (x y : Int) (w : World) (c0 : w.cell? ⟨b, 0, none⟩ = some (.int .i64 x)) (c1 : w.cell? ⟨b, 1, none⟩ = some (.int .i64 y)) :
    Calls Try.prog 31 #[.slice (some ⟨b, 0, none⟩) 2 2] w fun e w' => e = .returned (.int .i64 (orI x y)) ∧ w' = w := by
  go_enter Try.func31, Try.ntmps31
  go_wp2
  go_loop [8] (fun i => ∃ k : Nat, k ≤ 2 ∧ i = .int .i64 k ∧ (1 ≤ k → x = 0) ∧ (k = 2 → y = 0)) (fun i => 2 - (intOf i).toNat)
  case atStart => exact ⟨0, by omega, rfl, by omega, by omega⟩
  case round =>
    obtain ⟨k, hk, rfl, h1, h2⟩ := hrel
    rcases (by omega : k = 0 ∨ k = 1 ∨ k = 2) with rfl | rfl | rfl
    · go_wp2
      · rename_i h
        go_ret
        exact ⟨by simp_all [orI], rfl⟩
      · rename_i h
        go_round
        case rel => exact ⟨1, by omega, rfl, fun _ => by simpa using h, by omega⟩
        case measure => simp [intOf]
    · go_wp2
      · rename_i h
        go_ret
        exact ⟨by simp_all [orI], rfl⟩
      · rename_i h
        go_round
        case rel => exact ⟨2, by omega, rfl, fun _ => h1 (by omega), fun _ => by simpa using h⟩
        case measure => simp [intOf]
    · go_wp2
      go_ret
      exact ⟨by simp_all [orI], rfl⟩
def encT (t : Tm) : List Value := [.int .i64 t.i, .int .i64 t.a, .int .i64 t.o]
def cmpT (t u : Tm) : Int := orI (cmpI t.a u.a) (cmpI t.o u.o)
end Go.Proofs.Ytccddjfcceclnaa
