/-
  In, sameFounds, and what is refused for its size.
-/
import Derived.Test.YtchiajedajabnaaJo
namespace Go.Proofs.Ytchiajedajabnaa
open Go.ChangeShapes Go.WideShapes Go.ChangeAt Go.RowKit
set_option linter.unusedVariables false
set_option linter.unusedSimpArgs false
set_option maxHeartbeats 1000000 in
theorem in_any (x lo hi : Int) (w : World) : Calls Try.prog 14 #[.int .i64 x, .int .i64 lo, .int .i64 hi] w fun e w' => e = .returned (.bool (decide (lo ≤ x ∧ x ≤ hi))) ∧ w' = w := by
  rcases (by omega : ¬ lo ≤ x ∨ (lo ≤ x ∧ ¬ x ≤ hi) ∨ (lo ≤ x ∧ x ≤ hi)) with h | ⟨h, h1⟩ | ⟨h, h1⟩
  all_goals
    simp only [*, true_and, false_and, and_true, and_false]
    go_enter Try.func14, Try.ntmps14
    go_wp2
    go_ret
    exact ⟨rfl, rfl⟩
set_option maxHeartbeats 1000000 in
theorem play_big (p : Option Addr) (n cap : Nat) (w : World) (h : 2000 < n) : Calls Try.prog 8 #[.slice p n cap] w fun e w' => e = .returned (.tuple #[.slice none 0 0, .int .i64 1]) ∧ w' = w := by
  have h1 : (2000 : Int) < (n : Int) := by omega
  clear h
  go_enter Try.func8, Try.ntmps8
  go_wp2
  go_ret2
  exact ⟨rfl, rfl⟩
set_option maxRecDepth 100000 in
set_option maxHeartbeats 1000000 in
theorem jobbed_big (p : Option Addr) (n cap : Nat) (w : World) (h : 2000 < n) : Calls Try.prog 9 #[.slice p n cap] w fun e w' => e = .returned (.tuple #[.slice none 0 0, .int .i64 1]) ∧ w' = w := by
  have h1 : (2000 : Int) < (n : Int) := by omega
  clear h
  go_enter Try.func9, Try.ntmps9
  go_wp2
  go_ret2
  exact ⟨rfl, rfl⟩
set_option maxHeartbeats 4000000 in
theorem sameFounds_any (u v : Value) (xs ys : List Q4) (w : World) (hu : FoundsAt w u xs) (hv : FoundsAt w v ys) (hl : xs.length = ys.length) (he : xs = ys) (hx : xs.length ≤ 2000) :
    Calls Try.prog 10 #[u, v] w fun e w' => e = .returned (.bool true) ∧ ∃ n, w' = w.drewN n := by
  subst he
  obtain ⟨p, cap, rfl, hp⟩ := hu
  obtain ⟨q, caq, rfl, hq⟩ := hv
  obtain ⟨n, hn⟩ : ∃ n, xs.length = n := ⟨_, rfl⟩
  have HP : Hid (0 < xs.length → ∃ g, p = some ⟨g, 0, none⟩ ∧ ∀ j (hj : j < xs.length), g < w.heap.size ∧ w.cell? ⟨g, j * 4, none⟩ = some (.int .i64 xs[j].1) ∧ w.cell? ⟨g, j * 4 + 1, none⟩ = some (.int .i64 xs[j].2.1) ∧ w.cell? ⟨g, j * 4 + 2, none⟩ = some (.int .i64 xs[j].2.2.1) ∧ w.cell? ⟨g, j * 4 + 3, none⟩ = some (.int .i64 xs[j].2.2.2)) := hp
  have HQ : Hid (0 < xs.length → ∃ g, q = some ⟨g, 0, none⟩ ∧ ∀ j (hj : j < xs.length), g < w.heap.size ∧ w.cell? ⟨g, j * 4, none⟩ = some (.int .i64 xs[j].1) ∧ w.cell? ⟨g, j * 4 + 1, none⟩ = some (.int .i64 xs[j].2.1) ∧ w.cell? ⟨g, j * 4 + 2, none⟩ = some (.int .i64 xs[j].2.2.1) ∧ w.cell? ⟨g, j * 4 + 3, none⟩ = some (.int .i64 xs[j].2.2.2)) := hq
  have HN : Hid (xs.length = n) := hn
  rw [hn]
  have hn2 : n ≤ 2000 := by omega
  clear hp hq hl hn hx
  go_enter Try.func10, Try.ntmps10
  go_wp2
  go_loopw [5] (fun i wr => ∃ k : Nat, k ≤ n ∧ i = .int .i64 k ∧ ∃ m, wr = w.drewN m) (fun i _ => n + 1 - (intOf i).toNat)
  case atStart => exact ⟨0, by omega, rfl, 0, rfl⟩
  case round =>
    obtain ⟨k, hk, rfl, m, rfl⟩ := hrel
    by_cases hlt : k < n
    · have h1 : k < xs.length := by have := HN.out; omega
      obtain ⟨b, hb, hc⟩ := HP.out (by omega)
      obtain ⟨b', hb', hc'⟩ := HQ.out (by omega)
      subst hb hb'
      obtain ⟨_, c0, c1, c2, c3⟩ := hc k h1
      obtain ⟨_, d0, d1, d2, d3⟩ := hc' k h1
      obtain ⟨x, hx⟩ : ∃ x, xs[k] = x := ⟨_, rfl⟩
      rw [hx] at c0 c1 c2 c3 d0 d1 d2 d3
      have i1 : (0 : Int) ≤ (k : Int) := by omega
      have i2 : (k : Int) < (n : Int) := by omega
      clear hc hc' hx h1
      go_wp2_with fail
      go_quiet (fail)
      go_wp2
      go_roundw
      case rel => exact ⟨k + 1, by omega, by go_num, _, rfl⟩
      case measure => simp [intOf]; omega
    · obtain rfl : k = n := by omega
      go_wp2
      go_ret
      exact ⟨rfl, _, rfl⟩
end Go.Proofs.Ytchiajedajabnaa
