/-
  Rows that are the same.
-/
import Derived.Test.YtgikaheojcpmpaaDoorA
namespace Go.Proofs.YtgikaheojcpmpaaDoor
open Go.ChangeShapes Go.WideShapes Go.ChangeAt Go.RowKit Go.Maps
set_option linter.unusedVariables false
set_option linter.unusedSimpArgs false
set_option maxRecDepth 20000
set_option maxHeartbeats 4000000 in
theorem sameInts_any (v u : Value) (l : Nat) (z : Nat → Int) (w : World) (h : RowAt w v l z) (hu : RowAt w u l z) :
    Calls Tryd.prog 15 #[v, u] w fun e w' => e = .returned (.bool true) ∧ ∃ m, w' = w.drewN m := by
  obtain ⟨p, cap, rfl, hl, hc, hp⟩ := h
  obtain ⟨q, cap2, rfl, _, _, hq⟩ := hu
  have hmx : (l : Int) ≤ 9223372036854775807 := by unfold maxLen at hc; omega
  have HP : Hid (0 < l → ∃ g off, p = some ⟨g, off, none⟩ ∧ ∀ k, k < l → w.cell? ⟨g, off + k, none⟩ = some (.int .i64 (z k))) := hp
  have HQ : Hid (0 < l → ∃ g off, q = some ⟨g, off, none⟩ ∧ ∀ k, k < l → w.cell? ⟨g, off + k, none⟩ = some (.int .i64 (z k))) := hq
  clear hp hl hc hq
  go_enter Tryd.func15, Tryd.ntmps15
  go_wp2_with fail
  go_loopw [5] (fun i wr => ∃ k : Nat, k ≤ l ∧ i = .int .i64 (k : Nat) ∧ ∃ m, wr = w.drewN m) (fun i _ => l + 1 - (intOf i).toNat)
  case atStart => exact ⟨0, by omega, rfl, 0, rfl⟩
  case round =>
    obtain ⟨k, hk, rfl, m0, rfl⟩ := hrel
    by_cases hlt : k < l
    · obtain ⟨g, off, rfl, hrd⟩ := HP.out (by omega)
      obtain ⟨g2, off2, rfl, hrd2⟩ := HQ.out (by omega)
      have a0 := hrd k hlt
      have a1 := hrd2 k hlt
      have i1 : (0 : Int) ≤ (k : Int) := by omega
      have i2 : (k : Int) < (l : Int) := by omega
      generalize z k = x at a0 a1
      clear hrd hrd2
      go_wp2_with fail
      go_quiet (fail)
      go_wp2_with fail
      go_roundw
      case rel => exact ⟨k + 1, by omega, by go_num, _, rfl⟩
      case measure => simp [intOf]; omega
    · obtain rfl : k = l := by omega
      go_wp2_with fail
      go_ret
      exact ⟨rfl, m0, rfl⟩
set_option maxHeartbeats 4000000 in
theorem sameRows_any (v u : Value) (n : Nat) (L : Nat → Nat) (Z : Nat → Nat → Int) (w : World) (h : MatAt w v n L Z) (hu : MatAt w u n L Z) :
    Calls Tryd.prog 6 #[v, u] w fun e w' => e = .returned (.bool true) ∧ ∃ m, w' = w.drewN m := by
  obtain ⟨p, cap, rfl, hl, hc, hp⟩ := h
  obtain ⟨q, cap2, rfl, _, _, hq⟩ := hu
  have hmx : (n : Int) ≤ 9223372036854775807 := by unfold maxLen at hc; omega
  have HP : Hid (0 < n → ∃ g off, p = some ⟨g, off, none⟩ ∧ ∀ i, i < n → ∃ u, w.cell? ⟨g, off + i, none⟩ = some u ∧ RowAt w u (L i) (Z i)) := hp
  have HQ : Hid (0 < n → ∃ g off, q = some ⟨g, off, none⟩ ∧ ∀ i, i < n → ∃ u, w.cell? ⟨g, off + i, none⟩ = some u ∧ RowAt w u (L i) (Z i)) := hq
  clear hp hl hc hq
  go_enter Tryd.func6, Tryd.ntmps6
  go_wp2_with fail
  go_loopw [5] (fun i wr => ∃ k : Nat, k ≤ n ∧ i = .int .i64 (k : Nat) ∧ ∃ m, wr = w.drewN m) (fun i _ => n + 1 - (intOf i).toNat)
  case atStart => exact ⟨0, by omega, rfl, 0, rfl⟩
  case round =>
    obtain ⟨k, hk, rfl, hw⟩ := hrel
    have hBr : Below w.heap.size w wr := by obtain ⟨m0, rfl⟩ := hw; exact below_drewN (Below.refl _ _) _
    have HW := hid hw
    clear hw
    by_cases hlt : k < n
    · obtain ⟨g, off, rfl, hrd⟩ := HP.out (by omega)
      obtain ⟨g2, off2, rfl, hrd2⟩ := HQ.out (by omega)
      obtain ⟨x, hx, rx⟩ := hrd k hlt
      obtain ⟨y, hy, ry⟩ := hrd2 k hlt
      have a0 := (hBr.cell (p := ⟨g, off + k, none⟩) (World.block_lt_of_cell? _ _ hx)).trans hx
      have a1 := (hBr.cell (p := ⟨g2, off2 + k, none⟩) (World.block_lt_of_cell? _ _ hy)).trans hy
      have HRX := hid (rx.later hBr)
      have HRY := hid (ry.later hBr)
      have i1 : (0 : Int) ≤ (k : Int) := by omega
      have i2 : (k : Int) < (n : Int) := by omega
      clear hrd hrd2 rx ry hx hy hBr
      go_wp2_with fail
      go_quiet ((go_at_call 15; refine Calls.quiet_of (sameInts_any x y (L k) (Z k) _ (HRX.out.later (below_drewN (Below.refl _ _) _)) (HRY.out.later (below_drewN (Below.refl _ _) _)))))
      go_wp2_with fail
      go_roundw
      case rel => exact ⟨k + 1, by omega, by go_num, by obtain ⟨m0, e⟩ := HW.out; exact ⟨m0 + nq, by rw [e, World.drewN_drewN]⟩⟩
      case measure => simp [intOf]; omega
    · obtain rfl : k = n := by omega
      clear hBr
      go_wp2_with fail
      go_ret
      exact ⟨rfl, HW.out⟩
end Go.Proofs.YtgikaheojcpmpaaDoor
