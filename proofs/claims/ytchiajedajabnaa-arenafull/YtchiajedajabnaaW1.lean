/-
  The walk of the law ArenaFull.
-/
import Derived.Test.YtchiajedajabnaaJ
namespace Go.Proofs.Ytchiajedajabnaa
open Go.ChangeShapes Go.WideShapes Go.ChangeAt Go.RowKit Go.Maps
set_option linter.unusedVariables false
set_option linter.unusedSimpArgs false
set_option maxHeartbeats 8000000 in
theorem arenaFull_walk (a : Int) (w : World) (ha : wfI a) : Calls Try.prog 6 #[.int .i64 a] w fun e w' => e = .returned (.bool true) ∧ Below w.heap.size w w' := by
  obtain ⟨n, hn, hP⟩ := picked_const a 240 240 rfl ha (by omega) (by omega)
  have HP : Hid (∀ W, Calls Try.prog 12 #[.int .i64 a, .int .i64 240] W fun e w' => e = .returned (.int .i64 n) ∧ w' = W) := hP
  obtain ⟨i0, a1, a2, a3, a4⟩ := info_parts info37
  have HI : Hid (Try.prog.info? 37 = some i0 ∧ i0.zero = some (.agg #[.int .i64 0, .int .i64 0, .int .i64 0, .int .i64 0]) ∧ i0.size = 4 ∧ i0.bytes = 32) := ⟨a1, a2, a3, a4⟩
  clear ha hP a1 a2 a3 a4
  go_enter Try.func6, Try.ntmps6
  go_wp2_with (go_at_call 12; refine (HP.out _).mono ?_; rintro e w ⟨rfl, rfl⟩)
  go_loopw [4, 5] (fun x i wr => ∃ k : Nat, k ≤ n ∧ i = .int .i64 k ∧ wr.ownsRow w.heap.size 37 4 x (ones k).length ((ones k).flatMap enc4) ∧ Below w.heap.size w wr) (fun _ i _ => n + 1 - (intOf i).toNat)
  case atStart => exact ⟨0, by omega, rfl, by simpa [ones] using World.ownsRow_nil w w.heap.size 37 4, Below.refl _ _⟩
  case round =>
    obtain ⟨k, hk, rfl, hrow, hB⟩ := hrel
    by_cases hlt : k < n
    · have i2 : (k : Int) < (n : Int) := by omega
      have HROW : Hid (wr.ownsRow w.heap.size 37 4 u4 (ones k).length ((ones k).flatMap enc4)) := hrow
      have HB : Hid (Below w.heap.size w wr) := hB
      clear hrow hB
      go_wp2_with (at_builtin; refine wpList_append_own_at _ (by rfl) _ _ 22 (by rfl) w.heap.size 37 i0 (.agg #[.int .i64 0, .int .i64 0, .int .i64 0, .int .i64 0]) 4 32 Try.underlying22 HI.out.1 HI.out.2.1 HI.out.2.2.1 HI.out.2.2.2 rfl (by omega) u4 _ _ (by rfl) (HROW.out.alloc _) ⟨wr.heap.size, 0, none⟩ 1 1 (enc4 (1, 1, 0, 0)) (by rfl) (by rfl) (World.news_of_block (heap_alloc_new _ _)) (by simp [enc4, Value.oneCell']) (by rw [ones_len]; unfold maxLen; omega) (by rw [ones_len]; omega) (by simp; have := HB.out.size; omega) ?_; intro x' w3 hown3 hg3 hnil3 hat3)
      go_roundw
      case rel =>
        refine ⟨k + 1, by omega, by go_num, ?_, grow_row HB.out hg3 HROW.out⟩
        rw [ones_succ, flat4_snoc, List.length_append]; exact hown3
      case measure => simp [intOf]; omega
    · obtain rfl : k = n := by omega
      have HROW : Hid (wr.ownsRow w.heap.size 37 4 u4 (ones k).length ((ones k).flatMap enc4)) := hrow
      have HB : Hid (Below w.heap.size w wr) := hB
      clear hrow hB
      go_wp2_with (first
        | (at_builtin; refine wpList_append_own_at _ (by rfl) _ _ 22 (by rfl) w.heap.size 37 i0 (.agg #[.int .i64 0, .int .i64 0, .int .i64 0, .int .i64 0]) 4 32 Try.underlying22 HI.out.1 HI.out.2.1 HI.out.2.2.1 HI.out.2.2.2 rfl (by omega) u4 _ _ (by rfl) (HROW.out.alloc _) ⟨wr.heap.size, 0, none⟩ 2 2 (enc4 (4, 0, 0, 0) ++ enc4 (1, 0, 0, 0)) (by rfl) (by rfl) (World.news_of_block (heap_alloc_new _ _)) (by simp [enc4, Value.oneCell']) (by rw [ones_len]; unfold maxLen; omega) (by rw [ones_len]; omega) (by simp; have := HB.out.size; omega) ?_; intro x' w3 hown3 hg3 hnil3 hat3))
      have hown4 : w3.ownsRow w.heap.size 37 4 x' (ones k ++ [(4, 0, 0, 0), (1, 0, 0, 0)]).length ((ones k ++ [(4, 0, 0, 0), (1, 0, 0, 0)]).flatMap enc4) := by
        rw [List.length_append, List.flatMap_append]; exact hown3
      have HB3 : Hid (Below w.heap.size w w3) := grow_row HB.out hg3 HROW.out
      clear hown3 hg3 hnil3 hat3
      refine (play_any x' _ _ (jobs_own hown4) (by rw [List.length_append, ones_len]; simp; omega)).mono ?_
      rintro e w4 ⟨u, rfl, hF, hB4⟩
      have hl : (play s0 (ones k ++ [(4, 0, 0, 0), (1, 0, 0, 0)])).length = k + 2 := by rw [play_len, List.length_append, ones_len]; rfl
      obtain ⟨g, cap, rfl, hc⟩ := hF.form (by omega)
      obtain ⟨e1, e2⟩ := full_end k
      have c1 := (hc _ _ e1).2.1
      have c2 := (hc _ _ e2).1
      dsimp only at c1 c2
      have HB4 : Hid (Below w.heap.size w w4) := HB3.out.trans (hB4.mono HB3.out.size)
      have HC : Hid (∀ i, i < k → ∃ c : Int, w4.cell? ⟨g, i * 4, none⟩ = some (.int .i64 c) ∧ (c = 8 ∧ 120 ≤ i ∨ c = 0 ∧ ¬ 120 ≤ i)) := fun i hi => by
        obtain ⟨q, h1, h2⟩ := full_at k i hi [(4, 0, 0, 0), (1, 0, 0, 0)]
        exact ⟨q.1, (hc _ _ h1).1, h2⟩
      rw [hl]
      clear hc hF hB4 e1 e2 hown4 hl
      have i1 : (0 : Int) ≤ (k : Int) := by omega
      have i2 : (k : Int) < ((k + 2 : Nat) : Int) := by omega
      have i3 : (k : Int) + 1 < ((k + 2 : Nat) : Int) := by omega
      by_cases hm : k ≤ 120
      · have e : min k 120 = k := by omega
        rw [e] at c1
        have hm' : (k : Int) ≤ 120 := by omega
        clear e hm
        go_wp2
        go_loopw [8] (fun x wr => ∃ i : Nat, i ≤ k ∧ x = .int .i64 i ∧ wr = w4) (fun x _ => k + 1 - (intOf x).toNat)
        case atStart => exact ⟨0, by omega, rfl, rfl⟩
        case round =>
          obtain ⟨i, hi, rfl, rfl⟩ := hrel
          by_cases hlt2 : i < k
          · obtain ⟨c, hc, hd⟩ := HC.out i hlt2
            have j1 : (0 : Int) ≤ (i : Int) := by omega
            have j2 : (i : Int) < ((k + 2 : Nat) : Int) := by omega
            have j3 : (i : Int) < (k : Int) := by omega
            have j4 : (i : Int) < (k : Int) + 2 := by omega
            rcases hd with ⟨rfl, hd⟩ | ⟨rfl, hd⟩
            · exfalso; omega
            · have hd' : decide ((120 : Int) ≤ (i : Int)) = false := decide_eq_false (by omega)
              go_wp2
              go_roundw
              case rel => exact ⟨i + 1, by omega, by go_num, by simp⟩
              case measure => simp [intOf]; omega
          · obtain rfl : i = k := by omega
            go_wp2
            go_ret
            exact ⟨rfl, HB4.out⟩
      · have e : min k 120 = 120 := by omega
        rw [e] at c1
        have hm' : (120 : Int) < (k : Int) := by omega
        clear e hm
        go_wp2
        go_loopw [8] (fun x wr => ∃ i : Nat, i ≤ k ∧ x = .int .i64 i ∧ wr = w4) (fun x _ => k + 1 - (intOf x).toNat)
        case atStart => exact ⟨0, by omega, rfl, rfl⟩
        case round =>
          obtain ⟨i, hi, rfl, rfl⟩ := hrel
          by_cases hlt2 : i < k
          · obtain ⟨c, hc, hd⟩ := HC.out i hlt2
            have j1 : (0 : Int) ≤ (i : Int) := by omega
            have j2 : (i : Int) < ((k + 2 : Nat) : Int) := by omega
            have j3 : (i : Int) < (k : Int) := by omega
            have j4 : (i : Int) < (k : Int) + 2 := by omega
            rcases hd with ⟨rfl, hd⟩ | ⟨rfl, hd⟩
            · have hd' : (120 : Int) ≤ (i : Int) := by omega
              go_wp2
              go_roundw
              case rel => exact ⟨i + 1, by omega, by go_num, by simp⟩
              case measure => simp [intOf]; omega
            · have hd' : decide ((120 : Int) ≤ (i : Int)) = false := decide_eq_false (by omega)
              go_wp2
              go_roundw
              case rel => exact ⟨i + 1, by omega, by go_num, by simp⟩
              case measure => simp [intOf]; omega
          · obtain rfl : i = k := by omega
            go_wp2
            go_ret
            exact ⟨rfl, HB4.out⟩
end Go.Proofs.Ytchiajedajabnaa
