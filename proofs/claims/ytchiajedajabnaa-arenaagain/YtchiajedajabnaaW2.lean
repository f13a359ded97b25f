/-
  The walk of the law ArenaAgain.
-/
import Derived.Test.YtchiajedajabnaaJ
namespace Go.Proofs.Ytchiajedajabnaa
open Go.ChangeShapes Go.WideShapes Go.ChangeAt Go.RowKit Go.Maps
set_option linter.unusedVariables false
set_option linter.unusedSimpArgs false
theorem heap_two (w : World) (o : Obj) (cs : Array Value) (t : TypeId) : ((w.alloc o).alloc (.cells cs t)).heap[w.heap.size + 1]? = some (.cells cs t (0, 0)) := by
  rw [show w.heap.size + 1 = (w.alloc o).heap.size by simp]
  first | exact heap_alloc_new _ _ | exact _root_.Go.heap_alloc_new _ _
set_option maxHeartbeats 8000000 in
theorem arenaAgain_walk (a b : Int) (w : World) (ha : wfI a) (hb : wfI b) : Calls Try.prog 5 #[.int .i64 a, .int .i64 b] w fun e w' => e = .returned (.bool true) ∧ Below w.heap.size w w' := by
  obtain ⟨x, hx, hP⟩ := picked_const a 20 20 rfl ha (by omega) (by omega)
  obtain ⟨p, hp, hP2⟩ := picked_const b (1 + (x : Int)) (1 + x) (by omega) hb (by omega) (by omega)
  have HP : Hid (∀ W, Calls Try.prog 12 #[.int .i64 a, .int .i64 20] W fun e w' => e = .returned (.int .i64 x) ∧ w' = W) := hP
  have HP2 : Hid (∀ W, Calls Try.prog 12 #[.int .i64 b, .int .i64 (1 + (x : Int))] W fun e w' => e = .returned (.int .i64 p) ∧ w' = W) := hP2
  obtain ⟨i0, a1, a2, a3, a4⟩ := info_parts info37
  have HI : Hid (Try.prog.info? 37 = some i0 ∧ i0.zero = some (.agg #[.int .i64 0, .int .i64 0, .int .i64 0, .int .i64 0]) ∧ i0.size = 4 ∧ i0.bytes = 32) := ⟨a1, a2, a3, a4⟩
  clear ha hb hP hP2 a1 a2 a3 a4
  go_enter Try.func5, Try.ntmps5
  go_wp2_with fail
  refine (HP.out _).mono ?_
  rintro e w ⟨rfl, rfl⟩
  go_wp2_with fail
  refine (HP2.out _).mono ?_
  rintro e w ⟨rfl, rfl⟩
  go_wp2_with fail
  go_loopw [7, 8] (fun y i wr => ∃ k : Nat, k ≤ 1 + x ∧ i = .int .i64 k ∧ wr.ownsRow w.heap.size 37 4 y (upto k).length ((upto k).flatMap enc4) ∧ Below w.heap.size w wr) (fun _ i _ => 1 + x + 1 - (intOf i).toNat)
  case atStart => exact ⟨0, by omega, rfl, by simpa [upto] using World.ownsRow_nil w w.heap.size 37 4, Below.refl _ _⟩
  case round =>
    obtain ⟨k, hk, rfl, hrow, hB⟩ := hrel
    by_cases hlt : k < 1 + x
    · have i2 : (k : Int) < 1 + (x : Int) := by omega
      have HROW : Hid (wr.ownsRow w.heap.size 37 4 u7 (upto k).length ((upto k).flatMap enc4)) := hrow
      have HB : Hid (Below w.heap.size w wr) := hB
      clear hrow hB
      go_wp2_with (at_builtin; refine wpList_append_own_at _ (by rfl) _ _ 22 (by rfl) w.heap.size 37 i0 (.agg #[.int .i64 0, .int .i64 0, .int .i64 0, .int .i64 0]) 4 32 Try.underlying22 HI.out.1 HI.out.2.1 HI.out.2.2.1 HI.out.2.2.2 rfl (by omega) u7 _ _ (by rfl) (HROW.out.alloc _) ⟨wr.heap.size, 0, none⟩ 1 1 (enc4 (1, (k : Int) + 1, 0, 0)) (by rfl) (by rfl) (World.news_of_block (heap_alloc_new _ _)) (by simp [enc4, Value.oneCell']) (by rw [upto_len]; unfold maxLen; omega) (by rw [upto_len]; omega) (by simp; have := HB.out.size; omega) ?_; intro x' w3 hown3 hg3 hnil3 hat3)
      go_roundw
      case rel =>
        refine ⟨k + 1, by omega, by go_num, ?_, grow_row HB.out hg3 HROW.out⟩
        rw [upto_succ, flat4_snoc, List.length_append]; exact hown3
      case measure => simp [intOf]; omega
    · obtain rfl : k = 1 + x := by omega
      obtain ⟨m, hm⟩ : ∃ m, 1 + x = m := ⟨_, rfl⟩
      rw [hm] at hrow
      have hm2 : 1 + (x : Int) = (m : Int) := by omega
      have HROW : Hid (wr.ownsRow w.heap.size 37 4 u7 (upto m).length ((upto m).flatMap enc4)) := hrow
      have HB : Hid (Below w.heap.size w wr) := hB
      have HPM : Hid (p < m ∧ m ≤ 20) := ⟨by omega, by omega⟩
      clear hrow hB hk hlt
      go_wp2_with (first
        | (at_builtin; go_loud (refine wpList_append_own_at _ (by rfl) _ _ 22 (by rfl) w.heap.size 37 i0 (.agg #[.int .i64 0, .int .i64 0, .int .i64 0, .int .i64 0]) 4 32 Try.underlying22 HI.out.1 HI.out.2.1 HI.out.2.2.1 HI.out.2.2.2 rfl (by omega) u7 _ _ (by rfl) ((HROW.out.alloc _).alloc _) ⟨wr.heap.size + 1, 0, none⟩ 4 4 (enc4 (3, 0, (p : Int), 1) ++ (enc4 (2, 0, (p : Int), 1) ++ (enc4 (1, 99, 0, 0) ++ enc4 (2, 0, (p : Int), 1)))) (by rfl) (by rfl) (World.news_of_block (heap_two _ _ _ _)) (by simp [enc4, Value.oneCell']) (by rw [upto_len]; unfold maxLen; omega) (by rw [upto_len]; omega) (by simp; have := HB.out.size; omega) ?_); intro x' w3 hown3 hg3 hnil3 hat3))
      have hown4 : w3.ownsRow w.heap.size 37 4 x' (upto m ++ [(3, 0, (p : Int), 1), (2, 0, (p : Int), 1), (1, 99, 0, 0), (2, 0, (p : Int), 1)]).length ((upto m ++ [(3, 0, (p : Int), 1), (2, 0, (p : Int), 1), (1, 99, 0, 0), (2, 0, (p : Int), 1)]).flatMap enc4) := by
        rw [List.length_append, List.flatMap_append]; exact hown3
      have HB3 : Hid (Below w.heap.size w w3) := by
        have hs := HB.out.size
        exact ((HB.out.alloc (by omega) _).alloc (by simp; omega) _).grown hg3 (by simp; omega) (fun k hk => (HROW.out.lt k hk).1)
      clear hown3 hg3 hnil3 hat3
      refine (play_any x' _ _ (jobs_own hown4) (by rw [List.length_append, upto_len]; simp; have := HPM.out; omega)).mono ?_
      rw [again_end m p HPM.out.1 (by have := HPM.out.2; omega)]
      rintro e w4 ⟨u, rfl, hF, hB4⟩
      have hpl : (play s0 (upto m)).length = m := by rw [play_len, upto_len]
      have hl : (play s0 (upto m) ++ [(0, (p : Int) + 1, 0, 0), (17, 0, 0, 0), (0, 0, (p : Int), 2), (17, 0, 0, 0)]).length = m + 4 := by rw [List.length_append, hpl]; rfl
      obtain ⟨g, cap, rfl, hc⟩ := hF.form (by omega)
      have at' : ∀ i, i < 4 → (play s0 (upto m) ++ [(0, (p : Int) + 1, 0, 0), (17, 0, 0, 0), (0, 0, (p : Int), 2), (17, 0, 0, 0)])[m + i]? = ([(0, (p : Int) + 1, 0, 0), (17, 0, 0, 0), (0, 0, (p : Int), 2), (17, 0, 0, 0)] : List Q4)[i]? := fun i hi => by
        rw [List.getElem?_append_right (by omega), hpl, Nat.add_sub_cancel_left]
      have c1 := (hc _ _ (at' 0 (by omega))).2.1
      have c2 := (hc _ _ (at' 1 (by omega))).1
      obtain ⟨_, _, c3, c4⟩ := hc _ _ (at' 2 (by omega))
      have c5 := (hc _ _ (at' 3 (by omega))).1
      dsimp only [Nat.add_zero] at c1 c2 c3 c4 c5
      have HB4 : Hid (Below w.heap.size w w4) := HB3.out.trans (hB4.mono HB3.out.size)
      rw [hl]
      clear hc hF hB4 hown4 hl at' hpl
      have i1 : (0 : Int) ≤ (m : Int) := by omega
      have i2 : (m : Int) < (m : Int) + 4 := by omega
      have i3 : (m : Int) + 1 < (m : Int) + 4 := by omega
      have i4 : (m : Int) + 2 < (m : Int) + 4 := by omega
      have i5 : (m : Int) + 3 < (m : Int) + 4 := by omega
      have i6 : (m : Int) ≤ 20 := by have := HPM.out; omega
      have i7 : (p : Int) ≤ 20 := by have := HPM.out; omega
      clear hp hx hm hm2
      go_wp2
      go_ret
      exact ⟨rfl, HB4.out⟩
end Go.Proofs.Ytchiajedajabnaa
