/-
  The walk of Play.
-/
import Derived.Test.YtchiajedajabnaaH
namespace Go.Proofs.Ytchiajedajabnaa
open Go.ChangeShapes Go.WideShapes Go.ChangeAt Go.RowKit Go.Maps
set_option linter.unusedVariables false
set_option linter.unusedSimpArgs false
theorem pr_start {w w' : World} {js : List Q4} {n : Nat} (hr : w'.ownsRow (w.heap.size + 1) 39 4 (.slice (some ⟨w.heap.size + 1, 0, none⟩) n n) n (madeCells (Value.agg #[.int .i64 0, .int .i64 0, .int .i64 0, .int .i64 0]).cells (n * 4)).toList) (hg : (w.alloc (.cells #[.slice none 0 0, .slice none 0 0] 47)).grownBy w' none) :
    Pr w w' n js 0 (.slice none 0 0) (.slice none 0 0) (List.replicate n (0, 0, 0, 0)) := by
  have hb : (w.alloc (.cells #[.slice none 0 0, .slice none 0 0] 47)).heap[w.heap.size]? = some (.cells #[.slice none 0 0, .slice none 0 0] 47 (0, 0)) := by first | exact heap_alloc_new w _ | exact _root_.Go.heap_alloc_new w _
  have hb' : w'.heap[w.heap.size]? = some (.cells #[.slice none 0 0, .slice none 0 0] 47 (0, 0)) := (hg.block _ (by simp) (by simp)).trans hb
  have hs : w.heap.size + 2 ≤ w'.heap.size := by have : w.heap.size + 1 < w'.heap.size := (hr.lt _ rfl).2; omega
  have t : Turn (fun _ => False) w w' := ((Turn.refl _ _).alloc _).grown hg (fun k hk _ => by cases hk)
  refine ⟨⟨by omega, hs, ?_, ?_, fun j => frozen_of_row _ _ j _ 47 hb', by simpa [after, s0] using World.ownsRow_nil w' (w.heap.size + 2) 61 2, by simpa [after, s0] using World.ownsRow_nil w' (w.heap.size + 2) 3 1, Or.inl rfl⟩, by simp, fun i hi => absurd hi (by omega), ?_, t.below (Nat.le_refl _) (fun _ _ h => h)⟩
  · rw [cell_of_row _ _ _ _ 47 (0, 0) hb']; rfl
  · rw [cell_of_row _ _ _ _ 47 (0, 0) hb']; rfl
  · rw [← made4, List.length_replicate]; exact hr
set_option maxHeartbeats 4000000 in
theorem play_any (v : Value) (js : List Q4) (w : World) (hd : JobsAt w v js) (hl : js.length ≤ 2000) :
    Calls Try.prog 8 #[v] w fun e w' => ∃ u, e = .returned (.tuple #[u, .int .i64 0]) ∧ FoundsAt w' u (play s0 js) ∧ Below w.heap.size w w' := by
  obtain ⟨p, cap, rfl, hp⟩ := hd
  obtain ⟨n, hnl⟩ : ∃ n, js.length = n := ⟨_, rfl⟩
  have HP : Hid (0 < js.length → ∃ g off, p = some ⟨g, off, none⟩ ∧ ∀ j (hj : j < js.length), g < w.heap.size ∧ w.cell? ⟨g, off + j * 4, none⟩ = some (.int .i64 js[j].1) ∧ w.cell? ⟨g, off + j * 4 + 1, none⟩ = some (.int .i64 js[j].2.1) ∧ w.cell? ⟨g, off + j * 4 + 2, none⟩ = some (.int .i64 js[j].2.2.1) ∧ w.cell? ⟨g, off + j * 4 + 3, none⟩ = some (.int .i64 js[j].2.2.2)) := hp
  have HNL : Hid (js.length = n) := hnl
  have hl2 : decide ((2000 : Int) < (n : Int)) = false := by simp; omega
  have hn2000 : n ≤ 2000 := by omega
  obtain ⟨i1, a1, a2, a3, a4⟩ := info_parts info39
  have HI1 : Hid (Try.prog.info? 39 = some i1 ∧ i1.zero = some (.agg #[.int .i64 0, .int .i64 0, .int .i64 0, .int .i64 0]) ∧ i1.size = 4 ∧ i1.bytes = 32) := ⟨a1, a2, a3, a4⟩
  rw [hnl]
  clear hp hl hnl a1 a2 a3 a4
  go_enter Try.func8, Try.ntmps8
  go_wp2_with (at_make; go_loud (refine wpList_make_full _ rfl _ _ 23 rfl (w.heap.size + 1) 39 i1 (.agg #[.int .i64 0, .int .i64 0, .int .i64 0, .int .i64 0]) 4 Try.underlying23 HI1.out.1 HI1.out.2.1 HI1.out.2.2.1 .i64 .i64 (n : Int) (n : Int) n rfl rfl rfl rfl (by rw [HI1.out.2.2.2]; omega) (by unfold maxLen; omega) (by simp) ?_); intro w1 hr1 hg1; go_loud (have HR1 : Hid (w1.ownsRow (w.heap.size + 1) 39 4 (.slice (some ⟨w.heap.size + 1, 0, none⟩) n n) n (madeCells (Value.agg #[.int .i64 0, .int .i64 0, .int .i64 0, .int .i64 0]).cells (n * 4)).toList) := (by rw [show (w.alloc (.cells #[.slice none 0 0, .slice none 0 0] 47)).heap.size = w.heap.size + 1 by simp] at hr1; exact hr1)); clear hr1)
  have HPR : Hid (Pr w w1 n js 0 (.slice none 0 0) (.slice none 0 0) (List.replicate n (0, 0, 0, 0))) := pr_start HR1.out hg1
  clear HR1 hg1 HI1
  go_loopw [16] (fun i wr => ∃ k V F L, k ≤ n ∧ i = .int .i64 (k : Nat) ∧ Pr w wr n js k V F L) (fun i _ => n + 1 - (intOf i).toNat)
  case atStart => exact ⟨0, _, _, _, by omega, rfl, HPR.out⟩
  case round =>
    obtain ⟨k, V, F, L, hk, rfl, hL⟩ := hrel
    by_cases hlt : k < n
    · have hkd : k < js.length := by have := HNL.out; omega
      obtain ⟨g, off, hg, hc⟩ := HP.out (by omega)
      obtain ⟨hgs, c0, c1, c2, c3⟩ := hc k hkd
      subst hg
      obtain ⟨d, hdk⟩ : ∃ d, js[k] = d := ⟨_, rfl⟩
      rw [hdk] at c0 c1 c2 c3
      have b0 : wr.cell? ⟨g, off + k * 4, none⟩ = some (.int .i64 d.1) := (hL.below.cell (p := ⟨g, off + k * 4, none⟩) hgs).trans c0
      have b1 : wr.cell? ⟨g, off + k * 4 + 1, none⟩ = some (.int .i64 d.2.1) := (hL.below.cell (p := ⟨g, off + k * 4 + 1, none⟩) hgs).trans c1
      have b2 : wr.cell? ⟨g, off + k * 4 + 2, none⟩ = some (.int .i64 d.2.2.1) := (hL.below.cell (p := ⟨g, off + k * 4 + 2, none⟩) hgs).trans c2
      have b3 : wr.cell? ⟨g, off + k * 4 + 3, none⟩ = some (.int .i64 d.2.2.2) := (hL.below.cell (p := ⟨g, off + k * 4 + 3, none⟩) hgs).trans c3
      have i1 : (0 : Int) ≤ (k : Int) := by omega
      have i2 : (k : Int) < (n : Int) := by omega
      obtain ⟨q, S, hq⟩ : ∃ q S, step (after s0 (js.take k)) js[k] = (q, S) := ⟨_, _, rfl⟩
      have HQ : Hid (step (after s0 (js.take k)) js[k] = (q, S)) := hq
      rw [hdk] at hq
      have HQ2 : Hid (step (after s0 (js.take k)) (d.1, d.2.1, d.2.2.1, d.2.2.2) = (q, S)) := hq
      have HL : Hid (Pr w wr n js k V F L) := hL
      have HKD : Hid (k < js.length) := hkd
      have hai : Ai (after s0 (js.take k)) k := by
        have := Ai.none.after (js.take k)
        rw [List.length_take, Nat.min_eq_left (by omega), Nat.zero_add] at this
        exact this
      have HAI : Hid (Ai (after s0 (js.take k)) k) := hai
      have hws : w.heap.size + 2 ≤ wr.heap.size := hL.am.BS
      have n1 : wr.heap.size ≠ w.heap.size + 1 := by omega
      have n2 : wr.heap.size ≠ w.heap.size := by omega
      clear hc hL hdk c0 c1 c2 c3 hgs hq hai hws
      go_wp2_with fail
      have bW := below_new' wr (.cells #[.int .i64 d.1, .int .i64 d.2.1, .int .i64 d.2.2.1, .int .i64 d.2.2.2] 37)
      refine (do_any _ _ V F _ d.1 d.2.1 d.2.2.1 d.2.2.2 _ k (HL.out.am.below bW) HAI.out (by omega)).mono ?_
      rw [HQ2.out]
      unfold q4V
      rintro e w2 ⟨rfl, hA⟩
      obtain ⟨z, z0, z1, z2, z3, zf⟩ := HL.out.cells bW hA hlt
      have HA2 : Hid (After (w.heap.size + 2) w.heap.size S V F (wr.alloc (.cells #[.int .i64 d.1, .int .i64 d.2.1, .int .i64 d.2.2.1, .int .i64 d.2.2.2] 37)) w2) := hA
      clear hA bW
      go_wp2
      go_roundw
      case rel =>
        obtain ⟨V', F', L', h'⟩ := HL.out.step (below_new' wr (.cells #[.int .i64 d.1, .int .i64 d.2.1, .int .i64 d.2.2.1, .int .i64 d.2.2.2] 37)) HKD.out HNL.out HQ.out HA2.out
        exact ⟨k + 1, V', F', L', by omega, by go_num, h'⟩
      case measure => simp [intOf]; omega
    · obtain rfl : k = n := by omega
      have HD : Hid (FoundsAt wr (.slice (some ⟨w.heap.size + 1, 0, none⟩) k k) (play s0 js) ∧ Below w.heap.size w wr) := ⟨hL.done HNL.out, hL.below⟩
      clear hL
      go_wp2
      go_ret2
      exact ⟨_, rfl, HD.out⟩
end Go.Proofs.Ytchiajedajabnaa
