/-
  The walk of the law ArenaCount.
-/
import Derived.Test.YtchiajedajabnaaCt
namespace Go.Proofs.Ytchiajedajabnaa
open Go.ChangeShapes Go.WideShapes Go.ChangeAt Go.RowKit
set_option linter.unusedVariables false
set_option linter.unusedSimpArgs false
theorem JobsAt.form {w : World} {v : Value} {fs : List Q4} (h : JobsAt w v fs) (h0 : 0 < fs.length) : ∃ g off cap, v = .slice (some ⟨g, off, none⟩) fs.length cap ∧ ∀ j q, fs[j]? = some q → w.cell? ⟨g, off + j * 4, none⟩ = some (.int .i64 q.1) ∧ w.cell? ⟨g, off + j * 4 + 1, none⟩ = some (.int .i64 q.2.1) ∧ w.cell? ⟨g, off + j * 4 + 2, none⟩ = some (.int .i64 q.2.2.1) ∧ w.cell? ⟨g, off + j * 4 + 3, none⟩ = some (.int .i64 q.2.2.2) := by
  obtain ⟨p, cap, h1, h2⟩ := h
  obtain ⟨g, off, rfl, h4⟩ := h2 h0
  refine ⟨g, off, cap, h1, fun j q hq => ?_⟩
  obtain ⟨hj, rfl⟩ := List.getElem?_eq_some_iff.1 hq
  exact (h4 j hj).2
set_option maxHeartbeats 8000000 in
theorem arenaCount_walk (v : Value) (al : List Q4) (w : World) (hv : JobsAt w v al) (hwf : ∀ x, x ∈ al → wf4 x) (hml : al.length ≤ maxLen) :
    Calls Try.prog 7 #[v] w fun e w' => e = .returned (.bool true) ∧ Below w.heap.size w w' := by
  obtain ⟨i0, a1, a2, a3, a4⟩ := info_parts info37
  have HI : Hid (Try.prog.info? 37 = some i0 ∧ i0.zero = some (.agg #[.int .i64 0, .int .i64 0, .int .i64 0, .int .i64 0]) ∧ i0.size = 4 ∧ i0.bytes = 32) := ⟨a1, a2, a3, a4⟩
  have HV : Hid (JobsAt w v al ∧ (∀ x, x ∈ al → wf4 x) ∧ al.length ≤ maxLen) := ⟨hv, hwf, hml⟩
  clear hv hwf hml a1 a2 a3 a4
  go_enter Try.func7, Try.ntmps7
  go_wp2_with fail
  refine (jobs_any v al _ HV.out.1 HV.out.2.1 HV.out.2.2).mono ?_
  rintro e w1 ⟨u, ds, rfl, hrow, hlen, hok, hB⟩
  obtain ⟨pu, cu, rfl⟩ := own_shape hrow
  have HROW : Hid (w1.ownsRow w.heap.size 37 4 (.slice pu ds.length cu) ds.length (ds.flatMap enc4)) := hrow
  have HB : Hid (Below w.heap.size w w1) := hB
  clear hrow hok hB HV
  go_wp2_with (first
    | (at_builtin; refine wpList_append_own_at _ (by rfl) _ _ 22 (by rfl) w.heap.size 37 i0 (.agg #[.int .i64 0, .int .i64 0, .int .i64 0, .int .i64 0]) 4 32 Try.underlying22 HI.out.1 HI.out.2.1 HI.out.2.2.1 HI.out.2.2.2 rfl (by omega) (.slice pu ds.length cu) _ _ (by rfl) (HROW.out.alloc _) ⟨w1.heap.size, 0, none⟩ 2 2 (enc4 (1, 1, 0, 0) ++ enc4 (4, 0, 0, 0)) (by rfl) (by rfl) (World.news_of_block (heap_alloc_new _ _)) (by simp [enc4, Value.oneCell']) (by unfold maxLen; omega) (by omega) (by simp; have := HB.out.size; omega) ?_; intro x' w3 hown3 hg3 hnil3 hat3))
  obtain ⟨js, hjs⟩ : ∃ js, js = ds ++ [(1, 1, 0, 0), (4, 0, 0, 0)] := ⟨_, rfl⟩
  have hown4 : w3.ownsRow w.heap.size 37 4 x' js.length (js.flatMap enc4) := by
    rw [hjs, List.length_append, List.flatMap_append]; exact hown3
  have HB3 : Hid (Below w.heap.size w w3) := grow_row HB.out hg3 HROW.out
  have hjl : js.length = ds.length + 2 := by rw [hjs, List.length_append]; rfl
  obtain ⟨N, hN⟩ : ∃ N, ds.length = N := ⟨_, rfl⟩
  have ce := count_end ds
  rw [← hjs, hN] at ce
  obtain ⟨ce1, ce2⟩ := ce
  rw [hN] at hlen hjl
  clear hown3 hg3 hnil3 hat3 HROW HB hjs
  refine (play_any x' js _ (jobs_own hown4) (by omega)).mono ?_
  rintro e w4 ⟨u, rfl, hF, hB4⟩
  have hl : (play s0 js).length = N + 2 := by rw [play_len, hjl]
  obtain ⟨g, cap, rfl, hc⟩ := hF.form (by omega)
  obtain ⟨gj, off, capj, rfl, hj⟩ := ((jobs_own hown4).below hB4).form (by omega)
  have c1 := (hc _ _ ce2).2.1
  dsimp only at c1
  have HB4 : Hid (Below w.heap.size w w4) := HB3.out.trans (hB4.mono HB3.out.size)
  have HC : Hid (∀ k (hk : k < js.length), ∃ c : Int, w4.cell? ⟨g, k * 4, none⟩ = some (.int .i64 c) ∧ w4.cell? ⟨gj, off + k * 4, none⟩ = some (.int .i64 js[k].1) ∧ c = (step (after s0 (js.take k)) js[k]).1.1) := fun k hk => by
    refine ⟨_, (hc _ _ (play_at s0 js k hk)).1, (hj _ _ (List.getElem?_eq_getElem hk)).1, rfl⟩
  have HBD : Hid (∀ k, -100 ≤ (after s0 (js.take k)).live ∧ (after s0 (js.take k)).live ≤ 100) := after_bd (by omega)
  have HJL : Hid (js.length = N + 2) := hjl
  have HCE : Hid (0 < (after s0 js).live) := ce1
  obtain ⟨M, hM⟩ : ∃ M, (after s0 js).live = M := ⟨_, rfl⟩
  have HM : Hid ((after s0 js).live = M) := hM
  rw [hM] at c1 ce1
  rw [hl, hjl]
  clear hc hF hB4 hown4 hl hj hjl ce2 hM hN
  go_wp2
  go_loopw [6, 7] (fun x i wr => ∃ k : Nat, k ≤ N + 2 ∧ i = .int .i64 k ∧ x = .int .i64 (after s0 (js.take k)).live ∧ wr = w4) (fun _ i _ => N + 2 + 1 - (intOf i).toNat)
  case atStart => exact ⟨0, by omega, rfl, rfl, rfl⟩
  case round =>
    obtain ⟨k, hk, rfl, rfl, rfl⟩ := hrel
    by_cases hlt : k < N + 2
    · have hkj : k < js.length := by have := HJL.out; omega
      obtain ⟨c, d1, d2, d3⟩ := HC.out k hkj
      have hst := step_live (after s0 (js.take k)) js[k]
      rw [← after_step s0 js k hkj, ← d3] at hst
      have hb1 := HBD.out k
      have hb2 := HBD.out (k + 1)
      obtain ⟨x, hx⟩ : ∃ x, js[k].1 = x := ⟨_, rfl⟩
      rw [hx] at d2 hst
      obtain ⟨L, hL⟩ : ∃ L, (after s0 (js.take k)).live = L := ⟨_, rfl⟩
      rw [hL] at hst hb1 ⊢
      have HST : Hid ((after s0 (js.take (k + 1))).live = L + (if x = 1 ∧ c = 0 then 1 else 0) - (if x = 3 ∧ c = 0 then 1 else 0)) := hst
      have j1 : (0 : Int) ≤ (k : Int) := by omega
      have j2 : (k : Int) < ((N + 2 : Nat) : Int) := by omega
      have j3 : (k : Int) < (N : Int) + 2 := by omega
      obtain ⟨l1, l2⟩ := hb1
      clear d3 hx hL hst hb2
      rcases (by omega : (x = 1 ∧ c = 0) ∨ (x = 1 ∧ c ≠ 0) ∨ (x = 3 ∧ c = 0) ∨ (x = 3 ∧ c ≠ 0) ∨ (x ≠ 1 ∧ x ≠ 3)) with ⟨rfl, rfl⟩ | ⟨rfl, hc⟩ | ⟨rfl, rfl⟩ | ⟨rfl, hc⟩ | ⟨hx1, hx3⟩
      · go_wp2
        go_roundw
        case rel =>
          refine ⟨k + 1, by omega, by go_num, ?_, by simp⟩
          rw [HST.out]; simp
        case measure => simp [intOf]; omega
      · have q : (c == 0) = false := by simpa using hc
        go_wp2
        go_roundw
        case rel =>
          refine ⟨k + 1, by omega, by go_num, ?_, by simp⟩
          rw [HST.out]; simp [hc]
        case measure => simp [intOf]; omega
      · go_wp2
        go_roundw
        case rel =>
          refine ⟨k + 1, by omega, by go_num, ?_, by simp⟩
          rw [HST.out]; simp
        case measure => simp [intOf]; omega
      · have q : (c == 0) = false := by simpa using hc
        go_wp2
        go_roundw
        case rel =>
          refine ⟨k + 1, by omega, by go_num, ?_, by simp⟩
          rw [HST.out]; simp [hc]
        case measure => simp [intOf]; omega
      · have q1 : (x == 1) = false := by simpa using hx1
        have q3 : (x == 3) = false := by simpa using hx3
        go_wp2
        go_roundw
        case rel =>
          refine ⟨k + 1, by omega, by go_num, ?_, by simp⟩
          rw [HST.out]; simp [hx1, hx3]
        case measure => simp [intOf]; omega
    · obtain rfl : k = N + 2 := by omega
      have e : (after s0 (js.take (N + 2))).live = M := by
        rw [← HJL.out, List.take_length]; exact HM.out
      rw [e]
      have j1 : (0 : Int) ≤ (N : Int) + 1 := by omega
      have j2 : (N : Int) + 1 < (N : Int) + 2 := by omega
      have j4 : (N : Int) ≤ 80 := by omega
      have j5 : IntKind.i64.wrap ((N : Int) + 2 - 1) = (N : Int) + 1 := by simp [IntKind.wrap, IntKind.bits, IntKind.signed]; omega
      clear e hk hlt
      go_wp2
      go_ret
      exact ⟨rfl, HB4.out⟩
end Go.Proofs.Ytchiajedajabnaa
