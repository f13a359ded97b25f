/-
  A crash leaves what was synced, and just so many bytes more: CrashJust.
-/
import Derived.Test.YtepgkemnpcadiabTt
namespace Go.Proofs.Ytepgkemnpcadiab
open Go.ChangeShapes Go.WideShapes Go.ChangeAt Go.RowKit Go.Maps
set_option linter.unusedVariables false
set_option linter.unusedSimpArgs false
set_option maxRecDepth 20000
theorem notes_ok (ds : List Rw) : (∀ a ∈ (ds.take 24).map noteA, ach a = 0) ∧ ((ds.take 24).map noteA).length ≤ 24 := by
  refine ⟨fun a ha => ?_, by rw [List.length_map, List.length_take]; omega⟩
  obtain ⟨d, _, rfl⟩ := List.mem_map.1 ha
  exact note_ok d
theorem tcr_fits {l : List UInt8} {s k : Int} (h : l.length ≤ 100000) (hs : 0 ≤ s ∧ s ≤ l.length) : tcr l s k = if k < 0 then ([], 0, 2) else (l.take (tcrN l s k), (tcrN l s k : Int), 0) := by
  unfold tcr
  rw [if_pos (by unfold tmay; simp; omega)]
set_option maxHeartbeats 16000000 in
theorem crashJust_walk (ds : List Rw) (v : Value) (at_ keep : Int) (w : World) (hv : DsAt w v ds) (hok : ∀ x ∈ ds, x.ok) (ha : wfI at_) (hk : wfI keep) :
    Calls Try.prog 5 #[v, .int .i64 at_, .int .i64 keep] w fun e w' => e = .returned (.bool true) ∧ Below w.heap.size w w' := by
  have HV := hid hv
  have HNT := hid (notes_any ds v w hv hok)
  obtain ⟨h1, h2⟩ := notes_ok ds
  obtain ⟨La, hLa⟩ : ∃ La, (ds.take 24).map noteA = La := ⟨_, rfl⟩
  rw [hLa] at h1 h2 HNT
  have HTP := hid (fun W v B (h : AO W B v La) => taped_any La v B W h h1 h2)
  have hlen := tpd_len La h1
  obtain ⟨l, hl⟩ : ∃ l, tpd La = l := ⟨_, rfl⟩
  rw [hl] at HTP hlen
  obtain ⟨N, hN⟩ : ∃ N, l.length = N := ⟨_, rfl⟩
  rw [hN] at hlen
  have hN2 : N ≤ 72072 := by omega
  have HNN := hid hN
  have HPK := hid (fun W => picked_any keep 400 W hk.1 hk.2 (by decide) (by decide))
  have HPA := hid (fun W => picked_any at_ ((N : Int) + 1) W ha.1 ha.2 (by omega) (by omega))
  have hpk := pk_bd keep 400 (by decide)
  have hpa := pk_bd at_ ((N : Int) + 1) (by omega)
  obtain ⟨k, hk9⟩ : ∃ k, pk keep 400 = k := ⟨_, rfl⟩
  obtain ⟨s, hs9⟩ : ∃ s, pk at_ ((N : Int) + 1) = s := ⟨_, rfl⟩
  rw [hk9] at HPK hpk
  rw [hs9] at HPA hpa
  have HC1 := hid (fun W v (h : BA W v l) => tcrash_any l v s k W h (by unfold wfI; omega))
  have HC2 := hid (fun W v (h : BA W v l) => tcrash_any l v s (-1 - k) W h (by unfold wfI; omega))
  rw [tcr_fits (by omega) (by omega), if_neg (by omega)] at HC1
  rw [tcr_fits (by omega) (by omega), if_pos (by omega)] at HC2
  obtain ⟨E, hE⟩ : ∃ E, tcrN l s k = E := ⟨_, rfl⟩
  rw [hE] at HC1
  unfold tcrN at hE
  rw [hN] at hE
  have hEN : E ≤ N := by split at hE <;> omega
  have hEm : (if s + k ≤ (N : Int) then s + k else (N : Int)) = (E : Int) := by
    by_cases c : k ≤ (N : Int) - s
    · rw [if_pos c] at hE; rw [if_pos (by omega)]; omega
    · rw [if_neg c] at hE; rw [if_neg (by omega)]; omega
  have HEN := hid hEN
  have HEM := hid hEm
  have HLE : Hid ((l.take E).length = E) := by show _ = _; rw [List.length_take]; omega
  have hk0 : 0 ≤ k := hpk.1
  have hk4 : k < 400 := hpk.2
  have hs0 : 0 ≤ s := hpa.1
  have hsN : s ≤ (N : Int) := by omega
  have hN3 : (N : Int) ≤ 72072 := by omega
  unfold tpv at HTP HC1 HC2
  simp only at HC1 HC2
  clear hE hEm hEN hpk hpa hk9 hs9 hN hl hLa h1 h2 hlen hN2 ha hk hv hok
  obtain ⟨p0, n0, c0, hsh⟩ : ∃ p n c, v = .slice p n c := by obtain ⟨p, cap, h, _⟩ := HV.out; exact ⟨p, _, cap, h⟩
  subst hsh
  go_enter Try.func5, Try.ntmps5
  go_wp2_with fail
  refine (HNT.out).mono ?_
  rintro e w1 ⟨r1, rfl, hao, hb⟩
  obtain ⟨pr, nr, cr, hsh⟩ : ∃ p n c, r1 = .slice p n c := by obtain ⟨p, c, h⟩ := hao.shape; exact ⟨p, _, c, h⟩
  subst hsh
  have HAO := hid hao
  have HB1 := hid hb
  clear hao hb
  go_wp2_with fail
  refine (HTP.out _ _ _ HAO.out).mono ?_
  rintro e w2 ⟨v2, rfl, ho, hb⟩
  obtain ⟨p2, c2, hsh⟩ := ho.shape
  rw [HNN.out] at hsh
  subst hsh
  have HO2 := hid ho.ba
  have HB2 := hid (below_trans HB1.out hb HB1.out.size)
  clear ho hb
  have HB : Hid (Below w.heap.size w w2) := HB2.out
  go_upto_region 2 with ((with_reducible show wpList _ _ _ (Oper.mk _ (.store 27 _ _) _ _ _ _ :: _) _ _); refine wp_st (by rfl) 27 _ _ (by rfl) w2.heap.size 0 [.slice none 0 0, .int .i64 0] 27 (.agg #[.slice p2 N c2, .int .i64 0]) [.slice p2 N c2, .int .i64 0] (by rfl) (by rfl) (by rfl) (heap_alloc_new _ _) (by simp) (by kernel_rfl) (by rfl) ?_; intro w3 hq1 hq2; have HU3 := hid hq1; have HF3 := hid hq2; clear hq1 hq2)
  have HBn3 : Hid (Below w2.heap.size w2 w3) := below_fr ((Below.refl _ _).alloc (Nat.le_refl _) _) HF3.out (Nat.le_refl _)
  replace HB : Hid (Below w.heap.size w w3) := below_trans HB.out HBn3.out HB.out.size
  have HT7 : Hid (w3.heap[w2.heap.size]? = some (.cells #[.slice p2 N c2, .int .i64 0] 27 (0, 0))) := HU3.out
  clear HU3 HF3
  have x0 : w3.cell? ⟨w2.heap.size, 0, none⟩ = some (.slice p2 N c2) := by rw [cell_of_blk HT7.out]; rfl
  have x1 : w3.cell? ⟨w2.heap.size, 1, none⟩ = some (.int .i64 0) := by rw [cell_of_blk HT7.out]; rfl
  go_wp2_with fail
  refine (HPK.out _).mono ?_
  rintro e w3 ⟨rfl, rfl⟩
  go_wp2_with fail
  refine (HPA.out _).mono ?_
  rintro e w3 ⟨rfl, rfl⟩
  clear x0 x1
  go_upto_region 4 with ((with_reducible show wpList _ _ _ (Oper.mk _ (.store 3 _ _) _ _ _ _ :: _) _ _); refine wp_st (by rfl) 3 _ _ (by rfl) (w2.heap.size) 1 [.slice p2 N c2, .int .i64 0] 27 (.int .i64 s) [.int .i64 s] (by rfl) (by rfl) (by rfl) HT7.out (by simp) (by kernel_rfl) (by rfl) ?_; intro w4 hq1 hq2; have HU4 := hid hq1; have HF4 := hid hq2; clear hq1 hq2)
  have HB24 : Hid (Below w2.heap.size w2 w4) := below_fr HBn3.out HF4.out (Nat.le_refl _)
  have HS2 : Hid (w.heap.size ≤ w2.heap.size) := HB2.out.size
  replace HB : Hid (Below w.heap.size w w4) := below_fr HB.out HF4.out (by have := HS2.out; omega)
  replace HT7 : Hid (w4.heap[w2.heap.size]? = some (.cells #[.slice p2 N c2, .int .i64 s] 27 (0, 0))) := HU4.out
  clear HU4 HF4
  have HT : Hid (BA w4 (.slice p2 N c2) l) := BA.below (B := 0) HO2.out HB24.out
  have x0 : w4.cell? ⟨w2.heap.size, 0, none⟩ = some (.slice p2 N c2) := by rw [cell_of_blk HT7.out]; rfl
  have x1 : w4.cell? ⟨w2.heap.size, 1, none⟩ = some (.int .i64 s) := by rw [cell_of_blk HT7.out]; rfl
  go_wp2_with fail
  refine (HC1.out _ _ HT.out).mono ?_
  rintro e w5 ⟨v5, rfl, ho, hb⟩
  clear x0 x1
  obtain ⟨p5, c5, hsh⟩ := ho.shape
  rw [HLE.out] at hsh
  subst hsh
  have HO5 := hid ho.ba
  have HBh5 := hid hb
  clear ho hb
  replace HB : Hid (Below w.heap.size w w5) := below_trans HB.out HBh5.out HB.out.size
  replace HT7 : Hid (w5.heap[w2.heap.size]? = some (.cells #[.slice p2 N c2, .int .i64 s] 27 (0, 0))) := (HBh5.out.block _ (blk_lt HT7.out)).trans HT7.out
  replace HT : Hid (BA w5 (.slice p2 N c2) l) := BA.below (B := 0) HT.out HBh5.out
  have HU : Hid (BA w5 (.slice p5 E c5) (l.take E)) := HO5.out
  go_upto_region 5 with ((with_reducible show wpList _ _ _ (Oper.mk _ (.store 27 _ _) _ _ _ _ :: _) _ _); refine wp_st (by rfl) 27 _ _ (by rfl) w5.heap.size 0 [.slice none 0 0, .int .i64 0] 27 (.agg #[.slice p5 E c5, .int .i64 E]) [.slice p5 E c5, .int .i64 E] (by rfl) (by rfl) (by rfl) (heap_alloc_new _ _) (by simp) (by kernel_rfl) (by rfl) ?_; intro w6 hq1 hq2; have HU6 := hid hq1; have HF6 := hid hq2; clear hq1 hq2)
  have HBn6 : Hid (Below w5.heap.size w5 w6) := below_fr ((Below.refl _ _).alloc (Nat.le_refl _) _) HF6.out (Nat.le_refl _)
  replace HB : Hid (Below w.heap.size w w6) := below_trans HB.out HBn6.out HB.out.size
  replace HT7 : Hid (w6.heap[w2.heap.size]? = some (.cells #[.slice p2 N c2, .int .i64 s] 27 (0, 0))) := (HBn6.out.block _ (blk_lt HT7.out)).trans HT7.out
  replace HT : Hid (BA w6 (.slice p2 N c2) l) := BA.below (B := 0) HT.out HBn6.out
  replace HU : Hid (BA w6 (.slice p5 E c5) (l.take E)) := BA.below (B := 0) HU.out HBn6.out
  have HT10 : Hid (w6.heap[w5.heap.size]? = some (.cells #[.slice p5 E c5, .int .i64 E] 27 (0, 0))) := HU6.out
  clear HU6 HF6
  have x0 : w6.cell? ⟨w2.heap.size, 0, none⟩ = some (.slice p2 N c2) := by rw [cell_of_blk HT7.out]; rfl
  have x1 : w6.cell? ⟨w2.heap.size, 1, none⟩ = some (.int .i64 s) := by rw [cell_of_blk HT7.out]; rfl
  by_cases hsk : s + k ≤ (N : Int)
  · have HE1 : Hid (s + k = (E : Int)) := by have := HEM.out; rw [if_pos hsk] at this; exact this
    go_upto_region 6 with fail
    all_goals (try (exfalso; omega))
    rw [HE1.out]
    go_wp2_with fail
    refine (HC2.out _ _ HT.out).mono ?_
    rintro e w7 ⟨v7, rfl, ho, hb⟩
    clear x0 x1
    obtain ⟨p7, n7, c7, hsh⟩ := ho.shape3
    subst hsh
    have HBh7 := hid hb
    clear ho hb
    replace HB : Hid (Below w.heap.size w w7) := below_trans HB.out HBh7.out HB.out.size
    replace HT7 : Hid (w7.heap[w2.heap.size]? = some (.cells #[.slice p2 N c2, .int .i64 s] 27 (0, 0))) := (HBh7.out.block _ (blk_lt HT7.out)).trans HT7.out
    replace HT : Hid (BA w7 (.slice p2 N c2) l) := BA.below (B := 0) HT.out HBh7.out
    replace HU : Hid (BA w7 (.slice p5 E c5) (l.take E)) := BA.below (B := 0) HU.out HBh7.out
    replace HT10 : Hid (w7.heap[w5.heap.size]? = some (.cells #[.slice p5 E c5, .int .i64 E] 27 (0, 0))) := (HBh7.out.block _ (blk_lt HT10.out)).trans HT10.out
    go_upto_region 7 with ((with_reducible show wpList _ _ _ (Oper.mk _ (.store 27 _ _) _ _ _ _ :: _) _ _); refine wp_st (by rfl) 27 _ _ (by rfl) w7.heap.size 0 [.slice none 0 0, .int .i64 0] 27 (.agg #[.slice p7 n7 c7, .int .i64 0]) [.slice p7 n7 c7, .int .i64 0] (by rfl) (by rfl) (by rfl) (heap_alloc_new _ _) (by simp) (by kernel_rfl) (by rfl) ?_; intro w8 hq1 hq2; have HU8 := hid hq1; have HF8 := hid hq2; clear hq1 hq2)
    have HBn8 : Hid (Below w7.heap.size w7 w8) := below_fr ((Below.refl _ _).alloc (Nat.le_refl _) _) HF8.out (Nat.le_refl _)
    replace HB : Hid (Below w.heap.size w w8) := below_trans HB.out HBn8.out HB.out.size
    replace HT7 : Hid (w8.heap[w2.heap.size]? = some (.cells #[.slice p2 N c2, .int .i64 s] 27 (0, 0))) := (HBn8.out.block _ (blk_lt HT7.out)).trans HT7.out
    replace HT : Hid (BA w8 (.slice p2 N c2) l) := BA.below (B := 0) HT.out HBn8.out
    replace HU : Hid (BA w8 (.slice p5 E c5) (l.take E)) := BA.below (B := 0) HU.out HBn8.out
    replace HT10 : Hid (w8.heap[w5.heap.size]? = some (.cells #[.slice p5 E c5, .int .i64 E] 27 (0, 0))) := (HBn8.out.block _ (blk_lt HT10.out)).trans HT10.out
    have HT13 : Hid (w8.heap[w7.heap.size]? = some (.cells #[.slice p7 n7 c7, .int .i64 0] 27 (0, 0))) := HU8.out
    clear HU8 HF8
    have x0 : w8.cell? ⟨w2.heap.size, 0, none⟩ = some (.slice p2 N c2) := by rw [cell_of_blk HT7.out]; rfl
    have x1 : w8.cell? ⟨w2.heap.size, 1, none⟩ = some (.int .i64 s) := by rw [cell_of_blk HT7.out]; rfl
    have y0 : w8.cell? ⟨w5.heap.size, 0, none⟩ = some (.slice p5 E c5) := by rw [cell_of_blk HT10.out]; rfl
    have y1 : w8.cell? ⟨w5.heap.size, 1, none⟩ = some (.int .i64 E) := by rw [cell_of_blk HT10.out]; rfl
    have hq : ∀ j, Below w8.heap.size w8 (w8.drewN j) := fun j => ((Fr.refl (fun _ => False) w8).drewN j).below
    have hca := fun j => (HU.out.br.below (hq j)).conv
    have hc2 : (E : Int) ≤ (c2 : Int) := by obtain ⟨p9, c9, e, q1, _⟩ := HT.out; simp at e; have := HEN.out; have := e.2.1; omega
    have hcb := fun j => ((BA.take HT.out E c2 (by have := HEN.out; have := HNN.out; omega) (by omega) (Nat.le_refl _)).br.below (hq j)).conv
    clear hq
    go_quiet (fail)
    clear hca hcb
    go_wp2
    go_ret
    exact ⟨ret_bool (by simp), below_trans HB.out ((Fr.refl (fun _ => False) w8).drewN nq).below HB.out.size⟩
  · have HE1 : Hid ((N : Int) = (E : Int)) := by have := HEM.out; rw [if_neg hsk] at this; exact this
    have hskE : ¬ s + k ≤ (E : Int) := by have := HE1.out; omega
    go_upto_region 6 with fail
    all_goals (try (exfalso; omega))
    rw [HE1.out]
    go_wp2_with fail
    refine (HC2.out _ _ HT.out).mono ?_
    rintro e w7 ⟨v7, rfl, ho, hb⟩
    clear x0 x1
    obtain ⟨p7, n7, c7, hsh⟩ := ho.shape3
    subst hsh
    have HBh7 := hid hb
    clear ho hb
    replace HB : Hid (Below w.heap.size w w7) := below_trans HB.out HBh7.out HB.out.size
    replace HT7 : Hid (w7.heap[w2.heap.size]? = some (.cells #[.slice p2 N c2, .int .i64 s] 27 (0, 0))) := (HBh7.out.block _ (blk_lt HT7.out)).trans HT7.out
    replace HT : Hid (BA w7 (.slice p2 N c2) l) := BA.below (B := 0) HT.out HBh7.out
    replace HU : Hid (BA w7 (.slice p5 E c5) (l.take E)) := BA.below (B := 0) HU.out HBh7.out
    replace HT10 : Hid (w7.heap[w5.heap.size]? = some (.cells #[.slice p5 E c5, .int .i64 E] 27 (0, 0))) := (HBh7.out.block _ (blk_lt HT10.out)).trans HT10.out
    go_upto_region 7 with ((with_reducible show wpList _ _ _ (Oper.mk _ (.store 27 _ _) _ _ _ _ :: _) _ _); refine wp_st (by rfl) 27 _ _ (by rfl) w7.heap.size 0 [.slice none 0 0, .int .i64 0] 27 (.agg #[.slice p7 n7 c7, .int .i64 0]) [.slice p7 n7 c7, .int .i64 0] (by rfl) (by rfl) (by rfl) (heap_alloc_new _ _) (by simp) (by kernel_rfl) (by rfl) ?_; intro w8 hq1 hq2; have HU8 := hid hq1; have HF8 := hid hq2; clear hq1 hq2)
    have HBn8 : Hid (Below w7.heap.size w7 w8) := below_fr ((Below.refl _ _).alloc (Nat.le_refl _) _) HF8.out (Nat.le_refl _)
    replace HB : Hid (Below w.heap.size w w8) := below_trans HB.out HBn8.out HB.out.size
    replace HT7 : Hid (w8.heap[w2.heap.size]? = some (.cells #[.slice p2 N c2, .int .i64 s] 27 (0, 0))) := (HBn8.out.block _ (blk_lt HT7.out)).trans HT7.out
    replace HT : Hid (BA w8 (.slice p2 N c2) l) := BA.below (B := 0) HT.out HBn8.out
    replace HU : Hid (BA w8 (.slice p5 E c5) (l.take E)) := BA.below (B := 0) HU.out HBn8.out
    replace HT10 : Hid (w8.heap[w5.heap.size]? = some (.cells #[.slice p5 E c5, .int .i64 E] 27 (0, 0))) := (HBn8.out.block _ (blk_lt HT10.out)).trans HT10.out
    have HT13 : Hid (w8.heap[w7.heap.size]? = some (.cells #[.slice p7 n7 c7, .int .i64 0] 27 (0, 0))) := HU8.out
    clear HU8 HF8
    have x0 : w8.cell? ⟨w2.heap.size, 0, none⟩ = some (.slice p2 N c2) := by rw [cell_of_blk HT7.out]; rfl
    have x1 : w8.cell? ⟨w2.heap.size, 1, none⟩ = some (.int .i64 s) := by rw [cell_of_blk HT7.out]; rfl
    have y0 : w8.cell? ⟨w5.heap.size, 0, none⟩ = some (.slice p5 E c5) := by rw [cell_of_blk HT10.out]; rfl
    have y1 : w8.cell? ⟨w5.heap.size, 1, none⟩ = some (.int .i64 E) := by rw [cell_of_blk HT10.out]; rfl
    have hq : ∀ j, Below w8.heap.size w8 (w8.drewN j) := fun j => ((Fr.refl (fun _ => False) w8).drewN j).below
    have hca := fun j => (HU.out.br.below (hq j)).conv
    have hc2 : (E : Int) ≤ (c2 : Int) := by obtain ⟨p9, c9, e, q1, _⟩ := HT.out; simp at e; have := HEN.out; have := e.2.1; omega
    have hcb := fun j => ((BA.take HT.out E c2 (by have := HEN.out; have := HNN.out; omega) (by omega) (Nat.le_refl _)).br.below (hq j)).conv
    clear hq
    go_quiet (fail)
    clear hca hcb
    go_wp2
    go_ret
    exact ⟨ret_bool (by simp), below_trans HB.out ((Fr.refl (fun _ => False) w8).drewN nq).below HB.out.size⟩
end Go.Proofs.Ytepgkemnpcadiab
