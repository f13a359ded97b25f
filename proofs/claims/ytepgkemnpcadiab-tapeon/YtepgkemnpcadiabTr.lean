/-
  Of a torn tape just the whole acts count: TapeTorn.
-/
import Derived.Test.YtepgkemnpcadiabBg
import Derived.Test.YtepgkemnpcadiabCj
namespace Go.Proofs.Ytepgkemnpcadiab
open Go.ChangeShapes Go.WideShapes Go.ChangeAt Go.RowKit Go.Maps
set_option linter.unusedVariables false
set_option linter.unusedSimpArgs false
set_option maxRecDepth 20000
theorem tpd_app (A B : List Ac) : tpd (A ++ B) = tpd A ++ tpd B := by
  unfold tpd
  rw [List.flatMap_append]
theorem tpd_take (La : List Ac) (j : Nat) : (tpd La).take (tpd (La.take j)).length = tpd (La.take j) := by
  have e : tpd La = tpd (La.take j) ++ tpd (La.drop j) := by rw [← tpd_app, List.take_append_drop]
  rw [e, List.take_left]
theorem trc_cut {La : List Ac} (h : ∀ a ∈ La, ach a = 0) (K : Nat) (s : Int) (hl : K ≤ 200000) (hK : K ≤ (tpd La).length) (hs : 0 ≤ s ∧ s ≤ K) :
    ∃ j, j ≤ La.length ∧ trc ((tpd La).take K) s = (La.take j, tpd (La.take j), (if s ≤ ((tpd (La.take j)).length : Int) then s else ((tpd (La.take j)).length : Int)), 0) ∧ (tpd (La.take j)).length ≤ K ∧ (j = La.length ↔ (tpd La).length ≤ K) := by
  obtain ⟨j, h1, h2, h3, h4⟩ := rcA_take La h K
  refine ⟨j, h1, ?_, h3, h4⟩
  have e : ((tpd La).take K).length = K := by rw [List.length_take]; omega
  unfold trc
  rw [if_pos (by unfold tmay; rw [e]; simp; omega), h2]
  simp only
  rw [List.take_take, Nat.min_eq_left h3, tpd_take]
theorem trc_all {La : List Ac} (h : ∀ a ∈ La, ach a = 0) (s : Int) (hl : (tpd La).length ≤ 200000) (hs : 0 ≤ s ∧ s ≤ (tpd La).length) : trc (tpd La) s = (La, tpd La, s, 0) := by
  unfold trc
  rw [if_pos (by unfold tmay; simp; omega), rcA_all h]
  simp only
  rw [List.take_length, if_pos hs.2]
theorem trc_none : trc [] 1 = ([], [], 0, 9) := by
  unfold trc
  rw [if_neg (by decide)]
set_option maxHeartbeats 16000000 in
theorem tapeTorn_walk (ds : List Rw) (v : Value) (at_ : Int) (w : World) (hv : DsAt w v ds) (hok : ∀ x ∈ ds, x.ok) (ha : wfI at_) :
    Calls Try.prog 3 #[v, .int .i64 at_] w fun e w' => e = .returned (.bool true) ∧ Below w.heap.size w w' := by
  have HV := hid hv
  have HNT := hid (notes_any ds v w hv hok)
  obtain ⟨h1, h2⟩ := notes_ok ds
  obtain ⟨La, hLa⟩ : ∃ La, (ds.take 24).map noteA = La := ⟨_, rfl⟩
  rw [hLa] at h1 h2 HNT
  have HTP := hid (fun W v B (h : AO W B v La) => taped_any La v B W h h1 h2)
  have hlen := tpd_len La h1
  obtain ⟨N, hN⟩ : ∃ N, (tpd La).length = N := ⟨_, rfl⟩
  rw [hN] at hlen
  have hN2 : N ≤ 72072 := by omega
  have HPA := hid (fun W => picked_any at_ ((N : Int) + 1) W ha.1 ha.2 (by omega) (by omega))
  have hpa := pk_bd at_ ((N : Int) + 1) (by omega)
  obtain ⟨K, hk9⟩ : ∃ K : Nat, pk at_ ((N : Int) + 1) = (K : Int) := ⟨_, (Int.toNat_of_nonneg hpa.1).symm⟩
  rw [hk9] at HPA hpa
  have hKN : K ≤ N := by omega
  obtain ⟨j, hj1, hj2, hj3, hj4⟩ := trc_cut h1 K 0 (by omega) (by omega) (by omega)
  have h1j : ∀ a ∈ La.take j, ach a = 0 := fun a ha => h1 a (List.mem_of_mem_take ha)
  have hj5 := trc_all h1j 0 (by omega) (by omega)
  rw [if_pos (by omega)] at hj2
  rw [hN] at hj4
  obtain ⟨l, hl⟩ : ∃ l, tpd La = l := ⟨_, rfl⟩
  obtain ⟨lu, hlu⟩ : ∃ lu, tpd (La.take j) = lu := ⟨_, rfl⟩
  rw [hl] at hN HTP hj2
  rw [hlu] at hj2 hj3 hj5
  obtain ⟨E, hE⟩ : ∃ E, lu.length = E := ⟨_, rfl⟩
  rw [hE] at hj3
  have HR1 := hid (fun W v (h : BA W v (l.take K)) => trec_any (l.take K) v 0 W h)
  rw [hj2] at HR1
  have HR2 := hid (fun W v (h : BA W v lu) => trec_any lu v 0 W h)
  rw [hj5] at HR2
  have HR3 := hid (fun W => trec_any [] (.slice none 0 0) 1 W (BO.nil W 0).ba)
  rw [trc_none] at HR3
  have HBG := hid (fun W v1 v2 B1 B2 x1 x2 => begins_any (La.take j) La v1 v2 B1 B2 W x1 x2 ⟨j, rfl⟩ (fun a ha => ach_few (h1j a ha)) (by rw [List.length_take]; omega))
  obtain ⟨M, hM⟩ : ∃ M, La.length = M := ⟨_, rfl⟩
  have HM := hid hM
  have HJ : Hid ((La.take j).length = j) := by show _ = _; rw [List.length_take]; omega
  have HE := hid hE
  have HNN := hid hN
  have HKN := hid hKN
  rw [hM] at hj4
  have HJ4 := hid hj4
  unfold tpv at HTP HR1 HR2 HR3
  simp only at HR1 HR2 HR3
  have hK0 : (0 : Int) ≤ (K : Int) := by omega
  have hEK : (E : Int) ≤ (K : Int) := by omega
  have hN3 : (N : Int) ≤ 72072 := by omega
  clear hj1 hj2 hj3 hj4 hj5 h1j hE hM hl hlu hN hKN hk9 hpa hN2 hlen h1 h2 hLa ha hok hv
  obtain ⟨p0, n0, c0, hsh⟩ : ∃ p n c, v = .slice p n c := by obtain ⟨p, cap, h, _⟩ := HV.out; exact ⟨p, _, cap, h⟩
  subst hsh
  go_enter Try.func3, Try.ntmps3
  go_wp2_with fail
  refine (HNT.out).mono ?_
  rintro e w1 ⟨r1, rfl, hao, hb⟩
  obtain ⟨pr, cr, hsh⟩ := hao.shape
  rw [HM.out] at hsh
  subst hsh
  have HAO := hid hao
  have HB1 := hid hb
  clear hao hb
  go_wp2_with fail
  refine (HTP.out _ _ _ HAO.out).mono ?_
  rintro e w2 ⟨v2, rfl, ho, hb⟩
  obtain ⟨p2, c2, hsh⟩ := ho.shape
  rw [HNN.out] at hsh
  subst hsh
  have HO2 := hid ho.ba
  have HB2 := hid (below_trans HB1.out hb HB1.out.size)
  have HB : Hid (Below w.heap.size w w2) := HB2.out
  have HAS : Hid (AO w2 w.heap.size (.slice pr M cr) La) := AO.below HAO.out hb
  clear ho hb HAO HB1
  have HT : Hid (BA w2 (.slice p2 N c2) l) := HO2.out
  go_upto_region 3 with ((with_reducible show wpList _ _ _ (Oper.mk _ (.store 27 _ _) _ _ _ _ :: _) _ _); refine wp_st (by rfl) 27 _ _ (by rfl) w2.heap.size 0 [.slice none 0 0, .int .i64 0] 27 (.agg #[.slice p2 N c2, .int .i64 0]) [.slice p2 N c2, .int .i64 0] (by rfl) (by rfl) (by rfl) (heap_alloc_new _ _) (by simp) (by kernel_rfl) (by rfl) ?_; intro w3 hq1 hq2; have HU3 := hid hq1; have HF3 := hid hq2; clear hq1 hq2)
  have HBn3 : Hid (Below w2.heap.size w2 w3) := below_fr ((Below.refl _ _).alloc (Nat.le_refl _) _) HF3.out (Nat.le_refl _)
  replace HB : Hid (Below w.heap.size w w3) := below_trans HB.out HBn3.out HB.out.size
  replace HAS : Hid (AO w3 w.heap.size (.slice pr M cr) La) := AO.below HAS.out HBn3.out
  replace HT : Hid (BA w3 (.slice p2 N c2) l) := BA.below (B := 0) HT.out HBn3.out
  have HT7 : Hid (w3.heap[w2.heap.size]? = some (.cells #[.slice p2 N c2, .int .i64 0] 27 (0, 0))) := HU3.out
  clear HU3 HF3
  have x0 : w3.cell? ⟨w2.heap.size, 0, none⟩ = some (.slice p2 N c2) := by rw [cell_of_blk HT7.out]; rfl
  have x1 : w3.cell? ⟨w2.heap.size, 1, none⟩ = some (.int .i64 0) := by rw [cell_of_blk HT7.out]; rfl
  go_wp2_with fail
  refine (HPA.out _).mono ?_
  rintro e w3 ⟨rfl, rfl⟩
  have hKc : (K : Int) ≤ (c2 : Int) := by obtain ⟨p9, c9, e, q1, _⟩ := HT.out; simp at e; have := HKN.out; have := e.2.1; omega
  have HTK : Hid (BA w3 (.slice p2 K K) (l.take K)) := BA.take HT.out K K (by have := HKN.out; have := HNN.out; omega) (by omega) (by omega)
  go_wp2_with fail
  refine (HR1.out _ _ HTK.out).mono ?_
  rintro e w5 ⟨r5, v5, rfl, hao, ho, hb⟩
  clear x0 x1
  obtain ⟨p5, c5, hsh⟩ := ho.shape
  rw [HE.out] at hsh
  subst hsh
  obtain ⟨pg, cg, hsh⟩ := hao.shape
  rw [HJ.out] at hsh
  subst hsh
  have HO5 := hid ho.ba
  have HA5 := hid hao
  have HBh5 := hid hb
  clear ho hb hao
  clear HTK
  replace HB : Hid (Below w.heap.size w w5) := below_trans HB.out HBh5.out HB.out.size
  replace HAS : Hid (AO w5 w.heap.size (.slice pr M cr) La) := AO.below HAS.out HBh5.out
  replace HT : Hid (BA w5 (.slice p2 N c2) l) := BA.below (B := 0) HT.out HBh5.out
  replace HT7 : Hid (w5.heap[w2.heap.size]? = some (.cells #[.slice p2 N c2, .int .i64 0] 27 (0, 0))) := (HBh5.out.block _ (blk_lt HT7.out)).trans HT7.out
  have HU : Hid (BA w5 (.slice p5 E c5) lu) := HO5.out
  have HG : Hid (AO w5 w3.heap.size (.slice pg j cg) (La.take j)) := HA5.out
  go_upto_region 5 with ((with_reducible show wpList _ _ _ (Oper.mk _ (.store 27 _ _) _ _ _ _ :: _) _ _); refine wp_st (by rfl) 27 _ _ (by rfl) w5.heap.size 0 [.slice none 0 0, .int .i64 0] 27 (.agg #[.slice p5 E c5, .int .i64 0]) [.slice p5 E c5, .int .i64 0] (by rfl) (by rfl) (by rfl) (heap_alloc_new _ _) (by simp) (by kernel_rfl) (by rfl) ?_; intro w6 hq1 hq2; have HU6 := hid hq1; have HF6 := hid hq2; clear hq1 hq2)
  have HBn6 : Hid (Below w5.heap.size w5 w6) := below_fr ((Below.refl _ _).alloc (Nat.le_refl _) _) HF6.out (Nat.le_refl _)
  replace HB : Hid (Below w.heap.size w w6) := below_trans HB.out HBn6.out HB.out.size
  replace HAS : Hid (AO w6 w.heap.size (.slice pr M cr) La) := AO.below HAS.out HBn6.out
  replace HT : Hid (BA w6 (.slice p2 N c2) l) := BA.below (B := 0) HT.out HBn6.out
  replace HT7 : Hid (w6.heap[w2.heap.size]? = some (.cells #[.slice p2 N c2, .int .i64 0] 27 (0, 0))) := (HBn6.out.block _ (blk_lt HT7.out)).trans HT7.out
  replace HU : Hid (BA w6 (.slice p5 E c5) lu) := BA.below (B := 0) HU.out HBn6.out
  replace HG : Hid (AO w6 w3.heap.size (.slice pg j cg) (La.take j)) := AO.below HG.out HBn6.out
  have HT10 : Hid (w6.heap[w5.heap.size]? = some (.cells #[.slice p5 E c5, .int .i64 0] 27 (0, 0))) := HU6.out
  clear HU6 HF6
  have y0 : w6.cell? ⟨w5.heap.size, 0, none⟩ = some (.slice p5 E c5) := by rw [cell_of_blk HT10.out]; rfl
  have y1 : w6.cell? ⟨w5.heap.size, 1, none⟩ = some (.int .i64 0) := by rw [cell_of_blk HT10.out]; rfl
  go_wp2_with fail
  refine (HR2.out _ _ HU.out).mono ?_
  rintro e w7 ⟨r7, v7, rfl, hao, ho, hb⟩
  clear y0 y1
  obtain ⟨p7, c7, hsh⟩ := ho.shape
  rw [HE.out] at hsh
  subst hsh
  obtain ⟨pa, ca, hsh⟩ := hao.shape
  rw [HJ.out] at hsh
  subst hsh
  have HO7 := hid ho.ba
  have HBh7 := hid hb
  clear ho hb hao
  replace HB : Hid (Below w.heap.size w w7) := below_trans HB.out HBh7.out HB.out.size
  replace HAS : Hid (AO w7 w.heap.size (.slice pr M cr) La) := AO.below HAS.out HBh7.out
  replace HT : Hid (BA w7 (.slice p2 N c2) l) := BA.below (B := 0) HT.out HBh7.out
  replace HT7 : Hid (w7.heap[w2.heap.size]? = some (.cells #[.slice p2 N c2, .int .i64 0] 27 (0, 0))) := (HBh7.out.block _ (blk_lt HT7.out)).trans HT7.out
  replace HU : Hid (BA w7 (.slice p5 E c5) lu) := BA.below (B := 0) HU.out HBh7.out
  replace HG : Hid (AO w7 w3.heap.size (.slice pg j cg) (La.take j)) := AO.below HG.out HBh7.out
  replace HT10 : Hid (w7.heap[w5.heap.size]? = some (.cells #[.slice p5 E c5, .int .i64 0] 27 (0, 0))) := (HBh7.out.block _ (blk_lt HT10.out)).trans HT10.out
  have HV7 : Hid (BA w7 (.slice p7 E c7) lu) := HO7.out
  go_upto_region 6 with ((with_reducible show wpList _ _ _ (Oper.mk _ (.store 27 _ _) _ _ _ _ :: _) _ _); refine wp_st (by rfl) 27 _ _ (by rfl) w7.heap.size 0 [.slice none 0 0, .int .i64 0] 27 (.agg #[.slice p7 E c7, .int .i64 0]) [.slice p7 E c7, .int .i64 0] (by rfl) (by rfl) (by rfl) (heap_alloc_new _ _) (by simp) (by kernel_rfl) (by rfl) ?_; intro w8 hq1 hq2; have HU8 := hid hq1; have HF8 := hid hq2; clear hq1 hq2)
  have HBn8 : Hid (Below w7.heap.size w7 w8) := below_fr ((Below.refl _ _).alloc (Nat.le_refl _) _) HF8.out (Nat.le_refl _)
  replace HB : Hid (Below w.heap.size w w8) := below_trans HB.out HBn8.out HB.out.size
  replace HAS : Hid (AO w8 w.heap.size (.slice pr M cr) La) := AO.below HAS.out HBn8.out
  replace HT : Hid (BA w8 (.slice p2 N c2) l) := BA.below (B := 0) HT.out HBn8.out
  replace HT7 : Hid (w8.heap[w2.heap.size]? = some (.cells #[.slice p2 N c2, .int .i64 0] 27 (0, 0))) := (HBn8.out.block _ (blk_lt HT7.out)).trans HT7.out
  replace HU : Hid (BA w8 (.slice p5 E c5) lu) := BA.below (B := 0) HU.out HBn8.out
  replace HG : Hid (AO w8 w3.heap.size (.slice pg j cg) (La.take j)) := AO.below HG.out HBn8.out
  replace HT10 : Hid (w8.heap[w5.heap.size]? = some (.cells #[.slice p5 E c5, .int .i64 0] 27 (0, 0))) := (HBn8.out.block _ (blk_lt HT10.out)).trans HT10.out
  replace HV7 : Hid (BA w8 (.slice p7 E c7) lu) := BA.below (B := 0) HV7.out HBn8.out
  have HT13 : Hid (w8.heap[w7.heap.size]? = some (.cells #[.slice p7 E c7, .int .i64 0] 27 (0, 0))) := HU8.out
  clear HU8 HF8
  go_wp2_with fail
  refine (HR3.out _).mono ?_
  rintro e w9 ⟨r9, v9, rfl, hao, ho, hb⟩
  obtain ⟨p9, n9, c9, hsh⟩ := ho.shape3
  subst hsh
  obtain ⟨pz, cz, hsh⟩ := hao.shape
  subst hsh
  have HBh9 := hid hb
  clear ho hb hao
  replace HB : Hid (Below w.heap.size w w9) := below_trans HB.out HBh9.out HB.out.size
  replace HAS : Hid (AO w9 w.heap.size (.slice pr M cr) La) := AO.below HAS.out HBh9.out
  replace HT : Hid (BA w9 (.slice p2 N c2) l) := BA.below (B := 0) HT.out HBh9.out
  replace HT7 : Hid (w9.heap[w2.heap.size]? = some (.cells #[.slice p2 N c2, .int .i64 0] 27 (0, 0))) := (HBh9.out.block _ (blk_lt HT7.out)).trans HT7.out
  replace HU : Hid (BA w9 (.slice p5 E c5) lu) := BA.below (B := 0) HU.out HBh9.out
  replace HG : Hid (AO w9 w3.heap.size (.slice pg j cg) (La.take j)) := AO.below HG.out HBh9.out
  replace HT10 : Hid (w9.heap[w5.heap.size]? = some (.cells #[.slice p5 E c5, .int .i64 0] 27 (0, 0))) := (HBh9.out.block _ (blk_lt HT10.out)).trans HT10.out
  replace HV7 : Hid (BA w9 (.slice p7 E c7) lu) := BA.below (B := 0) HV7.out HBh9.out
  replace HT13 : Hid (w9.heap[w7.heap.size]? = some (.cells #[.slice p7 E c7, .int .i64 0] 27 (0, 0))) := (HBh9.out.block _ (blk_lt HT13.out)).trans HT13.out
  go_upto_region 7 with ((with_reducible show wpList _ _ _ (Oper.mk _ (.store 27 _ _) _ _ _ _ :: _) _ _); refine wp_st (by rfl) 27 _ _ (by rfl) w9.heap.size 0 [.slice none 0 0, .int .i64 0] 27 (.agg #[.slice p9 n9 c9, .int .i64 0]) [.slice p9 n9 c9, .int .i64 0] (by rfl) (by rfl) (by rfl) (heap_alloc_new _ _) (by simp) (by kernel_rfl) (by rfl) ?_; intro wa hq1 hq2; have HUa := hid hq1; have HFa := hid hq2; clear hq1 hq2)
  have HBna : Hid (Below w9.heap.size w9 wa) := below_fr ((Below.refl _ _).alloc (Nat.le_refl _) _) HFa.out (Nat.le_refl _)
  replace HB : Hid (Below w.heap.size w wa) := below_trans HB.out HBna.out HB.out.size
  replace HAS : Hid (AO wa w.heap.size (.slice pr M cr) La) := AO.below HAS.out HBna.out
  replace HT : Hid (BA wa (.slice p2 N c2) l) := BA.below (B := 0) HT.out HBna.out
  replace HT7 : Hid (wa.heap[w2.heap.size]? = some (.cells #[.slice p2 N c2, .int .i64 0] 27 (0, 0))) := (HBna.out.block _ (blk_lt HT7.out)).trans HT7.out
  replace HU : Hid (BA wa (.slice p5 E c5) lu) := BA.below (B := 0) HU.out HBna.out
  replace HG : Hid (AO wa w3.heap.size (.slice pg j cg) (La.take j)) := AO.below HG.out HBna.out
  replace HT10 : Hid (wa.heap[w5.heap.size]? = some (.cells #[.slice p5 E c5, .int .i64 0] 27 (0, 0))) := (HBna.out.block _ (blk_lt HT10.out)).trans HT10.out
  replace HV7 : Hid (BA wa (.slice p7 E c7) lu) := BA.below (B := 0) HV7.out HBna.out
  replace HT13 : Hid (wa.heap[w7.heap.size]? = some (.cells #[.slice p7 E c7, .int .i64 0] 27 (0, 0))) := (HBna.out.block _ (blk_lt HT13.out)).trans HT13.out
  have HT16 : Hid (wa.heap[w9.heap.size]? = some (.cells #[.slice p9 n9 c9, .int .i64 0] 27 (0, 0))) := HUa.out
  clear HUa HFa
  have x0 : wa.cell? ⟨w2.heap.size, 0, none⟩ = some (.slice p2 N c2) := by rw [cell_of_blk HT7.out]; rfl
  have x1 : wa.cell? ⟨w2.heap.size, 1, none⟩ = some (.int .i64 0) := by rw [cell_of_blk HT7.out]; rfl
  have y0 : wa.cell? ⟨w5.heap.size, 0, none⟩ = some (.slice p5 E c5) := by rw [cell_of_blk HT10.out]; rfl
  have y1 : wa.cell? ⟨w5.heap.size, 1, none⟩ = some (.int .i64 0) := by rw [cell_of_blk HT10.out]; rfl
  have z0 : wa.cell? ⟨w7.heap.size, 0, none⟩ = some (.slice p7 E c7) := by rw [cell_of_blk HT13.out]; rfl
  have z1 : wa.cell? ⟨w7.heap.size, 1, none⟩ = some (.int .i64 0) := by rw [cell_of_blk HT13.out]; rfl
  go_wp2_with fail
  refine (HBG.out _ _ _ _ _ HG.out HAS.out).mono ?_
  rintro e wb ⟨rfl, hb⟩
  clear x0 x1 y0 y1 z0 z1
  have HBhb := hid hb
  clear hb
  replace HB : Hid (Below w.heap.size w wb) := below_trans HB.out HBhb.out HB.out.size
  replace HAS : Hid (AO wb w.heap.size (.slice pr M cr) La) := AO.below HAS.out HBhb.out
  replace HT : Hid (BA wb (.slice p2 N c2) l) := BA.below (B := 0) HT.out HBhb.out
  replace HT7 : Hid (wb.heap[w2.heap.size]? = some (.cells #[.slice p2 N c2, .int .i64 0] 27 (0, 0))) := (HBhb.out.block _ (blk_lt HT7.out)).trans HT7.out
  replace HU : Hid (BA wb (.slice p5 E c5) lu) := BA.below (B := 0) HU.out HBhb.out
  replace HG : Hid (AO wb w3.heap.size (.slice pg j cg) (La.take j)) := AO.below HG.out HBhb.out
  replace HT10 : Hid (wb.heap[w5.heap.size]? = some (.cells #[.slice p5 E c5, .int .i64 0] 27 (0, 0))) := (HBhb.out.block _ (blk_lt HT10.out)).trans HT10.out
  replace HV7 : Hid (BA wb (.slice p7 E c7) lu) := BA.below (B := 0) HV7.out HBhb.out
  replace HT13 : Hid (wb.heap[w7.heap.size]? = some (.cells #[.slice p7 E c7, .int .i64 0] 27 (0, 0))) := (HBhb.out.block _ (blk_lt HT13.out)).trans HT13.out
  replace HT16 : Hid (wb.heap[w9.heap.size]? = some (.cells #[.slice p9 n9 c9, .int .i64 0] 27 (0, 0))) := (HBhb.out.block _ (blk_lt HT16.out)).trans HT16.out
  have x0 : wb.cell? ⟨w2.heap.size, 0, none⟩ = some (.slice p2 N c2) := by rw [cell_of_blk HT7.out]; rfl
  have x1 : wb.cell? ⟨w2.heap.size, 1, none⟩ = some (.int .i64 0) := by rw [cell_of_blk HT7.out]; rfl
  have y0 : wb.cell? ⟨w5.heap.size, 0, none⟩ = some (.slice p5 E c5) := by rw [cell_of_blk HT10.out]; rfl
  have y1 : wb.cell? ⟨w5.heap.size, 1, none⟩ = some (.int .i64 0) := by rw [cell_of_blk HT10.out]; rfl
  have z0 : wb.cell? ⟨w7.heap.size, 0, none⟩ = some (.slice p7 E c7) := by rw [cell_of_blk HT13.out]; rfl
  have z1 : wb.cell? ⟨w7.heap.size, 1, none⟩ = some (.int .i64 0) := by rw [cell_of_blk HT13.out]; rfl
  have hca := HU.out.br.conv
  have hcb := HV7.out.br.conv
  by_cases hj : j = M
  · have hkn : K = N := by have := HJ4.out.1 hj; have := HKN.out; omega
    subst hj hkn
    go_wp2
    go_ret
    exact ⟨ret_bool (by simp), HB.out⟩
  · have hj' : ¬ (j : Int) = (M : Int) := by omega
    have hkn : ¬ (K : Int) = (N : Int) := fun h => hj (HJ4.out.2 (by omega))
    clear hj
    go_wp2
    go_ret
    exact ⟨ret_bool (by simp [beq_eq_false_iff_ne.2 hj', beq_eq_false_iff_ne.2 hkn]), HB.out⟩
end Go.Proofs.Ytepgkemnpcadiab
