/-
  The law of Append.
-/
import Derived.Test.YtepgkemnpcadiaaTj
namespace Go.Proofs.Ytepgkemnpcadiaa
open Go.ChangeShapes Go.WideShapes Go.ChangeAt Go.RowKit Go.Maps
set_option linter.unusedVariables false
set_option linter.unusedSimpArgs false
set_option maxRecDepth 20000
set_option maxHeartbeats 16000000 in
theorem tapeAppends_walk (l : List UInt8) (v : Value) (s : Int) (a : Ac) (u : Value) (w : World) (hv : BA w v l) (hu : ValsAt w u a.o.l) (hl : l.length ≤ 140737488355328) :
    Calls Try.prog 4 #[tpv v s, acv a u] w fun e w' => e = .returned (.bool true) ∧ Below w.heap.size w w' := by
  have HV0 := hid hv
  have HU0 := hid hu
  have HL := hid hl
  have HSS := hid (fun W v u (h : BA W v l) (h2 : ValsAt W u a.o.l) => tapp_any l v s a u W h h2)
  have HDD := hid (fun W v u (h : BA W v l) (h2 : ValsAt W u a.o.l) => tapeAppended_any l v s a u W h h2)
  obtain ⟨p, cap, hsh, _⟩ := hv
  subst hsh
  obtain ⟨q, cl, hshu, _⟩ := hu.shape'
  subst hshu
  obtain ⟨⟨l2, s2, z2⟩, hz⟩ : ∃ z, tap l s a = z := ⟨_, rfl⟩
  rw [hz] at HSS HDD
  obtain ⟨n, hn⟩ : ∃ n, l.length = n := ⟨_, rfl⟩
  rw [hn] at HV0 ⊢
  clear hl hn hz hu
  obtain ⟨k, ⟨ok, os, oa, ob, ol, od, oc⟩, pk0, src⟩ := a
  unfold tpv acv at HSS HDD ⊢
  simp only at HSS HDD HU0 ⊢
  obtain ⟨nl, hnl⟩ : ∃ nl, ol.length = nl := ⟨_, rfl⟩
  rw [hnl] at HU0 ⊢
  clear hnl
  have HB2 := hid (bxs2 w [.slice p n cap, .int .i64 s] [.int .i64 k, .int .i64 ok, .string os, .int .i64 oa, .int .i64 ob, .slice q nl cl, .int .i64 od, .bool oc, .int .i64 pk0, .string src] 34 28)
  go_enter Try.func4, Try.ntmps4
  go_upto_region 1 with fail
  generalize (w.alloc (.cells #[.slice p n cap, .int .i64 s] 34)).alloc (.cells #[.int .i64 k, .int .i64 ok, .string os, .int .i64 oa, .int .i64 ob, .slice q nl cl, .int .i64 od, .bool oc, .int .i64 pk0, .string src] 28) = w1 at HB2 ⊢
  have HT1 : Hid (w1.heap[w.heap.size]? = some (.cells #[.slice p n cap, .int .i64 s] 34 (0, 0))) := HB2.out.b 0 (by simp)
  have HA1 : Hid (w1.heap[w.heap.size + 1]? = some (.cells #[.int .i64 k, .int .i64 ok, .string os, .int .i64 oa, .int .i64 ob, .slice q nl cl, .int .i64 od, .bool oc, .int .i64 pk0, .string src] 28 (0, 0))) := HB2.out.b 1 (by simp)
  have HV : Hid (BA w1 (.slice p n cap) l) := BA.below (B := 0) HV0.out HB2.out.bel
  have HU : Hid (ValsAt w1 (.slice q nl cl) ol) := HU0.out.below HB2.out.bel
  have HB : Hid (Below w.heap.size w w1) := HB2.out.bel
  clear HB2
  have x0 : w1.cell? ⟨w.heap.size, 0, none⟩ = some (.slice p n cap) := by rw [cell_of_blk HT1.out]; rfl
  have x1 : w1.cell? ⟨w.heap.size, 1, none⟩ = some (.int .i64 s) := by rw [cell_of_blk HT1.out]; rfl
  go_wp2_with fail
  refine (tapes_any l (.slice p n cap) s _ HV.out HL.out).mono ?_
  rintro e w2 ⟨v2, rfl, ho, hb⟩
  clear x0 x1
  obtain ⟨p2, n2, c2, hsh⟩ := ho.shape3
  subst hsh
  have HO2 := hid ho.ba
  have HBh := hid hb
  clear ho hb
  unfold tpv
  replace HT1 : Hid (w2.heap[w.heap.size]? = some (.cells #[.slice p n cap, .int .i64 s] 34 (0, 0))) := (HBh.out.block _ (blk_lt HT1.out)).trans HT1.out
  replace HA1 : Hid (w2.heap[w.heap.size + 1]? = some (.cells #[.int .i64 k, .int .i64 ok, .string os, .int .i64 oa, .int .i64 ob, .slice q nl cl, .int .i64 od, .bool oc, .int .i64 pk0, .string src] 28 (0, 0))) := (HBh.out.block _ (blk_lt HA1.out)).trans HA1.out
  replace HV : Hid (BA w2 (.slice p n cap) l) := BA.below (B := 0) HV.out HBh.out
  replace HU : Hid (ValsAt w2 (.slice q nl cl) ol) := HU.out.below HBh.out
  replace HB : Hid (Below w.heap.size w w2) := below_trans HB.out HBh.out HB.out.size
  have HV2 : Hid (BA w2 (.slice p2 n2 c2) l) := HO2.out
  go_upto_region 2 with ((with_reducible show wpList _ _ _ (Oper.mk _ (.store 34 _ _) _ _ _ _ :: _) _ _); refine wp_st (by rfl) 34 _ _ (by rfl) w2.heap.size 0 [.slice none 0 0, .int .i64 0] 34 (.agg #[.slice p2 n2 c2, .int .i64 s]) [.slice p2 n2 c2, .int .i64 s] (by rfl) (by rfl) (by rfl) (heap_alloc_new _ _) (by simp) (by kernel_rfl) (by rfl) ?_; intro w3 hq1 hq2; have HU3 := hid hq1; have HF3 := hid hq2; clear hq1 hq2)
  have HBn3 : Hid (Below w2.heap.size w2 w3) := below_fr ((Below.refl _ _).alloc (Nat.le_refl _) _) HF3.out (Nat.le_refl _)
  replace HT1 : Hid (w3.heap[w.heap.size]? = some (.cells #[.slice p n cap, .int .i64 s] 34 (0, 0))) := (HBn3.out.block _ (blk_lt HT1.out)).trans HT1.out
  replace HA1 : Hid (w3.heap[w.heap.size + 1]? = some (.cells #[.int .i64 k, .int .i64 ok, .string os, .int .i64 oa, .int .i64 ob, .slice q nl cl, .int .i64 od, .bool oc, .int .i64 pk0, .string src] 28 (0, 0))) := (HBn3.out.block _ (blk_lt HA1.out)).trans HA1.out
  replace HV : Hid (BA w3 (.slice p n cap) l) := BA.below (B := 0) HV.out HBn3.out
  replace HU : Hid (ValsAt w3 (.slice q nl cl) ol) := HU.out.below HBn3.out
  replace HB : Hid (Below w.heap.size w w3) := below_trans HB.out HBn3.out HB.out.size
  replace HV2 : Hid (BA w3 (.slice p2 n2 c2) l) := BA.below (B := 0) HV2.out HBn3.out
  have HT3 : Hid (w3.heap[w2.heap.size]? = some (.cells #[.slice p2 n2 c2, .int .i64 s] 34 (0, 0))) := HU3.out
  clear HU3 HF3
  have x0 : w3.cell? ⟨w2.heap.size, 0, none⟩ = some (.slice p2 n2 c2) := by rw [cell_of_blk HT3.out]; rfl
  have x1 : w3.cell? ⟨w2.heap.size, 1, none⟩ = some (.int .i64 s) := by rw [cell_of_blk HT3.out]; rfl
  have y0 : w3.cell? ⟨w.heap.size + 1, 0, none⟩ = some (.int .i64 k) := by rw [cell_of_blk HA1.out]; rfl
  have y1 : w3.cell? ⟨w.heap.size + 1, 1, none⟩ = some (.int .i64 ok) := by rw [cell_of_blk HA1.out]; rfl
  have y2 : w3.cell? ⟨w.heap.size + 1, 2, none⟩ = some (.string os) := by rw [cell_of_blk HA1.out]; rfl
  have y3 : w3.cell? ⟨w.heap.size + 1, 3, none⟩ = some (.int .i64 oa) := by rw [cell_of_blk HA1.out]; rfl
  have y4 : w3.cell? ⟨w.heap.size + 1, 4, none⟩ = some (.int .i64 ob) := by rw [cell_of_blk HA1.out]; rfl
  have y5 : w3.cell? ⟨w.heap.size + 1, 5, none⟩ = some (.slice q nl cl) := by rw [cell_of_blk HA1.out]; rfl
  have y6 : w3.cell? ⟨w.heap.size + 1, 6, none⟩ = some (.int .i64 od) := by rw [cell_of_blk HA1.out]; rfl
  have y7 : w3.cell? ⟨w.heap.size + 1, 7, none⟩ = some (.bool oc) := by rw [cell_of_blk HA1.out]; rfl
  have y8 : w3.cell? ⟨w.heap.size + 1, 8, none⟩ = some (.int .i64 pk0) := by rw [cell_of_blk HA1.out]; rfl
  have y9 : w3.cell? ⟨w.heap.size + 1, 9, none⟩ = some (.string src) := by rw [cell_of_blk HA1.out]; rfl
  go_wp2_with fail
  refine (HSS.out _ _ _ HV2.out HU.out).mono ?_
  rintro e w4 ⟨v4, rfl, ho, hb⟩
  clear x0 x1 y0 y1 y2 y3 y4 y5 y6 y7 y8 y9
  obtain ⟨p4, n4, c4, hsh⟩ := ho.shape3
  subst hsh
  have HO4 := hid ho.br
  have HBh4 := hid hb
  clear ho hb
  replace HT1 : Hid (w4.heap[w.heap.size]? = some (.cells #[.slice p n cap, .int .i64 s] 34 (0, 0))) := (HBh4.out.block _ (blk_lt HT1.out)).trans HT1.out
  replace HA1 : Hid (w4.heap[w.heap.size + 1]? = some (.cells #[.int .i64 k, .int .i64 ok, .string os, .int .i64 oa, .int .i64 ob, .slice q nl cl, .int .i64 od, .bool oc, .int .i64 pk0, .string src] 28 (0, 0))) := (HBh4.out.block _ (blk_lt HA1.out)).trans HA1.out
  replace HV : Hid (BA w4 (.slice p n cap) l) := BA.below (B := 0) HV.out HBh4.out
  replace HU : Hid (ValsAt w4 (.slice q nl cl) ol) := HU.out.below HBh4.out
  replace HB : Hid (Below w.heap.size w w4) := below_trans HB.out HBh4.out HB.out.size
  replace HV2 : Hid (BA w4 (.slice p2 n2 c2) l) := BA.below (B := 0) HV2.out HBh4.out
  replace HT3 : Hid (w4.heap[w2.heap.size]? = some (.cells #[.slice p2 n2 c2, .int .i64 s] 34 (0, 0))) := (HBh4.out.block _ (blk_lt HT3.out)).trans HT3.out
  have HR : Hid (BR w4 (.slice p4 n4 c4) l2) := HO4.out
  go_upto_region 3 with ((with_reducible show wpList _ _ _ (Oper.mk _ (.store 34 _ _) _ _ _ _ :: _) _ _); refine wp_st (by rfl) 34 _ _ (by rfl) w4.heap.size 0 [.slice none 0 0, .int .i64 0] 34 (.agg #[.slice p4 n4 c4, .int .i64 s2]) [.slice p4 n4 c4, .int .i64 s2] (by rfl) (by rfl) (by rfl) (heap_alloc_new _ _) (by simp) (by kernel_rfl) (by rfl) ?_; intro w5 hq1 hq2; have HU5 := hid hq1; have HF5 := hid hq2; clear hq1 hq2)
  have HBn5 : Hid (Below w4.heap.size w4 w5) := below_fr ((Below.refl _ _).alloc (Nat.le_refl _) _) HF5.out (Nat.le_refl _)
  replace HT1 : Hid (w5.heap[w.heap.size]? = some (.cells #[.slice p n cap, .int .i64 s] 34 (0, 0))) := (HBn5.out.block _ (blk_lt HT1.out)).trans HT1.out
  replace HA1 : Hid (w5.heap[w.heap.size + 1]? = some (.cells #[.int .i64 k, .int .i64 ok, .string os, .int .i64 oa, .int .i64 ob, .slice q nl cl, .int .i64 od, .bool oc, .int .i64 pk0, .string src] 28 (0, 0))) := (HBn5.out.block _ (blk_lt HA1.out)).trans HA1.out
  replace HV : Hid (BA w5 (.slice p n cap) l) := BA.below (B := 0) HV.out HBn5.out
  replace HU : Hid (ValsAt w5 (.slice q nl cl) ol) := HU.out.below HBn5.out
  replace HB : Hid (Below w.heap.size w w5) := below_trans HB.out HBn5.out HB.out.size
  replace HV2 : Hid (BA w5 (.slice p2 n2 c2) l) := BA.below (B := 0) HV2.out HBn5.out
  replace HT3 : Hid (w5.heap[w2.heap.size]? = some (.cells #[.slice p2 n2 c2, .int .i64 s] 34 (0, 0))) := (HBn5.out.block _ (blk_lt HT3.out)).trans HT3.out
  replace HR : Hid (BR w5 (.slice p4 n4 c4) l2) := HR.out.below HBn5.out
  have HT4 : Hid (w5.heap[w4.heap.size]? = some (.cells #[.slice p4 n4 c4, .int .i64 s2] 34 (0, 0))) := HU5.out
  clear HU5 HF5
  have x0 : w5.cell? ⟨w.heap.size, 0, none⟩ = some (.slice p n cap) := by rw [cell_of_blk HT1.out]; rfl
  have x1 : w5.cell? ⟨w.heap.size, 1, none⟩ = some (.int .i64 s) := by rw [cell_of_blk HT1.out]; rfl
  have y0 : w5.cell? ⟨w.heap.size + 1, 0, none⟩ = some (.int .i64 k) := by rw [cell_of_blk HA1.out]; rfl
  have y1 : w5.cell? ⟨w.heap.size + 1, 1, none⟩ = some (.int .i64 ok) := by rw [cell_of_blk HA1.out]; rfl
  have y2 : w5.cell? ⟨w.heap.size + 1, 2, none⟩ = some (.string os) := by rw [cell_of_blk HA1.out]; rfl
  have y3 : w5.cell? ⟨w.heap.size + 1, 3, none⟩ = some (.int .i64 oa) := by rw [cell_of_blk HA1.out]; rfl
  have y4 : w5.cell? ⟨w.heap.size + 1, 4, none⟩ = some (.int .i64 ob) := by rw [cell_of_blk HA1.out]; rfl
  have y5 : w5.cell? ⟨w.heap.size + 1, 5, none⟩ = some (.slice q nl cl) := by rw [cell_of_blk HA1.out]; rfl
  have y6 : w5.cell? ⟨w.heap.size + 1, 6, none⟩ = some (.int .i64 od) := by rw [cell_of_blk HA1.out]; rfl
  have y7 : w5.cell? ⟨w.heap.size + 1, 7, none⟩ = some (.bool oc) := by rw [cell_of_blk HA1.out]; rfl
  have y8 : w5.cell? ⟨w.heap.size + 1, 8, none⟩ = some (.int .i64 pk0) := by rw [cell_of_blk HA1.out]; rfl
  have y9 : w5.cell? ⟨w.heap.size + 1, 9, none⟩ = some (.string src) := by rw [cell_of_blk HA1.out]; rfl
  go_wp2_with fail
  refine (HDD.out _ _ _ HV.out HU.out).mono ?_
  rintro e w6 ⟨v6, rfl, ho, hb⟩
  clear x0 x1 y0 y1 y2 y3 y4 y5 y6 y7 y8 y9
  obtain ⟨p6, n6, c6, hsh⟩ := ho.shape3
  subst hsh
  have HO6 := hid ho.br
  have HBh6 := hid hb
  clear ho hb
  replace HT1 : Hid (w6.heap[w.heap.size]? = some (.cells #[.slice p n cap, .int .i64 s] 34 (0, 0))) := (HBh6.out.block _ (blk_lt HT1.out)).trans HT1.out
  replace HA1 : Hid (w6.heap[w.heap.size + 1]? = some (.cells #[.int .i64 k, .int .i64 ok, .string os, .int .i64 oa, .int .i64 ob, .slice q nl cl, .int .i64 od, .bool oc, .int .i64 pk0, .string src] 28 (0, 0))) := (HBh6.out.block _ (blk_lt HA1.out)).trans HA1.out
  replace HV : Hid (BA w6 (.slice p n cap) l) := BA.below (B := 0) HV.out HBh6.out
  replace HU : Hid (ValsAt w6 (.slice q nl cl) ol) := HU.out.below HBh6.out
  replace HB : Hid (Below w.heap.size w w6) := below_trans HB.out HBh6.out HB.out.size
  replace HV2 : Hid (BA w6 (.slice p2 n2 c2) l) := BA.below (B := 0) HV2.out HBh6.out
  replace HT3 : Hid (w6.heap[w2.heap.size]? = some (.cells #[.slice p2 n2 c2, .int .i64 s] 34 (0, 0))) := (HBh6.out.block _ (blk_lt HT3.out)).trans HT3.out
  replace HR : Hid (BR w6 (.slice p4 n4 c4) l2) := HR.out.below HBh6.out
  replace HT4 : Hid (w6.heap[w4.heap.size]? = some (.cells #[.slice p4 n4 c4, .int .i64 s2] 34 (0, 0))) := (HBh6.out.block _ (blk_lt HT4.out)).trans HT4.out
  have HR2 : Hid (BR w6 (.slice p6 n6 c6) l2) := HO6.out
  go_upto_region 4 with ((with_reducible show wpList _ _ _ (Oper.mk _ (.store 34 _ _) _ _ _ _ :: _) _ _); refine wp_st (by rfl) 34 _ _ (by rfl) w6.heap.size 0 [.slice none 0 0, .int .i64 0] 34 (.agg #[.slice p6 n6 c6, .int .i64 s2]) [.slice p6 n6 c6, .int .i64 s2] (by rfl) (by rfl) (by rfl) (heap_alloc_new _ _) (by simp) (by kernel_rfl) (by rfl) ?_; intro w7 hq1 hq2; have HU7 := hid hq1; have HF7 := hid hq2; clear hq1 hq2)
  have HBn7 : Hid (Below w6.heap.size w6 w7) := below_fr ((Below.refl _ _).alloc (Nat.le_refl _) _) HF7.out (Nat.le_refl _)
  replace HT1 : Hid (w7.heap[w.heap.size]? = some (.cells #[.slice p n cap, .int .i64 s] 34 (0, 0))) := (HBn7.out.block _ (blk_lt HT1.out)).trans HT1.out
  replace HA1 : Hid (w7.heap[w.heap.size + 1]? = some (.cells #[.int .i64 k, .int .i64 ok, .string os, .int .i64 oa, .int .i64 ob, .slice q nl cl, .int .i64 od, .bool oc, .int .i64 pk0, .string src] 28 (0, 0))) := (HBn7.out.block _ (blk_lt HA1.out)).trans HA1.out
  replace HV : Hid (BA w7 (.slice p n cap) l) := BA.below (B := 0) HV.out HBn7.out
  replace HU : Hid (ValsAt w7 (.slice q nl cl) ol) := HU.out.below HBn7.out
  replace HB : Hid (Below w.heap.size w w7) := below_trans HB.out HBn7.out HB.out.size
  replace HV2 : Hid (BA w7 (.slice p2 n2 c2) l) := BA.below (B := 0) HV2.out HBn7.out
  replace HT3 : Hid (w7.heap[w2.heap.size]? = some (.cells #[.slice p2 n2 c2, .int .i64 s] 34 (0, 0))) := (HBn7.out.block _ (blk_lt HT3.out)).trans HT3.out
  replace HR : Hid (BR w7 (.slice p4 n4 c4) l2) := HR.out.below HBn7.out
  replace HT4 : Hid (w7.heap[w4.heap.size]? = some (.cells #[.slice p4 n4 c4, .int .i64 s2] 34 (0, 0))) := (HBn7.out.block _ (blk_lt HT4.out)).trans HT4.out
  replace HR2 : Hid (BR w7 (.slice p6 n6 c6) l2) := HR2.out.below HBn7.out
  have HT6 : Hid (w7.heap[w6.heap.size]? = some (.cells #[.slice p6 n6 c6, .int .i64 s2] 34 (0, 0))) := HU7.out
  clear HU7 HF7
  have x0 : w7.cell? ⟨w4.heap.size, 0, none⟩ = some (.slice p4 n4 c4) := by rw [cell_of_blk HT4.out]; rfl
  have x1 : w7.cell? ⟨w4.heap.size, 1, none⟩ = some (.int .i64 s2) := by rw [cell_of_blk HT4.out]; rfl
  have y0 : w7.cell? ⟨w6.heap.size, 0, none⟩ = some (.slice p6 n6 c6) := by rw [cell_of_blk HT6.out]; rfl
  have y1 : w7.cell? ⟨w6.heap.size, 1, none⟩ = some (.int .i64 s2) := by rw [cell_of_blk HT6.out]; rfl
  go_wp2_with fail
  refine (sameTape_any l2 (.slice p4 n4 c4) (.slice p6 n6 c6) s2 _ HR.out HR2.out).mono ?_
  rintro e w8 ⟨rfl, hb⟩
  clear x0 x1 y0 y1
  have HBh8 := hid hb
  clear hb
  replace HT1 : Hid (w8.heap[w.heap.size]? = some (.cells #[.slice p n cap, .int .i64 s] 34 (0, 0))) := (HBh8.out.block _ (blk_lt HT1.out)).trans HT1.out
  replace HA1 : Hid (w8.heap[w.heap.size + 1]? = some (.cells #[.int .i64 k, .int .i64 ok, .string os, .int .i64 oa, .int .i64 ob, .slice q nl cl, .int .i64 od, .bool oc, .int .i64 pk0, .string src] 28 (0, 0))) := (HBh8.out.block _ (blk_lt HA1.out)).trans HA1.out
  replace HV : Hid (BA w8 (.slice p n cap) l) := BA.below (B := 0) HV.out HBh8.out
  replace HU : Hid (ValsAt w8 (.slice q nl cl) ol) := HU.out.below HBh8.out
  replace HB : Hid (Below w.heap.size w w8) := below_trans HB.out HBh8.out HB.out.size
  replace HV2 : Hid (BA w8 (.slice p2 n2 c2) l) := BA.below (B := 0) HV2.out HBh8.out
  replace HT3 : Hid (w8.heap[w2.heap.size]? = some (.cells #[.slice p2 n2 c2, .int .i64 s] 34 (0, 0))) := (HBh8.out.block _ (blk_lt HT3.out)).trans HT3.out
  replace HR : Hid (BR w8 (.slice p4 n4 c4) l2) := HR.out.below HBh8.out
  replace HT4 : Hid (w8.heap[w4.heap.size]? = some (.cells #[.slice p4 n4 c4, .int .i64 s2] 34 (0, 0))) := (HBh8.out.block _ (blk_lt HT4.out)).trans HT4.out
  replace HR2 : Hid (BR w8 (.slice p6 n6 c6) l2) := HR2.out.below HBh8.out
  replace HT6 : Hid (w8.heap[w6.heap.size]? = some (.cells #[.slice p6 n6 c6, .int .i64 s2] 34 (0, 0))) := (HBh8.out.block _ (blk_lt HT6.out)).trans HT6.out
  have x0 : w8.cell? ⟨w2.heap.size, 0, none⟩ = some (.slice p2 n2 c2) := by rw [cell_of_blk HT3.out]; rfl
  have x1 : w8.cell? ⟨w2.heap.size, 1, none⟩ = some (.int .i64 s) := by rw [cell_of_blk HT3.out]; rfl
  have y0 : w8.cell? ⟨w.heap.size, 0, none⟩ = some (.slice p n cap) := by rw [cell_of_blk HT1.out]; rfl
  have y1 : w8.cell? ⟨w.heap.size, 1, none⟩ = some (.int .i64 s) := by rw [cell_of_blk HT1.out]; rfl
  go_wp2_with fail
  refine (sameTape_any l (.slice p2 n2 c2) (.slice p n cap) s _ HV2.out.br HV.out.br).mono ?_
  rintro e w9 ⟨rfl, hb⟩
  clear x0 x1 y0 y1
  have HBh9 := hid hb
  clear hb
  replace HT1 : Hid (w9.heap[w.heap.size]? = some (.cells #[.slice p n cap, .int .i64 s] 34 (0, 0))) := (HBh9.out.block _ (blk_lt HT1.out)).trans HT1.out
  replace HA1 : Hid (w9.heap[w.heap.size + 1]? = some (.cells #[.int .i64 k, .int .i64 ok, .string os, .int .i64 oa, .int .i64 ob, .slice q nl cl, .int .i64 od, .bool oc, .int .i64 pk0, .string src] 28 (0, 0))) := (HBh9.out.block _ (blk_lt HA1.out)).trans HA1.out
  replace HV : Hid (BA w9 (.slice p n cap) l) := BA.below (B := 0) HV.out HBh9.out
  replace HU : Hid (ValsAt w9 (.slice q nl cl) ol) := HU.out.below HBh9.out
  replace HB : Hid (Below w.heap.size w w9) := below_trans HB.out HBh9.out HB.out.size
  replace HV2 : Hid (BA w9 (.slice p2 n2 c2) l) := BA.below (B := 0) HV2.out HBh9.out
  replace HT3 : Hid (w9.heap[w2.heap.size]? = some (.cells #[.slice p2 n2 c2, .int .i64 s] 34 (0, 0))) := (HBh9.out.block _ (blk_lt HT3.out)).trans HT3.out
  replace HR : Hid (BR w9 (.slice p4 n4 c4) l2) := HR.out.below HBh9.out
  replace HT4 : Hid (w9.heap[w4.heap.size]? = some (.cells #[.slice p4 n4 c4, .int .i64 s2] 34 (0, 0))) := (HBh9.out.block _ (blk_lt HT4.out)).trans HT4.out
  replace HR2 : Hid (BR w9 (.slice p6 n6 c6) l2) := HR2.out.below HBh9.out
  replace HT6 : Hid (w9.heap[w6.heap.size]? = some (.cells #[.slice p6 n6 c6, .int .i64 s2] 34 (0, 0))) := (HBh9.out.block _ (blk_lt HT6.out)).trans HT6.out
  go_wp2
  go_ret
  exact ⟨ret_bool (by simp), HB.out⟩
end Go.Proofs.Ytepgkemnpcadiaa
