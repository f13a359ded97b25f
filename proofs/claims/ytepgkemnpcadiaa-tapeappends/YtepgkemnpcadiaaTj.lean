/-
  The document's bytes of an act; a tape and an act behind it; the law.
-/
import Derived.Test.YtepgkemnpcadiaaTi
import Derived.Test.YtepgkemnpcadiaaTg
import Derived.Test.YtepgkemnpcadiaaWl
namespace Go.Proofs.Ytepgkemnpcadiaa
open Go.ChangeShapes Go.WideShapes Go.ChangeAt Go.RowKit Go.Maps
set_option linter.unusedVariables false
set_option linter.unusedSimpArgs false
set_option maxRecDepth 20000
set_option maxHeartbeats 8000000 in
theorem noteBytes_any (a : Ac) (u : Value) (w : World) (hv : ValsAt w u a.o.l) (hok : ach a = 0) :
    Calls Try.prog 34 #[acv a u] w fun e w' => ∃ v', e = .returned v' ∧ BO w' w.heap.size v' (abt a) ∧ Below w.heap.size w w' := by
  have HV := hid hv
  have HE := hid (fun W (h : ValsAt W u a.o.l) => opBytes_any a.o u W h)
  have HK := hid (ach_kind hok)
  obtain ⟨q, cap, hu, hmx⟩ := hv.shape'
  subst hu
  obtain ⟨y, hy⟩ : ∃ y, abt a = y := ⟨_, rfl⟩
  have HY : Hid ((if a.k = 4 then 0 :: a.s.data.toList else obt a.o) = y) := hy
  rw [hy]
  have HOZ : Hid (obz a.o = if ochk a.o = 0 then obt a.o else []) := rfl
  obtain ⟨k, ⟨ok, os, oa, ob, ol, od, oc⟩, p, src⟩ := a
  unfold acv
  unfold opv at HE
  simp only at HE HV HK HY HOZ ⊢
  clear hv hok hmx hy
  obtain ⟨n, hn⟩ : ∃ n, ol.length = n := ⟨_, rfl⟩
  rw [hn] at HE HV ⊢
  clear hn
  have HB0 : Hid (Below w.heap.size w (w.alloc (.cells #[.int .i64 k, .int .i64 ok, .string os, .int .i64 oa, .int .i64 ob, .slice q n cap, .int .i64 od, .bool oc, .int .i64 p, .string src] 28))) := (Below.refl _ _).alloc (Nat.le_refl _) _
  rcases HK.out with ⟨hk, hoc, -, -⟩ | ⟨hk, hsz, -, -⟩
  · have hk4 : (k == 4) = false := by rw [hk]; rfl
    have HOC := hid hoc
    have HK1 := hid hk
    clear hk hoc
    go_enter Try.func34, Try.ntmps34
    go_wp2_with fail
    refine (HE.out _ (HV.out.below HB0.out)).mono ?_
    rintro e w3 ⟨v', rfl, ho, hb⟩
    obtain ⟨p1, n1, m1, hsh⟩ := ho.shape3
    subst hsh
    rw [HOZ.out, if_pos HOC.out] at ho
    have ho' : BO w3 (w.heap.size + 1) (.slice p1 n1 m1) y := by have h := HY.out; rw [if_neg (by rw [HK1.out]; decide)] at h; rw [← h]; simpa using ho
    have HO3 := hid ho'
    have HB3 := hid (below_trans HB0.out hb (by simp))
    clear ho ho' hb
    go_wp2
    go_ret
    exact ⟨_, rfl, HO3.out.weak (by omega), HB3.out⟩
  · subst hk
    have HSZ := hid hsz
    clear hsz
    have hh := HY.out
    rw [if_pos rfl] at hh
    have HYY := hid hh
    clear hh HY
    have x9 : ∀ o, ((w.alloc (.cells #[.int .i64 4, .int .i64 ok, .string os, .int .i64 oa, .int .i64 ob, .slice q n cap, .int .i64 od, .bool oc, .int .i64 p, .string src] 28)).alloc o).cell? ⟨w.heap.size, 9, none⟩ = some (.string src) := fun o => (World.cell?_alloc_past _ _ _ (by simp)).trans (cell_new rfl rfl)
    obtain ⟨pc, cc, wc, hcv, hbr, hbl⟩ := conv_text ((w.alloc (.cells #[.int .i64 4, .int .i64 ok, .string os, .int .i64 oa, .int .i64 ob, .slice q n cap, .int .i64 od, .bool oc, .int .i64 p, .string src] 28)).alloc (.cells #[.int .u8 0] 5)) src
    have HX : Hid (Below w.heap.size w wc) := below_trans (HB0.out.alloc (by simp) _) hbl (by simp; omega)
    have HA : Hid (BR wc (.slice (some ⟨w.heap.size + 1, 0, none⟩) 1 1) [0]) := by
      have h := ((BO.one (w.alloc (.cells #[.int .i64 4, .int .i64 ok, .string os, .int .i64 oa, .int .i64 ob, .slice q n cap, .int .i64 od, .bool oc, .int .i64 p, .string src] 28)) w.heap.size 0 0 (by rfl) (by simp)).below hbl).br
      exact (by simpa using h : BR wc (.slice (some ⟨w.heap.size + 1, 0, none⟩) 1 1) [0])
    have HBS := hid hbr
    have HZ : Hid (src.data.toList.length = src.size) := by show src.data.toList.length = src.size; exact Array.length_toList
    clear hbr hbl
    go_enter Try.func34, Try.ntmps34
    go_wp2_with fail
    clear hcv x9
    refine (joined_any _ _ _ _ _ HA.out HBS.out (by simp) (by rw [HZ.out]; have := HSZ.out; omega)).mono ?_
    rintro e w2 ⟨v2, rfl, ho2, hb2⟩
    obtain ⟨p2, n2, c2, hvv⟩ := ho2.shape3
    subst hvv
    have HO2 := hid (ho2.weak HX.out.size)
    have HB2 := hid (below_trans HX.out hb2 HX.out.size)
    clear ho2 hb2
    go_wp2
    go_ret
    exact ⟨_, rfl, by rw [← HYY.out]; exact HO2.out, HB2.out⟩
set_option maxHeartbeats 16000000 in
theorem tapeAppended_any (l : List UInt8) (v : Value) (s : Int) (a : Ac) (u : Value) (w : World) (hv : BA w v l) (hu : ValsAt w u a.o.l) :
    Calls Try.prog 13 #[tpv v s, acv a u] w fun e w' => ∃ v', e = .returned (.tuple #[tpv v' (tap l s a).2.1, .int .i64 (tap l s a).2.2]) ∧ BO w' w.heap.size v' (tap l s a).1 ∧ Below w.heap.size w w' := by
  have HV0 := hid hv
  have HU0 := hid hu
  have HE := hid (fun W (h : ValsAt W u a.o.l) => noteFault_any a u W h)
  have HLB := hid (@abt_len a)
  have HNB := hid (fun W (h : ValsAt W u a.o.l) (h0 : ach a = 0) => noteBytes_any a u W h h0)
  obtain ⟨p, cap, hsh, hcap, hmax, _⟩ := hv
  subst hsh
  obtain ⟨q, cl, hshu, hmxu⟩ := hu.shape'
  subst hshu
  unfold tap
  obtain ⟨y, hy⟩ : ∃ y, abt a = y := ⟨_, rfl⟩
  obtain ⟨z, hz⟩ : ∃ z, ach a = z := ⟨_, rfl⟩
  rw [hy, hz] at HNB HLB ⊢
  rw [hz] at HE
  obtain ⟨m3, hm3⟩ : ∃ m3, y.length = m3 := ⟨_, rfl⟩
  rw [hm3] at HLB ⊢
  have HM3 := hid hm3
  obtain ⟨n, hn⟩ : ∃ n, l.length = n := ⟨_, rfl⟩
  have HM := hid (fun W => tapeMay_any n p cap s W (by omega))
  have HN := hid hn
  rw [hn] at HV0 ⊢
  obtain ⟨m, hm⟩ : ∃ m, tmay n s = m := ⟨_, rfl⟩
  rw [hm] at HM ⊢
  have HMM := hid hm
  have HCAP : Hid (n ≤ cap ∧ cap ≤ maxLen) := ⟨by omega, hmax⟩
  obtain ⟨k, ⟨ok, os, oa, ob, ol, od, oc⟩, pk0, src⟩ := a
  unfold acv at HE HNB ⊢
  unfold tpv
  simp only at HE HNB HU0 ⊢
  obtain ⟨nl, hnl⟩ : ∃ nl, ol.length = nl := ⟨_, rfl⟩
  rw [hnl] at HE HNB HU0 ⊢
  clear hy hz hm hm3 hnl hn hcap hmax hmxu
  have HB3 := hid (bxs3 w [.slice p n cap, .int .i64 s] [.int .i64 k, .int .i64 ok, .string os, .int .i64 oa, .int .i64 ob, .slice q nl cl, .int .i64 od, .bool oc, .int .i64 pk0, .string src] [.slice none 0 0, .int .i64 0] 34 28 34)
  go_enter Try.func13, Try.ntmps13
  go_upto_region 1 with fail
  generalize ((w.alloc (.cells #[.slice p n cap, .int .i64 s] 34)).alloc (.cells #[.int .i64 k, .int .i64 ok, .string os, .int .i64 oa, .int .i64 ob, .slice q nl cl, .int .i64 od, .bool oc, .int .i64 pk0, .string src] 28)).alloc (.cells #[.slice none 0 0, .int .i64 0] 34) = WB at HB3 ⊢
  have HT2 : Hid (WB.heap[w.heap.size]? = some (.cells #[.slice p n cap, .int .i64 s] 34 (0, 0))) := HB3.out.b 0 (by simp)
  have HT3 : Hid (WB.heap[w.heap.size + 1]? = some (.cells #[.int .i64 k, .int .i64 ok, .string os, .int .i64 oa, .int .i64 ob, .slice q nl cl, .int .i64 od, .bool oc, .int .i64 pk0, .string src] 28 (0, 0))) := HB3.out.b 1 (by simp)
  have HT4 : Hid (WB.heap[w.heap.size + 2]? = some (.cells #[.slice none 0 0, .int .i64 0] 34 (0, 0))) := HB3.out.b 2 (by simp)
  have HB : Hid (Below w.heap.size w WB) := HB3.out.bel
  have HV : Hid (BA WB (.slice p n cap) l) := BA.below (B := 0) HV0.out HB3.out.bel
  have HU : Hid (ValsAt WB (.slice q nl cl) ol) := HU0.out.below HB3.out.bel
  clear HB3
  have x0 : WB.cell? ⟨w.heap.size, 0, none⟩ = some (.slice p n cap) := by rw [cell_of_blk HT2.out]; rfl
  have x1 : WB.cell? ⟨w.heap.size, 1, none⟩ = some (.int .i64 s) := by rw [cell_of_blk HT2.out]; rfl
  go_wp2_with fail
  refine (HM.out _).mono ?_
  rintro e w2 ⟨rfl, hb⟩
  clear x0 x1
  have HBh2 := hid hb
  clear hb
  replace HT2 : Hid (w2.heap[w.heap.size]? = some (.cells #[.slice p n cap, .int .i64 s] 34 (0, 0))) := (HBh2.out.block _ (blk_lt HT2.out)).trans HT2.out
  replace HT3 : Hid (w2.heap[w.heap.size + 1]? = some (.cells #[.int .i64 k, .int .i64 ok, .string os, .int .i64 oa, .int .i64 ob, .slice q nl cl, .int .i64 od, .bool oc, .int .i64 pk0, .string src] 28 (0, 0))) := (HBh2.out.block _ (blk_lt HT3.out)).trans HT3.out
  replace HT4 : Hid (w2.heap[w.heap.size + 2]? = some (.cells #[.slice none 0 0, .int .i64 0] 34 (0, 0))) := (HBh2.out.block _ (blk_lt HT4.out)).trans HT4.out
  replace HB : Hid (Below w.heap.size w w2) := below_trans HB.out HBh2.out HB.out.size
  replace HV : Hid (BA w2 (.slice p n cap) l) := BA.below (B := 0) HV.out HBh2.out
  replace HU : Hid (ValsAt w2 (.slice q nl cl) ol) := HU.out.below HBh2.out
  cases m
  · go_wp2_with ((with_reducible show wpList _ _ _ (Oper.mk _ (.store 34 _ _) _ _ _ _ :: _) _ _); refine wp_st (by rfl) 34 _ _ (by rfl) (w.heap.size + 2) 0 [.slice none 0 0, .int .i64 0] 34 (.agg #[.slice none 0 0, .int .i64 0]) [.slice none 0 0, .int .i64 0] (by rfl) (by rfl) (by rfl) HT4.out (by simp) (by kernel_rfl) (by rfl) ?_; intro w5 hq1 hq2; have HU5 := hid hq1; have HF5 := hid hq2; clear hq1 hq2)
    exact ret_twoT (w.heap.size + 2) [.slice none 0 0, .int .i64 0] 34 _ HU5.out rfl rfl (by rfl) Try.underlying34 rfl (by kernel_rfl) ⟨.slice none 0 0, rfl, BO.nil _ _, below_fr HB.out HF5.out (by omega)⟩
  · have HT := hid (tmay_of HMM.out)
    have x0 : w2.cell? ⟨w.heap.size + 1, 0, none⟩ = some (.int .i64 k) := by rw [cell_of_blk HT3.out]; rfl
    have x1 : w2.cell? ⟨w.heap.size + 1, 1, none⟩ = some (.int .i64 ok) := by rw [cell_of_blk HT3.out]; rfl
    have x2 : w2.cell? ⟨w.heap.size + 1, 2, none⟩ = some (.string os) := by rw [cell_of_blk HT3.out]; rfl
    have x3 : w2.cell? ⟨w.heap.size + 1, 3, none⟩ = some (.int .i64 oa) := by rw [cell_of_blk HT3.out]; rfl
    have x4 : w2.cell? ⟨w.heap.size + 1, 4, none⟩ = some (.int .i64 ob) := by rw [cell_of_blk HT3.out]; rfl
    have x5 : w2.cell? ⟨w.heap.size + 1, 5, none⟩ = some (.slice q nl cl) := by rw [cell_of_blk HT3.out]; rfl
    have x6 : w2.cell? ⟨w.heap.size + 1, 6, none⟩ = some (.int .i64 od) := by rw [cell_of_blk HT3.out]; rfl
    have x7 : w2.cell? ⟨w.heap.size + 1, 7, none⟩ = some (.bool oc) := by rw [cell_of_blk HT3.out]; rfl
    have x8 : w2.cell? ⟨w.heap.size + 1, 8, none⟩ = some (.int .i64 pk0) := by rw [cell_of_blk HT3.out]; rfl
    have x9 : w2.cell? ⟨w.heap.size + 1, 9, none⟩ = some (.string src) := by rw [cell_of_blk HT3.out]; rfl
    go_wp2_with fail
    refine (HE.out _ HU.out).mono ?_
    rintro e w3 ⟨rfl, hb⟩
    clear x0 x1 x2 x3 x4 x5 x6 x7 x8 x9
    have HBh3 := hid hb
    clear hb
    replace HT2 : Hid (w3.heap[w.heap.size]? = some (.cells #[.slice p n cap, .int .i64 s] 34 (0, 0))) := (HBh3.out.block _ (blk_lt HT2.out)).trans HT2.out
    replace HT3 : Hid (w3.heap[w.heap.size + 1]? = some (.cells #[.int .i64 k, .int .i64 ok, .string os, .int .i64 oa, .int .i64 ob, .slice q nl cl, .int .i64 od, .bool oc, .int .i64 pk0, .string src] 28 (0, 0))) := (HBh3.out.block _ (blk_lt HT3.out)).trans HT3.out
    replace HT4 : Hid (w3.heap[w.heap.size + 2]? = some (.cells #[.slice none 0 0, .int .i64 0] 34 (0, 0))) := (HBh3.out.block _ (blk_lt HT4.out)).trans HT4.out
    replace HB : Hid (Below w.heap.size w w3) := below_trans HB.out HBh3.out HB.out.size
    replace HV : Hid (BA w3 (.slice p n cap) l) := BA.below (B := 0) HV.out HBh3.out
    replace HU : Hid (ValsAt w3 (.slice q nl cl) ol) := HU.out.below HBh3.out
    by_cases hz0 : z = 0
    · subst hz0
      have HLBY : Hid (0 < m3 ∧ m3 ≤ 3001) := HLB.out rfl
      have x0 : w3.cell? ⟨w.heap.size + 1, 0, none⟩ = some (.int .i64 k) := by rw [cell_of_blk HT3.out]; rfl
      have x1 : w3.cell? ⟨w.heap.size + 1, 1, none⟩ = some (.int .i64 ok) := by rw [cell_of_blk HT3.out]; rfl
      have x2 : w3.cell? ⟨w.heap.size + 1, 2, none⟩ = some (.string os) := by rw [cell_of_blk HT3.out]; rfl
      have x3 : w3.cell? ⟨w.heap.size + 1, 3, none⟩ = some (.int .i64 oa) := by rw [cell_of_blk HT3.out]; rfl
      have x4 : w3.cell? ⟨w.heap.size + 1, 4, none⟩ = some (.int .i64 ob) := by rw [cell_of_blk HT3.out]; rfl
      have x5 : w3.cell? ⟨w.heap.size + 1, 5, none⟩ = some (.slice q nl cl) := by rw [cell_of_blk HT3.out]; rfl
      have x6 : w3.cell? ⟨w.heap.size + 1, 6, none⟩ = some (.int .i64 od) := by rw [cell_of_blk HT3.out]; rfl
      have x7 : w3.cell? ⟨w.heap.size + 1, 7, none⟩ = some (.bool oc) := by rw [cell_of_blk HT3.out]; rfl
      have x8 : w3.cell? ⟨w.heap.size + 1, 8, none⟩ = some (.int .i64 pk0) := by rw [cell_of_blk HT3.out]; rfl
      have x9 : w3.cell? ⟨w.heap.size + 1, 9, none⟩ = some (.string src) := by rw [cell_of_blk HT3.out]; rfl
      go_wp2_with fail
      refine (HNB.out _ HU.out trivial).mono ?_
      rintro e w4 ⟨v', rfl, ho, hb⟩
      clear x0 x1 x2 x3 x4 x5 x6 x7 x8 x9
      obtain ⟨p3', c3, hsh⟩ := ho.shape
      rw [HM3.out] at hsh
      subst hsh
      have HOY0 := hid ho.ba
      have HBh4 := hid hb
      clear ho hb
      replace HT2 : Hid (w4.heap[w.heap.size]? = some (.cells #[.slice p n cap, .int .i64 s] 34 (0, 0))) := (HBh4.out.block _ (blk_lt HT2.out)).trans HT2.out
      replace HT3 : Hid (w4.heap[w.heap.size + 1]? = some (.cells #[.int .i64 k, .int .i64 ok, .string os, .int .i64 oa, .int .i64 ob, .slice q nl cl, .int .i64 od, .bool oc, .int .i64 pk0, .string src] 28 (0, 0))) := (HBh4.out.block _ (blk_lt HT3.out)).trans HT3.out
      replace HT4 : Hid (w4.heap[w.heap.size + 2]? = some (.cells #[.slice none 0 0, .int .i64 0] 34 (0, 0))) := (HBh4.out.block _ (blk_lt HT4.out)).trans HT4.out
      replace HB : Hid (Below w.heap.size w w4) := below_trans HB.out HBh4.out HB.out.size
      replace HV : Hid (BA w4 (.slice p n cap) l) := BA.below (B := 0) HV.out HBh4.out
      replace HU : Hid (ValsAt w4 (.slice q nl cl) ol) := HU.out.below HBh4.out
      have HOY : Hid (BA w4 (.slice p3' m3 c3) y) := HOY0.out
      clear HOY0
      have hn0 : (n : Int) ≤ 200000 := by have := HT.out; omega
      have hm0 : (m3 : Int) ≤ 3001 := by have := HLBY.out; omega
      have HJ : Hid (∀ W : World, w4.heap.size ≤ W.heap.size → True) := fun _ _ => trivial
      go_wp2_with fail
      refine (joined_any _ _ (hdb m3) y _ ?hA (HOY.out.br.below ((Below.refl _ _).alloc (Nat.le_refl _) _)) (by simp [hdb]) (by rw [HM3.out]; have := HLBY.out; omega)).mono ?_
      case hA =>
        refine ⟨some ⟨w4.heap.size, 0, none⟩, 2, rfl, fun _ => ⟨w4.heap.size, 0, rfl, fun j hj => ⟨by simp, ?_⟩⟩⟩
        exact hdb_cells (by have := HLBY.out; omega) (heap_alloc_new _ _) j hj
      rintro e w5 ⟨v', rfl, ho, hb⟩
      obtain ⟨m8, hm8⟩ : ∃ m8, (hdb m3 ++ y).length = m8 := ⟨_, rfl⟩
      have HM8 : Hid (m8 = m3 + 2) := by rw [← hm8, List.length_append, HM3.out]; show 2 + m3 = _; omega
      obtain ⟨p8, c8, hsh⟩ := ho.shape
      rw [hm8] at hsh
      subst hsh
      have HO8 := hid ho.ba
      have HL8 := hid hm8
      have HBh5 := hid (below_trans ((Below.refl _ w4).alloc (Nat.le_refl _) _) hb (by simp))
      clear ho hb hm8 HJ
      replace HT2 : Hid (w5.heap[w.heap.size]? = some (.cells #[.slice p n cap, .int .i64 s] 34 (0, 0))) := (HBh5.out.block _ (blk_lt HT2.out)).trans HT2.out
      replace HT3 : Hid (w5.heap[w.heap.size + 1]? = some (.cells #[.int .i64 k, .int .i64 ok, .string os, .int .i64 oa, .int .i64 ob, .slice q nl cl, .int .i64 od, .bool oc, .int .i64 pk0, .string src] 28 (0, 0))) := (HBh5.out.block _ (blk_lt HT3.out)).trans HT3.out
      replace HT4 : Hid (w5.heap[w.heap.size + 2]? = some (.cells #[.slice none 0 0, .int .i64 0] 34 (0, 0))) := (HBh5.out.block _ (blk_lt HT4.out)).trans HT4.out
      replace HB : Hid (Below w.heap.size w w5) := below_trans HB.out HBh5.out HB.out.size
      replace HV : Hid (BA w5 (.slice p n cap) l) := BA.below (B := 0) HV.out HBh5.out
      replace HU : Hid (ValsAt w5 (.slice q nl cl) ol) := HU.out.below HBh5.out
      replace HOY : Hid (BA w5 (.slice p3' m3 c3) y) := BA.below (B := 0) HOY.out HBh5.out
      have HF8 : Hid (BA w5 (.slice p8 m8 c8) (hdb m3 ++ y)) := HO8.out
      have x0 : w5.cell? ⟨w.heap.size, 0, none⟩ = some (.slice p n cap) := by rw [cell_of_blk HT2.out]; rfl
      have x1 : w5.cell? ⟨w.heap.size, 1, none⟩ = some (.int .i64 s) := by rw [cell_of_blk HT2.out]; rfl
      have hm8b : (m8 : Int) ≤ 3003 := by have := HM8.out; omega
      by_cases hful : 200000 < n + 2 + m3
      · have hf1 : (200000 : Int) < (n : Int) + (m8 : Int) := by have := HM8.out; omega
        go_wp2_with ((with_reducible show wpList _ _ _ (Oper.mk _ (.store 34 _ _) _ _ _ _ :: _) _ _); refine wp_st (by rfl) 34 _ _ (by rfl) (w.heap.size + 2) 0 [.slice none 0 0, .int .i64 0] 34 (.agg #[.slice none 0 0, .int .i64 0]) [.slice none 0 0, .int .i64 0] (by rfl) (by rfl) (by rfl) HT4.out (by simp) (by kernel_rfl) (by rfl) ?_; intro w7 hq1 hq2; have HU7 := hid hq1; have HF7 := hid hq2; clear hq1 hq2)
        exact ret_twoT (w.heap.size + 2) [.slice none 0 0, .int .i64 0] 34 _ HU7.out rfl rfl (by rfl) Try.underlying34 rfl (by kernel_rfl) ⟨.slice none 0 0, rfl, BO.nil _ _, below_fr HB.out HF7.out (by omega)⟩
      · have hf1 : ¬ (200000 : Int) < (n : Int) + (m8 : Int) := by have := HM8.out; omega
        have HFUL := hid hful
        clear hful
        go_upto_region 10 with fail
        clear x0 x1
        have HKS : Hid (∀ W : World, W.heap[w.heap.size]? = some (.cells #[.slice p n cap, .int .i64 s] 34 (0, 0)) → W.cell? ⟨w.heap.size, 0, none⟩ = some (.slice p n cap) ∧ W.cell? ⟨w.heap.size, 1, none⟩ = some (.int .i64 s)) := fun W h => ⟨by rw [cell_of_blk h]; rfl, by rw [cell_of_blk h]; rfl⟩
        have HBd : Hid (Below w.heap.size w w5.drew) := HB.out.drew
        have HS5 : Hid (w.heap.size + 2 < w5.heap.size) := blk_lt HT4.out
        have HLN : Hid (l.length < 50000000) := by have := HT.out; have := HN.out; show _ < _; omega
        have HL9 : Hid ((hdb m3 ++ y).length < 50000000) := by have := HM8.out; have := HLBY.out; rw [HL8.out]; show _ < _; omega
        refine start_n (S := (fun w' => w'.cell? ⟨w.heap.size, 0, none⟩ = some (.slice p n cap) ∧ w'.cell? ⟨w.heap.size, 1, none⟩ = some (.int .i64 s))) 9 #[false, false, false, false, false, false, false, false, false] rfl rfl (by kernel_rfl) (HKS.out _ (by exact HT2.out)) (fun hHeld => ?_)
        refine take_mk (i := 0) (v := ?v1) rfl (by kernel_rfl) (by kernel_rfl) (by kernel_rfl) (fun _ _ _ h => h) (Or.inl ⟨by rfl, ?hy1⟩) (by assumption) ?rest1
        case hy1 => (intro w0 hSw; (try dsimp only at hSw); go_simp <;> (try (with_reducible rfl)))
        (try simp only [Act.put, List.setIfInBounds_toArray, List.set_cons_zero, List.set_cons_succ])
        refine take_mk (i := 1) (v := ?v2) rfl (by kernel_rfl) (by kernel_rfl) (by kernel_rfl) (fun _ _ _ h => h) (Or.inl ⟨by rfl, ?hy2⟩) (by assumption) ?rest2
        case hy2 => (intro w0 hSw; (try dsimp only at hSw); go_simp <;> (try (with_reducible rfl)))
        (try simp only [Act.put, List.setIfInBounds_toArray, List.set_cons_zero, List.set_cons_succ])
        refine take_mk (i := 2) (v := ?v3) rfl (by kernel_rfl) (by kernel_rfl) (by kernel_rfl) (fun _ _ _ h => h) (Or.inl ⟨by rfl, ?hy3⟩) (by assumption) ?rest3
        case hy3 => (intro w0 hSw; (try dsimp only at hSw); go_simp <;> (try (with_reducible rfl)))
        (try simp only [Act.put, List.setIfInBounds_toArray, List.set_cons_zero, List.set_cons_succ])
        refine take_mk (i := 4) (v := ?v4) rfl (by kernel_rfl) (by kernel_rfl) (by kernel_rfl) (fun _ _ _ h => h) (Or.inl ⟨by rfl, ?hy4⟩) (by assumption) ?rest4
        case hy4 => (intro w0 hSw; (try dsimp only at hSw); go_simp <;> (try (with_reducible rfl)))
        (try simp only [Act.put, List.setIfInBounds_toArray, List.set_cons_zero, List.set_cons_succ])
        refine take_mk (i := 5) (v := ?v5) rfl (by kernel_rfl) (by kernel_rfl) (by kernel_rfl) (fun _ _ _ h => h) (Or.inl ⟨by rfl, ?hy5⟩) (by assumption) ?rest5
        case hy5 => (intro w0 hSw; (try dsimp only at hSw); go_simp <;> (try (with_reducible rfl)))
        (try simp only [Act.put, List.setIfInBounds_toArray, List.set_cons_zero, List.set_cons_succ])
        refine wpAnyH_ready (rs := [3]) (by kernel_rfl) (by simp) ?_
        refine cons_mk rfl (fun K hK => ?_) AllReadyH.nil
        refine want_mk (by rfl) ?_
        refine op_cl 35 ent_joined _ _ (by rfl) #[.slice p n cap, .slice p8 m8 c8] (by simp only [List.map_toArray, List.map_cons, List.map_nil]; rfl) _ (joined_any (.slice p n cap) (.slice p8 m8 c8) l (hdb m3 ++ y) _ HV.out.br HF8.out.br HLN.out HL9.out) ?_
        rintro e w9 ⟨v', rfl, ho, hb⟩
        refine ⟨_, rfl, ?_⟩
        obtain ⟨p10, n10, c10, hsh⟩ := ho.shape3
        subst hsh
        rw [← List.append_assoc] at ho
        have HO10 := hid ho
        have HB10 : Hid (Below w.heap.size w w9) := below_trans HBd.out hb (by have := HS5.out; simp; omega)
        have HD10 : Hid (w9.heap[w.heap.size]? = some (.cells #[.slice p n cap, .int .i64 s] 34 (0, 0))) := (hb.block _ (blk_lt HT2.out)).trans HT2.out
        have HR10 : Hid (w9.heap[w.heap.size + 2]? = some (.cells #[.slice none 0 0, .int .i64 0] 34 (0, 0))) := (hb.block _ (blk_lt HT4.out)).trans HT4.out
        clear ho hb
        refine hK.out _ _ (HKS.out _ HD10.out) (fun hHeld => ?_)
        clear hK K
        (try simp only [Act.put, List.setIfInBounds_toArray, List.set_cons_zero, List.set_cons_succ])
        refine take_mk (i := 6) (v := ?v6) rfl (by kernel_rfl) (by kernel_rfl) (by kernel_rfl) (fun _ _ _ h => h) (Or.inl ⟨by rfl, ?hy6⟩) (by assumption) ?rest6
        case hy6 => (intro w0 hSw; (try dsimp only at hSw); go_simp <;> (try (with_reducible rfl)))
        (try simp only [Act.put, List.setIfInBounds_toArray, List.set_cons_zero, List.set_cons_succ])
        refine wpAnyH_ready (rs := [7]) (by kernel_rfl) (by simp) ?_
        refine cons_mk rfl (fun K hK => ?_) AllReadyH.nil
        refine want_mk (by rfl) ?_
        refine op_st 34 _ _ (by rfl) (w.heap.size + 2) 0 [.slice none 0 0, .int .i64 0] 34 (.agg #[.slice p10 n10 c10, .int .i64 s]) [.slice p10 n10 c10, .int .i64 s] (by rfl) (by rfl) (by rfl) HR10.out (by simp) (by kernel_rfl) (by rfl) ?_
        intro w11 hq1 hq2
        have HU11 := hid hq1
        have HF11 := hid hq2
        clear hq1 hq2
        refine hK.out _ _ (HKS.out _ (blk_set HD10.out HF11.out (by omega))) (fun hHeld => ?_)
        clear hK K
        (try simp only [Act.put, List.setIfInBounds_toArray, List.set_cons_zero, List.set_cons_succ])
        refine take_mk (i := 8) (v := ?v7) rfl (by kernel_rfl) (by kernel_rfl) (by kernel_rfl) (fun _ _ _ h => h) (Or.inl ⟨by rfl, ?hy7⟩) (by assumption) ?rest7
        case hy7 => (intro w0 hSw; (try dsimp only at hSw); go_simp <;> (try (with_reducible rfl)))
        (try simp only [Act.put, List.setIfInBounds_toArray, List.set_cons_zero, List.set_cons_succ])
        refine wpAnyH_done (by kernel_rfl) ?_ _
        go_wp2_with fail
        exact ret_twoT (w.heap.size + 2) [.slice p10 n10 c10, .int .i64 s] 34 _ HU11.out rfl rfl (by rfl) Try.underlying34 rfl (by kernel_rfl) ⟨_, rfl, by have h := (HO10.out.frLt HF11.out HS5.out).weak (B' := w.heap.size) (by have := HS5.out; simp; omega); rw [List.append_assoc] at h; exact h, below_fr HB10.out HF11.out (by omega)⟩
    · have hzb : (z != 0) = true := by simpa using hz0
      have hz1 : z ≠ 0 := hz0
      go_wp2_with ((with_reducible show wpList _ _ _ (Oper.mk _ (.store 34 _ _) _ _ _ _ :: _) _ _); refine wp_st (by rfl) 34 _ _ (by rfl) (w.heap.size + 2) 0 [.slice none 0 0, .int .i64 0] 34 (.agg #[.slice none 0 0, .int .i64 0]) [.slice none 0 0, .int .i64 0] (by rfl) (by rfl) (by rfl) HT4.out (by simp) (by kernel_rfl) (by rfl) ?_; intro w5 hq1 hq2; have HU5 := hid hq1; have HF5 := hid hq2; clear hq1 hq2)
      exact ret_twoT (w.heap.size + 2) [.slice none 0 0, .int .i64 0] 34 _ HU5.out rfl rfl (by rfl) Try.underlying34 rfl (by kernel_rfl) ⟨.slice none 0 0, rfl, BO.nil _ _, below_fr HB.out HF5.out (by omega)⟩
end Go.Proofs.Ytepgkemnpcadiaa
