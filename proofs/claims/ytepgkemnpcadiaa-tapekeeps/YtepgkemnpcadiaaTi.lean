/-
  A tape and an act behind it: Append.
-/
import Derived.Test.YtepgkemnpcadiaaTh
namespace Go.Proofs.Ytepgkemnpcadiaa
open Go.ChangeShapes Go.WideShapes Go.ChangeAt Go.RowKit Go.Maps
set_option linter.unusedVariables false
set_option linter.unusedSimpArgs false
set_option maxRecDepth 20000
/-- Two bytes with a length. -/
def hdb (n : Nat) : List UInt8 := [UInt8.ofNat (n / 256), UInt8.ofNat (n % 256)]
def tap (l : List UInt8) (s : Int) (a : Ac) : List UInt8 × Int × Int := if tmay l.length s = true then (if ach a ≠ 0 then ([], 0, ach a) else if 200000 < l.length + 2 + (abt a).length then ([], 0, 8) else (l ++ hdb (abt a).length ++ abt a, s, 0)) else ([], 0, 9)
theorem BA.full {w : World} {p : Option Addr} {n cap : Nat} {l : List UInt8} (h : BA w (.slice p n cap) l) : BA w (.slice p n n) l := by
  obtain ⟨p', c', e, h1, h2, h3⟩ := h
  simp at e
  obtain ⟨rfl, rfl, rfl⟩ := e
  exact ⟨p, l.length, rfl, Nat.le_refl _, by omega, h3⟩
theorem hdb_cells {W : World} {g m : Nat} (hm : m ≤ 3001) (h : W.heap[g]? = some (.cells #[.int .u8 ((m : Int) / 256), .int .u8 ((m : Int) % 256)] 5 (0, 0))) : ∀ j (hj : j < (hdb m).length), W.cell? ⟨g, 0 + j, none⟩ = some (.int .u8 ((hdb m)[j].toNat : Int)) := by
  intro j hj
  have hl : (hdb m).length = 2 := rfl
  have e0 : (UInt8.ofNat (m / 256)).toNat = m / 256 := UInt8.toNat_ofNat_of_lt' (by show _ < 256; omega)
  have e1 : (UInt8.ofNat (m % 256)).toNat = m % 256 := UInt8.toNat_ofNat_of_lt' (by show _ < 256; omega)
  rcases (by omega : j = 0 ∨ j = 1) with rfl | rfl
  · rw [cell_of_blk h]
    show some (Value.int .u8 ((m : Int) / 256)) = some (.int .u8 ((UInt8.ofNat (m / 256)).toNat : Int))
    rw [e0]
    rfl
  · rw [cell_of_blk h]
    show some (Value.int .u8 ((m : Int) % 256)) = some (.int .u8 ((UInt8.ofNat (m % 256)).toNat : Int))
    rw [e1]
    rfl
set_option maxHeartbeats 16000000 in
theorem tapp_any (l : List UInt8) (v : Value) (s : Int) (a : Ac) (u : Value) (w : World) (hv : BA w v l) (hu : ValsAt w u a.o.l) :
    Calls Try.prog 12 #[tpv v s, acv a u] w fun e w' => ∃ v', e = .returned (.tuple #[tpv v' (tap l s a).2.1, .int .i64 (tap l s a).2.2]) ∧ BO w' w.heap.size v' (tap l s a).1 ∧ Below w.heap.size w w' := by
  have HV0 := hid hv
  have HU0 := hid hu
  have HE := hid (fun W (h : ValsAt W u a.o.l) => tenc_any a u W h)
  have HLB := hid (@abt_len a)
  obtain ⟨p, cap, hsh, hcap, hmax, _⟩ := hv
  subst hsh
  obtain ⟨q, cl, hshu, hmxu⟩ := hu.shape'
  subst hshu
  unfold tap
  obtain ⟨y, hy⟩ : ∃ y, abt a = y := ⟨_, rfl⟩
  obtain ⟨z, hz⟩ : ∃ z, ach a = z := ⟨_, rfl⟩
  rw [hy, hz] at HE HLB ⊢
  obtain ⟨m3, hm3⟩ : ∃ m3, y.length = m3 := ⟨_, rfl⟩
  rw [hm3] at HLB ⊢
  have HM3 := hid hm3
  obtain ⟨n, hn⟩ : ∃ n, l.length = n := ⟨_, rfl⟩
  have HM := hid (fun W => mayBe_any n p cap s W (by omega))
  have HN := hid hn
  rw [hn] at HV0 ⊢
  obtain ⟨m, hm⟩ : ∃ m, tmay n s = m := ⟨_, rfl⟩
  rw [hm] at HM ⊢
  have HMM := hid hm
  have HCAP : Hid (n ≤ cap ∧ cap ≤ maxLen) := ⟨by omega, hmax⟩
  obtain ⟨k, ⟨ok, os, oa, ob, ol, od, oc⟩, pk0, src⟩ := a
  unfold acv at HE ⊢
  unfold tpv
  simp only at HE HU0 ⊢
  obtain ⟨nl, hnl⟩ : ∃ nl, ol.length = nl := ⟨_, rfl⟩
  rw [hnl] at HE HU0 ⊢
  clear hy hz hm hm3 hnl hn hcap hmax hmxu
  have HB3 := hid (bxs3 w [.slice p n cap, .int .i64 s] [.int .i64 k, .int .i64 ok, .string os, .int .i64 oa, .int .i64 ob, .slice q nl cl, .int .i64 od, .bool oc, .int .i64 pk0, .string src] [.slice none 0 0, .int .i64 0] 34 28 34)
  go_enter Try.func12, Try.ntmps12
  go_upto_region 1 with fail
  generalize ((w.alloc (.cells #[.slice p n cap, .int .i64 s] 34)).alloc (.cells #[.int .i64 k, .int .i64 ok, .string os, .int .i64 oa, .int .i64 ob, .slice q nl cl, .int .i64 od, .bool oc, .int .i64 pk0, .string src] 28)).alloc (.cells #[.slice none 0 0, .int .i64 0] 34) = WB at HB3 ⊢
  have HT2 : Hid (WB.heap[w.heap.size]? = some (.cells #[.slice p n cap, .int .i64 s] 34 (0, 0))) := HB3.out.b 0 (by simp)
  have HT3 : Hid (WB.heap[w.heap.size + 1]? = some (.cells #[.int .i64 k, .int .i64 ok, .string os, .int .i64 oa, .int .i64 ob, .slice q nl cl, .int .i64 od, .bool oc, .int .i64 pk0, .string src] 28 (0, 0))) := HB3.out.b 1 (by simp)
  have HT4 : Hid (WB.heap[w.heap.size + 2]? = some (.cells #[.slice none 0 0, .int .i64 0] 34 (0, 0))) := HB3.out.b 2 (by simp)
  have HB : Hid (Below w.heap.size w WB) := HB3.out.bel
  have HV : Hid (BA WB (.slice p n cap) l) := BA.below (B := 0) HV0.out HB3.out.bel
  have HU : Hid (ValsAt WB (.slice q nl cl) ol) := HU0.out.below HB3.out.bel
  clear HB3
  have x0 : WB.cell? ⟨w.heap.size, 0, none⟩ = some (.slice p n cap) := by rw [cell_of_blk HT2.out]; rfl
  have x1 : WB.cell? ⟨w.heap.size, 1, none⟩ = some (.int .i64 s) := by rw [cell_of_blk HT2.out]; rfl
  go_wp2_with fail
  refine (HM.out _).mono ?_
  rintro e w2 ⟨rfl, hb⟩
  clear x0 x1
  have HBh2 := hid hb
  clear hb
  replace HT2 : Hid (w2.heap[w.heap.size]? = some (.cells #[.slice p n cap, .int .i64 s] 34 (0, 0))) := (HBh2.out.block _ (blk_lt HT2.out)).trans HT2.out
  replace HT3 : Hid (w2.heap[w.heap.size + 1]? = some (.cells #[.int .i64 k, .int .i64 ok, .string os, .int .i64 oa, .int .i64 ob, .slice q nl cl, .int .i64 od, .bool oc, .int .i64 pk0, .string src] 28 (0, 0))) := (HBh2.out.block _ (blk_lt HT3.out)).trans HT3.out
  replace HT4 : Hid (w2.heap[w.heap.size + 2]? = some (.cells #[.slice none 0 0, .int .i64 0] 34 (0, 0))) := (HBh2.out.block _ (blk_lt HT4.out)).trans HT4.out
  replace HB : Hid (Below w.heap.size w w2) := below_trans HB.out HBh2.out HB.out.size
  replace HV : Hid (BA w2 (.slice p n cap) l) := BA.below (B := 0) HV.out HBh2.out
  replace HU : Hid (ValsAt w2 (.slice q nl cl) ol) := HU.out.below HBh2.out
  cases m
  · go_wp2_with ((with_reducible show wpList _ _ _ (Oper.mk _ (.store 34 _ _) _ _ _ _ :: _) _ _); refine wp_st (by rfl) 34 _ _ (by rfl) (w.heap.size + 2) 0 [.slice none 0 0, .int .i64 0] 34 (.agg #[.slice none 0 0, .int .i64 0]) [.slice none 0 0, .int .i64 0] (by rfl) (by rfl) (by rfl) HT4.out (by simp) (by kernel_rfl) (by rfl) ?_; intro w5 hq1 hq2; have HU5 := hid hq1; have HF5 := hid hq2; clear hq1 hq2)
    exact ret_twoT (w.heap.size + 2) [.slice none 0 0, .int .i64 0] 34 _ HU5.out rfl rfl (by rfl) Try.underlying34 rfl (by kernel_rfl) ⟨.slice none 0 0, rfl, BO.nil _ _, below_fr HB.out HF5.out (by omega)⟩
  · have HT := hid (tmay_of HMM.out)
    have x0 : w2.cell? ⟨w.heap.size + 1, 0, none⟩ = some (.int .i64 k) := by rw [cell_of_blk HT3.out]; rfl
    have x1 : w2.cell? ⟨w.heap.size + 1, 1, none⟩ = some (.int .i64 ok) := by rw [cell_of_blk HT3.out]; rfl
    have x2 : w2.cell? ⟨w.heap.size + 1, 2, none⟩ = some (.string os) := by rw [cell_of_blk HT3.out]; rfl
    have x3 : w2.cell? ⟨w.heap.size + 1, 3, none⟩ = some (.int .i64 oa) := by rw [cell_of_blk HT3.out]; rfl
    have x4 : w2.cell? ⟨w.heap.size + 1, 4, none⟩ = some (.int .i64 ob) := by rw [cell_of_blk HT3.out]; rfl
    have x5 : w2.cell? ⟨w.heap.size + 1, 5, none⟩ = some (.slice q nl cl) := by rw [cell_of_blk HT3.out]; rfl
    have x6 : w2.cell? ⟨w.heap.size + 1, 6, none⟩ = some (.int .i64 od) := by rw [cell_of_blk HT3.out]; rfl
    have x7 : w2.cell? ⟨w.heap.size + 1, 7, none⟩ = some (.bool oc) := by rw [cell_of_blk HT3.out]; rfl
    have x8 : w2.cell? ⟨w.heap.size + 1, 8, none⟩ = some (.int .i64 pk0) := by rw [cell_of_blk HT3.out]; rfl
    have x9 : w2.cell? ⟨w.heap.size + 1, 9, none⟩ = some (.string src) := by rw [cell_of_blk HT3.out]; rfl
    go_wp2_with fail
    refine (HE.out _ HU.out).mono ?_
    rintro e w3 ⟨v', rfl, ho, hb⟩
    clear x0 x1 x2 x3 x4 x5 x6 x7 x8 x9
    obtain ⟨p3, n3, c3, hsh⟩ := ho.shape3
    subst hsh
    have HO3 := hid ho
    have HBh3 := hid hb
    clear ho hb
    replace HT2 : Hid (w3.heap[w.heap.size]? = some (.cells #[.slice p n cap, .int .i64 s] 34 (0, 0))) := (HBh3.out.block _ (blk_lt HT2.out)).trans HT2.out
    replace HT3 : Hid (w3.heap[w.heap.size + 1]? = some (.cells #[.int .i64 k, .int .i64 ok, .string os, .int .i64 oa, .int .i64 ob, .slice q nl cl, .int .i64 od, .bool oc, .int .i64 pk0, .string src] 28 (0, 0))) := (HBh3.out.block _ (blk_lt HT3.out)).trans HT3.out
    replace HT4 : Hid (w3.heap[w.heap.size + 2]? = some (.cells #[.slice none 0 0, .int .i64 0] 34 (0, 0))) := (HBh3.out.block _ (blk_lt HT4.out)).trans HT4.out
    replace HB : Hid (Below w.heap.size w w3) := below_trans HB.out HBh3.out HB.out.size
    replace HV : Hid (BA w3 (.slice p n cap) l) := BA.below (B := 0) HV.out HBh3.out
    replace HU : Hid (ValsAt w3 (.slice q nl cl) ol) := HU.out.below HBh3.out
    by_cases hz0 : z = 0
    · subst hz0
      have ho := HO3.out
      rw [if_pos rfl] at ho
      obtain ⟨p3', c3', hsh⟩ := ho.shape
      simp at hsh
      obtain ⟨rfl, rfl, rfl⟩ := hsh
      have HOY := hid ho
      clear ho HO3
      rw [HM3.out] at HOY ⊢
      have HLBY : Hid (0 < m3 ∧ m3 ≤ 3001) := HLB.out rfl
      have hn0 : (n : Int) ≤ 200000 := by have := HT.out; omega
      have hm0 : (m3 : Int) ≤ 3001 := by have := HLBY.out; omega
      have x0 : w3.cell? ⟨w.heap.size, 0, none⟩ = some (.slice p n cap) := by rw [cell_of_blk HT2.out]; rfl
      have x1 : w3.cell? ⟨w.heap.size, 1, none⟩ = some (.int .i64 s) := by rw [cell_of_blk HT2.out]; rfl
      by_cases hful : 200000 < n + 2 + m3
      · have hf1 : (200000 : Int) < (n : Int) + 2 + (m3 : Int) := by omega
        go_wp2_with ((with_reducible show wpList _ _ _ (Oper.mk _ (.store 34 _ _) _ _ _ _ :: _) _ _); refine wp_st (by rfl) 34 _ _ (by rfl) (w.heap.size + 2) 0 [.slice none 0 0, .int .i64 0] 34 (.agg #[.slice none 0 0, .int .i64 0]) [.slice none 0 0, .int .i64 0] (by rfl) (by rfl) (by rfl) HT4.out (by simp) (by kernel_rfl) (by rfl) ?_; intro w5 hq1 hq2; have HU5 := hid hq1; have HF5 := hid hq2; clear hq1 hq2)
        exact ret_twoT (w.heap.size + 2) [.slice none 0 0, .int .i64 0] 34 _ HU5.out rfl rfl (by rfl) Try.underlying34 rfl (by kernel_rfl) ⟨.slice none 0 0, rfl, BO.nil _ _, below_fr HB.out HF5.out (by omega)⟩
      · have hf1 : ¬ (200000 : Int) < (n : Int) + 2 + (m3 : Int) := by omega
        have HFUL := hid hful
        have hcp : (n : Int) ≤ (cap : Int) := by have := HCAP.out; omega
        have hcm : (cap : Int) ≤ 9223372036854775807 := by have := HCAP.out; unfold maxLen at this; omega
        clear hful
        rcases p with _ | ap
        · have HV3 := hid HV.out.full
          go_upto_region 10 with (at_builtin; go_loud (refine wp_appFull (by rfl) _ _ (by rfl) (w3.alloc (.cells #[.int .u8 ((m3 : Int) / 256), .int .u8 ((m3 : Int) % 256)] 5)) _ n l (by rfl) (BA.below (B := 0) HV3.out ((Below.refl _ _).alloc (Nat.le_refl _) _)) w3.heap.size 0 2 2 (hdb m3) (by rfl) (by rfl) (hdb_cells (by have := HLBY.out; omega) (heap_alloc_new _ _)) (by decide) (by have := HT.out; omega) ?_); intro v9 w9 hq1 hq2; have HO9 := hid hq1; have HBh9 := hid (below_trans ((Below.refl _ w3).alloc (Nat.le_refl _) _) hq2 (by simp)); obtain ⟨p9, n9, c9, hsh⟩ := hq1.shape3; subst hsh; clear hq1 hq2)
          have HS9 : Hid (w3.heap.size ≤ w9.heap.size) := HBh9.out.size
          have HOY9 := hid (HOY.out.below HBh9.out)
          clear x0 x1
          have HS3 : Hid (w.heap.size + 2 < w3.heap.size) := blk_lt HT4.out
          replace HT2 : Hid (w9.heap[w.heap.size]? = some (.cells #[.slice none n cap, .int .i64 s] 34 (0, 0))) := (HBh9.out.block _ (blk_lt HT2.out)).trans HT2.out
          replace HT3 : Hid (w9.heap[w.heap.size + 1]? = some (.cells #[.int .i64 k, .int .i64 ok, .string os, .int .i64 oa, .int .i64 ob, .slice q nl cl, .int .i64 od, .bool oc, .int .i64 pk0, .string src] 28 (0, 0))) := (HBh9.out.block _ (blk_lt HT3.out)).trans HT3.out
          replace HT4 : Hid (w9.heap[w.heap.size + 2]? = some (.cells #[.slice none 0 0, .int .i64 0] 34 (0, 0))) := (HBh9.out.block _ (blk_lt HT4.out)).trans HT4.out
          replace HB : Hid (Below w.heap.size w w9) := below_trans HB.out HBh9.out HB.out.size
          replace HV : Hid (BA w9 (.slice none n cap) l) := BA.below (B := 0) HV.out HBh9.out
          replace HU : Hid (ValsAt w9 (.slice q nl cl) ol) := HU.out.below HBh9.out
          have HKS : Hid (∀ W : World, W.heap[w.heap.size]? = some (.cells #[.slice none n cap, .int .i64 s] 34 (0, 0)) → W.cell? ⟨w.heap.size, 1, none⟩ = some (.int .i64 s)) := fun W h => by rw [cell_of_blk h]; rfl
          refine start_n (S := (fun w' => w'.cell? ⟨w.heap.size, 1, none⟩ = some (.int .i64 s))) 8 #[false, false, false, false, false, false, false, false] rfl rfl (by kernel_rfl) (HKS.out _ (by exact HT2.out)) (fun hHeld => ?_)
          refine take_mk (i := 0) (v := ?v1) rfl (by kernel_rfl) (by kernel_rfl) (by kernel_rfl) (fun _ _ _ h => h) (Or.inl ⟨by rfl, ?hy1⟩) (by assumption) ?rest1
          case hy1 => (intro w0 hSw; (try dsimp only at hSw); go_simp <;> (try (with_reducible rfl)))
          (try simp only [Act.put, List.setIfInBounds_toArray, List.set_cons_zero, List.set_cons_succ])
          refine take_mk (i := 1) (v := ?v2) rfl (by kernel_rfl) (by kernel_rfl) (by kernel_rfl) (fun _ _ _ h => h) (Or.inl ⟨by rfl, ?hy2⟩) (by assumption) ?rest2
          case hy2 => (intro w0 hSw; (try dsimp only at hSw); go_simp <;> (try (with_reducible rfl)))
          (try simp only [Act.put, List.setIfInBounds_toArray, List.set_cons_zero, List.set_cons_succ])
          refine take_mk (i := 3) (v := ?v3) rfl (by kernel_rfl) (by kernel_rfl) (by kernel_rfl) (fun _ _ _ h => h) (Or.inl ⟨by rfl, ?hy3⟩) (by assumption) ?rest3
          case hy3 => (intro w0 hSw; (try dsimp only at hSw); go_simp <;> (try (with_reducible rfl)))
          (try simp only [Act.put, List.setIfInBounds_toArray, List.set_cons_zero, List.set_cons_succ])
          refine take_mk (i := 4) (v := ?v4) rfl (by kernel_rfl) (by kernel_rfl) (by kernel_rfl) (fun _ _ _ h => h) (Or.inl ⟨by rfl, ?hy4⟩) (by assumption) ?rest4
          case hy4 => (intro w0 hSw; (try dsimp only at hSw); go_simp <;> (try (with_reducible rfl)))
          (try simp only [Act.put, List.setIfInBounds_toArray, List.set_cons_zero, List.set_cons_succ])
          have HO9w : Hid (BO w9 w3.heap.size (.slice p9 n9 c9) (l ++ hdb m3)) := HO9.out.weak (by simp)
          have HYN : Hid (y ≠ []) := by have := HLBY.out; have := HM3.out; intro h; subst h; simp at this; omega
          have HLL : Hid ((l ++ hdb m3).length + y.length < 50000000) := by have := HT.out; have := HLBY.out; have := HM3.out; have := HN.out; show _ < _; simp [hdb]; omega
          refine wpAnyH_ready (rs := [2]) (by kernel_rfl) (by simp) ?_
          refine cons_mk rfl (fun K hK => ?_) AllReadyH.nil
          refine want_mk (by rfl) ?_
          refine op_appB _ _ (by rfl) w3.heap.size (.slice p9 n9 c9) _ (l ++ hdb m3) y (by rfl) HO9w.out HS9.out (by rfl) HOY9.out.br HYN.out HLL.out ?_
          intro v10 w10 hq1 hq2
          obtain ⟨p10, n10, c10, hsh⟩ := hq1.shape3
          subst hsh
          have HO10 := hid hq1
          have HB10 : Hid (Below w.heap.size w w10) := below_trans HB.out.drew hq2 (by have := HS3.out; omega)
          have HD10 : Hid (w10.heap[w.heap.size]? = some (.cells #[.slice none n cap, .int .i64 s] 34 (0, 0))) := (hq2.block _ (by have := HS3.out; omega)).trans HT2.out
          have HR10 : Hid (w10.heap[w.heap.size + 2]? = some (.cells #[.slice none 0 0, .int .i64 0] 34 (0, 0))) := (hq2.block _ HS3.out).trans HT4.out
          clear hq1 hq2
          refine hK.out _ _ (HKS.out _ HD10.out) (fun hHeld => ?_)
          clear hK K
          (try simp only [Act.put, List.setIfInBounds_toArray, List.set_cons_zero, List.set_cons_succ])
          refine take_mk (i := 5) (v := ?v5) rfl (by kernel_rfl) (by kernel_rfl) (by kernel_rfl) (fun _ _ _ h => h) (Or.inl ⟨by rfl, ?hy5⟩) (by assumption) ?rest5
          case hy5 => (intro w0 hSw; (try dsimp only at hSw); go_simp <;> (try (with_reducible rfl)))
          (try simp only [Act.put, List.setIfInBounds_toArray, List.set_cons_zero, List.set_cons_succ])
          refine wpAnyH_ready (rs := [6]) (by kernel_rfl) (by simp) ?_
          refine cons_mk rfl (fun K hK => ?_) AllReadyH.nil
          refine want_mk (by rfl) ?_
          refine op_st 34 _ _ (by rfl) (w.heap.size + 2) 0 [.slice none 0 0, .int .i64 0] 34 (.agg #[.slice p10 n10 c10, .int .i64 s]) [.slice p10 n10 c10, .int .i64 s] (by rfl) (by rfl) (by rfl) HR10.out (by simp) (by kernel_rfl) (by rfl) ?_
          intro w5 hq1 hq2
          have HU5 := hid hq1
          have HF5 := hid hq2
          clear hq1 hq2
          refine hK.out _ _ (HKS.out _ (blk_set HD10.out HF5.out (by omega))) (fun hHeld => ?_)
          clear hK K
          (try simp only [Act.put, List.setIfInBounds_toArray, List.set_cons_zero, List.set_cons_succ])
          refine take_mk (i := 7) (v := ?v6) rfl (by kernel_rfl) (by kernel_rfl) (by kernel_rfl) (fun _ _ _ h => h) (Or.inl ⟨by rfl, ?hy6⟩) (by assumption) ?rest6
          case hy6 => (intro w0 hSw; (try dsimp only at hSw); go_simp <;> (try (with_reducible rfl)))
          (try simp only [Act.put, List.setIfInBounds_toArray, List.set_cons_zero, List.set_cons_succ])
          refine wpAnyH_done (by kernel_rfl) ?_ _
          go_wp2_with fail
          exact ret_twoT (w.heap.size + 2) [.slice p10 n10 c10, .int .i64 s] 34 _ HU5.out rfl rfl (by rfl) Try.underlying34 rfl (by kernel_rfl) ⟨_, rfl, by have h := (HO10.out.frLt HF5.out HS3.out).weak (B' := w.heap.size) (by have := HS3.out; omega); rw [List.append_assoc] at h; exact h, below_fr HB10.out HF5.out (by omega)⟩
        · have HV3 := hid HV.out.full
          go_upto_region 10 with (at_builtin; go_loud (refine wp_appFull (by rfl) _ _ (by rfl) (w3.alloc (.cells #[.int .u8 ((m3 : Int) / 256), .int .u8 ((m3 : Int) % 256)] 5)) _ n l (by rfl) (BA.below (B := 0) HV3.out ((Below.refl _ _).alloc (Nat.le_refl _) _)) w3.heap.size 0 2 2 (hdb m3) (by rfl) (by rfl) (hdb_cells (by have := HLBY.out; omega) (heap_alloc_new _ _)) (by decide) (by have := HT.out; omega) ?_); intro v9 w9 hq1 hq2; have HO9 := hid hq1; have HBh9 := hid (below_trans ((Below.refl _ w3).alloc (Nat.le_refl _) _) hq2 (by simp)); obtain ⟨p9, n9, c9, hsh⟩ := hq1.shape3; subst hsh; clear hq1 hq2)
          have HS9 : Hid (w3.heap.size ≤ w9.heap.size) := HBh9.out.size
          have HOY9 := hid (HOY.out.below HBh9.out)
          clear x0 x1
          have HS3 : Hid (w.heap.size + 2 < w3.heap.size) := blk_lt HT4.out
          replace HT2 : Hid (w9.heap[w.heap.size]? = some (.cells #[.slice (some ap) n cap, .int .i64 s] 34 (0, 0))) := (HBh9.out.block _ (blk_lt HT2.out)).trans HT2.out
          replace HT3 : Hid (w9.heap[w.heap.size + 1]? = some (.cells #[.int .i64 k, .int .i64 ok, .string os, .int .i64 oa, .int .i64 ob, .slice q nl cl, .int .i64 od, .bool oc, .int .i64 pk0, .string src] 28 (0, 0))) := (HBh9.out.block _ (blk_lt HT3.out)).trans HT3.out
          replace HT4 : Hid (w9.heap[w.heap.size + 2]? = some (.cells #[.slice none 0 0, .int .i64 0] 34 (0, 0))) := (HBh9.out.block _ (blk_lt HT4.out)).trans HT4.out
          replace HB : Hid (Below w.heap.size w w9) := below_trans HB.out HBh9.out HB.out.size
          replace HV : Hid (BA w9 (.slice (some ap) n cap) l) := BA.below (B := 0) HV.out HBh9.out
          replace HU : Hid (ValsAt w9 (.slice q nl cl) ol) := HU.out.below HBh9.out
          have HKS : Hid (∀ W : World, W.heap[w.heap.size]? = some (.cells #[.slice (some ap) n cap, .int .i64 s] 34 (0, 0)) → W.cell? ⟨w.heap.size, 1, none⟩ = some (.int .i64 s)) := fun W h => by rw [cell_of_blk h]; rfl
          refine start_n (S := (fun w' => w'.cell? ⟨w.heap.size, 1, none⟩ = some (.int .i64 s))) 8 #[false, false, false, false, false, false, false, false] rfl rfl (by kernel_rfl) (HKS.out _ (by exact HT2.out)) (fun hHeld => ?_)
          refine take_mk (i := 0) (v := ?vb1) rfl (by kernel_rfl) (by kernel_rfl) (by kernel_rfl) (fun _ _ _ h => h) (Or.inl ⟨by rfl, ?hyb1⟩) (by assumption) ?restb1
          case hyb1 => (intro w0 hSw; (try dsimp only at hSw); go_simp <;> (try (with_reducible rfl)))
          (try simp only [Act.put, List.setIfInBounds_toArray, List.set_cons_zero, List.set_cons_succ])
          refine take_mk (i := 1) (v := ?vb2) rfl (by kernel_rfl) (by kernel_rfl) (by kernel_rfl) (fun _ _ _ h => h) (Or.inl ⟨by rfl, ?hyb2⟩) (by assumption) ?restb2
          case hyb2 => (intro w0 hSw; (try dsimp only at hSw); go_simp <;> (try (with_reducible rfl)))
          (try simp only [Act.put, List.setIfInBounds_toArray, List.set_cons_zero, List.set_cons_succ])
          refine take_mk (i := 3) (v := ?vb3) rfl (by kernel_rfl) (by kernel_rfl) (by kernel_rfl) (fun _ _ _ h => h) (Or.inl ⟨by rfl, ?hyb3⟩) (by assumption) ?restb3
          case hyb3 => (intro w0 hSw; (try dsimp only at hSw); go_simp <;> (try (with_reducible rfl)))
          (try simp only [Act.put, List.setIfInBounds_toArray, List.set_cons_zero, List.set_cons_succ])
          refine take_mk (i := 4) (v := ?vb4) rfl (by kernel_rfl) (by kernel_rfl) (by kernel_rfl) (fun _ _ _ h => h) (Or.inl ⟨by rfl, ?hyb4⟩) (by assumption) ?restb4
          case hyb4 => (intro w0 hSw; (try dsimp only at hSw); go_simp <;> (try (with_reducible rfl)))
          (try simp only [Act.put, List.setIfInBounds_toArray, List.set_cons_zero, List.set_cons_succ])
          have HO9w : Hid (BO w9 w3.heap.size (.slice p9 n9 c9) (l ++ hdb m3)) := HO9.out.weak (by simp)
          have HYN : Hid (y ≠ []) := by have := HLBY.out; have := HM3.out; intro h; subst h; simp at this; omega
          have HLL : Hid ((l ++ hdb m3).length + y.length < 50000000) := by have := HT.out; have := HLBY.out; have := HM3.out; have := HN.out; show _ < _; simp [hdb]; omega
          refine wpAnyH_ready (rs := [2]) (by kernel_rfl) (by simp) ?_
          refine cons_mk rfl (fun K hK => ?_) AllReadyH.nil
          refine want_mk (by rfl) ?_
          refine op_appB _ _ (by rfl) w3.heap.size (.slice p9 n9 c9) _ (l ++ hdb m3) y (by rfl) HO9w.out HS9.out (by rfl) HOY9.out.br HYN.out HLL.out ?_
          intro v10 w10 hq1 hq2
          obtain ⟨p10, n10, c10, hsh⟩ := hq1.shape3
          subst hsh
          have HO10 := hid hq1
          have HB10 : Hid (Below w.heap.size w w10) := below_trans HB.out.drew hq2 (by have := HS3.out; omega)
          have HD10 : Hid (w10.heap[w.heap.size]? = some (.cells #[.slice (some ap) n cap, .int .i64 s] 34 (0, 0))) := (hq2.block _ (by have := HS3.out; omega)).trans HT2.out
          have HR10 : Hid (w10.heap[w.heap.size + 2]? = some (.cells #[.slice none 0 0, .int .i64 0] 34 (0, 0))) := (hq2.block _ HS3.out).trans HT4.out
          clear hq1 hq2
          refine hK.out _ _ (HKS.out _ HD10.out) (fun hHeld => ?_)
          clear hK K
          (try simp only [Act.put, List.setIfInBounds_toArray, List.set_cons_zero, List.set_cons_succ])
          refine take_mk (i := 5) (v := ?vb5) rfl (by kernel_rfl) (by kernel_rfl) (by kernel_rfl) (fun _ _ _ h => h) (Or.inl ⟨by rfl, ?hyb5⟩) (by assumption) ?restb5
          case hyb5 => (intro w0 hSw; (try dsimp only at hSw); go_simp <;> (try (with_reducible rfl)))
          (try simp only [Act.put, List.setIfInBounds_toArray, List.set_cons_zero, List.set_cons_succ])
          refine wpAnyH_ready (rs := [6]) (by kernel_rfl) (by simp) ?_
          refine cons_mk rfl (fun K hK => ?_) AllReadyH.nil
          refine want_mk (by rfl) ?_
          refine op_st 34 _ _ (by rfl) (w.heap.size + 2) 0 [.slice none 0 0, .int .i64 0] 34 (.agg #[.slice p10 n10 c10, .int .i64 s]) [.slice p10 n10 c10, .int .i64 s] (by rfl) (by rfl) (by rfl) HR10.out (by simp) (by kernel_rfl) (by rfl) ?_
          intro w5 hq1 hq2
          have HU5 := hid hq1
          have HF5 := hid hq2
          clear hq1 hq2
          refine hK.out _ _ (HKS.out _ (blk_set HD10.out HF5.out (by omega))) (fun hHeld => ?_)
          clear hK K
          (try simp only [Act.put, List.setIfInBounds_toArray, List.set_cons_zero, List.set_cons_succ])
          refine take_mk (i := 7) (v := ?vb6) rfl (by kernel_rfl) (by kernel_rfl) (by kernel_rfl) (fun _ _ _ h => h) (Or.inl ⟨by rfl, ?hyb6⟩) (by assumption) ?restb6
          case hyb6 => (intro w0 hSw; (try dsimp only at hSw); go_simp <;> (try (with_reducible rfl)))
          (try simp only [Act.put, List.setIfInBounds_toArray, List.set_cons_zero, List.set_cons_succ])
          refine wpAnyH_done (by kernel_rfl) ?_ _
          go_wp2_with fail
          exact ret_twoT (w.heap.size + 2) [.slice p10 n10 c10, .int .i64 s] 34 _ HU5.out rfl rfl (by rfl) Try.underlying34 rfl (by kernel_rfl) ⟨_, rfl, by have h := (HO10.out.frLt HF5.out HS3.out).weak (B' := w.heap.size) (by have := HS3.out; omega); rw [List.append_assoc] at h; exact h, below_fr HB10.out HF5.out (by omega)⟩
    · have hzb : (z != 0) = true := by simpa using hz0
      have hz1 : z ≠ 0 := hz0
      go_wp2_with ((with_reducible show wpList _ _ _ (Oper.mk _ (.store 34 _ _) _ _ _ _ :: _) _ _); refine wp_st (by rfl) 34 _ _ (by rfl) (w.heap.size + 2) 0 [.slice none 0 0, .int .i64 0] 34 (.agg #[.slice none 0 0, .int .i64 0]) [.slice none 0 0, .int .i64 0] (by rfl) (by rfl) (by rfl) HT4.out (by simp) (by kernel_rfl) (by rfl) ?_; intro w5 hq1 hq2; have HU5 := hid hq1; have HF5 := hid hq2; clear hq1 hq2)
      exact ret_twoT (w.heap.size + 2) [.slice none 0 0, .int .i64 0] 34 _ HU5.out rfl rfl (by rfl) Try.underlying34 rfl (by kernel_rfl) ⟨.slice none 0 0, rfl, BO.nil _ _, below_fr HB.out HF5.out (by omega)⟩
end Go.Proofs.Ytepgkemnpcadiaa
