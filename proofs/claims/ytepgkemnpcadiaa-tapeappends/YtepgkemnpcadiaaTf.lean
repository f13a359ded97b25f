/-
  The document's tapes: synced, crashed.
-/
import Derived.Test.YtepgkemnpcadiaaTe
namespace Go.Proofs.Ytepgkemnpcadiaa
open Go.ChangeShapes Go.WideShapes Go.ChangeAt Go.RowKit Go.Maps
set_option linter.unusedVariables false
set_option linter.unusedSimpArgs false
set_option maxRecDepth 20000
theorem BR.nil (w : World) : BR w (.slice none 0 0) [] := ⟨none, 0, rfl, fun h => absurd h (by simp)⟩
set_option maxHeartbeats 8000000 in
theorem tapeSynced_any (l : List UInt8) (v : Value) (s : Int) (w : World) (hv : BA w v l) :
    Calls Try.prog 16 #[tpv v s] w fun e w' => ∃ v', e = .returned (.tuple #[tpv v' (tsy l s).2.1, .int .i64 (tsy l s).2.2]) ∧ BO w' w.heap.size v' (tsy l s).1 ∧ Below w.heap.size w w' := by
  have HV := hid hv
  obtain ⟨p, cap, hsh, hcap, hmax, _⟩ := hv
  subst hsh
  obtain ⟨n, hn⟩ : ∃ n, l.length = n := ⟨_, rfl⟩
  have HM := hid (fun W => tapeMay_any n p cap s W (by omega))
  have HN := hid hn
  unfold tsy tpv
  rw [hn]
  obtain ⟨m, hm⟩ : ∃ m, tmay n s = m := ⟨_, rfl⟩
  rw [hm] at HM ⊢
  have HMM := hid hm
  clear hm
  have hmx : (cap : Int) ≤ 9223372036854775807 := by unfold maxLen at hmax; omega
  have hcp : (n : Int) ≤ (cap : Int) := by omega
  clear hcap hmax hn
  have HB2 := hid (bxs2 w [.slice p n cap, .int .i64 s] [.slice none 0 0, .int .i64 0] 34 34)
  go_enter Try.func16, Try.ntmps16
  go_upto_region 1 with fail
  generalize (w.alloc (.cells #[.slice p n cap, .int .i64 s] 34)).alloc (.cells #[.slice none 0 0, .int .i64 0] 34) = WB at HB2 ⊢
  have HD0 : Hid (WB.heap[w.heap.size]? = some (.cells #[.slice p n cap, .int .i64 s] 34 (0, 0))) := HB2.out.b 0 (by simp)
  have HR0 : Hid (WB.heap[w.heap.size + 1]? = some (.cells #[.slice none 0 0, .int .i64 0] 34 (0, 0))) := HB2.out.b 1 (by simp)
  have x0 : WB.cell? ⟨w.heap.size, 0, none⟩ = some (.slice p n cap) := by rw [cell_of_blk HD0.out]; rfl
  have x1 : WB.cell? ⟨w.heap.size, 1, none⟩ = some (.int .i64 s) := by rw [cell_of_blk HD0.out]; rfl
  have HB0 := hid HB2.out.bel
  clear HB2
  go_wp2_with fail
  refine (HM.out _).mono ?_
  rintro e w2 ⟨rfl, hb⟩
  have HB1 := hid (below_trans HB0.out hb HB0.out.size)
  have HR1 : Hid (w2.heap[w.heap.size + 1]? = some (.cells #[.slice none 0 0, .int .i64 0] 34 (0, 0))) := (hb.block _ (blk_lt HR0.out)).trans HR0.out
  have HD1 : Hid (w2.heap[w.heap.size]? = some (.cells #[.slice p n cap, .int .i64 s] 34 (0, 0))) := (hb.block _ (blk_lt HD0.out)).trans HD0.out
  have y0 : w2.cell? ⟨w.heap.size, 0, none⟩ = some (.slice p n cap) := by rw [cell_of_blk HD1.out]; rfl
  have y1 : w2.cell? ⟨w.heap.size, 1, none⟩ = some (.int .i64 s) := by rw [cell_of_blk HD1.out]; rfl
  clear hb x0 x1 HR0 HD0
  cases m
  · go_wp2_with ((with_reducible show wpList _ _ _ (Oper.mk _ (.store 34 _ _) _ _ _ _ :: _) _ _); refine wp_st (by rfl) 34 _ _ (by rfl) (w.heap.size + 1) 0 [.slice none 0 0, .int .i64 0] 34 (.agg #[.slice none 0 0, .int .i64 0]) [.slice none 0 0, .int .i64 0] (by rfl) (by rfl) (by rfl) HR1.out (by simp) (by kernel_rfl) (by rfl) ?_; intro w5 hq1 hq2; have HU5 := hid hq1; have HF5 := hid hq2; clear hq1 hq2)
    refine ret_twoT (w.heap.size + 1) [.slice none 0 0, .int .i64 0] 34 _ HU5.out rfl rfl (by rfl) Try.underlying34 rfl (by kernel_rfl) ⟨.slice none 0 0, rfl, BO.nil _ _, below_fr HB1.out HF5.out (by omega)⟩
  · have HT := hid (tmay_of HMM.out)
    have HKS : Hid (∀ W : World, W.heap[w.heap.size]? = some (.cells #[.slice p n cap, .int .i64 s] 34 (0, 0)) → W.cell? ⟨w.heap.size, 0, none⟩ = some (.slice p n cap) ∧ W.cell? ⟨w.heap.size, 1, none⟩ = some (.int .i64 s)) := fun W h => ⟨by rw [cell_of_blk h]; rfl, by rw [cell_of_blk h]; rfl⟩
    have HBd : Hid (Below w.heap.size w w2.drew) := HB1.out.drew
    have HLN : Hid (l.length < 50000000) := by have := HT.out; have := HN.out; show _ < _; omega
    have HVb : Hid (BR w (.slice p n cap) l) := by have h := HV.out.br; have e := HN.out; rw [e] at h; exact h
    go_upto_region 3 with fail
    refine start_n (S := (fun w' => w'.cell? ⟨w.heap.size, 0, none⟩ = some (.slice p n cap) ∧ w'.cell? ⟨w.heap.size, 1, none⟩ = some (.int .i64 s))) 9 #[false, false, false, false, false, false, false, false, false] rfl rfl (by kernel_rfl) (HKS.out _ (by exact HD1.out)) (fun hHeld => ?_)
    refine take_mk (i := 0) (v := ?v1) rfl (by kernel_rfl) (by kernel_rfl) (by kernel_rfl) (fun _ _ _ h => h) (Or.inl ⟨by rfl, ?hy1⟩) (by assumption) ?rest1
    case hy1 => (intro w0 hSw; (try dsimp only at hSw); go_simp <;> (try (with_reducible rfl)))
    (try simp only [Act.put, List.setIfInBounds_toArray, List.set_cons_zero, List.set_cons_succ])
    refine take_mk (i := 1) (v := ?v2) rfl (by kernel_rfl) (by kernel_rfl) (by kernel_rfl) (fun _ _ _ h => h) (Or.inl ⟨by rfl, ?hy2⟩) (by assumption) ?rest2
    case hy2 => (intro w0 hSw; (try dsimp only at hSw); go_simp <;> (try (with_reducible rfl)))
    (try simp only [Act.put, List.setIfInBounds_toArray, List.set_cons_zero, List.set_cons_succ])
    refine take_mk (i := 3) (v := ?v3) rfl (by kernel_rfl) (by kernel_rfl) (by kernel_rfl) (fun _ _ _ h => h) (Or.inl ⟨by rfl, ?hy3⟩) (by assumption) ?rest3
    case hy3 => (intro w0 hSw; (try dsimp only at hSw); go_simp <;> (try (with_reducible rfl)))
    (try simp only [Act.put, List.setIfInBounds_toArray, List.set_cons_zero, List.set_cons_succ])
    refine take_mk (i := 4) (v := ?v4) rfl (by kernel_rfl) (by kernel_rfl) (by kernel_rfl) (fun _ _ _ h => h) (Or.inl ⟨by rfl, ?hy4⟩) (by assumption) ?rest4
    case hy4 => (intro w0 hSw; (try dsimp only at hSw); go_simp <;> (try (with_reducible rfl)))
    (try simp only [Act.put, List.setIfInBounds_toArray, List.set_cons_zero, List.set_cons_succ])
    refine take_mk (i := 5) (v := ?v5) rfl (by kernel_rfl) (by kernel_rfl) (by kernel_rfl) (fun _ _ _ h => h) (Or.inl ⟨by rfl, ?hy5⟩) (by assumption) ?rest5
    case hy5 => (intro w0 hSw; (try dsimp only at hSw); go_simp <;> (try (with_reducible rfl)))
    (try simp only [Act.put, List.setIfInBounds_toArray, List.set_cons_zero, List.set_cons_succ])
    refine wpAnyH_ready (rs := [2]) (by kernel_rfl) (by simp) ?_
    refine cons_mk rfl (fun K hK => ?_) AllReadyH.nil
    refine want_mk (by rfl) ?_
    refine op_cl 35 ent_joined _ _ (by rfl) #[.slice p n cap, .slice none 0 0] (by simp only [List.map_toArray, List.map_cons, List.map_nil]; rfl) _ (joined_any (.slice p n cap) (.slice none 0 0) l [] _ (HVb.out.below HBd.out) (BR.nil _) HLN.out (by simp)) ?_
    rintro e w3 ⟨v', rfl, ho, hb⟩
    refine ⟨_, rfl, ?_⟩
    obtain ⟨p1, n1, m1, hsh⟩ := ho.shape3
    subst hsh
    rw [List.append_nil] at ho
    have HO3 := hid ho
    have HB3 := hid (below_trans HBd.out hb HBd.out.size)
    have HD3 : Hid (w3.heap[w.heap.size]? = some (.cells #[.slice p n cap, .int .i64 s] 34 (0, 0))) := (hb.block _ (blk_lt HD1.out)).trans HD1.out
    have HR3 : Hid (w3.heap[w.heap.size + 1]? = some (.cells #[.slice none 0 0, .int .i64 0] 34 (0, 0))) := (hb.block _ (blk_lt HR1.out)).trans HR1.out
    clear ho hb
    refine hK.out _ _ (HKS.out _ HD3.out) (fun hHeld => ?_)
    clear hK K
    (try simp only [Act.put, List.setIfInBounds_toArray, List.set_cons_zero, List.set_cons_succ])
    refine take_mk (i := 6) (v := ?v6) rfl (by kernel_rfl) (by kernel_rfl) (by kernel_rfl) (fun _ _ _ h => h) (Or.inl ⟨by rfl, ?hy6⟩) (by assumption) ?rest6
    case hy6 => (intro w0 hSw; (try dsimp only at hSw); go_simp <;> (try (with_reducible rfl)))
    (try simp only [Act.put, List.setIfInBounds_toArray, List.set_cons_zero, List.set_cons_succ])
    refine wpAnyH_ready (rs := [7]) (by kernel_rfl) (by simp) ?_
    refine cons_mk rfl (fun K hK => ?_) AllReadyH.nil
    refine want_mk (by rfl) ?_
    refine op_st 34 _ _ (by rfl) (w.heap.size + 1) 0 [.slice none 0 0, .int .i64 0] 34 (.agg #[.slice p1 n1 m1, .int .i64 n]) [.slice p1 n1 m1, .int .i64 n] (by rfl) (by rfl) (by rfl) HR3.out (by simp) (by kernel_rfl) (by rfl) ?_
    intro w5 hq1 hq2
    have HU5 := hid hq1
    have HF5 := hid hq2
    clear hq1 hq2
    refine hK.out _ _ (HKS.out _ (blk_set HD3.out HF5.out (by omega))) (fun hHeld => ?_)
    clear hK K
    (try simp only [Act.put, List.setIfInBounds_toArray, List.set_cons_zero, List.set_cons_succ])
    refine take_mk (i := 8) (v := ?v7) rfl (by kernel_rfl) (by kernel_rfl) (by kernel_rfl) (fun _ _ _ h => h) (Or.inl ⟨by rfl, ?hy7⟩) (by assumption) ?rest7
    case hy7 => (intro w0 hSw; (try dsimp only at hSw); go_simp <;> (try (with_reducible rfl)))
    (try simp only [Act.put, List.setIfInBounds_toArray, List.set_cons_zero, List.set_cons_succ])
    refine wpAnyH_done (by kernel_rfl) ?_ _
    go_wp2_with fail
    refine ret_twoT (w.heap.size + 1) [.slice p1 n1 m1, .int .i64 n] 34 _ HU5.out rfl rfl (by rfl) Try.underlying34 rfl (by kernel_rfl) ⟨_, rfl, (HO3.out.frLt HF5.out (blk_lt HR1.out)).weak HB1.out.size, below_fr HB3.out HF5.out (by omega)⟩
set_option maxHeartbeats 8000000 in
theorem tapeCrashed_any (l : List UInt8) (v : Value) (s k : Int) (w : World) (hv : BA w v l) (hk : wfI k) :
    Calls Try.prog 18 #[tpv v s, .int .i64 k] w fun e w' => ∃ v', e = .returned (.tuple #[tpv v' (tcr l s k).2.1, .int .i64 (tcr l s k).2.2]) ∧ BO w' w.heap.size v' (tcr l s k).1 ∧ Below w.heap.size w w' := by
  have HV := hid hv
  obtain ⟨p, cap, hsh, hcap, hmax, _⟩ := hv
  subst hsh
  obtain ⟨n, hn⟩ : ∃ n, l.length = n := ⟨_, rfl⟩
  have HM := hid (fun W => tapeMay_any n p cap s W (by omega))
  have HN := hid hn
  unfold tcr tpv
  unfold tcrN
  rw [hn]
  obtain ⟨E, hE⟩ : ∃ E : Nat, (s + (if k ≤ (n : Int) - s then k else (n : Int) - s)).toNat = E := ⟨_, rfl⟩
  rw [hE]
  have HE := hid hE
  clear hE
  obtain ⟨m, hm⟩ : ∃ m, tmay n s = m := ⟨_, rfl⟩
  rw [hm] at HM ⊢
  have HMM := hid hm
  clear hm
  have hmx : (cap : Int) ≤ 9223372036854775807 := by unfold maxLen at hmax; omega
  have hcp : (n : Int) ≤ (cap : Int) := by omega
  clear hcap hmax hn
  have HB2 := hid (bxs2 w [.slice p n cap, .int .i64 s] [.slice none 0 0, .int .i64 0] 34 34)
  go_enter Try.func18, Try.ntmps18
  go_upto_region 1 with fail
  generalize (w.alloc (.cells #[.slice p n cap, .int .i64 s] 34)).alloc (.cells #[.slice none 0 0, .int .i64 0] 34) = WB at HB2 ⊢
  have HD0 : Hid (WB.heap[w.heap.size]? = some (.cells #[.slice p n cap, .int .i64 s] 34 (0, 0))) := HB2.out.b 0 (by simp)
  have HR0 : Hid (WB.heap[w.heap.size + 1]? = some (.cells #[.slice none 0 0, .int .i64 0] 34 (0, 0))) := HB2.out.b 1 (by simp)
  have x0 : WB.cell? ⟨w.heap.size, 0, none⟩ = some (.slice p n cap) := by rw [cell_of_blk HD0.out]; rfl
  have x1 : WB.cell? ⟨w.heap.size, 1, none⟩ = some (.int .i64 s) := by rw [cell_of_blk HD0.out]; rfl
  have HB0 := hid HB2.out.bel
  clear HB2
  go_wp2_with fail
  refine (HM.out _).mono ?_
  rintro e w2 ⟨rfl, hb⟩
  have HB1 := hid (below_trans HB0.out hb HB0.out.size)
  have HR1 : Hid (w2.heap[w.heap.size + 1]? = some (.cells #[.slice none 0 0, .int .i64 0] 34 (0, 0))) := (hb.block _ (blk_lt HR0.out)).trans HR0.out
  have HD1 : Hid (w2.heap[w.heap.size]? = some (.cells #[.slice p n cap, .int .i64 s] 34 (0, 0))) := (hb.block _ (blk_lt HD0.out)).trans HD0.out
  have y0 : w2.cell? ⟨w.heap.size, 0, none⟩ = some (.slice p n cap) := by rw [cell_of_blk HD1.out]; rfl
  have y1 : w2.cell? ⟨w.heap.size, 1, none⟩ = some (.int .i64 s) := by rw [cell_of_blk HD1.out]; rfl
  clear hb x0 x1 HR0 HD0
  cases m
  · go_wp2_with ((with_reducible show wpList _ _ _ (Oper.mk _ (.store 34 _ _) _ _ _ _ :: _) _ _); refine wp_st (by rfl) 34 _ _ (by rfl) (w.heap.size + 1) 0 [.slice none 0 0, .int .i64 0] 34 (.agg #[.slice none 0 0, .int .i64 0]) [.slice none 0 0, .int .i64 0] (by rfl) (by rfl) (by rfl) HR1.out (by simp) (by kernel_rfl) (by rfl) ?_; intro w5 hq1 hq2; have HU5 := hid hq1; have HF5 := hid hq2; clear hq1 hq2)
    refine ret_twoT (w.heap.size + 1) [.slice none 0 0, .int .i64 0] 34 _ HU5.out rfl rfl (by rfl) Try.underlying34 rfl (by kernel_rfl) ⟨.slice none 0 0, rfl, BO.nil _ _, below_fr HB1.out HF5.out (by omega)⟩
  · have HT := hid (tmay_of HMM.out)
    by_cases hk0 : k < 0
    · go_wp2_with ((with_reducible show wpList _ _ _ (Oper.mk _ (.store 34 _ _) _ _ _ _ :: _) _ _); refine wp_st (by rfl) 34 _ _ (by rfl) (w.heap.size + 1) 0 [.slice none 0 0, .int .i64 0] 34 (.agg #[.slice none 0 0, .int .i64 0]) [.slice none 0 0, .int .i64 0] (by rfl) (by rfl) (by rfl) HR1.out (by simp) (by kernel_rfl) (by rfl) ?_; intro w5 hq1 hq2; have HU5 := hid hq1; have HF5 := hid hq2; clear hq1 hq2)
      refine ret_twoT (w.heap.size + 1) [.slice none 0 0, .int .i64 0] 34 _ HU5.out rfl rfl (by rfl) Try.underlying34 rfl (by kernel_rfl) ⟨.slice none 0 0, rfl, BO.nil _ _, below_fr HB1.out HF5.out (by omega)⟩
    · have ht := HT.out
      have hEn : E ≤ n := by have := HE.out; split at this <;> omega
      have HVT : Hid (BR w2 (.slice p E cap) (l.take E)) := (BA.take (BA.below (B := 0) HV.out HB1.out) E cap (by have := HN.out; omega) (by omega) (Nat.le_refl _)).br
      have HLN : Hid ((l.take E).length < 50000000) := by have := HT.out; have := HN.out; show _ < _; rw [List.length_take]; omega
      have HEN := hid hEn
      have hE0 : (0 : Int) ≤ (E : Int) := by omega
      have hE1 : (E : Int) ≤ (cap : Int) := by omega
      clear hEn
      by_cases hkn : k < (n : Int) - s
      · have e1 : s + k = (E : Int) := by have := HE.out; rw [if_pos (by omega)] at this; omega
        have E1 := hid e1
        clear e1
        go_upto_region 8 with fail
        rw [E1.out]
        go_wp2_with fail
        refine (joined_any (.slice p E cap) (.slice none 0 0) (l.take E) [] _ HVT.out (BR.nil _) HLN.out (by simp)).mono ?_
        rintro e w3 ⟨v', rfl, ho, hb⟩
        obtain ⟨p1, n1, m1, hsh⟩ := ho.shape3
        subst hsh
        rw [List.append_nil] at ho
        have HO3 := hid ho
        have HB3 := hid (below_trans HB1.out hb HB1.out.size)
        have HR3 : Hid (w3.heap[w.heap.size + 1]? = some (.cells #[.slice none 0 0, .int .i64 0] 34 (0, 0))) := (hb.block _ (blk_lt HR1.out)).trans HR1.out
        clear ho hb
        go_wp2_with ((with_reducible show wpList _ _ _ (Oper.mk _ (.store 34 _ _) _ _ _ _ :: _) _ _); refine wp_st (by rfl) 34 _ _ (by rfl) (w.heap.size + 1) 0 [.slice none 0 0, .int .i64 0] 34 (.agg #[.slice p1 n1 m1, .int .i64 E]) [.slice p1 n1 m1, .int .i64 E] (by rfl) (by rfl) (by rfl) HR3.out (by simp) (by kernel_rfl) (by rfl) ?_; intro w5 hq1 hq2; have HU5 := hid hq1; have HF5 := hid hq2; clear hq1 hq2)
        refine ret_twoT (w.heap.size + 1) [.slice p1 n1 m1, .int .i64 E] 34 _ HU5.out rfl rfl (by rfl) Try.underlying34 rfl (by kernel_rfl) ⟨_, rfl, (HO3.out.frLt HF5.out (blk_lt HR1.out)).weak HB1.out.size, below_fr HB3.out HF5.out (by omega)⟩
      · have e1 : (n : Int) = (E : Int) := by
          have := HE.out
          split at this <;> omega
        have E1 := hid e1
        clear e1
        go_upto_region 8 with fail
        rw [E1.out]
        go_wp2_with fail
        refine (joined_any (.slice p E cap) (.slice none 0 0) (l.take E) [] _ HVT.out (BR.nil _) HLN.out (by simp)).mono ?_
        rintro e w3 ⟨v', rfl, ho, hb⟩
        obtain ⟨p1, n1, m1, hsh⟩ := ho.shape3
        subst hsh
        rw [List.append_nil] at ho
        have HO3 := hid ho
        have HB3 := hid (below_trans HB1.out hb HB1.out.size)
        have HR3 : Hid (w3.heap[w.heap.size + 1]? = some (.cells #[.slice none 0 0, .int .i64 0] 34 (0, 0))) := (hb.block _ (blk_lt HR1.out)).trans HR1.out
        clear ho hb
        go_wp2_with ((with_reducible show wpList _ _ _ (Oper.mk _ (.store 34 _ _) _ _ _ _ :: _) _ _); refine wp_st (by rfl) 34 _ _ (by rfl) (w.heap.size + 1) 0 [.slice none 0 0, .int .i64 0] 34 (.agg #[.slice p1 n1 m1, .int .i64 E]) [.slice p1 n1 m1, .int .i64 E] (by rfl) (by rfl) (by rfl) HR3.out (by simp) (by kernel_rfl) (by rfl) ?_; intro w5 hq1 hq2; have HU5 := hid hq1; have HF5 := hid hq2; clear hq1 hq2)
        refine ret_twoT (w.heap.size + 1) [.slice p1 n1 m1, .int .i64 E] 34 _ HU5.out rfl rfl (by rfl) Try.underlying34 rfl (by kernel_rfl) ⟨_, rfl, (HO3.out.frLt HF5.out (blk_lt HR1.out)).weak HB1.out.size, below_fr HB3.out HF5.out (by omega)⟩
set_option maxHeartbeats 8000000 in
theorem tapeCrashes_walk (l : List UInt8) (v : Value) (s k : Int) (w : World) (hv : BA w v l) (hl : l.length ≤ 140737488355328)
    (HS : ∀ W v, BA W v l → Calls Try.prog 17 #[tpv v s, .int .i64 k] W fun e w' => ∃ v', e = .returned (.tuple #[tpv v' (tcr l s k).2.1, .int .i64 (tcr l s k).2.2]) ∧ BO w' W.heap.size v' (tcr l s k).1 ∧ Below W.heap.size W w')
    (HD : ∀ W v, BA W v l → Calls Try.prog 18 #[tpv v s, .int .i64 k] W fun e w' => ∃ v', e = .returned (.tuple #[tpv v' (tcr l s k).2.1, .int .i64 (tcr l s k).2.2]) ∧ BO w' W.heap.size v' (tcr l s k).1 ∧ Below W.heap.size W w') :
    Calls Try.prog 6 #[tpv v s, .int .i64 k] w fun e w' => e = .returned (.bool true) ∧ Below w.heap.size w w' := by
  have HV0 := hid hv
  have HL := hid hl
  have HSS := hid HS
  have HDD := hid HD
  obtain ⟨p, cap, hsh, _⟩ := hv
  subst hsh
  obtain ⟨⟨l2, s2, z2⟩, hz⟩ : ∃ z, tcr l s k = z := ⟨_, rfl⟩
  rw [hz] at HSS HDD
  obtain ⟨n, hn⟩ : ∃ n, l.length = n := ⟨_, rfl⟩
  rw [hn] at HV0 ⊢
  clear hl hn HS HD hz
  unfold tpv at HSS HDD ⊢
  simp only at HSS HDD
  go_enter Try.func6, Try.ntmps6
  go_upto_region 1 with fail
  have HT1 : Hid ((w.alloc (.cells #[.slice p n cap, .int .i64 s] 34)).heap[w.heap.size]? = some (.cells #[.slice p n cap, .int .i64 s] 34 (0, 0))) := heap_alloc_new _ _
  have HV : Hid (BA (w.alloc (.cells #[.slice p n cap, .int .i64 s] 34)) (.slice p n cap) l) := BA.below (B := 0) HV0.out ((Below.refl _ w).alloc (Nat.le_refl _) _)
  have HB : Hid (Below w.heap.size w (w.alloc (.cells #[.slice p n cap, .int .i64 s] 34))) := (Below.refl _ w).alloc (Nat.le_refl _) _
  generalize w.alloc (.cells #[.slice p n cap, .int .i64 s] 34) = w1 at HT1 HV HB ⊢
  have x0 : w1.cell? ⟨w.heap.size, 0, none⟩ = some (.slice p n cap) := by rw [cell_of_blk HT1.out]; rfl
  have x1 : w1.cell? ⟨w.heap.size, 1, none⟩ = some (.int .i64 s) := by rw [cell_of_blk HT1.out]; rfl
  go_wp2_with fail
  refine (tapes_any l (.slice p n cap) s _ HV.out HL.out).mono ?_
  rintro e w2 ⟨v2, rfl, ho, hb⟩
  clear x0 x1
  obtain ⟨p2, n2, c2, hsh⟩ := ho.shape3
  subst hsh
  have HO2 := hid ho.ba
  have HBh := hid hb
  clear ho hb
  unfold tpv
  replace HT1 : Hid (w2.heap[w.heap.size]? = some (.cells #[.slice p n cap, .int .i64 s] 34 (0, 0))) := (HBh.out.block _ (blk_lt HT1.out)).trans HT1.out
  replace HV : Hid (BA w2 (.slice p n cap) l) := BA.below (B := 0) HV.out HBh.out
  replace HB : Hid (Below w.heap.size w w2) := below_trans HB.out HBh.out HB.out.size
  have HV2 : Hid (BA w2 (.slice p2 n2 c2) l) := HO2.out
  go_upto_region 2 with ((with_reducible show wpList _ _ _ (Oper.mk _ (.store 34 _ _) _ _ _ _ :: _) _ _); refine wp_st (by rfl) 34 _ _ (by rfl) w2.heap.size 0 [.slice none 0 0, .int .i64 0] 34 (.agg #[.slice p2 n2 c2, .int .i64 s]) [.slice p2 n2 c2, .int .i64 s] (by rfl) (by rfl) (by rfl) (heap_alloc_new _ _) (by simp) (by kernel_rfl) (by rfl) ?_; intro w3 hq1 hq2; have HU3 := hid hq1; have HF3 := hid hq2; clear hq1 hq2)
  have HBn3 : Hid (Below w2.heap.size w2 w3) := below_fr ((Below.refl _ _).alloc (Nat.le_refl _) _) HF3.out (Nat.le_refl _)
  replace HT1 : Hid (w3.heap[w.heap.size]? = some (.cells #[.slice p n cap, .int .i64 s] 34 (0, 0))) := (HBn3.out.block _ (blk_lt HT1.out)).trans HT1.out
  replace HV : Hid (BA w3 (.slice p n cap) l) := BA.below (B := 0) HV.out HBn3.out
  replace HB : Hid (Below w.heap.size w w3) := below_trans HB.out HBn3.out HB.out.size
  replace HV2 : Hid (BA w3 (.slice p2 n2 c2) l) := BA.below (B := 0) HV2.out HBn3.out
  have HT3 : Hid (w3.heap[w2.heap.size]? = some (.cells #[.slice p2 n2 c2, .int .i64 s] 34 (0, 0))) := HU3.out
  clear HU3 HF3
  have x0 : w3.cell? ⟨w2.heap.size, 0, none⟩ = some (.slice p2 n2 c2) := by rw [cell_of_blk HT3.out]; rfl
  have x1 : w3.cell? ⟨w2.heap.size, 1, none⟩ = some (.int .i64 s) := by rw [cell_of_blk HT3.out]; rfl
  go_wp2_with fail
  refine (HSS.out _ _ HV2.out).mono ?_
  rintro e w4 ⟨v4, rfl, ho, hb⟩
  clear x0 x1
  obtain ⟨p4, n4, c4, hsh⟩ := ho.shape3
  subst hsh
  have HO4 := hid ho.br
  have HBh4 := hid hb
  clear ho hb
  replace HT1 : Hid (w4.heap[w.heap.size]? = some (.cells #[.slice p n cap, .int .i64 s] 34 (0, 0))) := (HBh4.out.block _ (blk_lt HT1.out)).trans HT1.out
  replace HV : Hid (BA w4 (.slice p n cap) l) := BA.below (B := 0) HV.out HBh4.out
  replace HB : Hid (Below w.heap.size w w4) := below_trans HB.out HBh4.out HB.out.size
  replace HV2 : Hid (BA w4 (.slice p2 n2 c2) l) := BA.below (B := 0) HV2.out HBh4.out
  replace HT3 : Hid (w4.heap[w2.heap.size]? = some (.cells #[.slice p2 n2 c2, .int .i64 s] 34 (0, 0))) := (HBh4.out.block _ (blk_lt HT3.out)).trans HT3.out
  have HA : Hid (BR w4 (.slice p4 n4 c4) l2) := HO4.out
  go_upto_region 3 with ((with_reducible show wpList _ _ _ (Oper.mk _ (.store 34 _ _) _ _ _ _ :: _) _ _); refine wp_st (by rfl) 34 _ _ (by rfl) w4.heap.size 0 [.slice none 0 0, .int .i64 0] 34 (.agg #[.slice p4 n4 c4, .int .i64 s2]) [.slice p4 n4 c4, .int .i64 s2] (by rfl) (by rfl) (by rfl) (heap_alloc_new _ _) (by simp) (by kernel_rfl) (by rfl) ?_; intro w5 hq1 hq2; have HU5 := hid hq1; have HF5 := hid hq2; clear hq1 hq2)
  have HBn5 : Hid (Below w4.heap.size w4 w5) := below_fr ((Below.refl _ _).alloc (Nat.le_refl _) _) HF5.out (Nat.le_refl _)
  replace HT1 : Hid (w5.heap[w.heap.size]? = some (.cells #[.slice p n cap, .int .i64 s] 34 (0, 0))) := (HBn5.out.block _ (blk_lt HT1.out)).trans HT1.out
  replace HV : Hid (BA w5 (.slice p n cap) l) := BA.below (B := 0) HV.out HBn5.out
  replace HB : Hid (Below w.heap.size w w5) := below_trans HB.out HBn5.out HB.out.size
  replace HV2 : Hid (BA w5 (.slice p2 n2 c2) l) := BA.below (B := 0) HV2.out HBn5.out
  replace HT3 : Hid (w5.heap[w2.heap.size]? = some (.cells #[.slice p2 n2 c2, .int .i64 s] 34 (0, 0))) := (HBn5.out.block _ (blk_lt HT3.out)).trans HT3.out
  replace HA : Hid (BR w5 (.slice p4 n4 c4) l2) := HA.out.below HBn5.out
  have HT4 : Hid (w5.heap[w4.heap.size]? = some (.cells #[.slice p4 n4 c4, .int .i64 s2] 34 (0, 0))) := HU5.out
  clear HU5 HF5
  have x0 : w5.cell? ⟨w.heap.size, 0, none⟩ = some (.slice p n cap) := by rw [cell_of_blk HT1.out]; rfl
  have x1 : w5.cell? ⟨w.heap.size, 1, none⟩ = some (.int .i64 s) := by rw [cell_of_blk HT1.out]; rfl
  go_wp2_with fail
  refine (HDD.out _ _ HV.out).mono ?_
  rintro e w6 ⟨v6, rfl, ho, hb⟩
  clear x0 x1
  obtain ⟨p6, n6, c6, hsh⟩ := ho.shape3
  subst hsh
  have HO6 := hid ho.br
  have HBh6 := hid hb
  clear ho hb
  replace HT1 : Hid (w6.heap[w.heap.size]? = some (.cells #[.slice p n cap, .int .i64 s] 34 (0, 0))) := (HBh6.out.block _ (blk_lt HT1.out)).trans HT1.out
  replace HV : Hid (BA w6 (.slice p n cap) l) := BA.below (B := 0) HV.out HBh6.out
  replace HB : Hid (Below w.heap.size w w6) := below_trans HB.out HBh6.out HB.out.size
  replace HV2 : Hid (BA w6 (.slice p2 n2 c2) l) := BA.below (B := 0) HV2.out HBh6.out
  replace HT3 : Hid (w6.heap[w2.heap.size]? = some (.cells #[.slice p2 n2 c2, .int .i64 s] 34 (0, 0))) := (HBh6.out.block _ (blk_lt HT3.out)).trans HT3.out
  replace HA : Hid (BR w6 (.slice p4 n4 c4) l2) := HA.out.below HBh6.out
  replace HT4 : Hid (w6.heap[w4.heap.size]? = some (.cells #[.slice p4 n4 c4, .int .i64 s2] 34 (0, 0))) := (HBh6.out.block _ (blk_lt HT4.out)).trans HT4.out
  have HA2 : Hid (BR w6 (.slice p6 n6 c6) l2) := HO6.out
  go_upto_region 4 with ((with_reducible show wpList _ _ _ (Oper.mk _ (.store 34 _ _) _ _ _ _ :: _) _ _); refine wp_st (by rfl) 34 _ _ (by rfl) w6.heap.size 0 [.slice none 0 0, .int .i64 0] 34 (.agg #[.slice p6 n6 c6, .int .i64 s2]) [.slice p6 n6 c6, .int .i64 s2] (by rfl) (by rfl) (by rfl) (heap_alloc_new _ _) (by simp) (by kernel_rfl) (by rfl) ?_; intro w7 hq1 hq2; have HU7 := hid hq1; have HF7 := hid hq2; clear hq1 hq2)
  have HBn7 : Hid (Below w6.heap.size w6 w7) := below_fr ((Below.refl _ _).alloc (Nat.le_refl _) _) HF7.out (Nat.le_refl _)
  replace HT1 : Hid (w7.heap[w.heap.size]? = some (.cells #[.slice p n cap, .int .i64 s] 34 (0, 0))) := (HBn7.out.block _ (blk_lt HT1.out)).trans HT1.out
  replace HV : Hid (BA w7 (.slice p n cap) l) := BA.below (B := 0) HV.out HBn7.out
  replace HB : Hid (Below w.heap.size w w7) := below_trans HB.out HBn7.out HB.out.size
  replace HV2 : Hid (BA w7 (.slice p2 n2 c2) l) := BA.below (B := 0) HV2.out HBn7.out
  replace HT3 : Hid (w7.heap[w2.heap.size]? = some (.cells #[.slice p2 n2 c2, .int .i64 s] 34 (0, 0))) := (HBn7.out.block _ (blk_lt HT3.out)).trans HT3.out
  replace HA : Hid (BR w7 (.slice p4 n4 c4) l2) := HA.out.below HBn7.out
  replace HT4 : Hid (w7.heap[w4.heap.size]? = some (.cells #[.slice p4 n4 c4, .int .i64 s2] 34 (0, 0))) := (HBn7.out.block _ (blk_lt HT4.out)).trans HT4.out
  replace HA2 : Hid (BR w7 (.slice p6 n6 c6) l2) := HA2.out.below HBn7.out
  have HT6 : Hid (w7.heap[w6.heap.size]? = some (.cells #[.slice p6 n6 c6, .int .i64 s2] 34 (0, 0))) := HU7.out
  clear HU7 HF7
  have x0 : w7.cell? ⟨w4.heap.size, 0, none⟩ = some (.slice p4 n4 c4) := by rw [cell_of_blk HT4.out]; rfl
  have x1 : w7.cell? ⟨w4.heap.size, 1, none⟩ = some (.int .i64 s2) := by rw [cell_of_blk HT4.out]; rfl
  have y0 : w7.cell? ⟨w6.heap.size, 0, none⟩ = some (.slice p6 n6 c6) := by rw [cell_of_blk HT6.out]; rfl
  have y1 : w7.cell? ⟨w6.heap.size, 1, none⟩ = some (.int .i64 s2) := by rw [cell_of_blk HT6.out]; rfl
  go_wp2_with fail
  refine (sameTape_any l2 (.slice p4 n4 c4) (.slice p6 n6 c6) s2 _ HA.out HA2.out).mono ?_
  rintro e w8 ⟨rfl, hb⟩
  clear x0 x1 y0 y1
  have HBh8 := hid hb
  clear hb
  replace HT1 : Hid (w8.heap[w.heap.size]? = some (.cells #[.slice p n cap, .int .i64 s] 34 (0, 0))) := (HBh8.out.block _ (blk_lt HT1.out)).trans HT1.out
  replace HV : Hid (BA w8 (.slice p n cap) l) := BA.below (B := 0) HV.out HBh8.out
  replace HB : Hid (Below w.heap.size w w8) := below_trans HB.out HBh8.out HB.out.size
  replace HV2 : Hid (BA w8 (.slice p2 n2 c2) l) := BA.below (B := 0) HV2.out HBh8.out
  replace HT3 : Hid (w8.heap[w2.heap.size]? = some (.cells #[.slice p2 n2 c2, .int .i64 s] 34 (0, 0))) := (HBh8.out.block _ (blk_lt HT3.out)).trans HT3.out
  replace HA : Hid (BR w8 (.slice p4 n4 c4) l2) := HA.out.below HBh8.out
  replace HT4 : Hid (w8.heap[w4.heap.size]? = some (.cells #[.slice p4 n4 c4, .int .i64 s2] 34 (0, 0))) := (HBh8.out.block _ (blk_lt HT4.out)).trans HT4.out
  replace HA2 : Hid (BR w8 (.slice p6 n6 c6) l2) := HA2.out.below HBh8.out
  replace HT6 : Hid (w8.heap[w6.heap.size]? = some (.cells #[.slice p6 n6 c6, .int .i64 s2] 34 (0, 0))) := (HBh8.out.block _ (blk_lt HT6.out)).trans HT6.out
  have x0 : w8.cell? ⟨w2.heap.size, 0, none⟩ = some (.slice p2 n2 c2) := by rw [cell_of_blk HT3.out]; rfl
  have x1 : w8.cell? ⟨w2.heap.size, 1, none⟩ = some (.int .i64 s) := by rw [cell_of_blk HT3.out]; rfl
  have y0 : w8.cell? ⟨w.heap.size, 0, none⟩ = some (.slice p n cap) := by rw [cell_of_blk HT1.out]; rfl
  have y1 : w8.cell? ⟨w.heap.size, 1, none⟩ = some (.int .i64 s) := by rw [cell_of_blk HT1.out]; rfl
  go_wp2_with fail
  refine (sameTape_any l (.slice p2 n2 c2) (.slice p n cap) s _ HV2.out.br HV.out.br).mono ?_
  rintro e w9 ⟨rfl, hb⟩
  clear x0 x1 y0 y1
  have HBh9 := hid hb
  clear hb
  replace HT1 : Hid (w9.heap[w.heap.size]? = some (.cells #[.slice p n cap, .int .i64 s] 34 (0, 0))) := (HBh9.out.block _ (blk_lt HT1.out)).trans HT1.out
  replace HV : Hid (BA w9 (.slice p n cap) l) := BA.below (B := 0) HV.out HBh9.out
  replace HB : Hid (Below w.heap.size w w9) := below_trans HB.out HBh9.out HB.out.size
  replace HV2 : Hid (BA w9 (.slice p2 n2 c2) l) := BA.below (B := 0) HV2.out HBh9.out
  replace HT3 : Hid (w9.heap[w2.heap.size]? = some (.cells #[.slice p2 n2 c2, .int .i64 s] 34 (0, 0))) := (HBh9.out.block _ (blk_lt HT3.out)).trans HT3.out
  replace HA : Hid (BR w9 (.slice p4 n4 c4) l2) := HA.out.below HBh9.out
  replace HT4 : Hid (w9.heap[w4.heap.size]? = some (.cells #[.slice p4 n4 c4, .int .i64 s2] 34 (0, 0))) := (HBh9.out.block _ (blk_lt HT4.out)).trans HT4.out
  replace HA2 : Hid (BR w9 (.slice p6 n6 c6) l2) := HA2.out.below HBh9.out
  replace HT6 : Hid (w9.heap[w6.heap.size]? = some (.cells #[.slice p6 n6 c6, .int .i64 s2] 34 (0, 0))) := (HBh9.out.block _ (blk_lt HT6.out)).trans HT6.out
  go_wp2
  go_ret
  exact ⟨ret_bool (by simp), HB.out⟩
end Go.Proofs.Ytepgkemnpcadiaa
