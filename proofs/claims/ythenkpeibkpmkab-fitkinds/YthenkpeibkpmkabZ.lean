/-
  The walk of FitKinds.
-/
import Derived.Test.YthenkpeibkpmkabY
namespace Go.Proofs.Ythenkpeibkpmkab
open Go.ChangeShapes Go.WideShapes Go.ChangeAt Go.RowKit Go.Maps
set_option linter.unusedVariables false
set_option linter.unusedSimpArgs false
theorem flatV_snoc (l : List Vl) (v : Vl) : (l ++ [v]).flatMap encV = l.flatMap encV ++ encV v := by simp
theorem vals_new (W : World) (v : Vl) : ValsAt (W.alloc (.cells #[.int .i64 v.k, .int .i64 v.n, .string v.s] 32)) (.slice (some ⟨W.heap.size, 0, none⟩) 1 1) [v] := by
  refine ⟨_, 1, rfl, by simp, by unfold maxLen; omega, fun _ => ⟨W.heap.size, 0, rfl, fun j hj => ⟨by simp, ?_⟩⟩⟩
  obtain rfl : j = 0 := by simp at hj; omega
  exact ⟨cell_new rfl rfl, cell_new rfl rfl, cell_new rfl rfl⟩
set_option maxHeartbeats 8000000 in
theorem fitKinds_walk (v1 v2 : Value) (ks os : List Bool) (w : World) (h1 : BoolsAt w v1 ks) (h2 : BoolsAt w v2 os) :
    Calls Try.prog 6 #[v1, v2] w fun e w' => e = .returned (.bool true) ∧ Below w.heap.size w w' := by
  have HB2S : Hid (BoolsAt w v2 os) := h2
  obtain ⟨p1, cap1, rfl, _, hm1, hc1⟩ := h1
  obtain ⟨p2, cap2, rfl, _, hm2, hc2⟩ := h2
  obtain ⟨n, hn⟩ : ∃ n, ks.length = n := ⟨_, rfl⟩
  obtain ⟨m, hm⟩ : ∃ m, os.length = m := ⟨_, rfl⟩
  have HC1 : Hid (0 < ks.length → ∃ g off, p1 = some ⟨g, off, none⟩ ∧ ∀ j (hj : j < ks.length), g < w.heap.size ∧ w.cell? ⟨g, off + j, none⟩ = some (.bool ks[j])) := hc1
  have HC2 : Hid (0 < os.length → ∃ g off, p2 = some ⟨g, off, none⟩ ∧ ∀ j (hj : j < os.length), g < w.heap.size ∧ w.cell? ⟨g, off + j, none⟩ = some (.bool os[j])) := hc2
  have HN : Hid (ks.length = n ∧ os.length = m) := ⟨hn, hm⟩
  obtain ⟨i0, a1, a2, a3, a4⟩ := info_parts infoF
  have HI : Hid (Try.prog.info? 46 = some i0 ∧ i0.zero = some (.agg #[.string ByteArray.empty, .int .i64 0]) ∧ i0.size = 2 ∧ i0.bytes = 24) := ⟨a1, a2, a3, a4⟩
  obtain ⟨i1, c1, c2, c3, c4⟩ := info_parts infoV
  have HI2 : Hid (Try.prog.info? 32 = some i1 ∧ i1.zero = some (.agg #[.int .i64 0, .int .i64 0, .string ByteArray.empty]) ∧ i1.size = 3 ∧ i1.bytes = 32) := ⟨c1, c2, c3, c4⟩
  rw [hm] at HB2S
  rw [hn, hm]
  have HSX : Hid ((⟨#[120]⟩ : ByteArray).size ≤ maxLen) := by unfold maxLen; exact (by decide : (1 : Nat) ≤ 9223372036854775807)
  clear hc1 hc2 hm1 hm2 hn hm a1 a2 a3 a4 c1 c2 c3 c4
  go_enter Try.func6, Try.ntmps6
  go_wp2
  have HS : Hid (Tw w (w.alloc (.cells #[.string tN, .slice none 0 0] 44)) (.slice none 0 0) []) := Tw.start w
  go_loopw [6] (fun i wr => ∃ (k : Nat) (v : Value), k ≤ n ∧ k ≤ 4 ∧ i = .int .i64 (k : Nat) ∧ Tw w wr v (fdsG (fK ks) k)) (fun i _ => 5 - (intOf i).toNat)
  case atStart => exact ⟨0, _, by omega, by omega, rfl, HS.out⟩
  case round =>
    obtain ⟨k, v, hk, hk4, rfl, hT⟩ := hrel
    obtain ⟨pu, cu, rfl⟩ := own_shape hT.row
    rw [fdsG_len] at hT
    have b1 := hT.box.c1
    have HT : Hid (Tw w wr (.slice pu k cu) (fdsG (fK ks) k)) := hT
    have HR : Hid (wr.ownsRow (w.heap.size + 1) 46 2 (.slice pu k cu) k ((fdsG (fK ks) k).flatMap encF)) := by have := hT.row; rw [fdsG_len] at this; exact this
    have HLN : Hid ((fdsG (fK ks) k).length = k) := fdsG_len _ _
    clear hT HS
    by_cases hlt : k < n ∧ k < 4
    · obtain ⟨l1, l2⟩ := hlt
      have j0 : (0 : Int) ≤ (k : Int) := by omega
      have j1 : (k : Int) < (n : Int) := by omega
      have j2 : (k : Int) < 4 := by omega
      have hkl : k < ks.length := by have := HN.out; omega
      obtain ⟨g, off, hg, hcl⟩ := HC1.out (by omega)
      subst hg
      obtain ⟨hgs, y0⟩ := hcl k hkl
      have hbit : ks.getD k false = ks[k] := by simp [hkl]
      obtain ⟨bit, hb⟩ : ∃ b, ks[k] = b := ⟨_, rfl⟩
      rw [hb] at y0 hbit
      have b0 : wr.cell? ⟨g, off + k, none⟩ = some (.bool bit) := (HT.out.below.cell (p := ⟨g, off + k, none⟩) hgs).trans y0
      have hcv := conv_nm k (by omega) wr
      have HFK : Hid (fK ks k = if bit = true then 2 else 1) := by unfold fK; rw [hbit]; exact rfl
      clear hcl hgs y0 hkl hb hbit
      cases bit
      · go_wp2_with (at_builtin; refine wpList_append_own_at _ (by rfl) _ _ 42 (by rfl) (w.heap.size + 1) 46 i0 (.agg #[.string ByteArray.empty, .int .i64 0]) 2 24 Try.underlying42 HI.out.1 HI.out.2.1 HI.out.2.2.1 HI.out.2.2.2 rfl (by omega) (.slice pu k cu) k ((fdsG (fK ks) k).flatMap encF) (by rfl) ((HR.out.alloc _).alloc _) ⟨wr.heap.size + 1, 0, none⟩ 1 1 (encF ⟨nmB k, 1⟩) (by rfl) (by rfl) (World.news_of_block (heap_two _ _ _ _)) (by simp [encF, Value.oneCell']) (by unfold maxLen; omega) (by omega) (by simp; have := HT.out.below.size; have := HT.out.box.lt; omega) ?_; intro v' w3 hown hgrow hiff hat; obtain ⟨hbx, htw⟩ := HT.out.append (below_two wr _ _) hgrow (by rw [HLN.out]; exact hown); have HTW : Hid (Tw w (w3.setCell ⟨w.heap.size, 1, none⟩ v') v' (fdsG (fK ks) k ++ [⟨nmB k, 1⟩])) := htw; have e1 := hbx.c1; have e2 := hbx.fz 1; obtain ⟨pv, cv, hvv⟩ := own_shape hown; subst hvv; clear hown hgrow hat hiff hbx htw)
        go_roundw
        case rel => exact ⟨k + 1, _, by omega, by omega, by go_num, by rw [fdsG_succ, HFK.out]; exact HTW.out⟩
        case measure => simp [intOf]; omega
      · go_wp2_with (at_builtin; refine wpList_append_own_at _ (by rfl) _ _ 42 (by rfl) (w.heap.size + 1) 46 i0 (.agg #[.string ByteArray.empty, .int .i64 0]) 2 24 Try.underlying42 HI.out.1 HI.out.2.1 HI.out.2.2.1 HI.out.2.2.2 rfl (by omega) (.slice pu k cu) k ((fdsG (fK ks) k).flatMap encF) (by rfl) ((HR.out.alloc _).alloc _) ⟨wr.heap.size + 1, 0, none⟩ 1 1 (encF ⟨nmB k, 2⟩) (by rfl) (by rfl) (World.news_of_block (heap_two _ _ _ _)) (by simp [encF, Value.oneCell']) (by unfold maxLen; omega) (by omega) (by simp; have := HT.out.below.size; have := HT.out.box.lt; omega) ?_; intro v' w3 hown hgrow hiff hat; obtain ⟨hbx, htw⟩ := HT.out.append (below_two wr _ _) hgrow (by rw [HLN.out]; exact hown); have HTW : Hid (Tw w (w3.setCell ⟨w.heap.size, 1, none⟩ v') v' (fdsG (fK ks) k ++ [⟨nmB k, 2⟩])) := htw; have e1 := hbx.c1; have e2 := hbx.fz 1; obtain ⟨pv, cv, hvv⟩ := own_shape hown; subst hvv; clear hown hgrow hat hiff hbx htw)
        go_roundw
        case rel => exact ⟨k + 1, _, by omega, by omega, by go_num, by rw [fdsG_succ, HFK.out]; exact HTW.out⟩
        case measure => simp [intOf]; omega
    · have hKn : k = n ∨ k = 4 := by omega
      have HK : Hid (k ≤ n ∧ k ≤ 4 ∧ (k = n ∨ k = 4)) := ⟨hk, hk4, hKn⟩
      have HBO : Hid (BoolsAt w (.slice p2 m cap2) os) := HB2S.out
      clear HI HLN HR
      obtain ⟨sb, hsb⟩ : ∃ b : Bool, decide (m = k) = b := ⟨_, rfl⟩
      have HSB : Hid (decide (m = k) = sb) := hsb
      have t1 : ((m : Int) == (k : Int)) = sb := by
        rw [← hsb, Bool.eq_iff_iff]; simp; omega
      have t2 : decide ((m : Int) = (k : Int)) = sb := by
        rw [← hsb, Bool.eq_iff_iff]; simp; omega
      clear hsb
      obtain ⟨Wa, hWa⟩ : ∃ x, x = wr := ⟨_, rfl⟩
      subst hWa
      rcases (by omega : k = n ∨ (k < n ∧ k = 4)) with hkn | hkn
      all_goals
        first
          | (have t3 : ¬ (k : Int) < (n : Int) := by omega
             have t4 : decide ((k : Int) < (n : Int)) = false := by simpa using t3
             clear hkn
             go_wp2
             clear t3 t4)
          | (have t3 : (k : Int) < (n : Int) := by omega
             have t4 : ¬ (k : Int) < 4 := by omega
             have t5 : decide ((k : Int) < 4) = false := by simpa using t4
             clear hkn
             go_wp2
             clear t3 t4 t5)
        clear t1 t2 b1 hlt hk hk4
        go_loopw [8, 9, 10] (fun l s i wr => ∃ (j : Nat) (vs : List Vl), j ≤ m ∧ j ≤ 9 ∧ i = .int .i64 (j : Nat) ∧ s = .bool (sb && sameB os ks j) ∧ vs.length = j ∧ VsOk vs os ∧ wr.ownsRow Wa.heap.size 32 3 l j (vs.flatMap encV) ∧ Below Wa.heap.size Wa wr) (fun _ _ i _ => 10 - (intOf i).toNat)
        case atStart => exact ⟨0, [], by omega, by omega, rfl, by simp [sameB], rfl, VsOk.nil _, by simpa using World.ownsRow_nil Wa Wa.heap.size 32 3, Below.refl _ _⟩
        case round =>
          obtain ⟨j, vs, hj, hj9, rfl, rfl, hvl, hvo, hrow, hB⟩ := hrel
          obtain ⟨pl, cl, rfl⟩ := own_shape hrow
          obtain ⟨cs, hcs⟩ : ∃ b, (sb && sameB os ks j) = b := ⟨_, rfl⟩
          rw [hcs]
          have HCS : Hid ((sb && sameB os ks j) = cs) := hcs
          have HROW : Hid (wr.ownsRow Wa.heap.size 32 3 (.slice pl j cl) j (vs.flatMap encV)) := hrow
          have HB : Hid (Below Wa.heap.size Wa wr) := hB
          have HVO : Hid (VsOk vs os ∧ vs.length = j) := ⟨hvo, hvl⟩
          clear hcs hrow hB hvo hvl
          by_cases hlt : j < m ∧ j < 9
          · obtain ⟨l1, l2⟩ := hlt
            have j0 : (0 : Int) ≤ (j : Int) := by omega
            have j1 : (j : Int) < (m : Int) := by omega
            have j2 : (j : Int) < 9 := by omega
            have hjl : j < os.length := by have := HN.out; omega
            obtain ⟨g, off, hg, hcl⟩ := HC2.out (by omega)
            subst hg
            obtain ⟨hgs, y0⟩ := hcl j hjl
            have hbit : os.getD j false = os[j] := by simp [hjl]
            obtain ⟨bit, hb⟩ : ∃ b, os[j] = b := ⟨_, rfl⟩
            rw [hb] at y0 hbit
            have HBIT : Hid (os.getD j false = bit) := hbit
            have HY0 : Hid (g < w.heap.size ∧ w.cell? ⟨g, off + j, none⟩ = some (.bool bit)) := ⟨hgs, y0⟩
            have HBw : Hid (Below w.heap.size w wr) := below_trans HT.out.below HB.out HT.out.below.size
            have b0 : wr.cell? ⟨g, off + j, none⟩ = some (.bool bit) := (HBw.out.cell (p := ⟨g, off + j, none⟩) hgs).trans y0
            clear hcl hgs y0 hjl hb hbit
            go_wp2_with fail
            refine (mk_any (j : Int) ⟨#[120]⟩ bit _ (by unfold wfI; omega) HSX.out).mono ?_
            rintro e w4 ⟨⟨kd, nd, sd⟩, rfl, hd, hb4⟩
            unfold vV
            have HD : Hid (VOk ⟨kd, nd, sd⟩ bit) := hd
            have HB4 : Hid (Below wr.heap.size wr w4) := hb4
            have HROW4 : Hid (w4.ownsRow Wa.heap.size 32 3 (.slice pl j cl) j (vs.flatMap encV)) := owns_block HROW.out (fun i hi => hb4.block i (HROW.out.lt i hi).2)
            clear hd hb4 b0
            go_wp2_with (at_builtin; refine wpList_append_own_at _ (by rfl) _ _ 25 (by rfl) Wa.heap.size 32 i1 (.agg #[.int .i64 0, .int .i64 0, .string ByteArray.empty]) 3 32 Try.underlying25 HI2.out.1 HI2.out.2.1 HI2.out.2.2.1 HI2.out.2.2.2 rfl (by omega) (.slice pl j cl) j (vs.flatMap encV) (by rfl) (HROW4.out.alloc _) ⟨w4.heap.size, 0, none⟩ 1 1 (encV ⟨kd, nd, sd⟩) (by rfl) (by rfl) (World.news_of_block (heap_alloc_new _ _)) (by simp [encV, Value.oneCell']) (by unfold maxLen; omega) (by omega) (by simp; have := HB4.out.size; have := HB.out.size; omega) ?_; intro v' w5 hown hgrow hiff hat; have HO : Hid (w5.ownsRow Wa.heap.size 32 3 v' (j + 1) (vs.flatMap encV ++ encV ⟨kd, nd, sd⟩)) := hown; have HB5 : Hid (Below Wa.heap.size Wa w5) := ((below_trans HB.out HB4.out HB.out.size).alloc (by have := HB4.out.size; have := HB.out.size; omega) _).grown hgrow (by simp; have := HB4.out.size; have := HB.out.size; omega) (fun k hk => (HROW4.out.lt k hk).1); obtain ⟨pv, cv, hvv⟩ := own_shape hown; subst hvv; clear hown hgrow hat hiff)
            have HBw5 : Hid (Below w.heap.size w w5) := below_trans HT.out.below HB5.out HT.out.below.size
            have b0 : w5.cell? ⟨g, off + j, none⟩ = some (.bool bit) := (HBw5.out.cell (p := ⟨g, off + j, none⟩) HY0.out.1).trans HY0.out.2
            have hsn : VsOk (vs ++ [⟨kd, nd, sd⟩]) os := HVO.out.1.snoc _ (by rw [HVO.out.2, HBIT.out]; exact HD.out)
            have HSN : Hid (VsOk (vs ++ [⟨kd, nd, sd⟩]) os ∧ (vs ++ [(⟨kd, nd, sd⟩ : Vl)]).length = j + 1) := ⟨hsn, by have := HVO.out.2; simp; omega⟩
            clear hsn
            cases cs
            · have HNX : Hid ((sb && sameB os ks (j + 1)) = false) := by
                rw [sameB_succ, ← Bool.and_assoc, HCS.out]; exact rfl
              go_quiet (fail)
              go_wp2
              go_roundw
              case rel => exact ⟨j + 1, _, by omega, by omega, by go_num, by rw [HNX.out], HSN.out.2, HSN.out.1, by rw [flatV_snoc]; exact owns_block HO.out (fun i hi => rfl), below_trans HB5.out (Go.Joins.below_draws _ _ _) (Nat.le_refl _)⟩
              case measure => simp [intOf]; omega
            · have hsbt : sb = true := by have := HCS.out; simp at this; exact this.1
              have hmk : m = k := by have := HSB.out; rw [hsbt] at this; simpa using this
              have hjk : j < ks.length := by have := HN.out; have := HK.out; omega
              obtain ⟨g1, off1, hg1, hcl1⟩ := HC1.out (by omega)
              obtain ⟨hgs1, z0⟩ := hcl1 j hjk
              have hkbit : ks.getD j false = ks[j] := by simp [hjk]
              obtain ⟨kbit, hkb⟩ : ∃ b, ks[j] = b := ⟨_, rfl⟩
              rw [hkb] at z0 hkbit
              subst hg1
              have b1 : w5.cell? ⟨g1, off1 + j, none⟩ = some (.bool kbit) := (HBw5.out.cell (p := ⟨g1, off1 + j, none⟩) hgs1).trans z0
              have j3 : (j : Int) < (n : Int) := by have := HN.out; have := HK.out; omega
              have HNX : Hid ((sb && sameB os ks (j + 1)) = (bit == kbit)) := by
                rw [sameB_succ, ← Bool.and_assoc, HCS.out, Bool.true_and, HBIT.out, hkbit]; exact rfl
              clear hcl1 hgs1 z0 hkbit hkb hjk hmk hsbt
              cases bit <;> cases kbit
              all_goals
                go_quiet (fail)
                go_wp2
                go_roundw
                case rel => exact ⟨j + 1, _, by omega, by omega, by go_num, by rw [HNX.out]; rfl, HSN.out.2, HSN.out.1, by rw [flatV_snoc]; exact owns_block HO.out (fun i hi => rfl), below_trans HB5.out (Go.Joins.below_draws _ _ _) (Nat.le_refl _)⟩
                case measure => simp [intOf]; omega
          · have HTR : Hid (Tw w wr (.slice pu k cu) (fdsG (fK ks) k)) := HT.out.less HB.out
            have f0 := HTR.out.box.c0
            have f1 := HTR.out.box.c1
            have HF : Hid (FieldsAt wr (.slice pu k cu) (fdsG (fK ks) k)) := fields_own HTR.out.row
            have HVA : Hid (ValsAt wr (.slice pl j cl) vs) := by
              have h := HROW.out
              rw [← HVO.out.2] at h
              have h2 := vals_own h
              rw [HVO.out.2] at h2
              exact h2
            have hr : (if vs.length = k ∧ sameB os ks k = true then (0 : Int) else 13) = if cs = true then 0 else 13 := by
              have q1 := HVO.out.2
              have q2 := HK.out
              have q3 := HSB.out
              have q4 := HCS.out
              by_cases hmk : m = k
              · have hjk : j = k := by omega
                have : sb = true := by rw [← q3]; simpa using hmk
                rw [this, Bool.true_and, hjk] at q4
                rw [q1, hjk, q4]
                simp
              · have hjk : j ≠ k := by omega
                have : sb = false := by rw [← q3]; simpa using hmk
                rw [this, Bool.false_and] at q4
                rw [q1, ← q4, if_neg (fun h => hjk h.1)]
                simp
            have C1 : Hid (∀ W, Below wr.heap.size wr W → Calls Try.prog 15 #[.agg #[.string tN, .slice pu k cu]] W fun e w' => e = .returned (.int .i64 0) ∧ Below W.heap.size W w') := fun W hb => by
              have h := checkType_any ⟨tN, fdsG (fK ks) k⟩ _ W (HF.out.below hb)
              rw [tchk_fds (fK ks) k HK.out.2.1 (fun i _ => fK_two ks i)] at h
              exact h
            have C2 : Hid (∀ W, Below wr.heap.size wr W → Calls Try.prog 16 #[.agg #[.string tN, .slice pu k cu], .slice pl j cl] W fun e w' => e = .returned (.int .i64 (if cs = true then 0 else 13)) ∧ Below W.heap.size W w') := fun W hb => by
              have h := fit_any ⟨tN, fdsG (fK ks) k⟩ _ _ vs W (HF.out.below hb) (HVA.out.below hb)
              rw [fit_same HK.out.2.1 HVO.out.1, hr] at h
              exact h
            have C3 : Hid (∀ W u, Below wr.heap.size wr W → ValsAt W u [⟨0, 0, ⟨#[]⟩⟩] → Calls Try.prog 16 #[.agg #[.string tN, .slice pu k cu], u] W fun e w' => e = .returned (.int .i64 3) ∧ Below W.heap.size W w') := fun W u hb hu => by
              have h := fit_any ⟨tN, fdsG (fK ks) k⟩ _ _ [⟨0, 0, ⟨#[]⟩⟩] W (HF.out.below hb) hu
              have e3 : fit ⟨tN, fdsG (fK ks) k⟩ [⟨0, 0, ⟨#[]⟩⟩] = 3 := by
                unfold fit
                rw [tchk_fds (fK ks) k HK.out.2.1 (fun i _ => fK_two ks i), if_neg (by simp)]
                have e4 : fst (vat [⟨0, 0, ⟨#[]⟩⟩]) [(⟨0, 0, ⟨#[]⟩⟩ : Vl)].length = 3 := by
                  simp [fst, vat, vchk]
                rw [e4, if_pos (by omega)]
              rw [e3] at h
              exact h
            have HBw : Hid (Below w.heap.size w wr) := HTR.out.below
            clear hr
            rcases (by omega : j = m ∨ (j < m ∧ j = 9)) with hjn | hjn
            all_goals
              first
                | (have t3 : ¬ (j : Int) < (m : Int) := by omega
                   have t4 : decide ((j : Int) < (m : Int)) = false := by simpa using t3
                   clear hjn
                   go_wp2_with fail
                   clear t3 t4)
                | (have t3 : (j : Int) < (m : Int) := by omega
                   have t4 : ¬ (j : Int) < 9 := by omega
                   have t5 : decide ((j : Int) < 9) = false := by simpa using t4
                   clear hjn
                   go_wp2_with fail
                   clear t3 t4 t5)
              refine (C1.out _ (Below.refl _ _)).mono ?_
              rintro e wA ⟨rfl, hbA⟩
              have HBA : Hid (Below wr.heap.size wr wA) := hbA
              have HTA : Hid (Tw w wA (.slice pu k cu) (fdsG (fK ks) k)) := HTR.out.less hbA
              clear hbA f0 f1
              have f0 := HTA.out.box.c0
              have f1 := HTA.out.box.c1
              go_wp2_with fail
              refine (C2.out _ HBA.out).mono ?_
              rintro e wB ⟨rfl, hbB⟩
              have HBB : Hid (Below wr.heap.size wr wB) := below_trans HBA.out hbB HBA.out.size
              have HTB : Hid (Tw w wB (.slice pu k cu) (fdsG (fK ks) k)) := HTR.out.less HBB.out
              clear hbB f0 f1
              have f0 := HTB.out.box.c0
              have f1 := HTB.out.box.c1
              cases cs
              all_goals
                go_wp2_with fail
                refine (C3.out _ _ (below_trans HBB.out ((Below.refl _ wB).alloc (Nat.le_refl _) _) HBB.out.size) (vals_new wB ⟨0, 0, ⟨#[]⟩⟩)).mono ?_
                rintro e wC ⟨rfl, hbC⟩
                have HBC : Hid (Below w.heap.size w wC) := below_trans (below_trans HBw.out (below_trans HBB.out ((Below.refl _ wB).alloc (Nat.le_refl _) _) HBB.out.size) HBw.out.size) hbC (by have := HBw.out.size; have := HBB.out.size; simp; omega)
                clear hbC f0 f1
                go_wp2
                go_ret
                exact ⟨ret_bool (by simp), HBC.out⟩
end Go.Proofs.Ythenkpeibkpmkab
