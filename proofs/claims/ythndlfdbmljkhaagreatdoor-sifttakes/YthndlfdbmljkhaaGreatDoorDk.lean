/-
  What is emitted, by the program.
-/
import Derived.Test.YthndlfdbmljkhaaGreatDoorDi
namespace Go.Proofs.YthndlfdbmljkhaaGreatDoor.Chk
open Go.ChangeShapes Go.WideShapes Go.ChangeAt Go.RowKit Go.Maps
set_option linter.unusedVariables false
set_option linter.unusedSimpArgs false
set_option maxRecDepth 20000
theorem sdk_own {ts : List Tp} {ws : List Pt} {a c : Tp} {o : Opd} (h : o.k ≠ 2) : sdk ts ws a o = sdk ts ws c o := by
  unfold sdk
  simp only [if_neg h]
/-- What is wrong with one value that is emitted. -/
def emk (ts : List Tp) (ws : List Pt) (t : Tp) (o : Opd) (want : Int) : Int := if o.k = 2 then 4 else if (sdk ts ws t o).2 ≠ 0 then (sdk ts ws t o).2 else if (sdk ts ws t o).1 ≠ want then 13 else 0
set_option maxHeartbeats 16000000 in
theorem emitted_any (ts : List Tp) (ws : List Pt) (t : Tp) (b mb : Nat) (Ks : Kns) (n : Nat) (hkn : Known ts ws) (hk : Knw ts ws Ks) (hty : ∀ i (hi : i < ts.length), tyk ts[i].n ts[i].f = 0) (o : Opd) (want : Int) (tv : Value) (w : World) (hs : Scp w ts tv b mb Ks n) (hz : o.va.size ≤ maxLen) :
    Calls Tryz.prog 141 #[scV tv b mb, opV o, .int .i64 want] w fun e w' => e = .returned (.int .i64 (emk ts ws t o want)) ∧ Below w.heap.size w w' := by
  obtain ⟨tp, tn, tc, rfl⟩ := rd_shape hs.rt
  obtain ⟨R, hR⟩ : ∃ R, emk ts ws t o want = R := ⟨_, rfl⟩
  rw [hR]
  unfold emk at hR
  have HR := hid hR
  by_cases h2 : o.k = 2
  · have HRR : Hid (R = 4) := by show _ = _; rw [← HR.out, if_pos h2]
    obtain ⟨ok, ovk, ovi, ovt, ova, ofd⟩ := o
    obtain rfl : ok = 2 := h2
    have HB : Hid (Below w.heap.size w ((w.alloc (.cells [.slice tp tn tc, .func (.func 111) #[] #[.pointer (some ⟨b, 0, none⟩)], .map (some mb)].toArray 163)).alloc (.cells [.int .i64 2, .int .i64 ovk, .int .i64 ovi, .string ovt, .string ova, .string ofd].toArray 61))) := ((Below.refl _ _).alloc (Nat.le_refl _) _).alloc (by simp) _
    clear HR hR hs hkn hk hty hz
    go_enter Tryz.func141, Tryz.ntmps141
    go_wp2_with fail
    go_ret
    exact ⟨ret_int HRR.out.symm, HB.out⟩
  · have e1 : sdk ts ws t o = sdk ts ws ⟨⟨#[]⟩, []⟩ o := sdk_own h2
    have HSD := hid (fun W (hW : Below w.heap.size w W) => side_any ts ws ⟨⟨#[]⟩, []⟩ o (.slice tp tn tc) (.slice none 0 0) b mb Ks n W (hs.later hW) (Rd.nil _ _ none 0 (Nat.zero_le _)) hkn hk hty (fun c => absurd c h2) hz)
    have HR1 := HR.out
    rw [if_neg h2, e1] at HR1
    obtain ⟨⟨s1, s2⟩, hsd⟩ : ∃ x, sdk ts ws ⟨⟨#[]⟩, []⟩ o = x := ⟨_, rfl⟩
    rw [hsd] at HR1 HSD
    have HR2 := hid HR1
    obtain ⟨ok, ovk, ovi, ovt, ova, ofd⟩ := o
    have d2 : (ok == 2) = false := by simpa using h2
    have HB : Hid (Below w.heap.size w ((w.alloc (.cells [.slice tp tn tc, .func (.func 111) #[] #[.pointer (some ⟨b, 0, none⟩)], .map (some mb)].toArray 163)).alloc (.cells [.int .i64 ok, .int .i64 ovk, .int .i64 ovi, .string ovt, .string ova, .string ofd].toArray 61))) := ((Below.refl _ _).alloc (Nat.le_refl _) _).alloc (by simp) _
    simp only at HR2 HSD
    clear HR hR hs hkn hk hty hz HR1 hsd e1 h2
    by_cases hz : s2 = 0
    · subst hz
      by_cases hy : s1 = want
      · have HRR : Hid (R = 0) := by show _ = _; rw [← HR2.out]; simp [hy]
        subst hy
        go_enter Tryz.func141, Tryz.ntmps141
        go_wp2_with fail
        refine (HSD.out _ HB.out).mono ?_
        rintro e w2 ⟨rfl, hb2⟩
        have HB2 := hid (below_trans HB.out hb2 HB.out.size)
        clear hb2
        go_wp2_with fail
        go_ret
        exact ⟨ret_int HRR.out.symm, HB2.out⟩
      · have HRR : Hid (R = 13) := by show _ = _; rw [← HR2.out]; simp [hy]
        have d3 : (s1 != want) = true := by simpa using hy
        clear hy
        go_enter Tryz.func141, Tryz.ntmps141
        go_wp2_with fail
        refine (HSD.out _ HB.out).mono ?_
        rintro e w2 ⟨rfl, hb2⟩
        have HB2 := hid (below_trans HB.out hb2 HB.out.size)
        clear hb2
        go_wp2_with fail
        go_ret
        exact ⟨ret_int HRR.out.symm, HB2.out⟩
    · have HRR : Hid (R = s2) := by show _ = _; rw [← HR2.out]; simp [hz]
      have d3 : (s2 == 0) = false := by simpa using hz
      clear hz
      go_enter Tryz.func141, Tryz.ntmps141
      go_wp2_with fail
      refine (HSD.out _ HB.out).mono ?_
      rintro e w2 ⟨rfl, hb2⟩
      have HB2 := hid (below_trans HB.out hb2 HB.out.size)
      clear hb2
      go_wp2_with fail
      go_ret
      exact ⟨ret_int HRR.out.symm, HB2.out⟩
theorem ent_emd : ∀ args w, (callFunc 141 args).run Tryz.prog w = .ok (.enter 141 args) w := enters_of Tryz.func141 (by kernel_rfl) rfl
theorem evs_step (ts : List Tp) (ws : List Pt) (t : Tp) (o : Opd) (f : Fd) (r : List Opd) (g : List Fd) : evs ts ws t (o :: r) (f :: g) = if emk ts ws t o f.k ≠ 0 then emk ts ws t o f.k else evs ts ws t r g := by
  rw [evs]
  unfold emk
  by_cases h1 : o.k = 2
  · simp [h1]
  · by_cases h2 : (sdk ts ws t o).2 = 0
    · by_cases h3 : (sdk ts ws t o).1 = f.k
      · simp [h1, h2, h3]
      · simp [h1, h2, h3]
    · simp [h1, h2]
set_option maxHeartbeats 32000000 in
theorem emit_any (ts : List Tp) (ws : List Pt) (b mb : Nat) (Ks : Kns) (n : Nat) (hkn : Known ts ws) (hk : Knw ts ws Ks) (hty : ∀ i (hi : i < ts.length), tyk ts[i].n ts[i].f = 0) (ety : ByteArray) (vs : List Opd) (hzs : ∀ o, o ∈ vs → o.va.size ≤ maxLen) (tv u5 : Value) (w : World) (hs : Scp w ts tv b mb Ks n) (hV : Rd w (.row 61 6 (vs.map encO)) u5) :
    Calls Tryz.prog 110 #[scV tv b mb, .agg #[.string ety, u5]] w fun e w' => e = .returned (.int .i64 (eck ts ws ety vs)) ∧ Below w.heap.size w w' := by
  have HEM := hid (fun (t : Tp) (o : Opd) (ho : o ∈ vs) (want : Int) W (hW : Below w.heap.size w W) => emitted_any ts ws t b mb Ks n hkn hk hty o want tv W (hs.later hW) (hzs o ho))
  have HFI := hid (fun W (hW : Below w.heap.size w W) => find_any ts tv ety b W (hs.rt.later hW) (hs.later hW).fd)
  have HS := hid hs
  obtain ⟨tp, tn, tc, rfl⟩ := rd_shape hs.rt
  obtain ⟨q5, j5, rfl, hmx, hav⟩ := rd_row lenO hV
  have HAV : Hid (At encO 6 w q5 vs) := hav
  obtain ⟨l5, hl5⟩ : ∃ l, vs.length = l := ⟨_, rfl⟩
  have HN5 := hid hl5
  obtain ⟨R, hR⟩ : ∃ R, eck ts ws ety vs = R := ⟨_, rfl⟩
  rw [hR]
  unfold eck at hR
  rw [hl5] at hmx hR ⊢
  have HR := hid hR
  have HT : Hid (Blk2 w ((w.alloc (.cells [.slice tp tn tc, .func (.func 111) #[] #[.pointer (some ⟨b, 0, none⟩)], .map (some mb)].toArray 163)).alloc (.cells [.string ety, .slice q5 l5 j5].toArray 47)) [.slice tp tn tc, .func (.func 111) #[] #[.pointer (some ⟨b, 0, none⟩)], .map (some mb)] [.string ety, .slice q5 l5 j5] 163 47) := Blk2.start w _ _ _ _
  clear hR hl5 hav hV hs hkn hk hty hzs
  cases hem : emp ety with
  | true =>
    have q0 := emp_t hem
    have HR1 := HR.out
    rw [if_pos hem] at HR1
    by_cases h0 : 0 < l5
    · have HRR : Hid (R = 4) := by show _ = _; rw [← HR1, if_pos h0]
      have g1 : (0 : Int) < (l5 : Int) := by omega
      clear HR1 HR hem
      go_enter Tryz.func110, Tryz.ntmps110
      go_wp2_with fail
      go_ret
      exact ⟨ret_int HRR.out.symm, HT.out.bel⟩
    · have HRR : Hid (R = 0) := by show _ = _; rw [← HR1, if_neg h0]
      obtain rfl : l5 = 0 := by omega
      clear HR1 HR hem h0
      go_enter Tryz.func110, Tryz.ntmps110
      go_wp2_with fail
      go_ret
      exact ⟨ret_int HRR.out.symm, HT.out.bel⟩
  | false =>
    obtain ⟨q0, q1⟩ := emp_f hem
    have HR1 := HR.out
    have hne : ¬ emp ety = true := by rw [hem]; decide
    rw [if_neg hne] at HR1
    have HR2 := hid HR1
    obtain ⟨t0, ht0⟩ : ∃ t, tyq ts ety = t := ⟨_, rfl⟩
    have HT0 := hid ht0
    rw [ht0] at HFI
    clear HR1 HR hne hem ht0
    go_enter Tryz.func110, Tryz.ntmps110
    go_wp2_with fail
    refine (HFI.out _ HT.out.bel).mono ?_
    rintro e w2 ⟨rfl, hb2⟩
    have HT2 : Hid (Blk2 w w2 [.slice tp tn tc, .func (.func 111) #[] #[.pointer (some ⟨b, 0, none⟩)], .map (some mb)] [.string ety, .slice q5 l5 j5] 163 47) := HT.out.next hb2
    clear hb2
    by_cases h2 : t0 < 0
    · have HRR : Hid (R = 6) := by show _ = _; have h := HR2.out; rw [HT0.out, if_pos h2] at h; exact h.symm
      go_wp2_with fail
      go_ret
      exact ⟨ret_int HRR.out.symm, HT2.out.bel⟩
    · have HR3 := HR2.out
      rw [HT0.out, if_neg h2] at HR3
      obtain ⟨ix, hix, hti⟩ : ∃ i, ∃ _ : i < ts.length, t0 = (i : Int) := by
        rcases ixq_lt (q := fun t : Tp => seq t.n ety) ts 0 with c | ⟨i, hi, c, _⟩
        · exfalso
          have h5 : t0 < 0 := by rw [← HT0.out, show tyq ts ety = -1 from c]; decide
          omega
        · exact ⟨i, hi, by rw [← HT0.out]; show ixq _ _ _ = _; rw [c]; simp⟩
      subst hti
      obtain ⟨p', cap', e0, _, hat⟩ := rd_row lenY HS.out.rt
      have etn := (rd_caps HS.out.rt).1
      simp only [Value.slice.injEq] at e0
      obtain ⟨rfl, hx0, rfl⟩ := e0
      obtain ⟨gt, oft, rfl, hrd⟩ := hat (by omega)
      obtain ⟨T2, t1, t2⟩ := hrd w2 HT2.out.bel ix hix
      obtain ⟨fv2, zt, o3⟩ := rdY t2
      obtain ⟨fp, fc, rfl, hmf, haf⟩ := rd_row lenF o3
      rw [zt] at t1
      have y1 : w2.cell? ⟨gt, oft + ix * 2 + 1, none⟩ = some (.slice fp ts[ix].f.length fc) := t1 1 _ rfl
      have hgd : ts.getD (((ix : Nat) : Int)).toNat ⟨txt [], []⟩ = ts[ix] := by simp [hix]
      rw [hgd] at HR3
      have HAF : Hid (At encF 2 w2 fp ts[ix].f) := haf
      obtain ⟨tt, htt⟩ : ∃ t, ts[ix] = t := ⟨_, rfl⟩
      rw [htt] at HR3 HAF y1 hmf
      obtain ⟨lf, hlf⟩ : ∃ l, tt.f.length = l := ⟨_, rfl⟩
      rw [hlf] at HR3 y1 hmf
      have HLF := hid hlf
      have HR4 := hid HR3
      have i1 : (0 : Int) ≤ (ix : Int) := by omega
      have i2 : (ix : Int) < (tn : Int) := by omega
      have k0 : w2.cell? ⟨w.heap.size, 0, none⟩ = some (.slice (some ⟨gt, oft, none⟩) tn tc) := HT2.out.c1 0
      have k5 : w2.cell? ⟨w.heap.size + 1, 1, none⟩ = some (.slice q5 l5 j5) := HT2.out.c2 1
      clear HR3 hlf htt hgd haf t1 t2 o3 zt hrd hat etn hx0 hix h2
      by_cases hlen : l5 = lf
      · have HR5 : Hid (evs ts ws tt vs tt.f = R) := by show _ = _; have h := HR4.out; rw [if_neg (fun c => c hlen)] at h; exact h
        have d1 : ((l5 : Int) != (lf : Int)) = false := by simp; omega
        subst hlen
        go_wp2_with fail
        go_loopg [39] (l5 + 1) (fun gg i wr => ∃ k : Nat, k ≤ l5 ∧ gg = l5 + 1 - k ∧ i = .int .i64 (k : Nat) ∧ evs ts ws tt (vs.drop k) (tt.f.drop k) = R ∧ Blk2 w wr [.slice (some ⟨gt, oft, none⟩) tn tc, .func (.func 111) #[] #[.pointer (some ⟨b, 0, none⟩)], .map (some mb)] [.string ety, .slice q5 l5 j5] 163 47 ∧ Below w2.heap.size w2 wr)
        case atStart => exact ⟨0, by omega, by omega, rfl, HR5.out, HT2.out, Below.refl _ _⟩
        case round =>
          obtain ⟨k, hk, rfl, rfl, hev, hTr, hB2⟩ := hrel
          clear HT2 HT k0 k5 y1
          have HT := hid hTr
          have HB2 := hid hB2
          by_cases hlt : k < l5
          · have hkc : k < vs.length := by have := HN5.out; omega
            have hkf : k < tt.f.length := by have := HLF.out; omega
            obtain ⟨gv, ofv, hp, hrv⟩ := HAV.out (by omega)
            subst hp
            obtain ⟨gf, off, hpf, hrf⟩ := HAF.out (by omega)
            subst hpf
            obtain ⟨A, r1, o1⟩ := hrv wr hTr.bel k hkc
            obtain ⟨F2, r2, o2⟩ := hrf wr hB2 k hkf
            rw [rdF o2] at r2
            have f1 : wr.cell? ⟨gf, off + k * 2 + 1, none⟩ = some (.int .i64 tt.f[k].k) := r2 1 _ rfl
            have z1 := rdO o1
            have hA6 : A.length = 6 := o1.1.symm
            rw [List.drop_eq_getElem_cons hkc, List.drop_eq_getElem_cons hkf, evs_step] at hev
            have hcall := fun W (hW : Below wr.heap.size wr W) => HEM.out tt vs[k] (List.getElem_mem hkc) tt.f[k].k W (below_trans hTr.bel hW hTr.bel.size)
            obtain ⟨fk, hfk⟩ : ∃ x, tt.f[k].k = x := ⟨_, rfl⟩
            rw [hfk] at f1 hev hcall
            obtain ⟨e9, he9⟩ : ∃ e9, emk ts ws tt vs[k] fk = e9 := ⟨_, rfl⟩
            rw [he9] at hev hcall
            obtain ⟨UL, hUL⟩ : ∃ UL : List Value, [.slice (some ⟨gt, oft, none⟩) tn tc, .func (.func 111) #[] #[.pointer (some ⟨b, 0, none⟩)], .map (some mb)] = UL := ⟨_, rfl⟩
            have HCM0 : Hid (∀ W, Below wr.heap.size wr W → Calls Tryz.prog 141 #[.agg UL.toArray, .agg A.toArray, .int .i64 fk] W fun e w' => e = .returned (.int .i64 e9) ∧ Below W.heap.size W w') := fun W hW => by rw [← hUL, z1]; exact hcall W hW
            have HUR : Hid (∀ W, Blk2 w W [.slice (some ⟨gt, oft, none⟩) tn tc, .func (.func 111) #[] #[.pointer (some ⟨b, 0, none⟩)], .map (some mb)] [.string ety, .slice (some ⟨gv, ofv, none⟩) l5 j5] 163 47 → W.rangeAt w.heap.size 0 UL) := fun W h => by rw [← hUL]; exact range_blk h.b1
            have HAO : Hid (A.all (·.oneCell') = true) := by show _ = _; rw [z1]; rfl
            have ZA : Hid ((Tryz.prog.info? 61).map (·.size) = some A.length) := by show _ = _; rw [hA6]; kernel_rfl
            have ZU : Hid ((Tryz.prog.info? 163).map (·.size) = some UL.length) := by show _ = _; rw [← hUL]; kernel_rfl
            have HAL := hid hA6
            have X1_ := hid r1
            have HF1 := hid f1
            have HEV := hid hev
            have j1 : (0 : Int) ≤ (k : Int) := by omega
            have j2 : (k : Int) < (l5 : Int) := by omega
            clear hcall r1 r2 o1 o2 f1 hrv hrf hTr hB2 hA6 hev he9 hfk z1 hUL
            go_wp2_with (first
              | ((with_reducible show wpList _ _ _ (Oper.mk _ (.load _ _) _ _ _ _ :: _) _ _); refine wpList_load_mid (by rfl) 61 _ (by rfl) gv (ofv + k * 6) (by rfl) A _ X1_.out Tryz.underlying61 rfl ZA.out ?_)
              | ((with_reducible show wpList _ _ _ (Oper.mk _ (.store _ _ _) _ _ _ _ :: _) _ _); refine wp_st (by rfl) 61 _ _ (by rfl) wr.heap.size 0 _ 61 (.agg A.toArray) A (by rfl) (by rfl) (by rfl) (heap_alloc_new _ _) (by have := HAL.out; simp; omega) ZA.out HAO.out ?_; intro w1 hblk hfr; rw [ovr_all (by rw [HAL.out]; rfl)] at hblk; have hbl := new_store hfr; have HT1 : Hid (Blk2 w w1 [.slice (some ⟨gt, oft, none⟩) tn tc, .func (.func 111) #[] #[.pointer (some ⟨b, 0, none⟩)], .map (some mb)] [.string ety, .slice (some ⟨gv, ofv, none⟩) l5 j5] 163 47) := HT.out.next hbl; have HBW : Hid (Below wr.heap.size wr w1) := hbl; have XA : Hid (w1.rangeAt wr.heap.size 0 A) := range_blk hblk; clear hblk hfr hbl))
            have HCM : Hid (∀ W, Below w1.heap.size w1 W → Calls Tryz.prog 141 #[.agg UL.toArray, .agg A.toArray, .int .i64 fk] W fun e w' => e = .returned (.int .i64 e9) ∧ Below W.heap.size W w') := fun W hW => HCM0.out W (below_trans HBW.out hW HBW.out.size)
            have HSK : Hid (∀ W, Below w1.heap.size w1 W → W.rangeAt w.heap.size 0 UL ∧ W.rangeAt wr.heap.size 0 A ∧ W.cell? ⟨gf, off + k * 2 + 1, none⟩ = some (.int .i64 fk)) := fun W hW =>
              ⟨HUR.out _ (HT1.out.next hW), range_below XA.out hW, (((below_trans HBW.out hW HBW.out.size)).cell (World.block_lt_of_cell? _ _ HF1.out)).trans HF1.out⟩
            refine start_n (S := (fun w' => w'.rangeAt w.heap.size 0 UL ∧ w'.rangeAt wr.heap.size 0 A ∧ w'.cell? ⟨gf, off + k * 2 + 1, none⟩ = some (.int .i64 fk))) 9 #[false, false, false, false, false, false, false, false, false] rfl rfl (by kernel_rfl) (by { exact HSK.out _ (Below.drew (Below.refl _ _)) }) (fun hHeld => ?_)
            refine take_mk (i := 2) (v := ?v1) rfl (by kernel_rfl) (by kernel_rfl) (by kernel_rfl) (fun _ _ _ h => h) (Or.inl ⟨by rfl, ?hy1⟩) (by assumption) ?rest1
            case hy1 => (intro w0 hSw; (try dsimp only at hSw); go_simp <;> (try (with_reducible rfl)))
            (try simp only [Act.put, List.setIfInBounds_toArray, List.set_cons_zero, List.set_cons_succ])
            refine take_mk (i := 3) (v := ?v2) rfl (by kernel_rfl) (by kernel_rfl) (by kernel_rfl) (fun _ _ _ h => h) (Or.inl ⟨by rfl, ?hy2⟩) (by assumption) ?rest2
            case hy2 => (intro w0 hSw; (try dsimp only at hSw); go_simp <;> (try (with_reducible rfl)))
            (try simp only [Act.put, List.setIfInBounds_toArray, List.set_cons_zero, List.set_cons_succ])
            refine take_mk (i := 4) (v := ?v3) rfl (by kernel_rfl) (by kernel_rfl) (by kernel_rfl) (fun _ _ _ h => h) (Or.inl ⟨by rfl, ?hy3⟩) (by assumption) ?rest3
            case hy3 => (intro w0 hSw; (try dsimp only at hSw); go_simp <;> (try (with_reducible rfl)))
            (try simp only [Act.put, List.setIfInBounds_toArray, List.set_cons_zero, List.set_cons_succ])
            refine take_mk (i := 5) (v := ?v4) rfl (by kernel_rfl) (by kernel_rfl) (by kernel_rfl) (fun _ _ _ h => h) (Or.inl ⟨by rfl, ?hy4⟩) (by assumption) ?rest4
            case hy4 => (intro w0 hSw; (try dsimp only at hSw); go_simp <;> (try (with_reducible rfl)))
            (try simp only [Act.put, List.setIfInBounds_toArray, List.set_cons_zero, List.set_cons_succ])
            refine take_mk (i := 6) (v := ?v5) rfl (by kernel_rfl) (by kernel_rfl) (by kernel_rfl) (fun _ _ _ h => h) (Or.inl ⟨by rfl, ?hy5⟩) (by assumption) ?rest5
            case hy5 => (intro w0 hSw; (try dsimp only at hSw); go_simp <;> (try (with_reducible rfl)))
            (try simp only [Act.put, List.setIfInBounds_toArray, List.set_cons_zero, List.set_cons_succ])
            refine take_mk (i := 0) rfl (by kernel_rfl) (by kernel_rfl) (by kernel_rfl) (fun _ _ _ h => h) (yieldsIf_load_mid (by rfl) 163 _ rfl w.heap.size (0) (by rfl) UL _ (fun _ h => h.1) Tryz.underlying163 rfl ZU.out) (by assumption) ?_
            (try simp only [Act.put, List.setIfInBounds_toArray, List.set_cons_zero, List.set_cons_succ])
            refine take_mk (i := 1) rfl (by kernel_rfl) (by kernel_rfl) (by kernel_rfl) (fun _ _ _ h => h) (yieldsIf_load_mid (by rfl) 61 _ rfl wr.heap.size (0) (by rfl) A _ (fun _ h => h.2.1) Tryz.underlying61 rfl ZA.out) (by assumption) ?_
            (try simp only [Act.put, List.setIfInBounds_toArray, List.set_cons_zero, List.set_cons_succ])
            refine wpAnyH_ready (rs := [7]) (by kernel_rfl) (by simp) ?_
            refine cons_mk rfl (fun K hK => ?_) AllReadyH.nil
            refine step_call3 141 ent_emd (by rfl) _ _ _ _ (by rfl) (.agg UL.toArray) (.agg A.toArray) (.int .i64 fk) (by rfl) (by rfl) (by rfl) _ (HCM.out _ (Below.drew (Below.refl _ _))) ?_
            rintro e w9 ⟨rfl, hb9⟩
            refine ⟨_, rfl, ?_⟩
            have HB9 : Hid (Below w1.heap.size w1 w9) := below_trans (Below.drew (Below.refl _ _)) hb9 (Nat.le_refl _)
            clear hb9
            refine hK.out _ _ (by { exact HSK.out _ HB9.out }) (fun hHeld => ?_)
            clear hK K
            (try simp only [Act.put, List.setIfInBounds_toArray, List.set_cons_zero, List.set_cons_succ])
            refine take_mk (i := 8) (v := ?v6) rfl (by kernel_rfl) (by kernel_rfl) (by kernel_rfl) (fun _ _ _ h => h) (Or.inl ⟨by rfl, ?hy6⟩) (by assumption) ?rest6
            case hy6 => (intro w0 hSw; (try dsimp only at hSw); go_simp <;> (try (with_reducible rfl)))
            (try simp only [Act.put, List.setIfInBounds_toArray, List.set_cons_zero, List.set_cons_succ])
            refine wpAnyH_done (by kernel_rfl) ?_ _
            clear hHeld
            have HT9 : Hid (Blk2 w w9 [.slice (some ⟨gt, oft, none⟩) tn tc, .func (.func 111) #[] #[.pointer (some ⟨b, 0, none⟩)], .map (some mb)] [.string ety, .slice (some ⟨gv, ofv, none⟩) l5 j5] 163 47) := HT1.out.next HB9.out
            have HB29 : Hid (Below w2.heap.size w2 w9) := below_trans HB2.out (below_trans HBW.out HB9.out HBW.out.size) HB2.out.size
            by_cases hz : e9 = 0
            · have HE2 : Hid (evs ts ws tt (vs.drop (k + 1)) (tt.f.drop (k + 1)) = R) := by have h := HEV.out; rw [if_neg (fun c => c hz)] at h; exact h
              subst hz
              go_wp2_with fail
              go_roundg (l5 + 1 - (k + 1))
              case rel => exact ⟨k + 1, by omega, rfl, by go_num, HE2.out, HT9.out, HB29.out⟩
              case measure => omega
            · have HE2 : Hid (R = e9) := by have h := HEV.out; rw [if_pos hz] at h; exact h.symm
              have d9 : (e9 != 0) = true := by simpa using hz
              clear hz
              go_wp2_with fail
              go_ret
              exact ⟨ret_int HE2.out.symm, HT9.out.bel⟩
          · obtain rfl : k = l5 := by omega
            have hd : vs.drop k = [] := List.drop_of_length_le (by have := HN5.out; omega)
            rw [hd] at hev
            have HE2 : Hid (R = 0) := by show _ = _; rw [← hev]; cases tt.f.drop k <;> rfl
            clear hev hd hTr hB2
            go_wp2_with fail
            go_ret
            exact ⟨ret_int HE2.out.symm, HT.out.bel⟩
      · have HRR : Hid (R = 13) := by show _ = _; have h := HR4.out; rw [if_pos hlen] at h; exact h.symm
        have d1 : ((l5 : Int) != (lf : Int)) = true := by simp; omega
        clear hlen
        go_wp2_with fail
        go_ret
        exact ⟨ret_int HRR.out.symm, HT2.out.bel⟩
end Go.Proofs.YthndlfdbmljkhaaGreatDoor.Chk
