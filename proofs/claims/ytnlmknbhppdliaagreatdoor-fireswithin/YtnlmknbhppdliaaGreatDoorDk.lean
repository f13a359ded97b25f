/-
  What is emitted, by the program. The parts of a rule, one by one, by the program. How many parts a rule has; what is known of whens and nots, by the program.
-/
import Derived.Test.YtnlmknbhppdliaaGreatDoorDi
set_option maxHeartbeats 64000000
namespace Go.Proofs.YtnlmknbhppdliaaGreatDoor.Chk
open Go.ChangeShapes Go.WideShapes Go.ChangeAt Go.RowKit Go.Maps
set_option linter.unusedVariables false
set_option linter.unusedSimpArgs false
set_option maxRecDepth 20000
theorem sdk_own {ts : List Tp} {ws : List Pt} {a c : Tp} {o : Opd} (h : o.k ≠ 2) : sdk ts ws a o = sdk ts ws c o := by
  unfold sdk
  simp only [if_neg h]
def emk (ts : List Tp) (ws : List Pt) (t : Tp) (o : Opd) (want : Int) : Int := if o.k = 2 then 4 else if (sdk ts ws t o).2 ≠ 0 then (sdk ts ws t o).2 else if (sdk ts ws t o).1 ≠ want then 13 else 0
theorem zES (ts : List Tp) (ws : List Pt) (t : Tp) (b mb : Nat) (Ks : Kns) (n : Nat) (hkn : zA9 ts ws) (hk : Knw ts ws Ks) (hty : ∀ i (hi : i < ts.length), tyk ts[i].n ts[i].f = 0) (o : Opd) (want : Int) (tv : Value) (w : World) (hs : Scp w ts tv b mb Ks n) (hz : o.va.size ≤ maxLen) :
   Calls Tryz.prog 133 #[scV tv b mb, opV o, .int .i64 want] w fun e w' => e = .returned (.int .i64 (emk ts ws t o want)) ∧ Below w.heap.size w w' := by
 obtain ⟨tp, tn, tc, rfl⟩ := zAB hs.rt
 obtain ⟨R, hR⟩ : ∃ R, emk ts ws t o want = R := ⟨_, rfl⟩
 rw [hR]
 unfold emk at hR
 have HR := hid hR
 by_cases h2 : o.k = 2
 . have HRR : Hid (R = 4) := by show _ = _; rw [← HR.out, if_pos h2]
   obtain ⟨ok, ovk, ovi, ovt, ova, ofd⟩ := o
   obtain rfl : ok = 2 := h2
   have HB : Hid (Below w.heap.size w ((w.alloc (.cells [.slice tp tn tc, .func (.func 95) #[] #[.pointer (some ⟨b, 0, none⟩)], .map (some mb)].toArray 174)).alloc (.cells [.int .i64 2, .int .i64 ovk, .int .i64 ovi, .string ovt, .string ova, .string ofd].toArray 44))) := ((Below.refl _ _).alloc (Nat.le_refl _) _).alloc (by simp) _
   clear HR hR hs hkn hk hty hz
   go_enter Tryz.func133, Tryz.ntmps133
   go_wp2_with fail
   go_ret
   exact ⟨zAD HRR.out.symm, HB.out⟩
 . have e1 : sdk ts ws t o = sdk ts ws ⟨⟨#[]⟩, []⟩ o := sdk_own h2
   have HSD := hid (fun W (hW : Below w.heap.size w W) => zDG ts ws ⟨⟨#[]⟩, []⟩ o (.slice tp tn tc) (.slice none 0 0) b mb Ks n W (hs.later hW) (Rd.nil _ _ none 0 (Nat.zero_le _)) hkn hk hty (fun c => absurd c h2) hz)
   have HR1 := HR.out
   rw [if_neg h2, e1] at HR1
   obtain ⟨⟨s1, s2⟩, hsd⟩ : ∃ x, sdk ts ws ⟨⟨#[]⟩, []⟩ o = x := ⟨_, rfl⟩
   rw [hsd] at HR1 HSD
   have HR2 := hid HR1
   obtain ⟨ok, ovk, ovi, ovt, ova, ofd⟩ := o
   have d2 : (ok == 2) = false := by simpa using h2
   have HB : Hid (Below w.heap.size w ((w.alloc (.cells [.slice tp tn tc, .func (.func 95) #[] #[.pointer (some ⟨b, 0, none⟩)], .map (some mb)].toArray 174)).alloc (.cells [.int .i64 ok, .int .i64 ovk, .int .i64 ovi, .string ovt, .string ova, .string ofd].toArray 44))) := ((Below.refl _ _).alloc (Nat.le_refl _) _).alloc (by simp) _
   simp only at HR2 HSD
   clear HR hR hs hkn hk hty hz HR1 hsd e1 h2
   by_cases hz : s2 = 0
   . subst hz
     by_cases hy : s1 = want
     . have HRR : Hid (R = 0) := by show _ = _; rw [← HR2.out]; simp [hy]
       subst hy
       go_enter Tryz.func133, Tryz.ntmps133
       go_wp2_with fail
       refine (HSD.out _ HB.out).mono ?_
       rintro e w2 ⟨rfl, hb2⟩
       have HB2 := hid (zAA HB.out hb2 HB.out.size)
       clear hb2
       go_wp2_with fail
       go_ret
       exact ⟨zAD HRR.out.symm, HB2.out⟩
     . have HRR : Hid (R = 13) := by show _ = _; rw [← HR2.out]; simp [hy]
       have d3 : (s1 != want) = true := by simpa using hy
       clear hy
       go_enter Tryz.func133, Tryz.ntmps133
       go_wp2_with fail
       refine (HSD.out _ HB.out).mono ?_
       rintro e w2 ⟨rfl, hb2⟩
       have HB2 := hid (zAA HB.out hb2 HB.out.size)
       clear hb2
       go_wp2_with fail
       go_ret
       exact ⟨zAD HRR.out.symm, HB2.out⟩
   . have HRR : Hid (R = s2) := by show _ = _; rw [← HR2.out]; simp [hz]
     have d3 : (s2 == 0) = false := by simpa using hz
     clear hz
     go_enter Tryz.func133, Tryz.ntmps133
     go_wp2_with fail
     refine (HSD.out _ HB.out).mono ?_
     rintro e w2 ⟨rfl, hb2⟩
     have HB2 := hid (zAA HB.out hb2 HB.out.size)
     clear hb2
     go_wp2_with fail
     go_ret
     exact ⟨zAD HRR.out.symm, HB2.out⟩
theorem ent_emd : ∀ args w, (callFunc 133 args).run Tryz.prog w = .ok (.enter 133 args) w := enters_of Tryz.func133 (by kernel_rfl) rfl
theorem evs_step (ts : List Tp) (ws : List Pt) (t : Tp) (o : Opd) (f : Fd) (r : List Opd) (g : List Fd) : evs ts ws t (o :: r) (f :: g) = if emk ts ws t o f.k ≠ 0 then emk ts ws t o f.k else evs ts ws t r g := by
 rw [evs]
 unfold emk
 by_cases h1 : o.k = 2
 . simp [h1]
 . by_cases h2 : (sdk ts ws t o).2 = 0
   . by_cases h3 : (sdk ts ws t o).1 = f.k
     . simp [h1, h2, h3]
     . simp [h1, h2, h3]
   . simp [h1, h2]
theorem emit_any (ts : List Tp) (ws : List Pt) (b mb : Nat) (Ks : Kns) (n : Nat) (hkn : zA9 ts ws) (hk : Knw ts ws Ks) (hty : ∀ i (hi : i < ts.length), tyk ts[i].n ts[i].f = 0) (ety : ByteArray) (vs : List Opd) (hzs : ∀ o, o ∈ vs → o.va.size ≤ maxLen) (tv u5 : Value) (w : World) (hs : Scp w ts tv b mb Ks n) (hV : Rd w (.row 44 6 (vs.map encO)) u5) :
  Calls Tryz.prog 94 #[scV tv b mb, .agg #[.string ety, u5]] w fun e w' => e = .returned (.int .i64 (eck ts ws ety vs)) ∧ Below w.heap.size w w' := by
 have HEM := hid (fun (t : Tp) (o : Opd) (ho : o ∈ vs) (want : Int) W (hW : Below w.heap.size w W) => zES ts ws t b mb Ks n hkn hk hty o want tv W (hs.later hW) (hzs o ho))
 have HFI := hid (fun W (hW : Below w.heap.size w W) => zA4 ts tv ety b W (hs.rt.later hW) (hs.later hW).fd)
 have HS := hid hs
 obtain ⟨tp, tn, tc, rfl⟩ := zAB hs.rt
 obtain ⟨q5, j5, rfl, hmx, hav⟩ := zAG lenO hV
 have HAV : Hid (At encO 6 w q5 vs) := hav
 obtain ⟨l5, hl5⟩ : ∃ l, vs.length = l := ⟨_, rfl⟩
 have HN5 := hid hl5
 obtain ⟨R, hR⟩ : ∃ R, eck ts ws ety vs = R := ⟨_, rfl⟩
 rw [hR]
 unfold eck at hR
 rw [hl5] at hmx hR ⊢
 have HR := hid hR
 have HT : Hid (Blk2 w ((w.alloc (.cells [.slice tp tn tc, .func (.func 95) #[] #[.pointer (some ⟨b, 0, none⟩)], .map (some mb)].toArray 174)).alloc (.cells [.string ety, .slice q5 l5 j5].toArray 54)) [.slice tp tn tc, .func (.func 95) #[] #[.pointer (some ⟨b, 0, none⟩)], .map (some mb)] [.string ety, .slice q5 l5 j5] 174 54) := Blk2.start w _ _ _ _
 clear hR hl5 hav hV hs hkn hk hty hzs
 cases hem : emp ety with
 | true =>
  have q0 := zCE hem
  have HR1 := HR.out
  rw [if_pos hem] at HR1
  by_cases h0 : 0 < l5
  . have HRR : Hid (R = 4) := by show _ = _; rw [← HR1, if_pos h0]
    have g1 : (0 : Int) < (l5 : Int) := by omega
    clear HR1 HR hem
    go_enter Tryz.func94, Tryz.ntmps94
    go_wp2_with fail
    go_ret
    exact ⟨zAD HRR.out.symm, HT.out.bel⟩
  . have HRR : Hid (R = 0) := by show _ = _; rw [← HR1, if_neg h0]
    obtain rfl : l5 = 0 := by omega
    clear HR1 HR hem h0
    go_enter Tryz.func94, Tryz.ntmps94
    go_wp2_with fail
    go_ret
    exact ⟨zAD HRR.out.symm, HT.out.bel⟩
 | false =>
  obtain ⟨q0, q1⟩ := zDI hem
  have HR1 := HR.out
  have hne : ¬ emp ety = true := by rw [hem]; decide
  rw [if_neg hne] at HR1
  have HR2 := hid HR1
  obtain ⟨t0, ht0⟩ : ∃ t, tyq ts ety = t := ⟨_, rfl⟩
  have HT0 := hid ht0
  rw [ht0] at HFI
  clear HR1 HR hne hem ht0
  go_enter Tryz.func94, Tryz.ntmps94
  go_wp2_with fail
  refine (HFI.out _ HT.out.bel).mono ?_
  rintro e w2 ⟨rfl, hb2⟩
  have HT2 : Hid _ := HT.out.next hb2
  clear hb2
  by_cases h2 : t0 < 0
  . have HRR : Hid (R = 6) := by show _ = _; have h := HR2.out; rw [HT0.out, if_pos h2] at h; exact h.symm
    go_wp2_with fail
    go_ret
    exact ⟨zAD HRR.out.symm, HT2.out.bel⟩
  . have HR3 := HR2.out
    rw [HT0.out, if_neg h2] at HR3
    obtain ⟨ix, hix, hti⟩ : ∃ i, ∃ _ : i < ts.length, t0 = (i : Int) := by
      rcases zA2 (q := fun t : Tp => seq t.n ety) ts 0 with c | ⟨i, hi, c, _⟩
      . exfalso
        have h5 : t0 < 0 := by rw [← HT0.out, show tyq ts ety = -1 from c]; decide
        omega
      . exact ⟨i, hi, by rw [← HT0.out]; show ixq _ _ _ = _; rw [c]; simp⟩
    subst hti
    obtain ⟨p', cap', e0, _, hat⟩ := zAG lenY HS.out.rt
    have etn := (zBM HS.out.rt).1
    simp only [Value.slice.injEq] at e0
    obtain ⟨rfl, hx0, rfl⟩ := e0
    obtain ⟨gt, oft, rfl, hrd⟩ := hat (by omega)
    obtain ⟨T2, t1, t2⟩ := hrd w2 HT2.out.bel ix hix
    obtain ⟨fv2, zt, o3⟩ := rdY t2
    obtain ⟨fp, fc, rfl, hmf, haf⟩ := zAG lenF o3
    rw [zt] at t1
    have y1 : w2.cell? ⟨gt, oft + ix * 2 + 1, none⟩ = some (.slice fp ts[ix].f.length fc) := t1 1 _ rfl
    have hgd : ts.getD (((ix : Nat) : Int)).toNat ⟨txt [], []⟩ = ts[ix] := by simp [hix]
    rw [hgd] at HR3
    have HAF : Hid (At encF 2 w2 fp ts[ix].f) := haf
    obtain ⟨tt, htt⟩ : ∃ t, ts[ix] = t := ⟨_, rfl⟩
    rw [htt] at HR3 HAF y1 hmf
    obtain ⟨lf, hlf⟩ : ∃ l, tt.f.length = l := ⟨_, rfl⟩
    rw [hlf] at HR3 y1 hmf
    have HLF := hid hlf
    have HR4 := hid HR3
    have i1 : (0 : Int) ≤ (ix : Int) := by omega
    have i2 : (ix : Int) < (tn : Int) := by omega
    have k0 : w2.cell? ⟨w.heap.size, 0, none⟩ = some (.slice (some ⟨gt, oft, none⟩) tn tc) := HT2.out.c1 0
    have k5 : w2.cell? ⟨w.heap.size + 1, 1, none⟩ = some (.slice q5 l5 j5) := HT2.out.c2 1
    clear HR3 hlf htt hgd haf t1 t2 o3 zt hrd hat etn hx0 hix h2
    by_cases hlen : l5 = lf
    . have HR5 : Hid (evs ts ws tt vs tt.f = R) := by show _ = _; have h := HR4.out; rw [if_neg (fun c => c hlen)] at h; exact h
      have d1 : ((l5 : Int) != (lf : Int)) = false := by simp; omega
      subst hlen
      go_wp2_with fail
      go_loopg [39] (l5 + 1) (fun gg i wr => ∃ k : Nat, k ≤ l5 ∧ gg = l5 + 1 - k ∧ i = .int .i64 (k : Nat) ∧ evs ts ws tt (vs.drop k) (tt.f.drop k) = R ∧ Blk2 w wr [.slice (some ⟨gt, oft, none⟩) tn tc, .func (.func 95) #[] #[.pointer (some ⟨b, 0, none⟩)], .map (some mb)] [.string ety, .slice q5 l5 j5] 174 54 ∧ Below w2.heap.size w2 wr)
      case atStart => exact ⟨0, by omega, by omega, rfl, HR5.out, HT2.out, Below.refl _ _⟩
      case round =>
        obtain ⟨k, hk, rfl, rfl, hev, hTr, hB2⟩ := hrel
        clear HT2 HT k0 k5 y1
        have HT := hid hTr
        have HB2 := hid hB2
        by_cases hlt : k < l5
        . have hkc : k < vs.length := by have := HN5.out; omega
          have hkf : k < tt.f.length := by have := HLF.out; omega
          obtain ⟨gv, ofv, hp, hrv⟩ := HAV.out (by omega)
          subst hp
          obtain ⟨gf, off, hpf, hrf⟩ := HAF.out (by omega)
          subst hpf
          obtain ⟨A, r1, o1⟩ := hrv wr hTr.bel k hkc
          obtain ⟨F2, r2, o2⟩ := hrf wr hB2 k hkf
          rw [rdF o2] at r2
          have f1 : wr.cell? ⟨gf, off + k * 2 + 1, none⟩ = some (.int .i64 tt.f[k].k) := r2 1 _ rfl
          have z1 := rdO o1
          have hA6 : A.length = 6 := o1.1.symm
          rw [List.drop_eq_getElem_cons hkc, List.drop_eq_getElem_cons hkf, evs_step] at hev
          have hcall := fun W (hW : Below wr.heap.size wr W) => HEM.out tt vs[k] (List.getElem_mem hkc) tt.f[k].k W (zAA hTr.bel hW hTr.bel.size)
          obtain ⟨fk, hfk⟩ : ∃ x, tt.f[k].k = x := ⟨_, rfl⟩
          rw [hfk] at f1 hev hcall
          obtain ⟨e9, he9⟩ : ∃ e9, emk ts ws tt vs[k] fk = e9 := ⟨_, rfl⟩
          rw [he9] at hev hcall
          obtain ⟨UL, hUL⟩ : ∃ UL : List Value, [.slice (some ⟨gt, oft, none⟩) tn tc, .func (.func 95) #[] #[.pointer (some ⟨b, 0, none⟩)], .map (some mb)] = UL := ⟨_, rfl⟩
          have HCM0 : Hid (∀ W, Below wr.heap.size wr W → Calls Tryz.prog 133 #[.agg UL.toArray, .agg A.toArray, .int .i64 fk] W fun e w' => e = .returned (.int .i64 e9) ∧ Below W.heap.size W w') := fun W hW => by rw [← hUL, z1]; exact hcall W hW
          have HUR : Hid (∀ W, Blk2 w W [.slice (some ⟨gt, oft, none⟩) tn tc, .func (.func 95) #[] #[.pointer (some ⟨b, 0, none⟩)], .map (some mb)] [.string ety, .slice (some ⟨gv, ofv, none⟩) l5 j5] 174 54 → W.rangeAt w.heap.size 0 UL) := fun W h => by rw [← hUL]; exact zAE h.b1
          have HAO : Hid (A.all (·.oneCell') = true) := by show _ = _; rw [z1]; rfl
          have ZA : Hid ((Tryz.prog.info? 44).map (·.size) = some A.length) := by show _ = _; rw [hA6]; kernel_rfl
          have ZU : Hid ((Tryz.prog.info? 174).map (·.size) = some UL.length) := by show _ = _; rw [← hUL]; kernel_rfl
          have HAL := hid hA6
          have X1_ := hid r1
          have HF1 := hid f1
          have HEV := hid hev
          have j1 : (0 : Int) ≤ (k : Int) := by omega
          have j2 : (k : Int) < (l5 : Int) := by omega
          clear hcall r1 r2 o1 o2 f1 hrv hrf hTr hB2 hA6 hev he9 hfk z1 hUL
          go_wp2_with (first
            | ((with_reducible refine gLq ?_); refine wpList_load_mid (by rfl) 44 _ (by rfl) gv (ofv + k * 6) (by rfl) A _ X1_.out Tryz.underlying44 rfl ZA.out ?_)
            | ((with_reducible refine gSq ?_); refine zA7 (by rfl) 44 _ _ (by rfl) wr.heap.size 0 _ 44 (.agg A.toArray) A (by rfl) (by rfl) (by rfl) (heap_alloc_new _ _) (by have := HAL.out; simp; omega) ZA.out HAO.out ?_; intro w1 hblk hfr; rw [zAT (by rw [HAL.out]; rfl)] at hblk; have hbl := zAM hfr; have HT1 : Hid _ := HT.out.next hbl; have HBW : Hid (Below wr.heap.size wr w1) := hbl; have XA : Hid (w1.rangeAt wr.heap.size 0 A) := zAE hblk; clear hblk hfr hbl))
          have HCM : Hid (∀ W, Below w1.heap.size w1 W → Calls Tryz.prog 133 #[.agg UL.toArray, .agg A.toArray, .int .i64 fk] W fun e w' => e = .returned (.int .i64 e9) ∧ Below W.heap.size W w') := fun W hW => HCM0.out W (zAA HBW.out hW HBW.out.size)
          have HSK : Hid (∀ W, Below w1.heap.size w1 W → W.rangeAt w.heap.size 0 UL ∧ W.rangeAt wr.heap.size 0 A ∧ W.cell? ⟨gf, off + k * 2 + 1, none⟩ = some (.int .i64 fk)) := fun W hW =>
            ⟨HUR.out _ (HT1.out.next hW), zAK XA.out hW, (((zAA HBW.out hW HBW.out.size)).cell (World.block_lt_of_cell? _ _ HF1.out)).trans HF1.out⟩
          refine zBC (S := (fun w' => w'.rangeAt w.heap.size 0 UL ∧ w'.rangeAt wr.heap.size 0 A ∧ w'.cell? ⟨gf, off + k * 2 + 1, none⟩ = some (.int .i64 fk))) 9 #[false, false, false, false, false, false, false, false, false] rfl rfl (by kernel_rfl) (by { exact HSK.out _ (Below.drew (Below.refl _ _)) }) (fun hHeld => ?_)
          refine tkq (i := 2) (v := ?v1) rfl ?hy1 ?rest1; (case hy1 => intro w0 hSw; (try dsimp only at hSw); go_simp <;> (try (with_reducible rfl))); (try simp only [puts])
          refine tkq (i := 3) (v := ?v2) rfl ?hy2 ?rest2; (case hy2 => intro w0 hSw; (try dsimp only at hSw); go_simp <;> (try (with_reducible rfl))); (try simp only [puts])
          refine tkq (i := 4) (v := ?v3) rfl ?hy3 ?rest3; (case hy3 => intro w0 hSw; (try dsimp only at hSw); go_simp <;> (try (with_reducible rfl))); (try simp only [puts])
          refine tkq (i := 5) (v := ?v4) rfl ?hy4 ?rest4; (case hy4 => intro w0 hSw; (try dsimp only at hSw); go_simp <;> (try (with_reducible rfl))); (try simp only [puts])
          refine tkq (i := 6) (v := ?v5) rfl ?hy5 ?rest5; (case hy5 => intro w0 hSw; (try dsimp only at hSw); go_simp <;> (try (with_reducible rfl))); (try simp only [puts])
          refine tlq (i := 0) rfl (yieldsIf_load_mid (by rfl) 174 _ rfl w.heap.size (0) (by rfl) UL _ (fun _ h => h.1) Tryz.underlying174 rfl ZU.out) ?_
          (try simp only [puts])
          refine tlq (i := 1) rfl (yieldsIf_load_mid (by rfl) 44 _ rfl wr.heap.size (0) (by rfl) A _ (fun _ h => h.2.1) Tryz.underlying44 rfl ZA.out) ?_
          (try simp only [puts])
          refine wpAnyH_ready (rs := [7]) (by kernel_rfl) (by simp) ?_
          refine zAV rfl (fun K hK => ?_) AllReadyH.nil
          refine zBU 133 ent_emd (by rfl) _ _ _ _ (by rfl) (.agg UL.toArray) (.agg A.toArray) (.int .i64 fk) (by rfl) (by rfl) (by rfl) _ (HCM.out _ (Below.drew (Below.refl _ _))) ?_
          rintro e w9 ⟨rfl, hb9⟩
          refine ⟨_, rfl, ?_⟩
          have HB9 : Hid (Below w1.heap.size w1 w9) := zAA (Below.drew (Below.refl _ _)) hb9 (Nat.le_refl _)
          clear hb9
          refine hK.out _ _ (by { exact HSK.out _ HB9.out }) (fun hHeld => ?_)
          clear hK K
          (try simp only [puts])
          refine tkq (i := 8) (v := ?v6) rfl ?hy6 ?rest6; (case hy6 => intro w0 hSw; (try dsimp only at hSw); go_simp <;> (try (with_reducible rfl))); (try simp only [puts])
          refine wpAnyH_done (by kernel_rfl) ?_ _
          clear hHeld
          have HT9 : Hid (Blk2 w w9 [.slice (some ⟨gt, oft, none⟩) tn tc, .func (.func 95) #[] #[.pointer (some ⟨b, 0, none⟩)], .map (some mb)] [.string ety, .slice (some ⟨gv, ofv, none⟩) l5 j5] 174 54) := HT1.out.next HB9.out
          have HB29 : Hid (Below w2.heap.size w2 w9) := zAA HB2.out (zAA HBW.out HB9.out HBW.out.size) HB2.out.size
          by_cases hz : e9 = 0
          . have HE2 : Hid (evs ts ws tt (vs.drop (k + 1)) (tt.f.drop (k + 1)) = R) := by have h := HEV.out; rw [if_neg (fun c => c hz)] at h; exact h
            subst hz
            go_wp2_with fail
            go_roundg (l5 + 1 - (k + 1))
            case rel => exact ⟨k + 1, by omega, rfl, by go_num, HE2.out, HT9.out, HB29.out⟩
            case measure => omega
          . have HE2 : Hid (R = e9) := by have h := HEV.out; rw [if_pos hz] at h; exact h.symm
            have d9 : (e9 != 0) = true := by simpa using hz
            clear hz
            go_wp2_with fail
            go_ret
            exact ⟨zAD HE2.out.symm, HT9.out.bel⟩
        . obtain rfl : k = l5 := by omega
          have hd : vs.drop k = [] := List.drop_of_length_le (by have := HN5.out; omega)
          rw [hd] at hev
          have HE2 : Hid (R = 0) := by show _ = _; rw [← hev]; cases tt.f.drop k <;> rfl
          clear hev hd hTr hB2
          go_wp2_with fail
          go_ret
          exact ⟨zAD HE2.out.symm, HT.out.bel⟩
    . have HRR : Hid (R = 13) := by show _ = _; have h := HR4.out; rw [if_pos hlen] at h; exact h.symm
      have d1 : ((l5 : Int) != (lf : Int)) = true := by simp; omega
      clear hlen
      go_wp2_with fail
      go_ret
      exact ⟨zAD HRR.out.symm, HT2.out.bel⟩
theorem zE8 (X : Int) (ts : List Tp) : ∀ (l done : List Pt), wfs X ts done l = if wfs 0 ts done l ≠ 0 then wfs 0 ts done l else X
 | [], done => by simp [wfs]
 | p :: r, done => by
  rw [wfs, wfs, zE8 X ts r (done ++ [p])]
  by_cases h : pck ts done (done.map Pt.va) p 0 = 0
  . simp [h]
  . simp [h]
theorem zE2 (X : Int) (ts : List Tp) (ws : List Pt) : ∀ (l : List Pt) (ah : List ByteArray), nfs X ts ws ah l = if nfs 0 ts ws ah l ≠ 0 then nfs 0 ts ws ah l else X
 | [], ah => by simp [nfs]
 | p :: r, ah => by
  rw [nfs, nfs, zE2 X ts ws r (ah ++ [p.va])]
  by_cases h : pck ts ws ah p 1 = 0
  . simp [h]
  . simp [h]
theorem zFH (X : Int) (ts : List Tp) (ws : List Pt) : ∀ (l : List Mn) (ah : List ByteArray), mfs X ts ws ah l = if mfs 0 ts ws ah l ≠ 0 then mfs 0 ts ws ah l else X
 | [], ah => by simp [mfs]
 | p :: r, ah => by
  rw [mfs, mfs, zFH X ts ws r (ah ++ [p.p.va])]
  by_cases h : mck ts ws ah p = 0
  . simp [h]
  . simp [h]
theorem zE6 (X : Int) (ws ns : List Pt) : ∀ (l : List Lk), lfs X ws ns l = if lfs 0 ws ns l ≠ 0 then lfs 0 ws ns l else X
 | [] => by simp [lfs]
 | k :: r => by
  rw [lfs, lfs, zE6 X ws ns r]
  by_cases h : lck ws ns k.l k.r k.o = 0
  . simp [h]
  . simp [h]
theorem zD1 (ts : List Tp) (ws : List Pt) (b mb n0 : Nat) (hty : ∀ i (hi : i < ts.length), tyk ts[i].n ts[i].f = 0) (tv lv : Value) (w : World) (hs : Scp w ts tv b mb [] n0) (hR : Rd w (.row 48 18 (ws.map encP)) lv) (hwz : ∀ t, t ∈ ws → Wsz t.c) (hn : n0 + ws.length ≤ 100) :
  Calls Tryz.prog 87 #[lv, .func (.func 88) #[scV tv b mb] #[]] w fun e w' => e = .returned (.int .i64 (wfs 0 ts [] ws)) ∧ Fr (fun i => i = mb) w w' ∧ (wfs 0 ts [] ws = 0 → (Scp w' ts tv b mb (kw ts (ws.take (ws.length))) (n0 + (ws.length)) ∧ zA9 ts (ws.take (ws.length)))) := by
 obtain ⟨tp, tn, tc, rfl⟩ := zAB hs.rt
 have HS := hid hs
 have HL := hid hR
 have HWZ := hid hwz
 have HNN := hid hn
 obtain ⟨p, cap, rfl, hmx, _⟩ := zAG lenP hR
 obtain ⟨n, hnl⟩ : ∃ n, ws.length = n := ⟨_, rfl⟩
 have HN := hid hnl
 obtain ⟨R, hRR⟩ : ∃ R, wfs 0 ts [] ws = R := ⟨_, rfl⟩
 have HR := hid hRR
 rw [hRR]
 rw [hnl] at hmx HL ⊢
 clear hR hs hwz hn hnl hRR
 go_enter Tryz.func87, Tryz.ntmps87
 go_wp2_with fail
 go_loopg [10] (n + 1) (fun gg i wr => ∃ k : Nat, k ≤ n ∧ gg = n + 1 - k ∧ i = .int .i64 (k : Nat) ∧ wfs 0 ts (ws.take k) (ws.drop k) = R ∧ Fr (fun i => i = mb) w wr ∧ (Scp wr ts (.slice tp tn tc) b mb (kw ts (ws.take (k))) (n0 + (k)) ∧ zA9 ts (ws.take (k))))
 case atStart => exact ⟨0, by omega, by omega, rfl, by simpa using HR.out, Fr.refl _ _, by simpa using ⟨HS.out, fun j hj => by simp at hj⟩⟩
 case round =>
  obtain ⟨k, hk, rfl, rfl, hev, hF, hI⟩ := hrel
  have HF := hid hF
  have HI := hid hI
  by_cases hlt : k < n
  . have hkc : k < ws.length := by have := HN.out; omega
    obtain ⟨p', cap', e0, _, hat⟩ := zAG lenP (HL.out.fr HS.out.km.isMap hF)
    simp only [Value.slice.injEq] at e0
    obtain ⟨rfl, hx0, rfl⟩ := e0
    obtain ⟨g, off, rfl, hrd⟩ := hat (by omega)
    obtain ⟨A, r1, o1⟩ := hrd wr (Below.refl _ _) k hkc
    obtain ⟨vc, z1, o2⟩ := rdP o1
    obtain ⟨up, un, uc, hu⟩ := zAB o2
    have hAz : A.length = 18 := o1.1.symm
    rw [List.drop_eq_getElem_cons hkc, wfs] at hev
    have htk : ws.take (k + 1) = ws.take k ++ [ws[k]] := List.take_succ_eq_append_getElem hkc
    have hwk : Wsz ws[k].c := HWZ.out _ (List.getElem_mem hkc)
    have hK1 : Knw ts (ws.take k) (kw ts (ws.take k)) := by simpa using zE7 (ts := ts) (ws := ws.take k) (B := []) (fun e he => by cases he)
    have hK2 : Kna ((ws.take k).map Pt.va) (kw ts (ws.take k)) := by
      have h := zGV (Ks := kw ts (ws.take k)) (fun e he => by obtain ⟨x, _, rfl⟩ := List.mem_map.1 he; show (1 : Int) ≠ 0; decide)
      have e : (kw ts (ws.take k)).map (·.1) = (ws.take k).map Pt.va := by unfold kw; rw [List.map_map]; rfl
      rwa [e] at h
    have hcall := fun W (hW : Below wr.heap.size wr W) => when_any ts (ws.take k) ((ws.take k).map Pt.va) b mb (kw ts (ws.take k)) (n0 + k) hI.2 hK1 hK2 hty ws[k] (.slice tp tn tc) vc W (hI.1.later hW) (o2.later hW) hwk (by have := HNN.out; omega)
    have hkp : kw ts (ws.take k) ++ [(ws[k].va, ((1 : Int), tyq ts ws[k].ty))] = kw ts (ws.take (k + 1)) := by rw [htk]; unfold kw; rw [List.map_append]; rfl
    rw [hkp] at hcall
    have hpk := fun (h : pck ts (ws.take k) ((ws.take k).map Pt.va) ws[k] 0 = 0) => zF3 hI.2 (zA8 h)
    rw [← htk] at hpk
    obtain ⟨e9, he9⟩ : ∃ e9, pck ts (ws.take k) ((ws.take k).map Pt.va) ws[k] 0 = e9 := ⟨_, rfl⟩
    rw [he9] at hcall hev hpk
    have HPK := hid hpk
    have HCM : Hid (∀ W, Below wr.heap.size wr W → Calls Tryz.prog 88 #[scV (.slice tp tn tc) b mb, .agg A.toArray] W (PQ W mb (kw ts (ws.take (k + 1))) (n0 + k + 1) e9)) := fun W hW => by rw [z1]; exact hcall W hW
    have HAO : Hid (A.all (·.oneCell') = true) := by show _ = _; rw [z1, hu]; rfl
    have ZA : Hid ((Tryz.prog.info? 48).map (·.size) = some A.length) := by show _ = _; rw [hAz]; kernel_rfl
    have HAL := hid hAz
    have X1_ := hid r1
    have HEV := hid hev
    have HTK := hid htk
    have i1 : (0 : Int) ≤ (k : Int) := by omega
    have i2 : (k : Int) < (n : Int) := by omega
    clear hF hI hat hrd r1 o1 hAz hev htk hx0 hwk hK1 hK2 hcall hkp hpk he9 z1 hu o2
    go_wp2_with (first
      | ((with_reducible refine gLq ?_); refine wpList_load_mid (by rfl) 48 _ (by rfl) g (off + k * 18) (by rfl) A _ X1_.out Tryz.underlying48 rfl ZA.out ?_)
      | ((with_reducible refine gSq ?_); refine zA7 (by rfl) 48 _ _ (by rfl) wr.heap.size 0 _ 48 (.agg A.toArray) A (by rfl) (by rfl) (by rfl) (heap_alloc_new _ _) (by have := HAL.out; simp; omega) ZA.out HAO.out ?_; intro w1 hblk hfr; rw [zAT (by rw [HAL.out]; rfl)] at hblk; have XB : Hid (w1.rangeAt wr.heap.size 0 A) := zAE hblk; have HBW : Hid (Below wr.heap.size wr w1) := zAM hfr; clear hblk hfr)
      | ((with_reducible refine gLq ?_); refine wpList_load_mid (by rfl) 48 _ (by rfl) wr.heap.size 0 (by rfl) A _ XB.out Tryz.underlying48 rfl ZA.out ?_))
    refine (HCM.out _ HBW.out).mono ?_
    rintro e w2 ⟨rfl, hf2, hk2⟩
    have HF2 : Hid (Fr (fun i => i = mb) w w2) := HF.out.trans ((Fr.of_below HBW.out).trans hf2)
    have HK2 := hid hk2
    have HS1 := hid ((HI.out.1.later HBW.out))
    have HFR := hid hf2
    clear hk2 hf2
    by_cases hz : e9 = 0
    . have HE2 := HEV.out
      rw [if_neg (fun c => c hz)] at HE2
      have HE3 := hid HE2
      have HI2 := hid (show Scp w2 ts (.slice tp tn tc) b mb (kw ts (ws.take (k + 1))) (n0 + (k + 1)) ∧ zA9 ts (ws.take (k + 1)) from ⟨HS1.out.fr HFR.out (HK2.out hz), HPK.out hz⟩)
      subst hz
      clear HE2 HK2 HS1 HFR HPK
      go_wp2_with fail
      go_roundg (n + 1 - (k + 1))
      case rel => exact ⟨k + 1, by omega, rfl, by go_num, by rw [HTK.out]; exact HE3.out, HF2.out, HI2.out⟩
      case measure => omega
    . have HE2 : Hid (R = e9) := by have h := HEV.out; rw [if_pos hz] at h; exact h.symm
      have d9 : (e9 != 0) = true := by simpa using hz
      have HZ := hid hz
      clear hz HK2 HS1 HFR HPK
      go_wp2_with fail
      go_ret
      exact ⟨zAD HE2.out.symm, HF2.out, fun c => absurd (HE2.out.symm.trans c) HZ.out⟩
  . obtain rfl : k = n := by omega
    have hw : ws.take k = ws := List.take_of_length_le (by have := HN.out; omega)
    have hd : ws.drop k = [] := List.drop_of_length_le (by have := HN.out; omega)
    rw [hd, wfs] at hev
    have HE2 : Hid (R = 0) := hev.symm
    have HI2 := hid hI
    clear hev hd hF hI hw
    go_wp2_with fail
    go_ret
    exact ⟨zAD HE2.out.symm, HF.out, fun _ => HI2.out⟩
theorem zEF (ts : List Tp) (ws ns : List Pt) (b mb n0 : Nat) (hkn : zA9 ts ws) (hty : ∀ i (hi : i < ts.length), tyk ts[i].n ts[i].f = 0) (tv lv : Value) (w : World) (hs : Scp w ts tv b mb (kw ts ws) n0) (hR : Rd w (.row 48 18 (ns.map encP)) lv) (hwz : ∀ t, t ∈ ns → Wsz t.c) (hn : n0 + ns.length ≤ 100) :
  Calls Tryz.prog 87 #[lv, .func (.func 89) #[scV tv b mb] #[]] w fun e w' => e = .returned (.int .i64 (nfs 0 ts ws (ws.map Pt.va) ns)) ∧ Fr (fun i => i = mb) w w' ∧ (nfs 0 ts ws (ws.map Pt.va) ns = 0 → Scp w' ts tv b mb (kw ts ws ++ kn ts (ns.take (ns.length))) (n0 + (ns.length))) := by
 obtain ⟨tp, tn, tc, rfl⟩ := zAB hs.rt
 have HS := hid hs
 have HL := hid hR
 have HWZ := hid hwz
 have HNN := hid hn
 obtain ⟨p, cap, rfl, hmx, _⟩ := zAG lenP hR
 obtain ⟨n, hnl⟩ : ∃ n, ns.length = n := ⟨_, rfl⟩
 have HN := hid hnl
 obtain ⟨R, hRR⟩ : ∃ R, nfs 0 ts ws (ws.map Pt.va) ns = R := ⟨_, rfl⟩
 have HR := hid hRR
 rw [hRR]
 rw [hnl] at hmx HL ⊢
 clear hR hs hwz hn hnl hRR
 go_enter Tryz.func87, Tryz.ntmps87
 go_wp2_with fail
 go_loopg [10] (n + 1) (fun gg i wr => ∃ k : Nat, k ≤ n ∧ gg = n + 1 - k ∧ i = .int .i64 (k : Nat) ∧ nfs 0 ts ws (ws.map Pt.va ++ (ns.take k).map Pt.va) (ns.drop k) = R ∧ Fr (fun i => i = mb) w wr ∧ Scp wr ts (.slice tp tn tc) b mb (kw ts ws ++ kn ts (ns.take (k))) (n0 + (k)))
 case atStart => exact ⟨0, by omega, by omega, rfl, by simpa using HR.out, Fr.refl _ _, by simpa [kn] using HS.out⟩
 case round =>
  obtain ⟨k, hk, rfl, rfl, hev, hF, hI⟩ := hrel
  have HF := hid hF
  have HI := hid hI
  by_cases hlt : k < n
  . have hkc : k < ns.length := by have := HN.out; omega
    obtain ⟨p', cap', e0, _, hat⟩ := zAG lenP (HL.out.fr HS.out.km.isMap hF)
    simp only [Value.slice.injEq] at e0
    obtain ⟨rfl, hx0, rfl⟩ := e0
    obtain ⟨g, off, rfl, hrd⟩ := hat (by omega)
    obtain ⟨A, r1, o1⟩ := hrd wr (Below.refl _ _) k hkc
    obtain ⟨vc, z1, o2⟩ := rdP o1
    obtain ⟨up, un, uc, hu⟩ := zAB o2
    have hAz : A.length = 18 := o1.1.symm
    rw [List.drop_eq_getElem_cons hkc, nfs] at hev
    have htk : ns.take (k + 1) = ns.take k ++ [ns[k]] := List.take_succ_eq_append_getElem hkc
    have hwk : Wsz ns[k].c := HWZ.out _ (List.getElem_mem hkc)
    have hK1 : Knw ts ws (kw ts ws ++ kn ts (ns.take k)) := zE7 (fun e he => by obtain ⟨x, _, rfl⟩ := List.mem_map.1 he; show (2 : Int) ≠ 1; decide)
    have hK2 : Kna (ws.map Pt.va ++ (ns.take k).map Pt.va) (kw ts ws ++ kn ts (ns.take k)) := by
      have h := zGV (Ks := kw ts ws ++ kn ts (ns.take k)) (fun e he => by
       rcases List.mem_append.1 he with he | he
       . obtain ⟨x, _, rfl⟩ := List.mem_map.1 he; show (1 : Int) ≠ 0; decide
       . obtain ⟨x, _, rfl⟩ := List.mem_map.1 he; show (2 : Int) ≠ 0; decide)
      have e : (kw ts ws ++ kn ts (ns.take k)).map (·.1) = ws.map Pt.va ++ (ns.take k).map Pt.va := by unfold kw kn; rw [List.map_append, List.map_map, List.map_map]; rfl
      rwa [e] at h
    have hcall := fun W (hW : Below wr.heap.size wr W) => not_any ts ws (ws.map Pt.va ++ (ns.take k).map Pt.va) b mb (kw ts ws ++ kn ts (ns.take k)) (n0 + k) hkn hK1 hK2 hty ns[k] (.slice tp tn tc) vc W (hI.later hW) (o2.later hW) hwk (by have := HNN.out; omega)
    have hkp : (kw ts ws ++ kn ts (ns.take k)) ++ [(ns[k].va, ((2 : Int), tyq ts ns[k].ty))] = kw ts ws ++ kn ts (ns.take (k + 1)) := by rw [htk, List.append_assoc]; unfold kn; rw [List.map_append]; rfl
    rw [hkp] at hcall
    obtain ⟨e9, he9⟩ : ∃ e9, pck ts ws (ws.map Pt.va ++ (ns.take k).map Pt.va) ns[k] 1 = e9 := ⟨_, rfl⟩
    rw [he9] at hcall hev
    have HCM : Hid (∀ W, Below wr.heap.size wr W → Calls Tryz.prog 89 #[scV (.slice tp tn tc) b mb, .agg A.toArray] W (PQ W mb (kw ts ws ++ kn ts (ns.take (k + 1))) (n0 + k + 1) e9)) := fun W hW => by rw [z1]; exact hcall W hW
    have HAO : Hid (A.all (·.oneCell') = true) := by show _ = _; rw [z1, hu]; rfl
    have ZA : Hid ((Tryz.prog.info? 48).map (·.size) = some A.length) := by show _ = _; rw [hAz]; kernel_rfl
    have HAL := hid hAz
    have X1_ := hid r1
    have HEV := hid hev
    have HTK := hid htk
    have i1 : (0 : Int) ≤ (k : Int) := by omega
    have i2 : (k : Int) < (n : Int) := by omega
    clear hF hI hat hrd r1 o1 hAz hev htk hx0 hwk hK1 hK2 hcall hkp he9 z1 hu o2
    go_wp2_with (first
      | ((with_reducible refine gLq ?_); refine wpList_load_mid (by rfl) 48 _ (by rfl) g (off + k * 18) (by rfl) A _ X1_.out Tryz.underlying48 rfl ZA.out ?_)
      | ((with_reducible refine gSq ?_); refine zA7 (by rfl) 48 _ _ (by rfl) wr.heap.size 0 _ 48 (.agg A.toArray) A (by rfl) (by rfl) (by rfl) (heap_alloc_new _ _) (by have := HAL.out; simp; omega) ZA.out HAO.out ?_; intro w1 hblk hfr; rw [zAT (by rw [HAL.out]; rfl)] at hblk; have XB : Hid (w1.rangeAt wr.heap.size 0 A) := zAE hblk; have HBW : Hid (Below wr.heap.size wr w1) := zAM hfr; clear hblk hfr)
      | ((with_reducible refine gLq ?_); refine wpList_load_mid (by rfl) 48 _ (by rfl) wr.heap.size 0 (by rfl) A _ XB.out Tryz.underlying48 rfl ZA.out ?_))
    refine (HCM.out _ HBW.out).mono ?_
    rintro e w2 ⟨rfl, hf2, hk2⟩
    have HF2 : Hid (Fr (fun i => i = mb) w w2) := HF.out.trans ((Fr.of_below HBW.out).trans hf2)
    have HK2 := hid hk2
    have HS1 := hid ((HI.out.later HBW.out))
    have HFR := hid hf2
    clear hk2 hf2
    by_cases hz : e9 = 0
    . have HE2 := HEV.out
      rw [if_neg (fun c => c hz)] at HE2
      have HE3 := hid HE2
      have HI2 := hid (show Scp w2 ts (.slice tp tn tc) b mb (kw ts ws ++ kn ts (ns.take (k + 1))) (n0 + (k + 1)) from HS1.out.fr HFR.out (HK2.out hz))
      subst hz
      clear HE2 HK2 HS1 HFR
      go_wp2_with fail
      go_roundg (n + 1 - (k + 1))
      case rel => exact ⟨k + 1, by omega, rfl, by go_num, by rw [HTK.out, List.map_append, ← List.append_assoc]; exact HE3.out, HF2.out, HI2.out⟩
      case measure => omega
    . have HE2 : Hid (R = e9) := by have h := HEV.out; rw [if_pos hz] at h; exact h.symm
      have d9 : (e9 != 0) = true := by simpa using hz
      have HZ := hid hz
      clear hz HK2 HS1 HFR
      go_wp2_with fail
      go_ret
      exact ⟨zAD HE2.out.symm, HF2.out, fun c => absurd (HE2.out.symm.trans c) HZ.out⟩
  . obtain rfl : k = n := by omega
    have hw : ns.take k = ns := List.take_of_length_le (by have := HN.out; omega)
    have hd : ns.drop k = [] := List.drop_of_length_le (by have := HN.out; omega)
    rw [hd, nfs] at hev
    have HE2 : Hid (R = 0) := hev.symm
    have HI2 := hid hI
    clear hev hd hF hI hw
    go_wp2_with fail
    go_ret
    exact ⟨zAD HE2.out.symm, HF.out, fun _ => HI2.out⟩
theorem zDY (ts : List Tp) (ws ns : List Pt) (ms : List Mn) (b mb n0 : Nat) (hkn : zA9 ts ws) (hty : ∀ i (hi : i < ts.length), tyk ts[i].n ts[i].f = 0) (tv lv : Value) (w : World) (hs : Scp w ts tv b mb (kw ts ws ++ kn ts ns) n0) (hR : Rd w (.row 78 20 (ms.map encM)) lv) (hwz : ∀ x, x ∈ ms → Wsz x.p.c) (hn : n0 + ms.length ≤ 100) :
  Calls Tryz.prog 90 #[lv, .func (.func 91) #[scV tv b mb] #[]] w fun e w' => e = .returned (.int .i64 (mfs 0 ts ws (ws.map Pt.va ++ ns.map Pt.va) ms)) ∧ Fr (fun i => i = mb) w w' ∧ (mfs 0 ts ws (ws.map Pt.va ++ ns.map Pt.va) ms = 0 → Scp w' ts tv b mb (kw ts ws ++ (kn ts ns ++ km ts (ms.take (ms.length)))) (n0 + (ms.length))) := by
 obtain ⟨tp, tn, tc, rfl⟩ := zAB hs.rt
 have HS := hid hs
 have HL := hid hR
 have HWZ := hid hwz
 have HNN := hid hn
 obtain ⟨p, cap, rfl, hmx, _⟩ := zAG lenM hR
 obtain ⟨n, hnl⟩ : ∃ n, ms.length = n := ⟨_, rfl⟩
 have HN := hid hnl
 obtain ⟨R, hRR⟩ : ∃ R, mfs 0 ts ws (ws.map Pt.va ++ ns.map Pt.va) ms = R := ⟨_, rfl⟩
 have HR := hid hRR
 rw [hRR]
 rw [hnl] at hmx HL ⊢
 clear hR hs hwz hn hnl hRR
 go_enter Tryz.func90, Tryz.ntmps90
 go_wp2_with fail
 go_loopg [10] (n + 1) (fun gg i wr => ∃ k : Nat, k ≤ n ∧ gg = n + 1 - k ∧ i = .int .i64 (k : Nat) ∧ mfs 0 ts ws (ws.map Pt.va ++ ns.map Pt.va ++ (ms.take k).map (fun m => m.p.va)) (ms.drop k) = R ∧ Fr (fun i => i = mb) w wr ∧ Scp wr ts (.slice tp tn tc) b mb (kw ts ws ++ (kn ts ns ++ km ts (ms.take (k)))) (n0 + (k)))
 case atStart => exact ⟨0, by omega, by omega, rfl, by simpa using HR.out, Fr.refl _ _, by simpa [km] using HS.out⟩
 case round =>
  obtain ⟨k, hk, rfl, rfl, hev, hF, hI⟩ := hrel
  have HF := hid hF
  have HI := hid hI
  by_cases hlt : k < n
  . have hkc : k < ms.length := by have := HN.out; omega
    obtain ⟨p', cap', e0, _, hat⟩ := zAG lenM (HL.out.fr HS.out.km.isMap hF)
    simp only [Value.slice.injEq] at e0
    obtain ⟨rfl, hx0, rfl⟩ := e0
    obtain ⟨g, off, rfl, hrd⟩ := hat (by omega)
    obtain ⟨A, r1, o1⟩ := hrd wr (Below.refl _ _) k hkc
    obtain ⟨B, z0, o0⟩ := rdM o1
    obtain ⟨vc, z1, o2⟩ := rdP o0
    obtain ⟨up, un, uc, hu⟩ := zAB o2
    have hAz : A.length = 20 := o1.1.symm
    rw [List.drop_eq_getElem_cons hkc, mfs] at hev
    have htk : ms.take (k + 1) = ms.take k ++ [ms[k]] := List.take_succ_eq_append_getElem hkc
    have hwk : Wsz ms[k].p.c := HWZ.out _ (List.getElem_mem hkc)
    have hK1 : Knw ts ws (kw ts ws ++ (kn ts ns ++ km ts (ms.take k))) := zE7 (fun e he => by
      rcases List.mem_append.1 he with he | he
      . obtain ⟨x, _, rfl⟩ := List.mem_map.1 he; show (2 : Int) ≠ 1; decide
      . obtain ⟨x, _, rfl⟩ := List.mem_map.1 he; show (3 : Int) ≠ 1; decide)
    have hK2 : Kna (ws.map Pt.va ++ ns.map Pt.va ++ (ms.take k).map (fun m => m.p.va)) (kw ts ws ++ (kn ts ns ++ km ts (ms.take k))) := by
      have h := zGV (Ks := kw ts ws ++ (kn ts ns ++ km ts (ms.take k))) (fun e he => by
        rcases List.mem_append.1 he with he | he
        . obtain ⟨x, _, rfl⟩ := List.mem_map.1 he; show (1 : Int) ≠ 0; decide
        . rcases List.mem_append.1 he with he | he
          . obtain ⟨x, _, rfl⟩ := List.mem_map.1 he; show (2 : Int) ≠ 0; decide
          . obtain ⟨x, _, rfl⟩ := List.mem_map.1 he; show (3 : Int) ≠ 0; decide)
      have e : (kw ts ws ++ (kn ts ns ++ km ts (ms.take k))).map (·.1) = ws.map Pt.va ++ ns.map Pt.va ++ (ms.take k).map (fun m => m.p.va) := by unfold kw kn km; rw [List.map_append, List.map_append, List.map_map, List.map_map, List.map_map, List.append_assoc]; rfl
      rwa [e] at h
    have hcall := fun W (hW : Below wr.heap.size wr W) => many_any ts ws (ws.map Pt.va ++ ns.map Pt.va ++ (ms.take k).map (fun m => m.p.va)) b mb (kw ts ws ++ (kn ts ns ++ km ts (ms.take k))) (n0 + k) hkn hK1 hK2 hty ms[k] (.slice tp tn tc) vc W (hI.later hW) (o2.later hW) hwk (by have := HNN.out; omega)
    have hkp : (kw ts ws ++ (kn ts ns ++ km ts (ms.take k))) ++ [(ms[k].p.va, ((3 : Int), tyq ts ms[k].p.ty))] = kw ts ws ++ (kn ts ns ++ km ts (ms.take (k + 1))) := by rw [htk, List.append_assoc, List.append_assoc]; unfold km; rw [List.map_append]; rfl
    rw [hkp] at hcall
    obtain ⟨e9, he9⟩ : ∃ e9, mck ts ws (ws.map Pt.va ++ ns.map Pt.va ++ (ms.take k).map (fun m => m.p.va)) ms[k] = e9 := ⟨_, rfl⟩
    rw [he9] at hcall hev
    have HCM : Hid (∀ W, Below wr.heap.size wr W → Calls Tryz.prog 91 #[scV (.slice tp tn tc) b mb, .agg A.toArray] W (PQ W mb (kw ts ws ++ (kn ts ns ++ km ts (ms.take (k + 1)))) (n0 + k + 1) e9)) := fun W hW => by rw [z0, z1]; exact hcall W hW
    have HAO : Hid (A.all (·.oneCell') = true) := by show _ = _; rw [z0, z1, hu]; rfl
    have ZA : Hid ((Tryz.prog.info? 78).map (·.size) = some A.length) := by show _ = _; rw [hAz]; kernel_rfl
    have HAL := hid hAz
    have X1_ := hid r1
    have HEV := hid hev
    have HTK := hid htk
    have i1 : (0 : Int) ≤ (k : Int) := by omega
    have i2 : (k : Int) < (n : Int) := by omega
    clear hF hI hat hrd r1 o1 hAz hev htk hx0 hwk hK1 hK2 hcall hkp he9 z0 z1 hu o2 o0
    go_wp2_with (first
      | ((with_reducible refine gLq ?_); refine wpList_load_mid (by rfl) 78 _ (by rfl) g (off + k * 20) (by rfl) A _ X1_.out Tryz.underlying78 rfl ZA.out ?_)
      | ((with_reducible refine gSq ?_); refine zA7 (by rfl) 78 _ _ (by rfl) wr.heap.size 0 _ 78 (.agg A.toArray) A (by rfl) (by rfl) (by rfl) (heap_alloc_new _ _) (by have := HAL.out; simp; omega) ZA.out HAO.out ?_; intro w1 hblk hfr; rw [zAT (by rw [HAL.out]; rfl)] at hblk; have XB : Hid (w1.rangeAt wr.heap.size 0 A) := zAE hblk; have HBW : Hid (Below wr.heap.size wr w1) := zAM hfr; clear hblk hfr)
      | ((with_reducible refine gLq ?_); refine wpList_load_mid (by rfl) 78 _ (by rfl) wr.heap.size 0 (by rfl) A _ XB.out Tryz.underlying78 rfl ZA.out ?_))
    refine (HCM.out _ HBW.out).mono ?_
    rintro e w2 ⟨rfl, hf2, hk2⟩
    have HF2 : Hid (Fr (fun i => i = mb) w w2) := HF.out.trans ((Fr.of_below HBW.out).trans hf2)
    have HK2 := hid hk2
    have HS1 := hid ((HI.out.later HBW.out))
    have HFR := hid hf2
    clear hk2 hf2
    by_cases hz : e9 = 0
    . have HE2 := HEV.out
      rw [if_neg (fun c => c hz)] at HE2
      have HE3 := hid HE2
      have HI2 := hid (show Scp w2 ts (.slice tp tn tc) b mb (kw ts ws ++ (kn ts ns ++ km ts (ms.take (k + 1)))) (n0 + (k + 1)) from HS1.out.fr HFR.out (HK2.out hz))
      subst hz
      clear HE2 HK2 HS1 HFR
      go_wp2_with fail
      go_roundg (n + 1 - (k + 1))
      case rel => exact ⟨k + 1, by omega, rfl, by go_num, by rw [HTK.out, List.map_append, ← List.append_assoc]; exact HE3.out, HF2.out, HI2.out⟩
      case measure => omega
    . have HE2 : Hid (R = e9) := by have h := HEV.out; rw [if_pos hz] at h; exact h.symm
      have d9 : (e9 != 0) = true := by simpa using hz
      have HZ := hid hz
      clear hz HK2 HS1 HFR
      go_wp2_with fail
      go_ret
      exact ⟨zAD HE2.out.symm, HF2.out, fun c => absurd (HE2.out.symm.trans c) HZ.out⟩
  . obtain rfl : k = n := by omega
    have hw : ms.take k = ms := List.take_of_length_le (by have := HN.out; omega)
    have hd : ms.drop k = [] := List.drop_of_length_le (by have := HN.out; omega)
    rw [hd, mfs] at hev
    have HE2 : Hid (R = 0) := hev.symm
    have HI2 := hid hI
    clear hev hd hF hI hw
    go_wp2_with fail
    go_ret
    exact ⟨zAD HE2.out.symm, HF.out, fun _ => HI2.out⟩
theorem zDV (ts : List Tp) (ws ns : List Pt) (ks : List Lk) (b mb : Nat) (Ks : Kns) (n0 : Nat) (hkl : Knl ws ns Ks) (tv lv : Value) (w : World) (hs : Scp w ts tv b mb Ks n0) (hR : Rd w (.row 66 3 (ks.map encK)) lv) (hwz : ∀ x, x ∈ ks → x.l.size ≤ maxLen ∧ x.r.size ≤ maxLen) (hn : n0 + ks.length ≤ 100) :
  Calls Tryz.prog 92 #[lv, .func (.func 93) #[scV tv b mb] #[]] w fun e w' => e = .returned (.int .i64 (lfs 0 ws ns ks)) ∧ Fr (fun i => i = mb) w w' ∧ (lfs 0 ws ns ks = 0 → Scp w' ts tv b mb Ks n0) := by
 obtain ⟨tp, tn, tc, rfl⟩ := zAB hs.rt
 have HS := hid hs
 have HL := hid hR
 have HWZ := hid hwz
 have HNN := hid hn
 obtain ⟨p, cap, rfl, hmx, _⟩ := zAG lenK hR
 obtain ⟨n, hnl⟩ : ∃ n, ks.length = n := ⟨_, rfl⟩
 have HN := hid hnl
 obtain ⟨R, hRR⟩ : ∃ R, lfs 0 ws ns ks = R := ⟨_, rfl⟩
 have HR := hid hRR
 rw [hRR]
 rw [hnl] at hmx HL ⊢
 clear hR hs hwz hn hnl hRR
 go_enter Tryz.func92, Tryz.ntmps92
 go_wp2_with fail
 go_loopg [10] (n + 1) (fun gg i wr => ∃ k : Nat, k ≤ n ∧ gg = n + 1 - k ∧ i = .int .i64 (k : Nat) ∧ lfs 0 ws ns (ks.drop k) = R ∧ Fr (fun i => i = mb) w wr ∧ Scp wr ts (.slice tp tn tc) b mb Ks n0)
 case atStart => exact ⟨0, by omega, by omega, rfl, by simpa using HR.out, Fr.refl _ _, HS.out⟩
 case round =>
  obtain ⟨k, hk, rfl, rfl, hev, hF, hI⟩ := hrel
  have HF := hid hF
  have HI := hid hI
  by_cases hlt : k < n
  . have hkc : k < ks.length := by have := HN.out; omega
    obtain ⟨p', cap', e0, _, hat⟩ := zAG lenK (HL.out.fr HS.out.km.isMap hF)
    simp only [Value.slice.injEq] at e0
    obtain ⟨rfl, hx0, rfl⟩ := e0
    obtain ⟨g, off, rfl, hrd⟩ := hat (by omega)
    obtain ⟨A, r1, o1⟩ := hrd wr (Below.refl _ _) k hkc
    obtain ⟨ov, z1, o2⟩ := rdK o1
    obtain ⟨up, un, uc, hu⟩ := zAB o2
    have hAz : A.length = 3 := o1.1.symm
    rw [List.drop_eq_getElem_cons hkc, lfs] at hev
    have htk : ks.take (k + 1) = ks.take k ++ [ks[k]] := List.take_succ_eq_append_getElem hkc
    have hwk := HWZ.out _ (List.getElem_mem hkc)
    have hcall := fun W (hW : Below wr.heap.size wr W) => link_any ts ws ns b mb Ks n0 hkl ks[k].l ks[k].r ks[k].o (.slice tp tn tc) ov W (hI.later hW) (o2.later hW) hwk.1 hwk.2
    obtain ⟨e9, he9⟩ : ∃ e9, lck ws ns ks[k].l ks[k].r ks[k].o = e9 := ⟨_, rfl⟩
    rw [he9] at hcall hev
    have HCM : Hid (∀ W, Below wr.heap.size wr W → Calls Tryz.prog 93 #[scV (.slice tp tn tc) b mb, .agg A.toArray] W (PQ W mb Ks n0 e9)) := fun W hW => by
      rw [z1]
      exact (hcall W hW).mono fun e w' h => ⟨h.1, Fr.of_below h.2, fun _ => ((hI.later hW).km).later h.2⟩
    have HAO : Hid (A.all (·.oneCell') = true) := by show _ = _; rw [z1, hu]; rfl
    have ZA : Hid ((Tryz.prog.info? 66).map (·.size) = some A.length) := by show _ = _; rw [hAz]; kernel_rfl
    have HAL := hid hAz
    have X1_ := hid r1
    have HEV := hid hev
    have HTK := hid htk
    have i1 : (0 : Int) ≤ (k : Int) := by omega
    have i2 : (k : Int) < (n : Int) := by omega
    clear hF hI hat hrd r1 o1 hAz hev htk hx0 hwk hcall he9 z1 hu o2
    go_wp2_with (first
      | ((with_reducible refine gLq ?_); refine wpList_load_mid (by rfl) 66 _ (by rfl) g (off + k * 3) (by rfl) A _ X1_.out Tryz.underlying66 rfl ZA.out ?_)
      | ((with_reducible refine gSq ?_); refine zA7 (by rfl) 66 _ _ (by rfl) wr.heap.size 0 _ 66 (.agg A.toArray) A (by rfl) (by rfl) (by rfl) (heap_alloc_new _ _) (by have := HAL.out; simp; omega) ZA.out HAO.out ?_; intro w1 hblk hfr; rw [zAT (by rw [HAL.out]; rfl)] at hblk; have XB : Hid (w1.rangeAt wr.heap.size 0 A) := zAE hblk; have HBW : Hid (Below wr.heap.size wr w1) := zAM hfr; clear hblk hfr)
      | ((with_reducible refine gLq ?_); refine wpList_load_mid (by rfl) 66 _ (by rfl) wr.heap.size 0 (by rfl) A _ XB.out Tryz.underlying66 rfl ZA.out ?_))
    refine (HCM.out _ HBW.out).mono ?_
    rintro e w2 ⟨rfl, hf2, hk2⟩
    have HF2 : Hid (Fr (fun i => i = mb) w w2) := HF.out.trans ((Fr.of_below HBW.out).trans hf2)
    have HK2 := hid hk2
    have HS1 := hid ((HI.out.later HBW.out))
    have HFR := hid hf2
    clear hk2 hf2
    by_cases hz : e9 = 0
    . have HE2 := HEV.out
      rw [if_neg (fun c => c hz)] at HE2
      have HE3 := hid HE2
      have HI2 := hid (show Scp w2 ts (.slice tp tn tc) b mb Ks n0 from HS1.out.fr HFR.out (HK2.out hz))
      subst hz
      clear HE2 HK2 HS1 HFR
      go_wp2_with fail
      go_roundg (n + 1 - (k + 1))
      case rel => exact ⟨k + 1, by omega, rfl, by go_num, HE3.out, HF2.out, HI2.out⟩
      case measure => omega
    . have HE2 : Hid (R = e9) := by have h := HEV.out; rw [if_pos hz] at h; exact h.symm
      have d9 : (e9 != 0) = true := by simpa using hz
      have HZ := hid hz
      clear hz HK2 HS1 HFR
      go_wp2_with fail
      go_ret
      exact ⟨zAD HE2.out.symm, HF2.out, fun c => absurd (HE2.out.symm.trans c) HZ.out⟩
  . obtain rfl : k = n := by omega
    have hw : ks.take k = ks := List.take_of_length_le (by have := HN.out; omega)
    have hd : ks.drop k = [] := List.drop_of_length_le (by have := HN.out; omega)
    rw [hd, lfs] at hev
    have HE2 : Hid (R = 0) := hev.symm
    have HI2 := hid hI
    clear hev hd hF hI hw
    go_wp2_with fail
    go_ret
    exact ⟨zAD HE2.out.symm, HF.out, fun _ => HI2.out⟩
theorem zHN {α : Type} {q : α → Bool} : ∀ (l : List α) (n : Nat), ixq q l n = -1 → ∀ x, x ∈ l → q x = false
 | [], _, _, x, hx => by cases hx
 | y :: r, n, h0, x, hx => by
  rw [ixq] at h0
  by_cases c : q y = true
  . rw [if_pos c] at h0; omega
  . rw [if_neg c] at h0
    rcases List.mem_cons.1 hx with rfl | hx
    . simpa using c
    . exact zHN r (n + 1) h0 x hx
theorem zGM (c : Int) (g : Pt → Int) (l : List Pt) (va : ByteArray) : (ptq l va < 0 → lkp (l.map fun p => (p.va, (c, g p))) va.data.toList = none) ∧ (0 ≤ ptq l va → ∃ q, lkp (l.map fun p => (p.va, (c, g p))) va.data.toList = some (c, q)) := by
 constructor
 . intro h
   rw [zDS]
   intro e he
   obtain ⟨p, hp, rfl⟩ := List.mem_map.1 he
   rcases zA2 (q := fun p : Pt => seq p.va va) l 0 with d | ⟨j, hj, d, _⟩
   . have h2 := zHN l 0 d p hp
     rw [zBN] at h2
     exact h2
   . exfalso
     have : ptq l va = (j : Int) := by show ixq _ _ _ = _; rw [d]; simp
     omega
 . intro h
   rcases zA2 (q := fun p : Pt => seq p.va va) l 0 with d | ⟨j, hj, d, _⟩
   . exfalso
     have : ptq l va = -1 := d
     omega
   . have hf := zC6 (q := fun p : Pt => seq p.va va) l 0 j hj d
     refine ⟨g l[j], ?_⟩
     unfold lkp
     rw [List.find?_map]
     have e : ((fun p : ByteArray × (Int × Int) => p.1.data.toList == va.data.toList) ∘ fun p : Pt => (p.va, (c, g p))) = fun p : Pt => seq p.va va := by funext p; simp [zBN]
     rw [e, hf]
     rfl
theorem Knl_of (ts : List Tp) (ws ns : List Pt) (ms : List Mn) : Knl ws ns (kw ts ws ++ (kn ts ns ++ km ts ms)) := fun va => by
 obtain ⟨a1, a2⟩ := zGM 1 (fun p => tyq ts p.ty) ws va
 obtain ⟨b1, b2⟩ := zGM 2 (fun p => tyq ts p.ty) ns va
 rw [zBI]
 by_cases h1 : 0 ≤ ptq ws va
 . obtain ⟨q, hq⟩ := a2 h1
   have hq' : lkp (kw ts ws) va.data.toList = some (1, q) := hq
   rw [hq']
   simp
   omega
 . have hq' : lkp (kw ts ws) va.data.toList = none := a1 (by omega)
   rw [hq']
   simp only
   rw [zBI]
   by_cases h2 : 0 ≤ ptq ns va
   . obtain ⟨q, hq⟩ := b2 h2
     have hq2 : lkp (kn ts ns) va.data.toList = some (2, q) := hq
     rw [hq2]
     simp
     omega
   . have hq2 : lkp (kn ts ns) va.data.toList = none := b1 (by omega)
     rw [hq2]
     simp only
     cases hk : lkp (km ts ms) va.data.toList with
     | none => simp; omega
     | some q =>
      obtain ⟨e, he, rfl⟩ := zC4 hk
      obtain ⟨x, _, rfl⟩ := List.mem_map.1 he
      simp
      omega
theorem zCD (r : Rl) (q1 q2 q3 q4 q5 : Option Addr) (j1 j2 j3 j4 j5 l5 : Nat) (w : World) (q : Bool) (hq : decide (szs r) = q) :
   Calls Tryz.prog 86 #[.agg #[.string r.n, .slice q1 r.w.length j1, .slice q2 r.t.length j2, .slice q3 r.m.length j3, .slice q4 r.k.length j4, .string r.e.ty, .slice q5 l5 j5]] w fun e w' => e = .returned (.bool q) ∧ Below w.heap.size w w' := by
 have hz : (szs r) ↔ q = true := by rw [← hq]; simp
 unfold szs at hz
 obtain ⟨rn, ws, ns, ms, ks, ⟨ety, vs⟩⟩ := r
 simp only at hz ⊢
 generalize ws.length = l1 at *
 generalize ns.length = l2 at *
 generalize ms.length = l3 at *
 generalize ks.length = l4 at *
 clear hq
 rcases (by omega : l1 < 1 ∨ (1 ≤ l1 ∧ 3 < l1) ∨ (1 ≤ l1 ∧ l1 ≤ 3 ∧ 2 < l2) ∨ (1 ≤ l1 ∧ l1 ≤ 3 ∧ l2 ≤ 2 ∧ 2 < l3) ∨ (1 ≤ l1 ∧ l1 ≤ 3 ∧ l2 ≤ 2 ∧ l3 ≤ 2 ∧ 6 < l4) ∨ (1 ≤ l1 ∧ l1 ≤ 3 ∧ l2 ≤ 2 ∧ l3 ≤ 2 ∧ l4 ≤ 6)) with c | c | c | c | c | c
 . have HQ : Hid (q = false) := by
    show _ = _
    cases q with
    | false => rfl
    | true => have := hz.2 rfl; omega
   have g0 : decide ((1 : Int) ≤ (l1 : Int)) = false := by simp; omega
   clear c hz
   go_enter Tryz.func86, Tryz.ntmps86
   go_wp2_with fail
   go_ret
   exact ⟨by rw [HQ.out]; rfl, by go_grown⟩
 . have HQ : Hid (q = false) := by
    show _ = _
    cases q with
    | false => rfl
    | true => have := hz.2 rfl; omega
   have g0 : decide ((1 : Int) ≤ (l1 : Int)) = true := by simp; omega
   have g1 : decide ((l1 : Int) ≤ 3) = false := by simp; omega
   clear c hz
   go_enter Tryz.func86, Tryz.ntmps86
   go_wp2_with fail
   go_ret
   exact ⟨by rw [HQ.out]; rfl, by go_grown⟩
 . have HQ : Hid (q = false) := by
    show _ = _
    cases q with
    | false => rfl
    | true => have := hz.2 rfl; omega
   have g0 : decide ((1 : Int) ≤ (l1 : Int)) = true := by simp; omega
   have g1 : decide ((l1 : Int) ≤ 3) = true := by simp; omega
   have g2 : decide ((l2 : Int) ≤ 2) = false := by simp; omega
   clear c hz
   go_enter Tryz.func86, Tryz.ntmps86
   go_wp2_with fail
   go_ret
   exact ⟨by rw [HQ.out]; rfl, by go_grown⟩
 . have HQ : Hid (q = false) := by
    show _ = _
    cases q with
    | false => rfl
    | true => have := hz.2 rfl; omega
   have g0 : decide ((1 : Int) ≤ (l1 : Int)) = true := by simp; omega
   have g1 : decide ((l1 : Int) ≤ 3) = true := by simp; omega
   have g2 : decide ((l2 : Int) ≤ 2) = true := by simp; omega
   have g3 : decide ((l3 : Int) ≤ 2) = false := by simp; omega
   clear c hz
   go_enter Tryz.func86, Tryz.ntmps86
   go_wp2_with fail
   go_ret
   exact ⟨by rw [HQ.out]; rfl, by go_grown⟩
 . have HQ : Hid (q = false) := by
    show _ = _
    cases q with
    | false => rfl
    | true => have := hz.2 rfl; omega
   have g0 : decide ((1 : Int) ≤ (l1 : Int)) = true := by simp; omega
   have g1 : decide ((l1 : Int) ≤ 3) = true := by simp; omega
   have g2 : decide ((l2 : Int) ≤ 2) = true := by simp; omega
   have g3 : decide ((l3 : Int) ≤ 2) = true := by simp; omega
   have g4 : decide ((l4 : Int) ≤ 6) = false := by simp; omega
   clear c hz
   go_enter Tryz.func86, Tryz.ntmps86
   go_wp2_with fail
   go_ret
   exact ⟨by rw [HQ.out]; rfl, by go_grown⟩
 . have HQ : Hid (q = true) := by
    show _ = _
    exact hz.1 (by omega)
   have g0 : decide ((1 : Int) ≤ (l1 : Int)) = true := by simp; omega
   have g1 : decide ((l1 : Int) ≤ 3) = true := by simp; omega
   have g2 : decide ((l2 : Int) ≤ 2) = true := by simp; omega
   have g3 : decide ((l3 : Int) ≤ 2) = true := by simp; omega
   have g4 : decide ((l4 : Int) ≤ 6) = true := by simp; omega
   clear c hz
   go_enter Tryz.func86, Tryz.ntmps86
   go_wp2_with fail
   go_ret
   exact ⟨by rw [HQ.out]; rfl, by go_grown⟩
end Go.Proofs.YtnlmknbhppdliaaGreatDoor.Chk
