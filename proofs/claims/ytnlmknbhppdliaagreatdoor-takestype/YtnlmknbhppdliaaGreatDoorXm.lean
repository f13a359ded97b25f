/-
  scene.CheckKnown: events that are known. An event of raw numbers may be: in plain words. The patterns of a part, and the whens that are asked, by the program. Takes, by the program.
-/
import Derived.Test.YtnlmknbhppdliaaGreatDoorXc
import Derived.Test.YtnlmknbhppdliaaGreatDoorOn
set_option maxHeartbeats 64000000
namespace Go.Proofs.YtnlmknbhppdliaaGreatDoor.Chk
open Go.ChangeShapes Go.WideShapes Go.ChangeAt Go.RowKit Go.Maps
set_option linter.unusedVariables false
set_option linter.unusedSimpArgs false
set_option maxRecDepth 20000
def ckc (E K : Int) : Int := if E ≠ 0 then E else K
theorem ckc_1 {E K : Int} (h : E ≠ 0) : ckc E K = E := if_pos h
theorem ckc_0 {E K : Int} (h : E = 0) : ckc E K = K := if_neg (fun c => c h)
theorem zGD (ts : List Tp) (ws : List Pt) (kn : List Ev) (tv wv kv : Value) (w : World) (hT : Rd w (.row 59 2 (ts.map encY)) tv) (hrw : Rd w (.row 48 18 (ws.map encP)) wv) (hK : Rd w (.row 35 5 (kn.map encX)) kv) :
  Calls Tryz.prog 26 #[tv, wv, kv] w fun e w' => e = .returned (.int .i64 (ckc (efs ts kn) (knk ts ws kn))) ∧ Below w.heap.size w w' := by
 have hCk := fun (y : Ev) (yv : Value) W (hW : Below w.heap.size w W) (hy : Rd W (.row 42 3 (y.v.map encV)) yv) => zDD ts y tv yv W (hT.later hW) hy
 have HIS := hid (fun (x : Ev) (u : Value) (B : List Value) (pty : ByteArray) W (hW : Below w.heap.size w W) hus hA i hi hx => isOf_s ts tv x u B pty W (hT.later hW) hus hA i hi hx)
 obtain ⟨E, hE⟩ : ∃ E, efs ts kn = E := ⟨_, rfl⟩
 have HEV0 : Hid (E = 0 → ∀ x, x ∈ kn → evk ts x = 0) := fun h => zGQ kn (hE.trans h)
 obtain ⟨tp, tn, tc, rfl⟩ := zAE hT
 obtain ⟨wp, wc, rfl, hmw, hatw⟩ := zAL lenP hrw
 have HK := hid hK
 obtain ⟨kp, kc, rfl, hmx, hatk⟩ := zAL lenX hK
 have HAW : Hid (At encP 18 w wp ws) := hatw
 have HAK : Hid (At encX 5 w kp kn) := hatk
 obtain ⟨n, hnl⟩ : ∃ n, kn.length = n := ⟨_, rfl⟩
 obtain ⟨m, hml⟩ : ∃ m, ws.length = m := ⟨_, rfl⟩
 have HN := hid hnl
 have HM := hid hml
 rw [hnl] at hmx HK ⊢
 rw [hml] at hmw ⊢
 obtain ⟨K0, hK0⟩ : ∃ K, knk ts ws kn = K := ⟨_, rfl⟩
 have HK0 := hid hK0
 rw [hE, hK0]
 have HR := hid hE
 have HCK := hid hCk
 clear hT hrw hK hE hK0 hnl hml hCk hatw hatk
 go_enter Tryz.func26, Tryz.ntmps26
 go_wp2_with fail
 go_loopg [14] (n + 1) (fun gg i wr => ∃ k : Nat, k ≤ n ∧ gg = n + 1 - k ∧ i = .int .i64 (k : Nat) ∧ efs ts (kn.drop k) = E ∧ Below w.heap.size w wr)
 case atStart => exact ⟨0, by omega, by omega, rfl, by simpa using HR.out, Below.refl _ _⟩
 case round =>
  obtain ⟨k, hk, rfl, rfl, hev, hB⟩ := hrel
  have HB := hid hB
  by_cases hlt : k < n
  . have hkc : k < kn.length := by have := HN.out; omega
    obtain ⟨p', cap', e0, _, hat⟩ := zAL lenX (HK.out.later hB)
    simp only [Value.slice.injEq] at e0
    obtain ⟨e01, hx0, e02⟩ := e0
    obtain ⟨g, off, e03, hrd⟩ := hat (by omega)
    obtain ⟨A, r1, o1⟩ := hrd wr (Below.refl _ _) k hkc
    obtain ⟨yv, z1, o2⟩ := rdX o1
    obtain ⟨a1, a2, a3, hu1⟩ := zAE o2
    obtain rfl : kp = some ⟨g, off, none⟩ := e01.trans e03
    have hAz : A.length = 5 := o1.1.symm
    rw [List.drop_eq_getElem_cons hkc, efs] at hev
    have hcall := fun W (hW : Below wr.heap.size wr W) => HCK.out kn[k] yv W (zAA hB hW hB.size) (o2.later hW)
    obtain ⟨e9, he9⟩ : ∃ e9, evk ts kn[k] = e9 := ⟨_, rfl⟩
    rw [he9] at hcall hev
    have HCM : Hid (∀ W, Below wr.heap.size wr W → Calls Tryz.prog 24 #[.slice tp tn tc, .agg A.toArray] W fun e w' => e = .returned (.int .i64 e9) ∧ Below W.heap.size W w') := fun W hW => by rw [z1]; exact hcall W hW
    have HAO : Hid (A.all (·.oneCell') = true) := by show _ = _; rw [z1, hu1]; rfl
    have ZA : Hid ((Tryz.prog.info? 35).map (·.size) = some A.length) := by show _ = _; rw [hAz]; kernel_rfl
    have HAL := hid hAz
    have X1_ := hid r1
    have HEV := hid hev
    have i1 : (0 : Int) ≤ (k : Int) := by omega
    have i2 : (k : Int) < (n : Int) := by omega
    clear hB hat hrd r1 o1 hAz hev hx0 hcall he9 z1 hu1 o2 e01 e02 e03
    go_wp2_with (first
      | ((with_reducible refine gLq ?_); refine wpList_load_mid (by rfl) 35 _ (by rfl) g (off + k * 5) (by rfl) A _ X1_.out Tryz.underlying35 rfl ZA.out ?_)
      | ((with_reducible refine gSq ?_); refine zBY (by rfl) 35 _ _ (by rfl) wr.heap.size 0 _ 35 (.agg A.toArray) A (by rfl) (by rfl) (by rfl) (heap_alloc_new _ _) (by have := HAL.out; simp; omega) ZA.out HAO.out ?_; intro w1 hblk hfr; rw [zA4 (by rw [HAL.out]; rfl)] at hblk; have XB : Hid (w1.rangeAt wr.heap.size 0 A) := zAJ hblk; have HBK := hid hblk; have HBW : Hid (Below wr.heap.size wr w1) := zAI hfr; clear hblk hfr)
      | ((with_reducible refine gLq ?_); refine wpList_load_mid (by rfl) 35 _ (by rfl) wr.heap.size 0 (by rfl) A _ XB.out Tryz.underlying35 rfl ZA.out ?_))
    refine (HCM.out _ HBW.out).mono ?_
    rintro e w2 ⟨rfl, hb2⟩
    have HB2 := hid (zAA HB.out (zAA HBW.out hb2 HBW.out.size) HB.out.size)
    clear hb2
    by_cases hz : e9 = 0
    . have HE2 := HEV.out
      rw [if_neg (fun c => c hz)] at HE2
      have HE3 := hid HE2
      subst hz
      clear HE2
      go_wp2_with fail
      go_roundg (n + 1 - (k + 1))
      case rel => exact ⟨k + 1, by omega, rfl, by go_num, HE3.out, HB2.out⟩
      case measure => omega
    . have HE2 : Hid (E = e9) := by have h := HEV.out; rw [if_pos hz] at h; exact h.symm
      have d9 : (e9 != 0) = true := by simpa using hz
      have hz' := hz
      clear hz
      go_wp2_with fail
      go_ret
      exact ⟨zAH (by rw [HE2.out, ckc_1 hz']), HB2.out⟩
  . obtain rfl : n = k := by omega
    have hd : kn.drop n = [] := List.drop_of_length_le (by have := HN.out; omega)
    rw [hd, efs] at hev
    have HE2 : Hid (E = 0) := hev.symm
    have HEV := hid (HEV0.out HE2.out)
    have HZ0 : Hid (ckc E K0 = K0) := ckc_0 HE2.out
    clear hev hd hB HR HCK HK HEV0
    by_cases hne : n = m
    . subst hne
      have HR : Hid (kfs ts kn ws = K0) := by have h := HK0.out; unfold knk at h; rw [if_neg (fun c => c (by rw [HN.out, HM.out]))] at h; exact h
      clear HK0
      go_wp2_with fail
      go_loopg [32] (n + 1) (fun gg i wr => ∃ k : Nat, k ≤ n ∧ gg = n + 1 - k ∧ i = .int .i64 (k : Nat) ∧ kfs ts (kn.drop k) (ws.drop k) = K0 ∧ Below w.heap.size w wr)
      case atStart => exact ⟨0, by omega, by omega, rfl, by simpa using HR.out, HB.out⟩
      case round =>
       obtain ⟨k, hk, rfl, rfl, hkf, hT⟩ := hrel
       have HT := hid hT
       by_cases hlt : k < n
       . have hkc : k < kn.length := by have := HN.out; omega
         have hwc : k < ws.length := by have := HM.out; omega
         obtain ⟨g, off, e03, hrd⟩ := HAK.out (by omega)
         obtain ⟨A, r1, o1⟩ := hrd wr hT k hkc
         obtain ⟨yv, z1, o2⟩ := rdX o1
         obtain ⟨a1, a2, a3, hu1⟩ := zAE o2
         obtain ⟨g2, off2, e13, hrd2⟩ := HAW.out (by omega)
         obtain ⟨A2, r2, o3⟩ := hrd2 w (Below.refl _ _) k hwc
         obtain ⟨vc, z2, _⟩ := rdP o3
         subst e03 e13
         have hAz : A.length = 5 := o1.1.symm
         have hAz2 : A2.length = 18 := o3.1.symm
         obtain ⟨i, hi, ei, m1, m2⟩ := zF6 (HEV.out _ (List.getElem_mem hkc))
         clear m1 m2
         have et : ts.getD kn[k].t.toNat dT = ts[i] := by rw [ei, Int.toNat_natCast]; exact zA5 hi _
         rw [List.drop_eq_getElem_cons hkc, List.drop_eq_getElem_cons hwc, kfs, et] at hkf
         have hcall := fun W (hW : Below w.heap.size w W) => HIS.out kn[k] yv A2 ws[k].ty W hW ⟨_, _, _, hu1⟩ (by rw [z2]; rfl) i hi ei
         obtain ⟨q9, hq9⟩ : ∃ q, seq ts[i].n ws[k].ty = q := ⟨_, rfl⟩
         rw [hq9] at hcall hkf
         have HI1 : Hid (∀ W, Below w.heap.size w W → Calls Tryz.prog 44 #[.slice tp tn tc, .agg A.toArray, .agg A2.toArray] W fun e w' => e = .returned (.bool q9) ∧ Below W.heap.size W w') := fun W hW => by rw [z1]; exact hcall W hW
         have HAO : Hid (A.all (·.oneCell') = true) := by show _ = _; rw [z1, hu1]; rfl
         have ZA : Hid ((Tryz.prog.info? 35).map (·.size) = some A.length) := by show _ = _; rw [hAz]; kernel_rfl
         have ZA2 : Hid ((Tryz.prog.info? 48).map (·.size) = some A2.length) := by show _ = _; rw [hAz2]; kernel_rfl
         have HAL := hid hAz
         have X1_ := hid r1
         have X2_ := hid r2
         have HKF := hid hkf
         have i1 : (0 : Int) ≤ (k : Int) := by omega
         have i2 : (k : Int) < (n : Int) := by omega
         clear hT hrd hrd2 r1 r2 o1 o3 hAz hAz2 hkf hcall hq9 z1 z2 hu1 o2 et ei hi
         go_wp2_with (first
          | ((with_reducible refine gLq ?_); refine wpList_load_mid (by rfl) 35 _ (by rfl) g (off + k * 5) (by rfl) A _ X1_.out Tryz.underlying35 rfl ZA.out ?_)
          | ((with_reducible refine gSq ?_); refine zBY (by rfl) 35 _ _ (by rfl) wr.heap.size 0 _ 35 (.agg A.toArray) A (by rfl) (by rfl) (by rfl) (heap_alloc_new _ _) (by have := HAL.out; simp; omega) ZA.out HAO.out ?_; intro w1 hblk hfr; rw [zA4 (by rw [HAL.out]; rfl)] at hblk; have XB : Hid (w1.rangeAt wr.heap.size 0 A) := zAJ hblk; have HBK := hid hblk; have HBW : Hid (Below wr.heap.size wr w1) := zAI hfr; clear hblk hfr))
         have HT1 := hid (zAA HT.out HBW.out HT.out.size)
         have HIO := hid (fun W (hW : Below w1.heap.size w1 W) => HI1.out W (zAA HT1.out hW HT1.out.size))
         have HS6 : Hid (∀ W, Below w1.heap.size w1 W → (W.rangeAt wr.heap.size 0 A ∧ W.rangeAt g2 (off2 + k * 18) A2)) := fun W hW => ⟨zAP XB.out hW, zAP X2_.out (zAA HT1.out hW HT1.out.size)⟩
         refine zCH (S := (fun w' => w'.rangeAt wr.heap.size 0 A ∧ w'.rangeAt g2 (off2 + k * 18) A2)) 8 #[false, false, false, false, false, false, false, false] rfl rfl (by kernel_rfl) (HS6.out _ (Below.drew (Below.refl _ _))) (fun hHeld => ?_)
         refine tkq (i := 0) (v := ?v1) rfl ?hy1 ?rest1; (case hy1 => intro w0 hSw; (try dsimp only at hSw); go_simp <;> (try (with_reducible rfl))); (try simp only [puts])
         refine tkq (i := 2) (v := ?v2) rfl ?hy2 ?rest2; (case hy2 => intro w0 hSw; (try dsimp only at hSw); go_simp <;> (try (with_reducible rfl))); (try simp only [puts])
         refine tkq (i := 3) (v := ?v3) rfl ?hy3 ?rest3; (case hy3 => intro w0 hSw; (try dsimp only at hSw); go_simp <;> (try (with_reducible rfl))); (try simp only [puts])
         refine tkq (i := 4) (v := ?v4) rfl ?hy4 ?rest4; (case hy4 => intro w0 hSw; (try dsimp only at hSw); go_simp <;> (try (with_reducible rfl))); (try simp only [puts])
         refine tlq (i := 1) rfl (yieldsIf_load_mid (by rfl) 35 _ rfl wr.heap.size (0) (by rfl) A _ (fun _ h => h.1) Tryz.underlying35 rfl ZA.out) ?_
         (try simp only [puts])
         refine tlq (i := 5) rfl (yieldsIf_load_mid (by rfl) 48 _ rfl g2 (off2 + k * 18) (by rfl) A2 _ (fun _ h => h.2) Tryz.underlying48 rfl ZA2.out) ?_
         (try simp only [puts])
         refine wpAnyH_ready (rs := [6]) (by kernel_rfl) (by simp) ?_
         refine zBD rfl (fun K hK => ?_) AllReadyH.nil
         refine zC7 44 ent_isof (by rfl) _ _ _ _ (by rfl) (.slice tp tn tc) (.agg A.toArray) (.agg A2.toArray) (by rfl) (by rfl) (by rfl) _ (HIO.out _ (Below.drew (Below.refl _ _))) ?_
         rintro e w3 ⟨rfl, hb3⟩
         refine ⟨_, rfl, ?_⟩
         have HB3 : Hid (Below w1.heap.size w1 w3) := zAA (Below.drew (Below.refl _ _)) hb3 (Nat.le_refl _)
         clear hb3
         refine hK.out _ _ (HS6.out _ HB3.out) (fun hHeld => ?_)
         clear hK K
         (try simp only [puts])
         refine tkq (i := 7) (v := ?v5) rfl ?hy5 ?rest5; (case hy5 => intro w0 hSw; (try dsimp only at hSw); go_simp <;> (try (with_reducible rfl))); (try simp only [puts])
         refine wpAnyH_done (by kernel_rfl) ?_ _
         have HT3 := hid (zAA HT1.out HB3.out HT1.out.size)
         clear HS6 HIO HI1 HT1
         cases q9 with
         | true =>
          have HE3 : Hid (kfs ts (kn.drop (k + 1)) (ws.drop (k + 1)) = K0) := by have h := HKF.out; rw [if_pos rfl] at h; exact h
          go_wp2_with fail
          go_roundg (n + 1 - (k + 1))
          case rel => exact ⟨k + 1, by omega, rfl, by go_num, HE3.out, HT3.out⟩
          case measure => omega
         | false =>
          have HE3 : Hid (K0 = 13) := by have h := HKF.out; rw [if_neg (by decide)] at h; exact h.symm
          go_wp2_with fail
          go_ret
          exact ⟨zAH (by rw [HZ0.out]; exact HE3.out.symm), HT3.out⟩
       . obtain rfl : k = n := by omega
         have hd : kn.drop k = [] := List.drop_of_length_le (by have := HN.out; omega)
         rw [hd, kfs] at hkf
         have HE2 : Hid (K0 = 0) := hkf.symm
         clear hkf hd hT
         go_wp2_with fail
         go_ret
         exact ⟨zAH (by rw [HZ0.out]; exact HE2.out.symm), HT.out⟩
         all_goals (intro x r p q h; cases h)
    . have d9 : ((n : Int) != (m : Int)) = true := by simp; omega
      have d8 : ¬ (n : Int) = (m : Int) := by omega
      have d7 : (n = m) = False := by simp [hne]
      have HK4 : Hid (K0 = 4) := by have h := HK0.out; unfold knk at h; rw [if_pos (fun c => hne (by rw [← HN.out, ← HM.out]; exact c))] at h; exact h.symm
      clear HK0 hne
      go_wp2_with fail
      go_ret
      exact ⟨zAH (by rw [HZ0.out]; exact HK4.out.symm), HB.out⟩
def oneE (nu ty lo n : Int) (tx : ByteArray) : Ev := ⟨nu, pkd ty 4, insM lo 20, 20, insV ty n tx⟩
theorem cut_size (s : ByteArray) : (cutT s).size ≤ 3 := by
  unfold cutT
  rw [ByteArray.size_extract]
  omega
theorem insM_in (lo : Int) : 0 ≤ insM lo 20 ∧ insM lo 20 ≤ 20 := by
  have h := zAQ lo (m := 9) (by decide)
  unfold insM
  split <;> omega
theorem evk_one (nu ty lo n : Int) (tx : ByteArray) (h1 : 1 ≤ nu) (h2 : nu ≤ 1000) : evk kts (oneE nu ty lo n tx) = 0 := by
 have hq := zAQ ty (m := 4) (by decide)
 have hn := zAQ n (m := 6) (by decide)
 have hm := insM_in lo
 have hc := cut_size tx
 unfold evk oneE V4.echk
 simp only
 obtain ⟨q, hq9⟩ : ∃ z, pkd ty 4 = z := ⟨_, rfl⟩
 obtain ⟨n9, hn9⟩ : ∃ z, pkd n 6 = z := ⟨_, rfl⟩
 obtain ⟨M, hM⟩ : ∃ z, insM lo 20 = z := ⟨_, rfl⟩
 obtain ⟨C, hC⟩ : ∃ z, cutT tx = z := ⟨_, rfl⟩
 unfold insV
 rw [hq9] at hq ⊢
 rw [hn9] at hn ⊢
 rw [hM] at hm ⊢
 rw [hC] at hc ⊢
 clear hq9 hn9 hM hC
 rw [if_neg (by omega)]
 have hs : V4.schk M 20 = 0 := by
   unfold V4.schk
   rw [if_neg (by omega), if_neg (by omega)]
 have hv : V4.vchk ⟨2, 0, C⟩ = 0 := by
   unfold V4.vchk
   rw [if_neg (by simp), if_neg (by simp), if_neg (by show ¬ 20 < C.size; omega), if_neg (by show ¬ ((0 : Int) < -1125899906842624 ∨ (1125899906842624 : Int) < 0); decide)]
 rcases (by omega : q = 0 ∨ q = 1 ∨ q = 2 ∨ q = 3) with rfl | rfl | rfl | rfl
 . rw [if_neg (show ¬ ((0 : Int) < 0 ∨ ((List.map vT kts).length : Int) ≤ 0) from by decide), if_neg (fun c => c hs)]
   rcases (by omega : n9 = 0 ∨ n9 = 1 ∨ n9 = 2 ∨ n9 = 3 ∨ n9 = 4 ∨ n9 = 5) with rfl | rfl | rfl | rfl | rfl | rfl
   . exact (show V4.fit ((List.map vT kts).getD (Int.toNat 0) ⟨ByteArray.empty, []⟩) [⟨1, 0, txt []⟩] = 0 from by kernel_rfl)
   . exact (show V4.fit ((List.map vT kts).getD (Int.toNat 0) ⟨ByteArray.empty, []⟩) [⟨1, 1, txt []⟩] = 0 from by kernel_rfl)
   . exact (show V4.fit ((List.map vT kts).getD (Int.toNat 0) ⟨ByteArray.empty, []⟩) [⟨1, 2, txt []⟩] = 0 from by kernel_rfl)
   . exact (show V4.fit ((List.map vT kts).getD (Int.toNat 0) ⟨ByteArray.empty, []⟩) [⟨1, 3, txt []⟩] = 0 from by kernel_rfl)
   . exact (show V4.fit ((List.map vT kts).getD (Int.toNat 0) ⟨ByteArray.empty, []⟩) [⟨1, 4, txt []⟩] = 0 from by kernel_rfl)
   . exact (show V4.fit ((List.map vT kts).getD (Int.toNat 0) ⟨ByteArray.empty, []⟩) [⟨1, 5, txt []⟩] = 0 from by kernel_rfl)
 . rw [if_neg (show ¬ ((1 : Int) < 0 ∨ ((List.map vT kts).length : Int) ≤ 1) from by decide), if_neg (fun c => c hs)]
   show V4.fit ((List.map vT kts).getD (Int.toNat 1) ⟨ByteArray.empty, []⟩) [⟨1, n9, txt []⟩, ⟨2, 0, C⟩] = 0
   have ht : V4.tchk ((List.map vT kts).getD (Int.toNat 1) ⟨ByteArray.empty, []⟩) = 0 := by kernel_rfl
   have e0 : V4.vat [⟨1, n9, txt []⟩, ⟨2, 0, C⟩] 0 = 0 := by
     have e9 : V4.vchk ⟨1, n9, txt []⟩ = 0 := by
      rcases (by omega : n9 = 0 ∨ n9 = 1 ∨ n9 = 2 ∨ n9 = 3 ∨ n9 = 4 ∨ n9 = 5) with rfl | rfl | rfl | rfl | rfl | rfl
      . kernel_rfl
      . kernel_rfl
      . kernel_rfl
      . kernel_rfl
      . kernel_rfl
      . kernel_rfl
     exact e9
   have e1 : V4.vat [⟨1, n9, txt []⟩, ⟨2, 0, C⟩] 1 = 0 := hv
   have hf : V4.fst (V4.vat [⟨1, n9, txt []⟩, ⟨2, 0, C⟩]) 2 = 0 := by
     simp only [V4.fst, e0, e1]
     decide
   have hk : V4.fst (V4.kat [⟨1, n9, txt []⟩, ⟨2, 0, C⟩] ((List.map vT kts).getD (Int.toNat 1) ⟨ByteArray.empty, []⟩).fs) 2 = 0 := by kernel_rfl
   unfold V4.fit
   rw [ht, show V4.fst (V4.vat [⟨1, n9, txt []⟩, ⟨2, 0, C⟩]) ([⟨1, n9, txt []⟩, ⟨2, 0, C⟩] : List V4.Vl).length = 0 from hf, show V4.fst (V4.kat [⟨1, n9, txt []⟩, ⟨2, 0, C⟩] ((List.map vT kts).getD (Int.toNat 1) ⟨ByteArray.empty, []⟩).fs) ([⟨1, n9, txt []⟩, ⟨2, 0, C⟩] : List V4.Vl).length = 0 from hk]
   have hl : ([⟨1, n9, txt []⟩, ⟨2, 0, C⟩] : List V4.Vl).length = ((List.map vT kts).getD (Int.toNat 1) ⟨ByteArray.empty, []⟩).fs.length := by kernel_rfl
   rw [hl]
   simp
 . rw [if_neg (show ¬ ((2 : Int) < 0 ∨ ((List.map vT kts).length : Int) ≤ 2) from by decide), if_neg (fun c => c hs)]
   exact (show V4.fit ((List.map vT kts).getD (Int.toNat 2) ⟨ByteArray.empty, []⟩) [] = 0 from by kernel_rfl)
 . rw [if_neg (show ¬ ((3 : Int) < 0 ∨ ((List.map vT kts).length : Int) ≤ 3) from by decide), if_neg (fun c => c hs)]
   rcases (by omega : n9 = 0 ∨ n9 = 1 ∨ n9 = 2 ∨ n9 = 3 ∨ n9 = 4 ∨ n9 = 5) with rfl | rfl | rfl | rfl | rfl | rfl
   . exact (show V4.fit ((List.map vT kts).getD (Int.toNat 3) ⟨ByteArray.empty, []⟩) [⟨1, 0, txt []⟩] = 0 from by kernel_rfl)
   . exact (show V4.fit ((List.map vT kts).getD (Int.toNat 3) ⟨ByteArray.empty, []⟩) [⟨1, 1, txt []⟩] = 0 from by kernel_rfl)
   . exact (show V4.fit ((List.map vT kts).getD (Int.toNat 3) ⟨ByteArray.empty, []⟩) [⟨1, 2, txt []⟩] = 0 from by kernel_rfl)
   . exact (show V4.fit ((List.map vT kts).getD (Int.toNat 3) ⟨ByteArray.empty, []⟩) [⟨1, 3, txt []⟩] = 0 from by kernel_rfl)
   . exact (show V4.fit ((List.map vT kts).getD (Int.toNat 3) ⟨ByteArray.empty, []⟩) [⟨1, 4, txt []⟩] = 0 from by kernel_rfl)
   . exact (show V4.fit ((List.map vT kts).getD (Int.toNat 3) ⟨ByteArray.empty, []⟩) [⟨1, 5, txt []⟩] = 0 from by kernel_rfl)
def asq (part : Int) (k : Nat) (ws : List Pt) : List Pt := if part = 0 then ws.take k else ws
theorem asked_s (r : Rl) (u1 u2 u3 u4 u5 : Value) (w : World) (h1 : Rd w (.row 48 18 (r.w.map encP)) u1) (h2 : Rd w (.row 48 18 (r.t.map encP)) u2) (h3 : Rd w (.row 78 20 (r.m.map encM)) u3) (h4 : Rd w (.row 66 3 (r.k.map encK)) u4) (h5 : Rd w (.row 44 6 (r.e.v.map encO)) u5) (part at_ : Int) (k : Nat) (hk : part = 0 → at_ = (k : Int) ∧ k ≤ r.w.length) :
   Calls Tryz.prog 25 #[.agg #[.string r.n, u1, u2, u3, u4, .string r.e.ty, u5], .int .i64 part, .int .i64 at_] w fun e w' => ∃ v, e = .returned v ∧ (∀ W', Rd W' (.row 48 18 (r.w.map encP)) u1 → Rd W' (.row 48 18 ((asq part k r.w).map encP)) v) ∧ Below w.heap.size w w' := by
 obtain ⟨q1, j1, e1, _, _⟩ := zAL lenP h1
 obtain ⟨q2, j2, e2, _, _⟩ := zAL lenP h2
 obtain ⟨q3, j3, e3, _, _⟩ := zAL lenM h3
 obtain ⟨q4, l4, j4, e4⟩ := zAE h4
 obtain ⟨q5, l5, j5, e5⟩ := zAE h5
 subst e1 e2 e3 e4 e5
 have hcp := rd_cap h1
 by_cases hp : part = 0
 . obtain ⟨rfl, hkl⟩ := hk hp
   have htk := fun W' (h : Rd W' (.row 48 18 (r.w.map encP)) (.slice q1 r.w.length j1)) => rd_take h k hkl
   have e : asq part k r.w = r.w.take k := by unfold asq; rw [if_pos hp]
   rw [e]
   subst hp
   obtain ⟨rn, ws, ns, ms, ks, ⟨ety, vs⟩⟩ := r
   simp only at htk hkl hcp ⊢
   have HTK := hid htk
   obtain ⟨LD, hLD⟩ : ∃ LD, (ws.take k).map encP = LD := ⟨_, rfl⟩
   obtain ⟨LE, hLE⟩ : ∃ LE, ws.map encP = LE := ⟨_, rfl⟩
   rw [hLD, hLE] at HTK ⊢
   clear hLD hLE
   generalize ws.length = l1 at *
   generalize ns.length = l2
   generalize ms.length = l3
   have HB : Hid (Below w.heap.size w (w.alloc (.cells #[.string rn, .slice q1 l1 j1, .slice q2 l2 j2, .slice q3 l3 j3, .slice q4 l4 j4, .string ety, .slice q5 l5 j5] 56))) := (Below.refl _ _).alloc (Nat.le_refl _) _
   have i1 : (0 : Int) ≤ (k : Int) := by omega
   have i2 : (k : Int) ≤ (j1 : Int) := by omega
   have i3 : (j1 < k) = False := by simp; omega
   clear h1 h2 h3 h4 h5 hk htk
   go_enter Tryz.func25, Tryz.ntmps25
   go_wp2_with fail
   all_goals
    go_ret
    exact ⟨_, rfl, HTK.out, HB.out⟩
 . have e : asq part k r.w = r.w := by unfold asq; rw [if_neg hp]
   rw [e]
   obtain ⟨rn, ws, ns, ms, ks, ⟨ety, vs⟩⟩ := r
   simp only
   obtain ⟨l1, hl1⟩ : ∃ l, ws.length = l := ⟨_, rfl⟩
   rw [hl1]
   generalize ns.length = l2
   generalize ms.length = l3
   have HB : Hid (Below w.heap.size w (w.alloc (.cells #[.string rn, .slice q1 l1 j1, .slice q2 l2 j2, .slice q3 l3 j3, .slice q4 l4 j4, .string ety, .slice q5 l5 j5] 56))) := (Below.refl _ _).alloc (Nat.le_refl _) _
   have d0 : decide (part = 0) = false := by simpa using hp
   have d1 : (part == 0) = false := by simpa using hp
   clear h1 h2 h3 h4 h5 hk hcp hl1 e
   go_enter Tryz.func25, Tryz.ntmps25
   go_wp2_with fail
   go_ret
   exact ⟨_, rfl, fun W' h => h, HB.out⟩
def prt (part : Int) (r : Rl) : List Pt := if part = 0 then r.w else if part = 1 then r.t else if part = 2 then r.m.map Mn.p else []
section
variable {ops : Array Oper} {rest : List Oper} {o : Oper} {a : Act} {w : World} {Q : Exit → Act → World → Prop}
theorem wp_mkP (hgd : o.guard = none) (x : Operand) (ho : o.op = .makeSlice 49 x x) (n : Nat) (hn : n ≤ 1000) (hx : a.eval x = .int .i64 (n : Nat))
  (h : ∀ (zs : List Value), zs.length = n * 18 → wpList Tryz.prog ops Q rest (a.put o.dst (.slice (some ⟨w.heap.size, 0, none⟩) n n)) (w.alloc (.cells zs.toArray 48))) : wpList Tryz.prog ops Q (o :: rest) a w := by
 refine wpList_plain hgd fun K hK => ?_
 obtain ⟨i0, b1, b2, b3, b4⟩ := info_parts zJN
 have hr := run_make (P := Tryz.prog) w 49 48 i0 zP Tryz.underlying49 b1 b2 .i64 .i64 n n (by omega) (Int.le_refl _) (by rw [b4]; omega) (by omega)
 simp only [Int.toNat_natCast] at hr
 rw [b3] at hr
 have h2 := h (madeCells zP.cells (n * 18)).toList (by rw [Array.length_toList, size_madeCells])
 rw [Array.toArray_toList] at h2
 unfold Oper.wp
 simp [execOp, ho, hx, hr, Result.andThen]
 exact hK _ _ h2
end
def Mks (w wr : World) (nb n k : Nat) (L : List Pt) : Prop := ∃ xs zs : List Value, wr.heap[nb]? = some (.cells (xs ++ zs).toArray 48 (0, 0)) ∧ xs.length = k * 18 ∧ zs.length = (n - k) * 18 ∧ RdL w (L.map encP).flatten xs
theorem Mks.store {w wr W : World} {nb n k : Nat} {L : List Pt} {B : List Value} {p : Pt} {o : Nat} (h : Mks w wr nb n k L) (hk : k < n) (ho : o = k * 18) (cs : List Value) (hcs : wr.heap[nb]? = some (.cells cs.toArray 48 (0, 0))) (hB : RdL w (encP p) B) (hb : W.heap[nb]? = some (.cells (ovr cs o B).toArray 48 (0, 0))) : Mks w W nb n (k + 1) (L ++ [p]) := by
 obtain ⟨xs, zs, e1, e2, e3, e4⟩ := h
 have hBl : B.length = 18 := hB.1.symm
 rw [e1] at hcs
 have e : xs ++ zs = cs := by
   have := Option.some.inj hcs
   simp at this
   exact this
 have hkn : n - k = (n - (k + 1)) + 1 := by omega
 have h18 : 18 ≤ zs.length := by rw [e3, hkn]; omega
 have h19 : zs.length - 18 = (n - (k + 1)) * 18 := by rw [e3, hkn]; omega
 refine ⟨xs ++ B, zs.drop 18, ?_, by rw [List.length_append, e2, hBl]; omega, by rw [List.length_drop]; exact h19, ?_⟩
 . rw [hb, ← e, ho]
   unfold ovr
   rw [List.take_append_of_le_length (by omega), List.take_of_length_le (by omega), List.drop_append, List.drop_of_length_le (by omega), hBl]
   simp [e2, List.append_assoc]
 . rw [List.map_append, List.flatten_append]
   exact zBU e4 (by simpa using hB)
theorem Mks.rd {w wr : World} {nb n : Nat} {L : List Pt} (h : Mks w wr nb n n L) (hL : L.length = n) (hn : n ≤ maxLen) (hb : Below w.heap.size w wr) : Rd wr (.row 48 18 (L.map encP)) (.slice (some ⟨nb, 0, none⟩) n n) := by
 obtain ⟨xs, zs, e1, e2, e3, e4⟩ := h
 obtain rfl : zs = [] := List.eq_nil_of_length_eq_zero (by simpa using e3)
 rw [List.append_nil] at e1
 by_cases h0 : n = 0
 . subst h0
   obtain rfl : L = [] := List.eq_nil_of_length_eq_zero hL
   exact .nil _ _ _ _ hn
 . have h4 := e4.below hb
   have := Rd.row (w := wr) 48 18 (L.map encP) nb 0 n xs (by simp; omega) (by simp; omega) hn (zAJ e1) h4.1 h4.2
   rw [List.length_map, hL] at this
   exact this
theorem patS_two (r : Rl) (u1 u2 u3 u4 u5 : Value) (w : World) (h1 : Rd w (.row 48 18 (r.w.map encP)) u1) (h2 : Rd w (.row 48 18 (r.t.map encP)) u2) (h3 : Rd w (.row 78 20 (r.m.map encM)) u3) (h4 : Rd w (.row 66 3 (r.k.map encK)) u4) (h5 : Rd w (.row 44 6 (r.e.v.map encO)) u5) (hz3 : r.m.length ≤ 100) :
  Calls Tryz.prog 23 #[.agg #[.string r.n, u1, u2, u3, u4, .string r.e.ty, u5], .int .i64 2] w fun e w' => ∃ v, e = .returned v ∧ Rd w' (.row 48 18 ((r.m.map Mn.p).map encP)) v ∧ Below w.heap.size w w' := by
 obtain ⟨q1, j1, e1, _, _⟩ := zAL lenP h1
 obtain ⟨q2, j2, e2, _, _⟩ := zAL lenP h2
 obtain ⟨q3, j3, e3, _, _⟩ := zAL lenM h3
 obtain ⟨q4, l4, j4, e4⟩ := zAE h4
 obtain ⟨q5, l5, j5, e5⟩ := zAE h5
 subst e1 e2 e3 e4 e5
 obtain ⟨rn, ws, ns, ms, ks, ⟨ety, vs⟩⟩ := r
 simp only at h3 hz3 ⊢
 generalize ws.length = l1
 generalize ns.length = l2
 obtain ⟨l3, hl3⟩ : ∃ l, ms.length = l := ⟨_, rfl⟩
 rw [hl3] at h3 hz3 ⊢
 have HN := hid hl3
 have HM := hid h3
 have HZ := hid hz3
 have HB0 : Hid (Below w.heap.size w (w.alloc (.cells #[.string rn, .slice q1 l1 j1, .slice q2 l2 j2, .slice q3 l3 j3, .slice q4 l4 j4, .string ety, .slice q5 l5 j5] 56))) := (Below.refl _ _).alloc (Nat.le_refl _) _
 have hc3 : ∀ o, ((w.alloc (.cells #[.string rn, .slice q1 l1 j1, .slice q2 l2 j2, .slice q3 l3 j3, .slice q4 l4 j4, .string ety, .slice q5 l5 j5] 56)).alloc o).cell? ⟨w.heap.size, 3, none⟩ = some (.slice q3 l3 j3) := fun o => by
  refine zAB (cs := #[.string rn, .slice q1 l1 j1, .slice q2 l2 j2, .slice q3 l3 j3, .slice q4 l4 j4, .string ety, .slice q5 l5 j5]) (T := 56) ?_ 3
  rw [Below.heap_alloc _ _ _ (by simp)]
  exact heap_alloc_new _ _
 clear h1 h2 h3 h4 h5 hz3 hl3
 go_enter Tryz.func23, Tryz.ntmps23
 go_wp2_with ((with_reducible show wpList _ _ _ (Oper.mk (some 22) _ _ _ _ _ :: _) _ _); refine wp_mkP (by rfl) (.tmp 21) (by rfl) l3 (by have := HZ.out; omega) (by rfl) ?_; intro zs hzs; have HZS := hid hzs; have c3 := hc3 (.cells zs.toArray 48); clear hzs)
 go_loopg [26] (l3 + 1) (fun gg i wr => ∃ k : Nat, k ≤ l3 ∧ gg = l3 + 1 - k ∧ i = .int .i64 (k : Nat) ∧ Mks w wr (w.heap.size + 1) l3 k ((ms.take k).map Mn.p) ∧ Below w.heap.size w wr)
 case atStart => exact ⟨0, by omega, by omega, rfl, ⟨[], zs, by simpa using zDR _ _ _, by simp, by simpa using HZS.out, RdL.nil _⟩, HB0.out.alloc HB0.out.size _⟩
 case round =>
  obtain ⟨k, hk, rfl, rfl, hMk, hB⟩ := hrel
  have HMK := hid hMk
  have HB := hid hB
  by_cases hlt : k < l3
  . have hkc : k < ms.length := by have := HN.out; omega
    obtain ⟨p', cap', e0, m0, hat⟩ := zAL lenM HM.out
    simp only [Value.slice.injEq] at e0
    obtain ⟨e01, hx0, e02⟩ := e0
    obtain ⟨g, off, e03, hrd⟩ := hat (by omega)
    obtain ⟨A, r1, o1⟩ := hrd w (Below.refl _ _) k hkc
    obtain ⟨B, z0, o0⟩ := rdM o1
    obtain ⟨vc, z1, o2⟩ := rdP o0
    obtain ⟨up, un, uc, hu⟩ := zAE o2
    obtain rfl : q3 = some ⟨g, off, none⟩ := e01.trans e03
    obtain ⟨CS, hCS, hCl⟩ : ∃ CS : List Value, wr.heap[w.heap.size + 1]? = some (.cells CS.toArray 48 (0, 0)) ∧ CS.length = l3 * 18 := by
     obtain ⟨xs, zs, b1, b2, b3, _⟩ := hMk
     refine ⟨xs ++ zs, b1, ?_⟩
     rw [List.length_append, b2, b3, ← Nat.add_mul]
     congr 1
     omega
    have hAz : A.length = 20 := o1.1.symm
    have hBz : B.length = 18 := o0.1.symm
    have HAO : Hid (A.all (·.oneCell') = true) := by show _ = _; rw [z0, z1, hu]; rfl
    have HBO : Hid (B.all (·.oneCell') = true) := by show _ = _; rw [z1, hu]; rfl
    have ZA : Hid ((Tryz.prog.info? 78).map (·.size) = some A.length) := by show _ = _; rw [hAz]; kernel_rfl
    have ZB : Hid ((Tryz.prog.info? 48).map (·.size) = some B.length) := by show _ = _; rw [hBz]; kernel_rfl
    have HRB : Hid (RdL w (encP ms[k].p) B) := o0
    have HAL := hid hAz
    have HBL := hid hBz
    have HCS := hid hCS
    have HCL : Hid (k * 18 + 18 ≤ CS.length) := by show _ ≤ _; rw [hCl]; omega
    have HKN := hid hlt
    have HZ0 := hid z0
    have X1_ := hid (zAP r1 hB)
    have HTK : Hid ((ms.take k).map Mn.p ++ [ms[k].p] = (ms.take (k + 1)).map Mn.p) := by show _ = _; rw [List.take_succ_eq_append_getElem hkc, List.map_append]; rfl
    have i1 : (0 : Int) ≤ (k : Int) := by omega
    have i2 : (k : Int) < (l3 : Int) := by omega
    clear hB hat hrd r1 o1 hAz hBz hx0 z0 z1 hu o2 o0 e01 e02 e03 hMk hCS hCl m0
    go_wp2_with (first
     | ((with_reducible refine gLq ?_); refine wpList_load_mid (by rfl) 78 _ (by rfl) g (off + k * 20) (by rfl) A _ X1_.out Tryz.underlying78 rfl ZA.out ?_)
     | ((with_reducible show wpList _ _ _ (Oper.mk _ (.store 78 _ _) _ _ _ _ :: _) _ _); refine zBY (by rfl) 78 _ _ (by rfl) wr.heap.size 0 _ 78 (.agg A.toArray) A (by rfl) (by rfl) (by rfl) (heap_alloc_new _ _) (by have := HAL.out; simp; omega) ZA.out HAO.out ?_; intro w2 hblk hfr; rw [zA4 (by rw [HAL.out]; rfl)] at hblk; have XB : Hid (w2.rangeAt wr.heap.size 2 B) := zDC hblk HZ0.out; have HBW : Hid (Below wr.heap.size wr w2) := zAI hfr; clear hblk hfr)
     | ((with_reducible refine gLq ?_); refine wpList_load_mid (by rfl) 48 _ (by rfl) wr.heap.size 2 (by rfl) B _ XB.out Tryz.underlying48 rfl ZB.out ?_)
     | ((with_reducible show wpList _ _ _ (Oper.mk _ (.store 48 _ _) _ _ _ _ :: _) _ _); refine zBY (by rfl) 48 _ _ (by rfl) (w.heap.size + 1) (k * 18) CS 48 (.agg B.toArray) B (by rfl) (by rfl) (by rfl) ((HBW.out.block _ (zAD HCS.out)).trans HCS.out) (by have := HCL.out; have := HBL.out; omega) ZB.out HBO.out ?_; intro w3 hb3 hf3; have HM3 := hid (HMK.out.store HKN.out rfl CS HCS.out HRB.out hb3); have HB3 : Hid (Below w.heap.size w w3) := zAG (zAA HB.out HBW.out HB.out.size) hf3 (by omega); clear hb3 hf3))
    go_roundg (l3 + 1 - (k + 1))
    case rel => exact ⟨k + 1, by omega, rfl, by go_num, by rw [← HTK.out]; exact HM3.out, HB3.out⟩
    case measure => omega
  . obtain rfl : k = l3 := by omega
    have hw : ms.take k = ms := List.take_of_length_le (by have := HN.out; omega)
    rw [hw] at hMk
    have HRD := hid (hMk.rd (by simpa using HN.out) (by have := HZ.out; unfold maxLen; omega) hB)
    clear hMk hB hw
    go_wp2_with fail
    go_ret
    exact ⟨_, rfl, HRD.out, HB.out⟩
theorem patS_any (r : Rl) (u1 u2 u3 u4 u5 : Value) (w : World) (h1 : Rd w (.row 48 18 (r.w.map encP)) u1) (h2 : Rd w (.row 48 18 (r.t.map encP)) u2) (h3 : Rd w (.row 78 20 (r.m.map encM)) u3) (h4 : Rd w (.row 66 3 (r.k.map encK)) u4) (h5 : Rd w (.row 44 6 (r.e.v.map encO)) u5) (hz3 : r.m.length ≤ 100) (part : Int) :
   Calls Tryz.prog 23 #[.agg #[.string r.n, u1, u2, u3, u4, .string r.e.ty, u5], .int .i64 part] w fun e w' => ∃ v, e = .returned v ∧ Rd w' (.row 48 18 ((prt part r).map encP)) v ∧ Below w.heap.size w w' := by
 unfold prt
 by_cases p2 : part = 2
 . subst p2
   rw [if_neg (by decide), if_neg (by decide), if_pos rfl]
   exact patS_two r u1 u2 u3 u4 u5 w h1 h2 h3 h4 h5 hz3
 . have H1 := hid (fun W (hW : Below w.heap.size w W) => h1.later hW)
   have H2 := hid (fun W (hW : Below w.heap.size w W) => h2.later hW)
   obtain ⟨q1, j1, e1, _, _⟩ := zAL lenP h1
   obtain ⟨q2, j2, e2, _, _⟩ := zAL lenP h2
   obtain ⟨q3, j3, e3, _, _⟩ := zAL lenM h3
   obtain ⟨q4, l4, j4, e4⟩ := zAE h4
   obtain ⟨q5, l5, j5, e5⟩ := zAE h5
   subst e1 e2 e3 e4 e5
   obtain ⟨rn, ws, ns, ms, ks, ⟨ety, vs⟩⟩ := r
   simp only at H1 H2 ⊢
   obtain ⟨l1, hl1⟩ : ∃ l, ws.length = l := ⟨_, rfl⟩
   obtain ⟨l2, hl2⟩ : ∃ l, ns.length = l := ⟨_, rfl⟩
   rw [hl1] at H1 ⊢
   rw [hl2] at H2 ⊢
   generalize ms.length = l3
   have HB : Hid (Below w.heap.size w (w.alloc (.cells #[.string rn, .slice q1 l1 j1, .slice q2 l2 j2, .slice q3 l3 j3, .slice q4 l4 j4, .string ety, .slice q5 l5 j5] 56))) := (Below.refl _ _).alloc (Nat.le_refl _) _
   clear h1 h2 h3 h4 h5 hl1 hl2 hz3
   by_cases p0 : part = 0
   . subst p0
     rw [if_pos rfl]
     go_enter Tryz.func23, Tryz.ntmps23
     go_wp2_with fail
     go_ret
     exact ⟨_, rfl, H1.out _ HB.out, HB.out⟩
   . rw [if_neg p0]
     by_cases p1 : part = 1
     . subst p1
       rw [if_pos rfl]
       go_enter Tryz.func23, Tryz.ntmps23
       go_wp2_with fail
       go_ret
       exact ⟨_, rfl, H2.out _ HB.out, HB.out⟩
     . rw [if_neg p1, if_neg p2]
       have d0 : (part == 0) = false := by simpa using p0
       have d1 : (part == 1) = false := by simpa using p1
       have d2 : (part == 2) = false := by simpa using p2
       have f0 : decide (part = 0) = false := by simpa using p0
       have f1 : decide (part = 1) = false := by simpa using p1
       have f2 : decide (part = 2) = false := by simpa using p2
       go_enter Tryz.func23, Tryz.ntmps23
       go_wp2_with fail
       go_ret
       exact ⟨_, rfl, .nil _ _ none 0 (Nat.zero_le _), HB.out⟩
def r0 : Rl := ⟨txt [], [], [], [], [], ⟨txt [], []⟩⟩
def p0 : Pt := ⟨txt [], txt [], cn0, 0, 0⟩
def tkr (ts : List Tp) (rs : List Rl) (rule part at_ : Int) (x : Ev) (kn : List Ev) : Bool × Int :=
  if bok ts rs ≠ 0 then (false, bok ts rs)
  else if ¬ (0 ≤ rule ∧ rule < (rs.length : Int)) then (false, 2)
  else if ¬ (0 ≤ at_ ∧ at_ < ((prt part (rs.getD rule.toNat r0)).length : Int)) then (false, 2)
  else if evk ts x ≠ 0 then (false, evk ts x)
  else if efs ts kn ≠ 0 then (false, efs ts kn)
  else if knk ts (asq part at_.toNat (rs.getD rule.toNat r0).w) kn ≠ 0 then (false, knk ts (asq part at_.toNat (rs.getD rule.toNat r0).w) kn)
  else (tkb ts (asq part at_.toNat (rs.getD rule.toNat r0).w) x kn ((prt part (rs.getD rule.toNat r0)).getD at_.toNat p0), 0)
theorem zI1 {ts : List Tp} : ∀ (l done : List Pt), wfs 0 ts done l = 0 → ∀ k (hk : k < l.length), Pok ts (done ++ l.take k) l[k]
 | [], _, _, k, hk => by simp at hk
 | y :: r, done, h, k, hk => by
  rw [wfs] at h
  split at h
  . rename_i c; exact absurd h c
  . rename_i c
    cases k with
    | zero => simpa using zG5 (Classical.byContradiction c)
    | succ k =>
     have := zI1 r (done ++ [y]) h k (by simpa using hk)
     simpa using this
theorem zJC {ts : List Tp} {ws : List Pt} : ∀ (l : List Pt) (ah : List ByteArray), nfs 0 ts ws ah l = 0 → ∀ p, p ∈ l → Pok ts ws p
 | [], ah, _, p, hp => by cases hp
 | y :: r, ah, h, p, hp => by
  rw [nfs] at h
  split at h
  . rename_i c; exact absurd h c
  . rename_i c
    rcases List.mem_cons.1 hp with rfl | hp
    . exact zG5 (Classical.byContradiction c)
    . exact zJC r _ h p hp
theorem zKB {ts : List Tp} {ws : List Pt} : ∀ (l : List Mn) (ah : List ByteArray), mfs 0 ts ws ah l = 0 → ∀ m, m ∈ l → Pok ts ws m.p
 | [], ah, _, p, hp => by cases hp
 | y :: r, ah, h, p, hp => by
  rw [mfs] at h
  split at h
  . rename_i c; exact absurd h c
  . rename_i c
    rcases List.mem_cons.1 hp with rfl | hp
    . have h0 : mck ts ws ah p = 0 := Classical.byContradiction c
      unfold mck at h0
      split at h0
      . omega
      . split at h0
        . rename_i d; exact absurd h0 d
        . rename_i d; exact zG5 (Classical.byContradiction d)
    . exact zKB r _ h p hp
theorem rck_pok {ts : List Tp} {r : Rl} (h : rck ts r = 0) {part : Int} {k : Nat} (hk : k < (prt part r).length) : Pok ts (asq part k r.w) (prt part r)[k] := by
 obtain ⟨_, hsz⟩ := zEG h
 have hf : frn r.n = 0 := by
   refine Classical.byContradiction fun c => ?_
   unfold rck at h
   rw [if_pos c] at h
   exact c h
 rw [zCJ ts r hf hsz] at h
 split at h
 . rename_i c; exact absurd h c
 . rename_i c1
   split at h
   . rename_i c; exact absurd h c
   . rename_i c2
     split at h
     . rename_i c; exact absurd h c
     . rename_i c3
       have a1 := zI1 r.w [] (Classical.byContradiction c1)
       have a2 := zJC r.t (r.w.map Pt.va) (Classical.byContradiction c2)
       have a3 := zKB r.m (r.w.map Pt.va ++ r.t.map Pt.va) (Classical.byContradiction c3)
       unfold asq
       by_cases p0 : part = 0
       . have e : prt part r = r.w := by unfold prt; rw [if_pos p0]
         rw [if_pos p0]
         simp only [e] at hk ⊢
         simpa using a1 k hk
       . rw [if_neg p0]
         by_cases p1 : part = 1
         . have e : prt part r = r.t := by unfold prt; rw [if_neg p0, if_pos p1]
           simp only [e] at hk ⊢
           exact a2 _ (List.getElem_mem hk)
         . by_cases p2 : part = 2
           . have e : prt part r = r.m.map Mn.p := by unfold prt; rw [if_neg p0, if_neg p1, if_pos p2]
             simp only [e] at hk ⊢
             rw [List.getElem_map]
             exact a3 _ (List.getElem_mem (by simpa using hk))
           . have e : prt part r = [] := by unfold prt; rw [if_neg p0, if_neg p1, if_neg p2]
             rw [e] at hk
             simp at hk
theorem szr_prt {r : Rl} (h : Szr r) {part : Int} {k : Nat} (hk : k < (prt part r).length) : Wsz (prt part r)[k].c := by
 by_cases p0 : part = 0
 . have e : prt part r = r.w := by unfold prt; rw [if_pos p0]
   simp only [e] at hk ⊢
   exact h.w _ (List.getElem_mem hk)
 . by_cases p1 : part = 1
   . have e : prt part r = r.t := by unfold prt; rw [if_neg p0, if_pos p1]
     simp only [e] at hk ⊢
     exact h.t _ (List.getElem_mem hk)
   . by_cases p2 : part = 2
     . have e : prt part r = r.m.map Mn.p := by unfold prt; rw [if_neg p0, if_neg p1, if_pos p2]
       simp only [e] at hk ⊢
       rw [List.getElem_map]
       exact h.m _ (List.getElem_mem (by simpa using hk))
     . have e : prt part r = [] := by unfold prt; rw [if_neg p0, if_neg p1, if_neg p2]
       rw [e] at hk
       simp at hk
theorem wp_bd {P : Program} {ops : Array Oper} {rest : List Oper} {op : Oper} {a : Act} {w : World} {Q : Exit → Act → World → Prop} (hgd : op.guard = none) (t : TypeId) (parts : Array (Nat × Operand)) (ho : op.op = .build t parts) (vals : Array (Nat × Value)) (hp : (parts.map fun x => (x.1, a.eval x.2)) = vals) (v : Value) (hv : ∀ w, (Instr.build t vals).run P w = .ok v w)
  (h : wpList P ops Q rest (a.put op.dst v) w) : wpList P ops Q (op :: rest) a w :=
 wpList_plain hgd fun K hK => by
  unfold Oper.wp execOp
  simp only [ho, Sem.run_bind, hp, hv, Result.andThen_ok, Sem.run_pure]
  exact hK _ _ h
abbrev zSN : List Value := [.slice none 0 0, .int .i64 0, .int .i64 0, .int .i64 0, .int .i64 0, .slice none 0 0, .slice none 0 0, .slice none 0 0]
theorem bd_sn (tp up ap kp : Option Addr) (tn tc un uc an ac kn2 kc : Nat) (xn xt xs xe : Int) (w : World) : (Instr.build 100 #[(0, .slice tp tn tc), (1, .agg #[.int .i64 xn, .int .i64 xt, .int .i64 xs, .int .i64 xe, .slice up un uc]), (2, .slice ap an ac), (3, .slice kp kn2 kc)]).run Tryz.prog w = .ok (.agg #[.slice tp tn tc, .int .i64 xn, .int .i64 xt, .int .i64 xs, .int .i64 xe, .slice up un uc, .slice ap an ac, .slice kp kn2 kc]) w := by kernel_rfl
theorem zJD : ∀ args w, (callFunc 27 args).run Tryz.prog w = .ok (.enter 27 args) w := enters_of Tryz.func27 (by kernel_rfl) rfl
structure Tkx (w W : World) (bk ev : List Value) (rb : Nat) (A : List Value) : Prop where
  bx : Bxs w W [(bk, 28), (ev, 35)]
  r : W.heap[rb]? = some (.cells A.toArray 56 (0, 0))
theorem Tkx.next {w W W' : World} {bk ev A : List Value} {rb : Nat} (h : Tkx w W bk ev rb A) (hb : Below W.heap.size W W') : Tkx w W' bk ev rb A := ⟨h.bx.next hb, (hb.block _ (zAD h.r)).trans h.r⟩
theorem bok_zero {ts : List Tp} {rs : List Rl} (h : bok ts rs = 0) : tks [] ts = 0 ∧ rks (rck ts) [] rs = 0 := by
 unfold bok bkf at h
 split at h
 . omega
 . split at h
   . rename_i c; exact absurd h c
   . rename_i c1
     split at h
     . rename_i c; exact absurd h c
     . rename_i c2
       exact ⟨Classical.byContradiction c1, Classical.byContradiction c2⟩
theorem zKJ (ts : List Tp) (rs : List Rl) (hzz : ∀ r, r ∈ rs → Szr r) (tv rv : Value) (rule part at_ : Int) (x : Ev) (u : Value) (kn : List Ev) (kv : Value) (w : World) (hT : Rd w (.row 59 2 (ts.map encY)) tv) (hR : Rd w (.row 56 7 (rs.map encR)) rv) (htk : Tab w 0 kpl) (htr : Tab w 1 rll) (hu : Rd w (.row 42 3 (x.v.map encV)) u) (hK : Rd w (.row 35 5 (kn.map encX)) kv) (hb : bok ts rs ≠ 0) : Calls Tryz.prog 11 #[.agg #[tv, rv], .int .i64 rule, .int .i64 part, .int .i64 at_, evV x u, kv] w fun e w' => e = .returned (.tuple #[.bool (false), .int .i64 (bok ts rs)]) ∧ Below w.heap.size w w' := by
  have HCH := hid (fun W (hW : Below w.heap.size w W) => check_any ts rs hzz tv rv W (hT.later hW) (hR.later hW) (zAM htk hW) (zAM htr hW))
  obtain ⟨tp, tc, htv, _, _⟩ := zAL lenY hT
  obtain ⟨rp, rc, hrv, hmr, _⟩ := zAL lenR hR
  obtain ⟨up, un, uc, huv⟩ := zAE hu
  obtain ⟨kp, kn2, kc, hkv⟩ := zAE hK
  obtain ⟨E0, hE0⟩ : ∃ E, bok ts rs = E := ⟨_, rfl⟩
  rw [hE0] at HCH hb ⊢
  subst htv hrv huv hkv
  obtain ⟨xn, xt, xs, xe, xv⟩ := x
  simp only [evV] at *
  generalize ts.length = tn at *
  generalize rs.length = rn at *
  have hB : Bxs w ((w.alloc (.cells #[.slice tp tn tc, .slice rp rn rc] 28)).alloc (.cells #[.int .i64 xn, .int .i64 xt, .int .i64 xs, .int .i64 xe, .slice up un uc] 35)) [([.slice tp tn tc, .slice rp rn rc], 28), ([.int .i64 xn, .int .i64 xt, .int .i64 xs, .int .i64 xe, .slice up un uc], 35)] := bxs2 w _ _ _ _
  have HB := hid hB
  have d9 : (E0 != 0) = true := by simpa using hb
  clear hT hR htk htr hu hK hzz hE0 hb hB hmr
  go_enter Tryz.func11, Tryz.ntmps11
  go_wp2_with fail
  refine (HCH.out _ HB.out.bel).mono ?_
  rintro e w1 ⟨rfl, hb1⟩
  have HB1 := hid (HB.out.next hb1)
  clear hb1
  go_wp2_with fail
  go_ret2
  exact ⟨rfl, HB1.out.bel⟩
theorem zJ2 (ts : List Tp) (rs : List Rl) (hzz : ∀ r, r ∈ rs → Szr r) (tv rv : Value) (rule part at_ : Int) (x : Ev) (u : Value) (kn : List Ev) (kv : Value) (w : World) (hT : Rd w (.row 59 2 (ts.map encY)) tv) (hR : Rd w (.row 56 7 (rs.map encR)) rv) (htk : Tab w 0 kpl) (htr : Tab w 1 rll) (hu : Rd w (.row 42 3 (x.v.map encV)) u) (hK : Rd w (.row 35 5 (kn.map encX)) kv) (hb : bok ts rs = 0) (hr : ¬ (0 ≤ rule ∧ rule < (rs.length : Int))) : Calls Tryz.prog 11 #[.agg #[tv, rv], .int .i64 rule, .int .i64 part, .int .i64 at_, evV x u, kv] w fun e w' => e = .returned (.tuple #[.bool (false), .int .i64 (2)]) ∧ Below w.heap.size w w' := by
 have HCH := hid (fun W (hW : Below w.heap.size w W) => check_any ts rs hzz tv rv W (hT.later hW) (hR.later hW) (zAM htk hW) (zAM htr hW))
 obtain ⟨tp, tc, htv, _, _⟩ := zAL lenY hT
 obtain ⟨rp, rc, hrv, hmr, _⟩ := zAL lenR hR
 obtain ⟨up, un, uc, huv⟩ := zAE hu
 obtain ⟨kp, kn2, kc, hkv⟩ := zAE hK
 rw [hb] at HCH
 subst htv hrv huv hkv
 obtain ⟨xn, xt, xs, xe, xv⟩ := x
 simp only [evV] at *
 generalize ts.length = tn at *
 generalize rs.length = rn at *
 have hB : Bxs w ((w.alloc (.cells #[.slice tp tn tc, .slice rp rn rc] 28)).alloc (.cells #[.int .i64 xn, .int .i64 xt, .int .i64 xs, .int .i64 xe, .slice up un uc] 35)) [([.slice tp tn tc, .slice rp rn rc], 28), ([.int .i64 xn, .int .i64 xt, .int .i64 xs, .int .i64 xe, .slice up un uc], 35)] := bxs2 w _ _ _ _
 have HB := hid hB
 clear hT hR htk htr hu hK hzz hb hB hmr
 by_cases h0 : rule < 0
 . have d1 : decide (rule < 0) = true := by simpa using h0
   clear hr
   go_enter Tryz.func11, Tryz.ntmps11
   go_wp2_with fail
   refine (HCH.out _ HB.out.bel).mono ?_
   rintro e w1 ⟨rfl, hb1⟩
   have HB1 := hid (HB.out.next hb1)
   clear hb1
   go_wp2_with fail
   go_ret2
   exact ⟨rfl, HB1.out.bel⟩
 . have d1 : decide (rule < 0) = false := by simpa using h0
   have h1 : (rn : Int) ≤ rule := by omega
   have d2 : decide (rule ≥ (rn : Int)) = true := by simpa using h1
   clear hr
   go_enter Tryz.func11, Tryz.ntmps11
   go_wp2_with fail
   refine (HCH.out _ HB.out.bel).mono ?_
   rintro e w1 ⟨rfl, hb1⟩
   have HB1 := hid (HB.out.next hb1)
   have c1 : w1.cell? ⟨w.heap.size, 1, none⟩ = some (.slice rp rn rc) := HB1.out.c 0 (by simp) 1
   clear hb1
   go_wp2_with fail
   go_ret2
   exact ⟨rfl, HB1.out.bel⟩
end Go.Proofs.YtnlmknbhppdliaaGreatDoor.Chk
