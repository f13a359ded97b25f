/-
  scene.CheckKnown: events that are known. What is looked at of a tuple: its latest End, and whether a pattern takes an event. What is looked at of a tuple: the sum over a many's events. What is looked at of a tuple: whether there are enough for each many.
-/
import Derived.BigQuiet
import Derived.Test.YtnlmknbhppdliaaGreatDoorDt
set_option maxHeartbeats 64000000
namespace Go.Proofs.YtnlmknbhppdliaaGreatDoor.Chk
open Go.ChangeShapes Go.WideShapes Go.ChangeAt Go.RowKit Go.Maps
set_option linter.unusedVariables false
set_option linter.unusedSimpArgs false
set_option maxRecDepth 20000
def ckc (E K : Int) : Int := if E ≠ 0 then E else K
theorem ckc_1 {E K : Int} (h : E ≠ 0) : ckc E K = E := if_pos h
theorem ckc_0 {E K : Int} (h : E = 0) : ckc E K = K := if_neg (fun c => c h)
theorem zD7 (ts : List Tp) (ws : List Pt) (kn : List Ev) (tv wv kv : Value) (w : World) (hT : Rd w (.row 59 2 (ts.map encY)) tv) (hrw : Rd w (.row 48 18 (ws.map encP)) wv) (hK : Rd w (.row 35 5 (kn.map encX)) kv) :
  Calls Tryz.prog 26 #[tv, wv, kv] w fun e w' => e = .returned (.int .i64 (ckc (efs ts kn) (knk ts ws kn))) ∧ Below w.heap.size w w' := by
 have hCk := fun (y : Ev) (yv : Value) W (hW : Below w.heap.size w W) (hy : Rd W (.row 42 3 (y.v.map encV)) yv) => zBZ ts y tv yv W (hT.later hW) hy
 have HIS := hid (fun (x : Ev) (u : Value) (B : List Value) (pty : ByteArray) W (hW : Below w.heap.size w W) hus hA i hi hx => isOf_s ts tv x u B pty W (hT.later hW) hus hA i hi hx)
 obtain ⟨E, hE⟩ : ∃ E, efs ts kn = E := ⟨_, rfl⟩
 have HEV0 : Hid (E = 0 → ∀ x, x ∈ kn → evk ts x = 0) := fun h => zGP kn (hE.trans h)
 obtain ⟨tp, tn, tc, rfl⟩ := zAB hT
 obtain ⟨wp, wc, rfl, hmw, hatw⟩ := zAG lenP hrw
 have HK := hid hK
 obtain ⟨kp, kc, rfl, hmx, hatk⟩ := zAG lenX hK
 have HAW : Hid (At encP 18 w wp ws) := hatw
 have HAK : Hid (At encX 5 w kp kn) := hatk
 obtain ⟨n, hnl⟩ : ∃ n, kn.length = n := ⟨_, rfl⟩
 obtain ⟨m, hml⟩ : ∃ m, ws.length = m := ⟨_, rfl⟩
 have HN := hid hnl
 have HM := hid hml
 rw [hnl] at hmx HK ⊢
 rw [hml] at hmw ⊢
 obtain ⟨K0, hK0⟩ : ∃ K, knk ts ws kn = K := ⟨_, rfl⟩
 have HK0 := hid hK0
 rw [hE, hK0]
 have HR := hid hE
 have HCK := hid hCk
 clear hT hrw hK hE hK0 hnl hml hCk hatw hatk
 go_enter Tryz.func26, Tryz.ntmps26
 go_wp2_with fail
 go_loopg [14] (n + 1) (fun gg i wr => ∃ k : Nat, k ≤ n ∧ gg = n + 1 - k ∧ i = .int .i64 (k : Nat) ∧ efs ts (kn.drop k) = E ∧ Below w.heap.size w wr)
 case atStart => exact ⟨0, by omega, by omega, rfl, by simpa using HR.out, Below.refl _ _⟩
 case round =>
  obtain ⟨k, hk, rfl, rfl, hev, hB⟩ := hrel
  have HB := hid hB
  by_cases hlt : k < n
  . have hkc : k < kn.length := by have := HN.out; omega
    obtain ⟨p', cap', e0, _, hat⟩ := zAG lenX (HK.out.later hB)
    simp only [Value.slice.injEq] at e0
    obtain ⟨e01, hx0, e02⟩ := e0
    obtain ⟨g, off, e03, hrd⟩ := hat (by omega)
    obtain ⟨A, r1, o1⟩ := hrd wr (Below.refl _ _) k hkc
    obtain ⟨yv, z1, o2⟩ := rdX o1
    obtain ⟨a1, a2, a3, hu1⟩ := zAB o2
    obtain rfl : kp = some ⟨g, off, none⟩ := e01.trans e03
    have hAz : A.length = 5 := o1.1.symm
    rw [List.drop_eq_getElem_cons hkc, efs] at hev
    have hcall := fun W (hW : Below wr.heap.size wr W) => HCK.out kn[k] yv W (zAA hB hW hB.size) (o2.later hW)
    obtain ⟨e9, he9⟩ : ∃ e9, evk ts kn[k] = e9 := ⟨_, rfl⟩
    rw [he9] at hcall hev
    have HCM : Hid (∀ W, Below wr.heap.size wr W → Calls Tryz.prog 24 #[.slice tp tn tc, .agg A.toArray] W fun e w' => e = .returned (.int .i64 e9) ∧ Below W.heap.size W w') := fun W hW => by rw [z1]; exact hcall W hW
    have HAO : Hid (A.all (·.oneCell') = true) := by show _ = _; rw [z1, hu1]; rfl
    have ZA : Hid ((Tryz.prog.info? 35).map (·.size) = some A.length) := by show _ = _; rw [hAz]; kernel_rfl
    have HAL := hid hAz
    have X1_ := hid r1
    have HEV := hid hev
    have i1 : (0 : Int) ≤ (k : Int) := by omega
    have i2 : (k : Int) < (n : Int) := by omega
    clear hB hat hrd r1 o1 hAz hev hx0 hcall he9 z1 hu1 o2 e01 e02 e03
    go_wp2_with (first
      | ((with_reducible refine gLq ?_); refine wpList_load_mid (by rfl) 35 _ (by rfl) g (off + k * 5) (by rfl) A _ X1_.out Tryz.underlying35 rfl ZA.out ?_)
      | ((with_reducible refine gSq ?_); refine zA7 (by rfl) 35 _ _ (by rfl) wr.heap.size 0 _ 35 (.agg A.toArray) A (by rfl) (by rfl) (by rfl) (heap_alloc_new _ _) (by have := HAL.out; simp; omega) ZA.out HAO.out ?_; intro w1 hblk hfr; rw [zAT (by rw [HAL.out]; rfl)] at hblk; have XB : Hid (w1.rangeAt wr.heap.size 0 A) := zAE hblk; have HBK := hid hblk; have HBW : Hid (Below wr.heap.size wr w1) := zAM hfr; clear hblk hfr)
      | ((with_reducible refine gLq ?_); refine wpList_load_mid (by rfl) 35 _ (by rfl) wr.heap.size 0 (by rfl) A _ XB.out Tryz.underlying35 rfl ZA.out ?_))
    refine (HCM.out _ HBW.out).mono ?_
    rintro e w2 ⟨rfl, hb2⟩
    have HB2 := hid (zAA HB.out (zAA HBW.out hb2 HBW.out.size) HB.out.size)
    clear hb2
    by_cases hz : e9 = 0
    . have HE2 := HEV.out
      rw [if_neg (fun c => c hz)] at HE2
      have HE3 := hid HE2
      subst hz
      clear HE2
      go_wp2_with fail
      go_roundg (n + 1 - (k + 1))
      case rel => exact ⟨k + 1, by omega, rfl, by go_num, HE3.out, HB2.out⟩
      case measure => omega
    . have HE2 : Hid (E = e9) := by have h := HEV.out; rw [if_pos hz] at h; exact h.symm
      have d9 : (e9 != 0) = true := by simpa using hz
      have hz' := hz
      clear hz
      go_wp2_with fail
      go_ret
      exact ⟨zAD (by rw [HE2.out, ckc_1 hz']), HB2.out⟩
  . obtain rfl : n = k := by omega
    have hd : kn.drop n = [] := List.drop_of_length_le (by have := HN.out; omega)
    rw [hd, efs] at hev
    have HE2 : Hid (E = 0) := hev.symm
    have HEV := hid (HEV0.out HE2.out)
    have HZ0 : Hid (ckc E K0 = K0) := ckc_0 HE2.out
    clear hev hd hB HR HCK HK HEV0
    by_cases hne : n = m
    . subst hne
      have HR : Hid (kfs ts kn ws = K0) := by have h := HK0.out; unfold knk at h; rw [if_neg (fun c => c (by rw [HN.out, HM.out]))] at h; exact h
      clear HK0
      go_wp2_with fail
      go_loopg [32] (n + 1) (fun gg i wr => ∃ k : Nat, k ≤ n ∧ gg = n + 1 - k ∧ i = .int .i64 (k : Nat) ∧ kfs ts (kn.drop k) (ws.drop k) = K0 ∧ Below w.heap.size w wr)
      case atStart => exact ⟨0, by omega, by omega, rfl, by simpa using HR.out, HB.out⟩
      case round =>
       obtain ⟨k, hk, rfl, rfl, hkf, hT⟩ := hrel
       have HT := hid hT
       by_cases hlt : k < n
       . have hkc : k < kn.length := by have := HN.out; omega
         have hwc : k < ws.length := by have := HM.out; omega
         obtain ⟨g, off, e03, hrd⟩ := HAK.out (by omega)
         obtain ⟨A, r1, o1⟩ := hrd wr hT k hkc
         obtain ⟨yv, z1, o2⟩ := rdX o1
         obtain ⟨a1, a2, a3, hu1⟩ := zAB o2
         obtain ⟨g2, off2, e13, hrd2⟩ := HAW.out (by omega)
         obtain ⟨A2, r2, o3⟩ := hrd2 w (Below.refl _ _) k hwc
         obtain ⟨vc, z2, _⟩ := rdP o3
         subst e03 e13
         have hAz : A.length = 5 := o1.1.symm
         have hAz2 : A2.length = 18 := o3.1.symm
         obtain ⟨i, hi, ei, m1, m2⟩ := zED (HEV.out _ (List.getElem_mem hkc))
         clear m1 m2
         have et : ts.getD kn[k].t.toNat dT = ts[i] := by rw [ei, Int.toNat_natCast]; exact zAS hi _
         rw [List.drop_eq_getElem_cons hkc, List.drop_eq_getElem_cons hwc, kfs, et] at hkf
         have hcall := fun W (hW : Below w.heap.size w W) => HIS.out kn[k] yv A2 ws[k].ty W hW ⟨_, _, _, hu1⟩ (by rw [z2]; rfl) i hi ei
         obtain ⟨q9, hq9⟩ : ∃ q, seq ts[i].n ws[k].ty = q := ⟨_, rfl⟩
         rw [hq9] at hcall hkf
         have HI1 : Hid (∀ W, Below w.heap.size w W → Calls Tryz.prog 44 #[.slice tp tn tc, .agg A.toArray, .agg A2.toArray] W fun e w' => e = .returned (.bool q9) ∧ Below W.heap.size W w') := fun W hW => by rw [z1]; exact hcall W hW
         have HAO : Hid (A.all (·.oneCell') = true) := by show _ = _; rw [z1, hu1]; rfl
         have ZA : Hid ((Tryz.prog.info? 35).map (·.size) = some A.length) := by show _ = _; rw [hAz]; kernel_rfl
         have ZA2 : Hid ((Tryz.prog.info? 48).map (·.size) = some A2.length) := by show _ = _; rw [hAz2]; kernel_rfl
         have HAL := hid hAz
         have X1_ := hid r1
         have X2_ := hid r2
         have HKF := hid hkf
         have i1 : (0 : Int) ≤ (k : Int) := by omega
         have i2 : (k : Int) < (n : Int) := by omega
         clear hT hrd hrd2 r1 r2 o1 o3 hAz hAz2 hkf hcall hq9 z1 z2 hu1 o2 et ei hi
         go_wp2_with (first
          | ((with_reducible refine gLq ?_); refine wpList_load_mid (by rfl) 35 _ (by rfl) g (off + k * 5) (by rfl) A _ X1_.out Tryz.underlying35 rfl ZA.out ?_)
          | ((with_reducible refine gSq ?_); refine zA7 (by rfl) 35 _ _ (by rfl) wr.heap.size 0 _ 35 (.agg A.toArray) A (by rfl) (by rfl) (by rfl) (heap_alloc_new _ _) (by have := HAL.out; simp; omega) ZA.out HAO.out ?_; intro w1 hblk hfr; rw [zAT (by rw [HAL.out]; rfl)] at hblk; have XB : Hid (w1.rangeAt wr.heap.size 0 A) := zAE hblk; have HBK := hid hblk; have HBW : Hid (Below wr.heap.size wr w1) := zAM hfr; clear hblk hfr))
         have HT1 := hid (zAA HT.out HBW.out HT.out.size)
         have HIO := hid (fun W (hW : Below w1.heap.size w1 W) => HI1.out W (zAA HT1.out hW HT1.out.size))
         have HS6 : Hid (∀ W, Below w1.heap.size w1 W → (W.rangeAt wr.heap.size 0 A ∧ W.rangeAt g2 (off2 + k * 18) A2)) := fun W hW => ⟨zAK XB.out hW, zAK X2_.out (zAA HT1.out hW HT1.out.size)⟩
         refine zBC (S := (fun w' => w'.rangeAt wr.heap.size 0 A ∧ w'.rangeAt g2 (off2 + k * 18) A2)) 8 #[false, false, false, false, false, false, false, false] rfl rfl (by kernel_rfl) (HS6.out _ (Below.drew (Below.refl _ _))) (fun hHeld => ?_)
         refine tkq (i := 0) (v := ?v1) rfl ?hy1 ?rest1; (case hy1 => intro w0 hSw; (try dsimp only at hSw); go_simp <;> (try (with_reducible rfl))); (try simp only [puts])
         refine tkq (i := 2) (v := ?v2) rfl ?hy2 ?rest2; (case hy2 => intro w0 hSw; (try dsimp only at hSw); go_simp <;> (try (with_reducible rfl))); (try simp only [puts])
         refine tkq (i := 3) (v := ?v3) rfl ?hy3 ?rest3; (case hy3 => intro w0 hSw; (try dsimp only at hSw); go_simp <;> (try (with_reducible rfl))); (try simp only [puts])
         refine tkq (i := 4) (v := ?v4) rfl ?hy4 ?rest4; (case hy4 => intro w0 hSw; (try dsimp only at hSw); go_simp <;> (try (with_reducible rfl))); (try simp only [puts])
         refine tlq (i := 1) rfl (yieldsIf_load_mid (by rfl) 35 _ rfl wr.heap.size (0) (by rfl) A _ (fun _ h => h.1) Tryz.underlying35 rfl ZA.out) ?_
         (try simp only [puts])
         refine tlq (i := 5) rfl (yieldsIf_load_mid (by rfl) 48 _ rfl g2 (off2 + k * 18) (by rfl) A2 _ (fun _ h => h.2) Tryz.underlying48 rfl ZA2.out) ?_
         (try simp only [puts])
         refine wpAnyH_ready (rs := [6]) (by kernel_rfl) (by simp) ?_
         refine zAV rfl (fun K hK => ?_) AllReadyH.nil
         refine zBU 44 ent_isof (by rfl) _ _ _ _ (by rfl) (.slice tp tn tc) (.agg A.toArray) (.agg A2.toArray) (by rfl) (by rfl) (by rfl) _ (HIO.out _ (Below.drew (Below.refl _ _))) ?_
         rintro e w3 ⟨rfl, hb3⟩
         refine ⟨_, rfl, ?_⟩
         have HB3 : Hid (Below w1.heap.size w1 w3) := zAA (Below.drew (Below.refl _ _)) hb3 (Nat.le_refl _)
         clear hb3
         refine hK.out _ _ (HS6.out _ HB3.out) (fun hHeld => ?_)
         clear hK K
         (try simp only [puts])
         refine tkq (i := 7) (v := ?v5) rfl ?hy5 ?rest5; (case hy5 => intro w0 hSw; (try dsimp only at hSw); go_simp <;> (try (with_reducible rfl))); (try simp only [puts])
         refine wpAnyH_done (by kernel_rfl) ?_ _
         have HT3 := hid (zAA HT1.out HB3.out HT1.out.size)
         clear HS6 HIO HI1 HT1
         cases q9 with
         | true =>
          have HE3 : Hid (kfs ts (kn.drop (k + 1)) (ws.drop (k + 1)) = K0) := by have h := HKF.out; rw [if_pos rfl] at h; exact h
          go_wp2_with fail
          go_roundg (n + 1 - (k + 1))
          case rel => exact ⟨k + 1, by omega, rfl, by go_num, HE3.out, HT3.out⟩
          case measure => omega
         | false =>
          have HE3 : Hid (K0 = 13) := by have h := HKF.out; rw [if_neg (by decide)] at h; exact h.symm
          go_wp2_with fail
          go_ret
          exact ⟨zAD (by rw [HZ0.out]; exact HE3.out.symm), HT3.out⟩
       . obtain rfl : k = n := by omega
         have hd : kn.drop k = [] := List.drop_of_length_le (by have := HN.out; omega)
         rw [hd, kfs] at hkf
         have HE2 : Hid (K0 = 0) := hkf.symm
         clear hkf hd hT
         go_wp2_with fail
         go_ret
         exact ⟨zAD (by rw [HZ0.out]; exact HE2.out.symm), HT.out⟩
         all_goals (intro x r p q h; cases h)
    . have d9 : ((n : Int) != (m : Int)) = true := by simp; omega
      have d8 : ¬ (n : Int) = (m : Int) := by omega
      have d7 : (n = m) = False := by simp [hne]
      have HK4 : Hid (K0 = 4) := by have h := HK0.out; unfold knk at h; rw [if_pos (fun c => hne (by rw [← HN.out, ← HM.out]; exact c))] at h; exact h.symm
      clear HK0 hne
      go_wp2_with fail
      go_ret
      exact ⟨zAD (by rw [HZ0.out]; exact HK4.out.symm), HB.out⟩
def ledK (kn : List Ev) : Nat → Int
  | 0 => 0
  | k + 1 => max (ledK kn k) (kn.getD k ev0).en
theorem zG5 (kn : List Ev) (h : ∀ x, x ∈ kn → 0 ≤ x.en ∧ x.en ≤ 1099511627776) : ∀ k, k ≤ kn.length → 0 ≤ ledK kn k ∧ ledK kn k ≤ 1099511627776
 | 0, _ => by simp [ledK]
 | k + 1, hk => by
  have ih := zG5 kn h k (by omega)
  have hx := h kn[k] (List.getElem_mem (by omega))
  rw [ledK, zAS (by omega)]
  omega
theorem zDB (kn : List Ev) (rn rt : ByteArray) (tp : Option Addr) (tn tc : Nat) (a1 : Option Addr) (a2 a3 : Nat) (b1 : Option Addr) (b2 b3 : Nat) (d1 : Option Addr) (d2 d3 : Nat) (f1 : Option Addr) (f2 f3 : Nat) (g1 : Option Addr) (g2 g3 : Nat) (kp : Option Addr) (kn2 kc : Nat) (w : World) (hK : Rd w (.row 35 5 (kn.map encX)) (.slice kp kn2 kc)) :
  Calls Tryz.prog 105 #[.agg #[.slice tp tn tc, .string rn, .slice a1 a2 a3, .slice b1 b2 b3, .slice d1 d2 d3, .slice f1 f2 f3, .string rt, .slice g1 g2 g3, .slice kp kn2 kc]] w fun e w' => e = .returned (.int .i64 (ledK kn kn.length)) ∧ Below w.heap.size w w' := by
 obtain ⟨q9, c9, e9, hmx, hat⟩ := zAG lenX hK
 simp only [Value.slice.injEq] at e9
 obtain ⟨rfl, e9, rfl⟩ := e9
 have HAT := hid hat
 have HN := hid e9
 obtain ⟨W0, hW0⟩ : ∃ W, w.alloc (.cells #[.slice tp tn tc, .string rn, .slice a1 a2 a3, .slice b1 b2 b3, .slice d1 d2 d3, .slice f1 f2 f3, .string rt, .slice g1 g2 g3, .slice kp kn2 kc] 114) = W := ⟨_, rfl⟩
 have hA0 : Below w.heap.size w W0 := by rw [← hW0]; exact (Below.refl _ _).alloc (Nat.le_refl _) _
 have hU0 : W0.heap[w.heap.size]? = some (.cells #[.slice tp tn tc, .string rn, .slice a1 a2 a3, .slice b1 b2 b3, .slice d1 d2 d3, .slice f1 f2 f3, .string rt, .slice g1 g2 g3, .slice kp kn2 kc] 114 (0, 0)) := by rw [← hW0]; exact heap_alloc_new _ _
 have HA0 := hid hA0
 rw [← e9] at hmx ⊢
 have q8 : W0.cell? ⟨w.heap.size, 8, none⟩ = some (.slice kp kn2 kc) := by rw [zAC hU0]; rfl
 obtain ⟨R, hR⟩ : ∃ z, ledK kn kn2 = z := ⟨_, rfl⟩
 have HR := hid hR
 rw [hR]
 clear hK hat e9 hA0 hU0 hR
 go_enter Tryz.func105, Tryz.ntmps105
 go_upto_region 1 with fail
 clear hW0
 go_wp2_with fail
 clear q8
 go_loopg [3, 9] (kn2 + 1) (fun gg mo io wr => ∃ (k : Nat) (m : Int), k ≤ kn2 ∧ gg = kn2 + 1 - k ∧ io = .int .i64 (k : Nat) ∧ mo = .int .i64 m ∧ m = ledK kn k ∧ Below w.heap.size w wr)
 case atStart => exact ⟨0, 0, by omega, by omega, rfl, rfl, rfl, HA0.out⟩
 case round =>
  obtain ⟨k, m, hk, rfl, rfl, rfl, hm, hB⟩ := hrel
  have HM := hid hm
  have HB := hid hB
  clear hm hB
  by_cases hkn : k < kn2
  . have hkc : k < kn.length := by rw [← HN.out]; exact hkn
    obtain ⟨g, off, rfl, hrd⟩ := HAT.out (by omega)
    obtain ⟨A, r1, o1⟩ := hrd wr HB.out k hkc
    obtain ⟨u, z1, o2⟩ := rdX o1
    obtain ⟨op, on2, oc, rfl⟩ := zAB o2
    have hst : ledK kn (k + 1) = max m kn[k].en := by rw [ledK, zAS hkc, HM.out]
    obtain ⟨on, hon⟩ : ∃ z, kn[k].n = z := ⟨_, rfl⟩
    obtain ⟨ot, hot⟩ : ∃ z, kn[k].t = z := ⟨_, rfl⟩
    obtain ⟨ost, host⟩ : ∃ z, kn[k].st = z := ⟨_, rfl⟩
    obtain ⟨oen, hoen⟩ : ∃ z, kn[k].en = z := ⟨_, rfl⟩
    rw [hon, hot, host, hoen] at z1
    rw [hoen] at hst
    subst z1
    have XA := hid r1
    have HST := hid hst
    have HKN := hid hkn
    have k1 : (0 : Int) ≤ (k : Int) := by omega
    have k2 : (k : Int) < (kn2 : Int) := by omega
    have kw : RowKit.wrap64 ((k : Int) + 1) = ((k + 1 : Nat) : Int) := by unfold RowKit.wrap64; omega
    clear hrd r1 o1 o2 hst hon hot host hoen hkc hkn hk
    go_upto_region 5 with (first
      | ((with_reducible show wpList _ _ _ (Oper.mk _ (.load 35 _) _ _ _ _ :: _) _ _); refine wpList_load_mid (by rfl) 35 _ (by rfl) g (off + k * 5) (by rfl) [.int .i64 on, .int .i64 ot, .int .i64 ost, .int .i64 oen, .slice op on2 oc] _ XA.out Tryz.underlying35 rfl (by kernel_rfl) ?_)
      | ((with_reducible show wpList _ _ _ (Oper.mk _ (.store 35 _ _) _ _ _ _ :: _) _ _); refine zB9 35 wr.heap.size 0 [.int .i64 0, .int .i64 0, .int .i64 0, .int .i64 0, .slice none 0 0] 35 [.int .i64 on, .int .i64 ot, .int .i64 ost, .int .i64 oen, .slice op on2 oc] (heap_alloc_new _ _) ?_; intro w6 hq1 hq2; have HX6 : Hid (w6.heap[wr.heap.size]? = some (.cells #[.int .i64 on, .int .i64 ot, .int .i64 ost, .int .i64 oen, .slice op on2 oc] 35 (0, 0))) := hq1; have HB6 : Hid (Below wr.heap.size wr w6) := zAP ((Below.refl _ _).alloc (Nat.le_refl _) (.cells #[.int .i64 0, .int .i64 0, .int .i64 0, .int .i64 0, .slice none 0 0] 35)) hq2 (Nat.le_refl _); clear hq1 hq2))
    have HBn := hid (zAA HB.out HB6.out HB.out.size)
    obtain ⟨bx, hbx⟩ : ∃ z, wr.heap.size = z := ⟨_, rfl⟩
    rw [hbx] at HX6 ⊢
    have x3 : w6.cell? ⟨bx, 3, none⟩ = some (.int .i64 oen) := by rw [zAC HX6.out]; rfl
    clear hbx HX6 HB6 XA
    by_cases c : m < oen
    . have e1 : max m oen = oen := by omega
      have HST2 : Hid (ledK kn (k + 1) = oen) := by show _ = _; rw [HST.out, e1]
      clear e1 HST
      go_wp2_with fail
      go_roundg (kn2 + 1 - (k + 1))
      case rel => exact ⟨k + 1, oen, HKN.out, rfl, by first | rw [kw] | go_num, rfl, HST2.out.symm, HBn.out⟩
      case measure => have := HKN.out; omega
    . have e1 : max m oen = m := by omega
      have HST2 : Hid (ledK kn (k + 1) = m) := by show _ = _; rw [HST.out, e1]
      clear e1 HST
      go_wp2_with fail
      go_roundg (kn2 + 1 - (k + 1))
      case rel => exact ⟨k + 1, m, HKN.out, rfl, by first | rw [kw] | go_num, rfl, HST2.out.symm, HBn.out⟩
      case measure => have := HKN.out; omega
  . obtain rfl : k = kn2 := by omega
    clear hk hkn
    go_wp2_with fail
    go_ret
    exact ⟨zAD (HM.out.trans HR.out), HB.out⟩
theorem takes_c (ts : List Tp) (ws : List Pt) (own : Ev) (kn : List Ev) (ov : Value) (rn rt : ByteArray) (tp : Option Addr) (tn tc : Nat) (a1 : Option Addr) (a2 a3 : Nat) (b1 : Option Addr) (b2 b3 : Nat) (d1 : Option Addr) (d2 d3 : Nat) (f1 : Option Addr) (f2 f3 : Nat) (g1 : Option Addr) (g2 g3 : Nat) (kp : Option Addr) (kn2 kc : Nat) (hk : Sok ts ws own kn) (hd : Dst ts) (p : Pt) (hp : Pok ts ws p) (hw : Wsz p.c) (A : List Value) (w : World) (hs : Scn w ts ws own kn (.slice tp tn tc) ov (.slice a1 a2 a3) (.slice kp kn2 kc)) (hA : RdL w (encP p) A) :
  Calls Tryz.prog 103 #[.agg #[.slice tp tn tc, .string rn, .slice a1 a2 a3, .slice b1 b2 b3, .slice d1 d2 d3, .slice f1 f2 f3, .string rt, .slice g1 g2 g3, .slice kp kn2 kc], .agg A.toArray, evV own ov] w fun e w' => e = .returned (.bool (tkb ts ws own kn p)) ∧ Below w.heap.size w w' := by
 obtain ⟨op, on2, oc, rfl⟩ := zAB hs.ro
 obtain ⟨on, hon⟩ : ∃ z, own.n = z := ⟨_, rfl⟩
 obtain ⟨ot, hot⟩ : ∃ z, own.t = z := ⟨_, rfl⟩
 obtain ⟨ost, host⟩ : ∃ z, own.st = z := ⟨_, rfl⟩
 obtain ⟨oen, hoen⟩ : ∃ z, own.en = z := ⟨_, rfl⟩
 have hAz : A.length = 18 := hA.1.symm
 have ZA : Hid ((Tryz.prog.info? 48).map (·.size) = some A.length) := by show _ = _; rw [hAz]; kernel_rfl
 have HTK := hid (fun (W : World) (hW : Below w.heap.size w W) => takes_s ts ws own kn (.slice tp tn tc) (.slice op on2 oc) (.slice a1 a2 a3) (.slice kp kn2 kc) hk hd p hp hw A W (hs.later hW) (hA.below hW))
 obtain ⟨R, hR⟩ : ∃ z, tkb ts ws own kn p = z := ⟨_, rfl⟩
 simp only [evV, snV, hon, hot, host, hoen, hR] at HTK ⊢
 obtain ⟨W0, hW0⟩ : ∃ W, ((w.alloc (.cells #[.slice tp tn tc, .string rn, .slice a1 a2 a3, .slice b1 b2 b3, .slice d1 d2 d3, .slice f1 f2 f3, .string rt, .slice g1 g2 g3, .slice kp kn2 kc] 114)).alloc (.cells A.toArray 48)).alloc (.cells #[.int .i64 on, .int .i64 ot, .int .i64 ost, .int .i64 oen, .slice op on2 oc] 35) = W := ⟨_, rfl⟩
 have hbx := bxs3 w [.slice tp tn tc, .string rn, .slice a1 a2 a3, .slice b1 b2 b3, .slice d1 d2 d3, .slice f1 f2 f3, .string rt, .slice g1 g2 g3, .slice kp kn2 kc] A [.int .i64 on, .int .i64 ot, .int .i64 ost, .int .i64 oen, .slice op on2 oc] 114 48 35
 rw [hW0] at hbx
 have HB := hid hbx.bel
 have hC : W0.heap[w.heap.size]? = some (.cells #[.slice tp tn tc, .string rn, .slice a1 a2 a3, .slice b1 b2 b3, .slice d1 d2 d3, .slice f1 f2 f3, .string rt, .slice g1 g2 g3, .slice kp kn2 kc] 114 (0, 0)) := hbx.b 0 (by simp)
 have HPB : Hid (W0.heap[w.heap.size + 1]? = some (.cells A.toArray 48 (0, 0))) := hbx.b 1 (by simp)
 have HEB : Hid (W0.heap[w.heap.size + 2]? = some (.cells #[.int .i64 on, .int .i64 ot, .int .i64 ost, .int .i64 oen, .slice op on2 oc] 35 (0, 0))) := hbx.b 2 (by simp)
 have c0 : W0.cell? ⟨w.heap.size, 0, none⟩ = some (.slice tp tn tc) := by rw [zAC hC]; rfl
 have c2 : W0.cell? ⟨w.heap.size, 2, none⟩ = some (.slice a1 a2 a3) := by rw [zAC hC]; rfl
 have c8 : W0.cell? ⟨w.heap.size, 8, none⟩ = some (.slice kp kn2 kc) := by rw [zAC hC]; rfl
 have HBD : Hid (∀ w, (Instr.build 100 #[(0, .slice tp tn tc), (1, .agg #[.int .i64 on, .int .i64 ot, .int .i64 ost, .int .i64 oen, .slice op on2 oc]), (2, .slice a1 a2 a3), (3, .slice kp kn2 kc)]).run Tryz.prog w = .ok (.agg #[.slice tp tn tc, .int .i64 on, .int .i64 ot, .int .i64 ost, .int .i64 oen, .slice op on2 oc, .slice a1 a2 a3, .slice kp kn2 kc]) w) := fun w => bd_sn _ _ _ _ _ _ _ _ _ _ _ _ _ _ _ _ w
 clear hon hot host hoen hR hk hd hp hw hs hA hbx hC hAz
 go_enter Tryz.func103, Tryz.ntmps103
 go_upto_region 1 with fail
 clear hW0
 go_wp2_with (first
  | ((with_reducible show wpList _ _ _ (Oper.mk _ (.load 35 _) _ _ _ _ :: _) _ _); refine wpList_load_mid (by rfl) 35 _ (by rfl) (w.heap.size + 2) 0 (by rfl) [.int .i64 on, .int .i64 ot, .int .i64 ost, .int .i64 oen, .slice op on2 oc] _ (zAE HEB.out) Tryz.underlying35 rfl (by kernel_rfl) ?_)
  | ((with_reducible show wpList _ _ _ (Oper.mk _ (.load 48 _) _ _ _ _ :: _) _ _); refine wpList_load_mid (by rfl) 48 _ (by rfl) (w.heap.size + 1) 0 (by rfl) A _ (zAE HPB.out) Tryz.underlying48 rfl ZA.out ?_)
  | ((with_reducible show wpList _ _ _ (Oper.mk _ (.build _ _) _ _ _ _ :: _) _ _); refine wp_bd (by rfl) 100 _ (by rfl) #[(0, .slice tp tn tc), (1, .agg #[.int .i64 on, .int .i64 ot, .int .i64 ost, .int .i64 oen, .slice op on2 oc]), (2, .slice a1 a2 a3), (3, .slice kp kn2 kc)] (by simp [Act.eval, Act.put]) _ HBD.out ?_)
  | (go_at_call 27; refine (HTK.out _ HB.out).mono ?_; rintro e w2 ⟨rfl, hb2⟩; have HB2 := hid (zAA HB.out hb2 HB.out.size); clear hb2))
 go_ret
 exact ⟨rfl, HB2.out⟩
def wth (en_ N : Int) (x : Ev) : Bool := decide (0 ≤ en_ - x.en) && decide (en_ - x.en ≤ N)
def smK (f : Ev → Bool) (wg : Ev → Int) (l : List Ev) : Nat → Int
  | 0 => 0
  | k + 1 => smK f wg l k + (if f (l.getD k ev0) = true then wg (l.getD k ev0) else 0)
theorem smK_in {f : Ev → Bool} {wg : Ev → Int} {l : List Ev} (h : ∀ x, x ∈ l → -1125899906842624 ≤ wg x ∧ wg x ≤ 1125899906842624) : ∀ k, k ≤ l.length → -1125899906842624 * (k : Int) ≤ smK f wg l k ∧ smK f wg l k ≤ 1125899906842624 * (k : Int)
 | 0, _ => by simp [smK]
 | k + 1, hk => by
  have ih := smK_in (f := f) h k (by omega)
  have hx := h l[k] (List.getElem_mem (by omega))
  rw [smK, zAS (by omega)]
  split <;> omega
theorem sum_any (ts : List Tp) (ws : List Pt) (kn l : List Ev) (mn : Mn) (en_ : Int) (wg : Ev → Int) (rn rt : ByteArray) (tp : Option Addr) (tn tc : Nat) (a1 : Option Addr) (a2 a3 : Nat) (b1 : Option Addr) (b2 b3 : Nat) (d1 : Option Addr) (d2 d3 : Nat) (f1 : Option Addr) (f2 f3 : Nat) (g1 : Option Addr) (g2 g3 : Nat) (kp : Option Addr) (kn2 kc : Nat) (M : List Value) (lv : Value) (w : World) (hd : Dst ts) (hk : ∀ x, x ∈ l → Sok ts ws x kn) (hp : Pok ts ws mn.p) (hw : Wsz mn.p.c) (hT : Rd w (.row 59 2 (ts.map encY)) (.slice tp tn tc)) (hW : Rd w (.row 48 18 (ws.map encP)) (.slice a1 a2 a3)) (hK : Rd w (.row 35 5 (kn.map encX)) (.slice kp kn2 kc)) (hL : Rd w (.row 35 5 (l.map encX)) lv) (hM : RdL w (encM mn) M)
  (h120 : l.length ≤ 120) (he : 0 ≤ en_ ∧ en_ ≤ 1099511627776) (hx : ∀ x, x ∈ l → 0 ≤ x.en ∧ x.en ≤ 1099511627776) (hg : ∀ x, x ∈ l → -1125899906842624 ≤ wg x ∧ wg x ≤ 1125899906842624)
  (hwg : ∀ x, x ∈ l → tkb ts ws x kn mn.p = true → ∀ W ov, Below w.heap.size w W → Rd W (.row 42 3 (x.v.map encV)) ov → Calls Tryz.prog 143 #[.agg #[.slice tp tn tc, .string rn, .slice a1 a2 a3, .slice b1 b2 b3, .slice d1 d2 d3, .slice f1 f2 f3, .string rt, .slice g1 g2 g3, .slice kp kn2 kc], .agg M.toArray, evV x ov] W fun e w' => e = .returned (.int .i64 (wg x)) ∧ Below W.heap.size W w') :
  Calls Tryz.prog 108 #[.agg #[.slice tp tn tc, .string rn, .slice a1 a2 a3, .slice b1 b2 b3, .slice d1 d2 d3, .slice f1 f2 f3, .string rt, .slice g1 g2 g3, .slice kp kn2 kc], .agg M.toArray, .int .i64 en_, lv] w fun e w' => e = .returned (.int .i64 (smK (fun x => wth en_ mn.p.n x && tkb ts ws x kn mn.p) wg l l.length)) ∧ Below w.heap.size w w' := by
 obtain ⟨lp, lc, rfl, hmx, hat⟩ := zAG lenX hL
 have o1' : RdL w (encP mn.p) (M.drop 2) := RdL.drop 2 hM
 have HAP := hid o1'
 obtain ⟨vc', zz, o2⟩ := rdP o1'
 obtain ⟨up, un, uc, hu⟩ := zAB o2
 rw [hu] at zz
 obtain ⟨u0, r0, hA0, hu0, o3⟩ := RdL.one hM
 obtain ⟨u1, r2, hA1, hu1, o4⟩ := RdL.one o3
 have hd2 : r2 = M.drop 2 := by rw [hA0, hA1]; rfl
 have z1 : M = .int .i64 mn.c :: .string mn.f :: ptC mn.p.va mn.p.ty mn.p.c.k (.slice up un uc) mn.p.c.l mn.p.c.r mn.p.w mn.p.n := by
  rw [hA0, hA1, hd2, zz, zAI hu0, zAI hu1]
 have HTK := hid (fun (x : Ev) (hx : x ∈ l) (ov : Value) (W : World) (hb : Below w.heap.size w W) (ho : Rd W (.row 42 3 (x.v.map encV)) ov) => takes_c ts ws x kn ov rn rt tp tn tc a1 a2 a3 b1 b2 b3 d1 d2 d3 f1 f2 f3 g1 g2 g3 kp kn2 kc (hk x hx) hd mn.p hp hw (M.drop 2) W ⟨hT.later hb, ho, hW.later hb, hK.later hb⟩ (o1'.below hb))
 rw [zz] at HTK
 obtain ⟨mc, hmc⟩ : ∃ z, mn.c = z := ⟨_, rfl⟩
 obtain ⟨mf, hmf⟩ : ∃ z, mn.f = z := ⟨_, rfl⟩
 obtain ⟨va, hva⟩ : ∃ z, mn.p.va = z := ⟨_, rfl⟩
 obtain ⟨ty, hty⟩ : ∃ z, mn.p.ty = z := ⟨_, rfl⟩
 obtain ⟨ck, hck⟩ : ∃ z, mn.p.c.k = z := ⟨_, rfl⟩
 obtain ⟨ol, hol⟩ : ∃ z, mn.p.c.l = z := ⟨_, rfl⟩
 obtain ⟨or_, hor_⟩ : ∃ z, mn.p.c.r = z := ⟨_, rfl⟩
 obtain ⟨pw, hpw⟩ : ∃ z, mn.p.w = z := ⟨_, rfl⟩
 obtain ⟨pn, hpn⟩ : ∃ z, mn.p.n = z := ⟨_, rfl⟩
 rw [hmc, hmf, hva, hty, hck, hol, hor_, hpw, hpn] at z1
 rw [hva, hty, hck, hol, hor_, hpw, hpn] at HTK
 rw [hpn]
 subst z1
 have HWG := hid hwg
 obtain ⟨ln, hln⟩ : ∃ z, l.length = z := ⟨_, rfl⟩
 have HLN := hid hln
 rw [hln] at hmx h120 ⊢
 have HAT := hid hat
 obtain ⟨TK, hTKd⟩ : ∃ TK : Ev → Bool, TK = fun x => tkb ts ws x kn mn.p := ⟨_, rfl⟩
 have hTKx : ∀ x, tkb ts ws x kn mn.p = TK x := fun x => by rw [hTKd]
 simp only [hTKx] at HTK HWG ⊢
 obtain ⟨SF, hSF⟩ : ∃ SF : Ev → Bool, SF = fun x => wth en_ pn x && TK x := ⟨_, rfl⟩
 have hSFx : (fun x => wth en_ pn x && TK x) = SF := hSF.symm
 rw [hSFx]
 have HSF := hid (fun x => (show SF x = (wth en_ pn x && TK x) by rw [hSF]))
 have HIN := hid (fun k (hk : k ≤ ln) => smK_in (f := SF) hg k (by rw [hln]; exact hk))
 obtain ⟨R, hR⟩ : ∃ z, smK SF wg l ln = z := ⟨_, rfl⟩
 have HR := hid hR
 rw [hR]
 have HXX := hid hx
 have HGG := hid hg
 have HE := hid he
 have H12 := hid h120
 obtain ⟨W0, hW0⟩ : ∃ W, (w.alloc (.cells #[.slice tp tn tc, .string rn, .slice a1 a2 a3, .slice b1 b2 b3, .slice d1 d2 d3, .slice f1 f2 f3, .string rt, .slice g1 g2 g3, .slice kp kn2 kc] 114)).alloc (.cells (.int .i64 mc :: .string mf :: ptC va ty ck (.slice up un uc) ol or_ pw pn).toArray 78) = W := ⟨_, rfl⟩
 have hbx := bxs2 w [.slice tp tn tc, .string rn, .slice a1 a2 a3, .slice b1 b2 b3, .slice d1 d2 d3, .slice f1 f2 f3, .string rt, .slice g1 g2 g3, .slice kp kn2 kc] (.int .i64 mc :: .string mf :: ptC va ty ck (.slice up un uc) ol or_ pw pn) 114 78
 rw [hW0] at hbx
 have HB0 := hid hbx.bel
 have HCB : Hid (W0.heap[w.heap.size]? = some (.cells #[.slice tp tn tc, .string rn, .slice a1 a2 a3, .slice b1 b2 b3, .slice d1 d2 d3, .slice f1 f2 f3, .string rt, .slice g1 g2 g3, .slice kp kn2 kc] 114 (0, 0))) := hbx.b 0 (by simp)
 have HMB : Hid (W0.heap[w.heap.size + 1]? = some (.cells (.int .i64 mc :: .string mf :: ptC va ty ck (.slice up un uc) ol or_ pw pn).toArray 78 (0, 0))) := hbx.b 1 (by simp)
 clear hTKd hTKx hSF hSFx hR hx hg he h120 hln hat hwg hmc hmf hva hty hck hol hor_ hpw hpn o1' zz o2 hu hA0 hu0 o3 hA1 hu1 o4 hd2 hL hM hT hW hK hd hk hp hw hbx HAP
 go_enter Tryz.func108, Tryz.ntmps108
 go_upto_region 1 with fail
 clear hW0
 go_wp2_with fail
 go_loopg [9, 15] (ln + 1) (fun gg so io wr => ∃ (k : Nat) (s : Int), k ≤ ln ∧ gg = ln + 1 - k ∧ io = .int .i64 (k : Nat) ∧ so = .int .i64 s ∧ s = smK SF wg l k ∧ Below W0.heap.size W0 wr)
 case atStart => exact ⟨0, 0, by omega, by omega, rfl, rfl, rfl, Below.refl _ _⟩
 case round =>
  obtain ⟨k, s, hk, rfl, rfl, rfl, hs, hB⟩ := hrel
  have HS := hid hs
  have HB := hid hB
  have HBW := hid (zAA HB0.out hB HB0.out.size)
  clear hs hB
  by_cases hkn : k < ln
  . have hkc : k < l.length := by rw [HLN.out]; exact hkn
    obtain ⟨g, off, rfl, hrd⟩ := HAT.out (by omega)
    obtain ⟨A, r1, o1⟩ := hrd wr HBW.out k hkc
    obtain ⟨u, z1, o2⟩ := rdX o1
    have hmem : l[k] ∈ l := List.getElem_mem hkc
    have hst : smK SF wg l (k + 1) = s + (if SF l[k] = true then wg l[k] else 0) := by rw [smK, zAS hkc, HS.out]
    obtain ⟨X, hX⟩ : ∃ X, l[k] = X := ⟨_, rfl⟩
    rw [hX] at hst hmem o2 z1
    have htk := HTK.out X hmem u
    have hwg := HWG.out X hmem
    have hen := HXX.out X hmem
    have hgx := HGG.out X hmem
    have hsi := HIN.out k (by omega)
    rw [← HS.out] at hsi
    have hsf := HSF.out X
    have he := HE.out
    have h12 := H12.out
    obtain ⟨op, on2, oc, rfl⟩ := zAB o2
    obtain ⟨on, hon⟩ : ∃ z, X.n = z := ⟨_, rfl⟩
    obtain ⟨ot, hot⟩ : ∃ z, X.t = z := ⟨_, rfl⟩
    obtain ⟨ost, host⟩ : ∃ z, X.st = z := ⟨_, rfl⟩
    obtain ⟨oen, hoen⟩ : ∃ z, X.en = z := ⟨_, rfl⟩
    unfold wth at hsf
    simp only [evV, hon, hot, host, hoen] at z1 hen hsf htk hwg
    subst z1
    obtain ⟨ah, hah⟩ : ∃ z, en_ - oen = z := ⟨_, rfl⟩
    rw [hah] at hsf
    obtain ⟨q, hq⟩ : ∃ z, TK X = z := ⟨_, rfl⟩
    rw [hq] at hsf htk hwg
    obtain ⟨y, hy⟩ : ∃ z, wg X = z := ⟨_, rfl⟩
    rw [hy] at hst hwg hgx
    have ua : RowKit.wrap64 (en_ - oen) = ah := by unfold RowKit.wrap64; omega
    obtain ⟨s2, hs2⟩ : ∃ z, s + y = z := ⟨_, rfl⟩
    have us : RowKit.wrap64 (s + y) = s2 := by unfold RowKit.wrap64; omega
    have XA := hid r1
    have HRO := hid o2
    have HTX := hid htk
    have HWX := hid hwg
    have HKN := hid hkn
    have k1 : (0 : Int) ≤ (k : Int) := by omega
    have k2 : (k : Int) < (ln : Int) := by omega
    have kw : RowKit.wrap64 ((k : Int) + 1) = ((k + 1 : Nat) : Int) := by unfold RowKit.wrap64; omega
    have HNO : Hid (SF X = false → smK SF wg l (k + 1) = s) := fun h => by rw [hst, h]; simp
    have HYE : Hid (SF X = true → smK SF wg l (k + 1) = s2) := fun h => by rw [hst, h, ← hs2]; simp
    have HSX := hid hsf
    clear hrd r1 o1 o2 hst hX htk hwg hen hgx hsi he h12 hon hot host hoen hah hq hy hs2 hkc hmem hkn hk hsf
    have HCr := hid ((HB.out.block _ (zAH HCB.out)).trans HCB.out)
    have HMr := hid ((HB.out.block _ (zAH HMB.out)).trans HMB.out)
    go_upto_region 5 with (first
      | ((with_reducible show wpList _ _ _ (Oper.mk _ (.load 35 _) _ _ _ _ :: _) _ _); refine wpList_load_mid (by rfl) 35 _ (by rfl) g (off + k * 5) (by rfl) [.int .i64 on, .int .i64 ot, .int .i64 ost, .int .i64 oen, .slice op on2 oc] _ XA.out Tryz.underlying35 rfl (by kernel_rfl) ?_)
      | ((with_reducible show wpList _ _ _ (Oper.mk _ (.store 35 _ _) _ _ _ _ :: _) _ _); refine zB9 35 wr.heap.size 0 [.int .i64 0, .int .i64 0, .int .i64 0, .int .i64 0, .slice none 0 0] 35 [.int .i64 on, .int .i64 ot, .int .i64 ost, .int .i64 oen, .slice op on2 oc] (heap_alloc_new _ _) ?_; intro w6 hq1 hq2; have HX6 : Hid (w6.heap[wr.heap.size]? = some (.cells #[.int .i64 on, .int .i64 ot, .int .i64 ost, .int .i64 oen, .slice op on2 oc] 35 (0, 0))) := hq1; have HB6 : Hid (Below wr.heap.size wr w6) := zAP ((Below.refl _ _).alloc (Nat.le_refl _) (.cells #[.int .i64 0, .int .i64 0, .int .i64 0, .int .i64 0, .slice none 0 0] 35)) hq2 (Nat.le_refl _); clear hq1 hq2))
    have HBn := hid (zAA HB.out HB6.out HB.out.size)
    have HBw6 := hid (zAA HB0.out HBn.out HB0.out.size)
    have HC6 := hid ((HB6.out.block _ (zAH HCr.out)).trans HCr.out)
    have HM6 := hid ((HB6.out.block _ (zAH HMr.out)).trans HMr.out)
    have HRO6 := hid (HRO.out.later HB6.out)
    obtain ⟨bx, hbx⟩ : ∃ z, wr.heap.size = z := ⟨_, rfl⟩
    rw [hbx] at HX6 ⊢
    have x3 : w6.cell? ⟨bx, 3, none⟩ = some (.int .i64 oen) := by rw [zAC HX6.out]; rfl
    have m19 : w6.cell? ⟨w.heap.size + 1, 19, none⟩ = some (.int .i64 pn) := by rw [zAC HM6.out]; rfl
    clear hbx HB6 XA HCr HMr HRO
    have XP6 : Hid (w6.rangeAt (w.heap.size + 1) 2 (ptC va ty ck (.slice up un uc) ol or_ pw pn)) := fun j u hu => by
      have h9 := (zAE HM6.out) (j + 2) u (by simpa using hu)
      rw [Nat.zero_add, Nat.add_comm j 2] at h9
      exact h9
    by_cases hA : 0 ≤ ah
    . by_cases hN : ah ≤ pn
      . have dc1 : decide (ah ≥ 0) = true := by simpa using hA
        have dc2 : decide (ah ≤ pn) = true := by simpa using hN
        have HSq : Hid (SF X = q) := by show _ = _; rw [HSX.out, decide_eq_true hA, decide_eq_true hN]; simp
        clear hA hN HSX
        cases q with
        | false =>
         go_wp2_with (first
          | ((with_reducible show wpList _ _ _ (Oper.mk _ (.load 114 _) _ _ _ _ :: _) _ _); refine zAQ (by rfl) 114 _ (by rfl) w.heap.size 0 (by rfl) [.slice tp tn tc, .string rn, .slice a1 a2 a3, .slice b1 b2 b3, .slice d1 d2 d3, .slice f1 f2 f3, .string rt, .slice g1 g2 g3, .slice kp kn2 kc] _ (zAE HC6.out) Tryz.underlying114 rfl (by kernel_rfl) ?_)
          | ((with_reducible show wpList _ _ _ (Oper.mk _ (.load 48 _) _ _ _ _ :: _) _ _); refine zAQ (by rfl) 48 _ (by rfl) (w.heap.size + 1) 2 (by rfl) (ptC va ty ck (.slice up un uc) ol or_ pw pn) _ XP6.out Tryz.underlying48 rfl (by kernel_rfl) ?_)
          | ((with_reducible show wpList _ _ _ (Oper.mk _ (.load 35 _) _ _ _ _ :: _) _ _); refine zAQ (by rfl) 35 _ (by rfl) bx 0 (by rfl) [.int .i64 on, .int .i64 ot, .int .i64 ost, .int .i64 oen, .slice op on2 oc] _ (zAE HX6.out) Tryz.underlying35 rfl (by kernel_rfl) ?_)
          | (go_at_call 103; refine (HTX.out _ HBw6.out HRO6.out).mono ?_; rintro e w7 ⟨rfl, hb7⟩; have HB67 := hid hb7; clear hb7))
         have HBn7 := hid (zAA HBn.out HB67.out HBn.out.size)
         go_roundg (ln + 1 - (k + 1))
         case rel => exact ⟨k + 1, s, HKN.out, rfl, by first | rw [kw] | go_num, by first | rfl | rw [us], (HNO.out HSq.out).symm, HBn7.out⟩
         case measure => have := HKN.out; omega
        | true =>
         go_upto_region 7 with (first
          | ((with_reducible show wpList _ _ _ (Oper.mk _ (.load 114 _) _ _ _ _ :: _) _ _); refine zAQ (by rfl) 114 _ (by rfl) w.heap.size 0 (by rfl) [.slice tp tn tc, .string rn, .slice a1 a2 a3, .slice b1 b2 b3, .slice d1 d2 d3, .slice f1 f2 f3, .string rt, .slice g1 g2 g3, .slice kp kn2 kc] _ (zAE HC6.out) Tryz.underlying114 rfl (by kernel_rfl) ?_)
          | ((with_reducible show wpList _ _ _ (Oper.mk _ (.load 48 _) _ _ _ _ :: _) _ _); refine zAQ (by rfl) 48 _ (by rfl) (w.heap.size + 1) 2 (by rfl) (ptC va ty ck (.slice up un uc) ol or_ pw pn) _ XP6.out Tryz.underlying48 rfl (by kernel_rfl) ?_)
          | ((with_reducible show wpList _ _ _ (Oper.mk _ (.load 35 _) _ _ _ _ :: _) _ _); refine zAQ (by rfl) 35 _ (by rfl) bx 0 (by rfl) [.int .i64 on, .int .i64 ot, .int .i64 ost, .int .i64 oen, .slice op on2 oc] _ (zAE HX6.out) Tryz.underlying35 rfl (by kernel_rfl) ?_)
          | (go_at_call 103; refine (HTX.out _ HBw6.out HRO6.out).mono ?_; rintro e w7 ⟨rfl, hb7⟩; have HB67 := hid hb7; clear hb7))
         have HBn7 := hid (zAA HBn.out HB67.out HBn.out.size)
         have HC7 := hid ((HB67.out.block _ (zAH HC6.out)).trans HC6.out)
         have HM7 := hid ((HB67.out.block _ (zAH HM6.out)).trans HM6.out)
         have HX7 := hid ((HB67.out.block _ (zAH HX6.out)).trans HX6.out)
         have HBw7 := hid (zAA HBw6.out HB67.out HBw6.out.size)
         have HWC := hid (HWX.out (by first | rfl | trivial) _ _ HBw7.out (HRO6.out.later HB67.out))
         clear m19 x3 HC6 HM6 HX6 XP6 HRO6 HTX HWX HBw6 HB67
         go_wp2_with (first
          | ((with_reducible show wpList _ _ _ (Oper.mk _ (.load 114 _) _ _ _ _ :: _) _ _); refine wpList_load_mid (by rfl) 114 _ (by rfl) w.heap.size 0 (by rfl) [.slice tp tn tc, .string rn, .slice a1 a2 a3, .slice b1 b2 b3, .slice d1 d2 d3, .slice f1 f2 f3, .string rt, .slice g1 g2 g3, .slice kp kn2 kc] _ (zAE HC7.out) Tryz.underlying114 rfl (by kernel_rfl) ?_)
          | ((with_reducible show wpList _ _ _ (Oper.mk _ (.load 78 _) _ _ _ _ :: _) _ _); refine wpList_load_mid (by rfl) 78 _ (by rfl) (w.heap.size + 1) 0 (by rfl) (.int .i64 mc :: .string mf :: ptC va ty ck (.slice up un uc) ol or_ pw pn) _ (zAE HM7.out) Tryz.underlying78 rfl (by kernel_rfl) ?_)
          | ((with_reducible show wpList _ _ _ (Oper.mk _ (.load 35 _) _ _ _ _ :: _) _ _); refine wpList_load_mid (by rfl) 35 _ (by rfl) bx 0 (by rfl) [.int .i64 on, .int .i64 ot, .int .i64 ost, .int .i64 oen, .slice op on2 oc] _ (zAE HX7.out) Tryz.underlying35 rfl (by kernel_rfl) ?_)
          | (go_at_call 143; refine HWC.out.mono ?_; rintro e w8 ⟨rfl, hb8⟩; have HBn8 := hid (zAA HBn7.out hb8 HBn7.out.size); clear hb8))
         go_roundg (ln + 1 - (k + 1))
         case rel => exact ⟨k + 1, s2, HKN.out, rfl, by first | rw [kw] | go_num, by first | rfl | rw [us], (HYE.out HSq.out).symm, HBn8.out⟩
         case measure => have := HKN.out; omega
      . have dc1 : decide (ah ≥ 0) = true := by simpa using hA
        have dc2 : decide (ah ≤ pn) = false := by simpa using hN
        have HSq : Hid (SF X = false) := by show _ = _; rw [HSX.out, decide_eq_false hN]; simp
        clear hA hN HSX
        go_wp2_with fail
        go_roundg (ln + 1 - (k + 1))
        case rel => exact ⟨k + 1, s, HKN.out, rfl, by first | rw [kw] | go_num, by first | rfl | rw [us], (HNO.out HSq.out).symm, HBn.out⟩
        case measure => have := HKN.out; omega
    . have dc1 : decide (ah ≥ 0) = false := by simpa using hA
      have HSq : Hid (SF X = false) := by show _ = _; rw [HSX.out, decide_eq_false hA]; simp
      clear hA HSX
      go_wp2_with fail
      go_roundg (ln + 1 - (k + 1))
      case rel => exact ⟨k + 1, s, HKN.out, rfl, by first | rw [kw] | go_num, by first | rfl | rw [us], (HNO.out HSq.out).symm, HBn.out⟩
      case measure => have := HKN.out; omega
  . obtain rfl : k = ln := by omega
    clear hk hkn
    go_wp2_with fail
    go_ret
    exact ⟨zAD (HS.out.trans HR.out), HBW.out⟩
theorem rd_mC {w : World} {m : Mn} {us : List Value} (h : RdL w (encM m) us) : us.length = 20 ∧ us.all (·.oneCell') = true := by
 have o1' : RdL w (encP m.p) (us.drop 2) := RdL.drop 2 h
 obtain ⟨vc', zz, o2⟩ := rdP o1'
 obtain ⟨up, un, uc, hu⟩ := zAB o2
 rw [hu] at zz
 obtain ⟨u0, r0, hA0, hu0, o3⟩ := RdL.one h
 obtain ⟨u1, r2, hA1, hu1, o4⟩ := RdL.one o3
 have hd2 : r2 = us.drop 2 := by rw [hA0, hA1]; rfl
 have z1 : us = .int .i64 m.c :: .string m.f :: ptC m.p.va m.p.ty m.p.c.k (.slice up un uc) m.p.c.l m.p.c.r m.p.w m.p.n := by
  rw [hA0, hA1, hd2, zz, zAI hu0, zAI hu1]
 rw [z1]
 exact ⟨rfl, rfl⟩
theorem zC2 (ms : List Mn) (q : Mn → Bool) (bC bN bL : Nat) (v : Value) (w : World) (h : Rd w (.row 78 20 (ms.map encM)) v)
  (hq : ∀ m, m ∈ ms → ∀ (A : List Value) (W : World), Below w.heap.size w W → RdL W (encM m) A → Calls Tryz.prog 107 #[.agg A.toArray, .pointer (some ⟨bC, 0, none⟩), .pointer (some ⟨bN, 0, none⟩), .pointer (some ⟨bL, 0, none⟩)] W fun e w' => e = .returned (.bool (q m)) ∧ Below W.heap.size W w') :
  Calls Tryz.prog 142 #[v, .func (.func 107) #[] #[.pointer (some ⟨bC, 0, none⟩), .pointer (some ⟨bN, 0, none⟩), .pointer (some ⟨bL, 0, none⟩)]] w fun e w' => e = .returned (.int .i64 (ixq q ms 0)) ∧ Below w.heap.size w w' := by
 obtain ⟨p, cap, rfl, hmx, hat⟩ := zAG lenM h
 have HAT := hid hat
 obtain ⟨n, hnl⟩ : ∃ n, ms.length = n := ⟨_, rfl⟩
 have HN := hid hnl
 have HQQ := hid hq
 rw [hnl] at hmx ⊢
 clear h hat hnl hq
 go_enter Tryz.func142, Tryz.ntmps142
 go_wp2_with fail
 go_loopg [8] (n + 1) (fun gg i wr => ∃ k : Nat, k ≤ n ∧ gg = n + 1 - k ∧ i = .int .i64 (k : Nat) ∧ (∀ (j : Nat) (hj : j < ms.length), j < k → q ms[j] = false) ∧ Below w.heap.size w wr)
 case atStart => exact ⟨0, by omega, by omega, rfl, fun j _ h => by omega, Below.refl _ _⟩
 case round =>
  obtain ⟨k, hk, rfl, rfl, hno, hB⟩ := hrel
  have HB := hid hB
  by_cases hlt : k < n
  . have hkc : k < ms.length := by have := HN.out; omega
    obtain ⟨g, off, rfl, hrd⟩ := HAT.out (by omega)
    obtain ⟨A, r1, o1⟩ := hrd wr hB k hkc
    have HCM := hid (HQQ.out ms[k] (List.getElem_mem hkc) A wr hB o1)
    have hAz := (rd_mC o1).1
    have ZA : Hid ((Tryz.prog.info? 78).map (·.size) = some A.length) := by show _ = _; rw [hAz]; kernel_rfl
    have XA := hid r1
    have HNO := hid hno
    obtain ⟨b, hb9⟩ : ∃ b, q ms[k] = b := ⟨_, rfl⟩
    have HQK := hid hb9
    rw [hb9] at HCM
    have i1 : (0 : Int) ≤ (k : Int) := by omega
    have i2 : (k : Int) < (n : Int) := by omega
    clear hno hB hrd o1 r1 hb9 hAz
    cases b with
    | true =>
     go_wp2_with (first
      | ((with_reducible show wpList _ _ _ (Oper.mk _ (.load 78 _) _ _ _ _ :: _) _ _); refine wpList_load_mid (by rfl) 78 _ (by rfl) g (off + k * 20) (by rfl) A _ XA.out Tryz.underlying78 rfl ZA.out ?_)
      | (go_at_call 107; refine HCM.out.mono ?_; rintro e w2 ⟨rfl, hb2⟩; have HB2 := hid (zAA HB.out hb2 HB.out.size); clear hb2))
     go_ret
     exact ⟨zAD (by show (k : Int) = ixq _ _ _; rw [zBB ms 0 k hkc (fun j hj => HNO.out j (by omega) hj) (by exact HQK.out)]; simp), HB2.out⟩
    | false =>
     go_wp2_with (first
      | ((with_reducible show wpList _ _ _ (Oper.mk _ (.load 78 _) _ _ _ _ :: _) _ _); refine wpList_load_mid (by rfl) 78 _ (by rfl) g (off + k * 20) (by rfl) A _ XA.out Tryz.underlying78 rfl ZA.out ?_)
      | (go_at_call 107; refine HCM.out.mono ?_; rintro e w2 ⟨rfl, hb2⟩; have HB2 := hid (zAA HB.out hb2 HB.out.size); clear hb2))
     go_roundg (n + 1 - (k + 1))
     case rel =>
      refine ⟨k + 1, by omega, rfl, by go_num, fun j hj hjk => ?_, HB2.out⟩
      by_cases c : j < k
      . exact HNO.out j hj c
      . obtain rfl : j = k := by omega
        exact HQK.out
     case measure => omega
  . obtain rfl : k = n := by omega
    have HR := hid (show ixq q ms 0 = -1 from zAZ _ _ (fun x hx => by
     obtain ⟨j, hj, rfl⟩ := List.getElem_of_mem hx
     exact hno j hj (by have := HN.out; omega)))
    clear hno hB
    go_wp2_with fail
    go_ret
    exact ⟨zAD HR.out.symm, HB.out⟩
theorem zB0 (ms : List Mn) (q : Mn → Bool) (bC bN bL : Nat) (v : Value) (w : World) (h : Rd w (.row 78 20 (ms.map encM)) v)
  (hq : ∀ m, m ∈ ms → ∀ (A : List Value) (W : World), Below w.heap.size w W → RdL W (encM m) A → Calls Tryz.prog 107 #[.agg A.toArray, .pointer (some ⟨bC, 0, none⟩), .pointer (some ⟨bN, 0, none⟩), .pointer (some ⟨bL, 0, none⟩)] W fun e w' => e = .returned (.bool (q m)) ∧ Below W.heap.size W w') :
  Calls Tryz.prog 106 #[v, .func (.func 107) #[] #[.pointer (some ⟨bC, 0, none⟩), .pointer (some ⟨bN, 0, none⟩), .pointer (some ⟨bL, 0, none⟩)]] w fun e w' => e = .returned (.bool (ms.any q)) ∧ Below w.heap.size w w' := by
 have HIX := hid (zC2 ms q bC bN bL v w h hq)
 obtain ⟨p, cap, rfl, _, _⟩ := zAG lenM h
 have HA := hid (zBV (q := q) ms 0)
 obtain ⟨x, hx⟩ : ∃ x, ixq q ms 0 = x := ⟨_, rfl⟩
 obtain ⟨y, hy⟩ : ∃ y, ms.any q = y := ⟨_, rfl⟩
 rw [hx] at HIX HA
 rw [hy] at HA ⊢
 generalize ms.length = n at *
 clear h hq hx hy
 go_enter Tryz.func106, Tryz.ntmps106
 go_wp2_with (go_at_call 142; refine HIX.out.mono ?_; rintro e w2 ⟨rfl, hb2⟩; have HB2 := hid hb2; clear hb2)
 go_ret
 exact ⟨zAO (by have h := HA.out; rw [Bool.eq_iff_iff, ← h]; simp), HB2.out⟩
end Go.Proofs.YtnlmknbhppdliaaGreatDoor.Chk
