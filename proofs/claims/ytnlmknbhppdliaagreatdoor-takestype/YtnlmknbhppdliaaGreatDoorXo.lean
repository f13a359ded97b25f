/-
  Takes, by the program: the events ahead by scene.CheckKnown. Books of raw numbers may be: in plain words. Books of raw numbers may be: links, what is emitted, the whole.
-/
import Derived.Test.YtnlmknbhppdliaaGreatDoorXm
import Derived.Test.YtnlmknbhppdliaaGreatDoorDt
set_option maxHeartbeats 64000000
namespace Go.Proofs.YtnlmknbhppdliaaGreatDoor.Chk
open Go.ChangeShapes Go.WideShapes Go.ChangeAt Go.RowKit Go.Maps
set_option linter.unusedVariables false
set_option linter.unusedSimpArgs false
set_option maxRecDepth 20000
theorem ckc_ok {E K : Int} (h : ckc E K = 0) : E = 0 ∧ K = 0 := by
  by_cases h1 : E = 0
  . rw [ckc_0 h1] at h; exact ⟨h1, h⟩
  . rw [ckc_1 h1] at h; exact absurd h h1
theorem zG9 (ts : List Tp) (rs : List Rl) (hzz : ∀ r, r ∈ rs → Szr r) (tv rv : Value) (rule part at_ : Int) (x : Ev) (u : Value) (kn : List Ev) (kv : Value) (w : World) (hT : Rd w (.row 59 2 (ts.map encY)) tv) (hR : Rd w (.row 56 7 (rs.map encR)) rv) (htk : Tab w 0 kpl) (htr : Tab w 1 rll) (hu : Rd w (.row 42 3 (x.v.map encV)) u) (hK : Rd w (.row 35 5 (kn.map encX)) kv) (hb : bok ts rs = 0) (k : Nat) (hk : k < rs.length) (hr : rule = (k : Int)) (R : Bool × Int) (hRR : tkr ts rs rule part at_ x kn = R) : Calls Tryz.prog 11 #[.agg #[tv, rv], .int .i64 rule, .int .i64 part, .int .i64 at_, evV x u, kv] w fun e w' => e = .returned (.tuple #[.bool (R.1), .int .i64 (R.2)]) ∧ Below w.heap.size w w' := by
 obtain ⟨hts, hrs⟩ := bok_zero hb
 have hty : ∀ i (hi : i < ts.length), tyk ts[i].n ts[i].f = 0 := fun i hi => zGN ts [] hts _ (List.getElem_mem hi)
 have hrk := zDB rs [] hrs _ (List.getElem_mem hk)
 have hds := dst_of hts
 have hszr := hzz _ (List.getElem_mem hk)
 have hgd : rs.getD rule.toNat r0 = rs[k] := by rw [hr, Int.toNat_natCast]; exact zA5 hk _
 unfold tkr at hRR
 rw [if_neg (fun c => c hb), if_neg (fun c => c (by omega)), hgd] at hRR
 subst hr
 have HCH := hid (fun W (hW : Below w.heap.size w W) => check_any ts rs hzz tv rv W (hT.later hW) (hR.later hW) (zAM htk hW) (zAM htr hW))
 obtain ⟨tp, tc, htv, _, _⟩ := zAL lenY hT
 obtain ⟨rp, rc, hrv, hmr, _⟩ := zAL lenR hR
 obtain ⟨up, un, uc, huv⟩ := zAE hu
 obtain ⟨kp, kn2, kc, hkv⟩ := zAE hK
 rw [hb] at HCH
 obtain ⟨g, off, A, hrg, hA⟩ : ∃ g off A, rp = some ⟨g, off, none⟩ ∧ (∀ W, Below w.heap.size w W → W.rangeAt g (off + k * 7) A) ∧ RdL w (encR rs[k]) A := by
   obtain ⟨p, cap, e0, _, hat⟩ := zAL lenR hR
   obtain ⟨g, off, rfl, hrd⟩ := hat (by omega)
   obtain ⟨A, r1, o1⟩ := hrd w (Below.refl _ _) k hk
   rw [hrv] at e0
   simp only [Value.slice.injEq] at e0
   exact ⟨g, off, A, e0.1, fun W hW => zAP r1 hW, o1⟩
 obtain ⟨v1, v2, v3, v4, v5, z1, o1, o2, o3, o4, o5⟩ := rdR hA.2
 obtain ⟨a1, a2, a3, hu1⟩ := zAE o1
 obtain ⟨b1, b2, b3, hu2⟩ := zAE o2
 obtain ⟨d1, d2, d3, hu3⟩ := zAE o3
 obtain ⟨f1, f2, f3, hu4⟩ := zAE o4
 obtain ⟨g1, g2, g3, hu5⟩ := zAE o5
 have hAz : A.length = 7 := hA.2.1.symm
 have HAO : Hid (A.all (·.oneCell') = true) := by show _ = _; rw [z1, hu1, hu2, hu3, hu4, hu5]; rfl
 have ZA : Hid ((Tryz.prog.info? 56).map (·.size) = some A.length) := by show _ = _; rw [hAz]; kernel_rfl
 have HAL := hid hAz
 have hm100 : rs[k].m.length ≤ 100 := by have h := (zEG hrk).2; unfold szs at h; omega
 have HPT : Hid (∀ W, Below w.heap.size w W → Calls Tryz.prog 23 #[.agg A.toArray, .int .i64 part] W fun e w' => ∃ v, e = .returned v ∧ Rd w' (.row 48 18 ((prt part rs[k]).map encP)) v ∧ Below W.heap.size W w') := fun W hW => by
   rw [z1]
   exact patS_any rs[k] v1 v2 v3 v4 v5 W (o1.later hW) (o2.later hW) (o3.later hW) (o4.later hW) (o5.later hW) hm100 part
 have HAS0 : Hid (∀ (j : Nat), (part = 0 → j ≤ rs[k].w.length) → ∀ W, Below w.heap.size w W → Calls Tryz.prog 25 #[.agg A.toArray, .int .i64 part, .int .i64 (j : Nat)] W fun e w' => ∃ v, e = .returned v ∧ Rd w (.row 48 18 ((asq part j rs[k].w).map encP)) v ∧ Below W.heap.size W w') := fun j hj W hW => by
   rw [z1]
   exact (asked_s rs[k] v1 v2 v3 v4 v5 W (o1.later hW) (o2.later hW) (o3.later hW) (o4.later hW) (o5.later hW) part j j (fun h => ⟨rfl, hj h⟩)).mono fun e w' ⟨v, e1, e2, e3⟩ => ⟨v, e1, e2 w o1, e3⟩
 have HCE := hid (fun W (hW : Below w.heap.size w W) => zDD ts x tv u W (hT.later hW) (hu.later hW))
 have HCK0 := hid (fun (j : Nat) (av : Value) (ha : Rd w (.row 48 18 ((asq part j rs[k].w).map encP)) av) W (hW : Below w.heap.size w W) => zGD ts (asq part j rs[k].w) kn tv av kv W (hT.later hW) (ha.later hW) (hK.later hW))
 have HTA0 := hid (fun (j : Nat) (hj : j < (prt part rs[k]).length) (av : Value) (hx : evk ts x = 0) (hkn : Kok ts (asq part j rs[k].w) kn) (ha : Rd w (.row 48 18 ((asq part j rs[k].w).map encP)) av) W (hW : Below w.heap.size w W) (PA : List Value) (hPA : RdL W (encP (prt part rs[k])[j]) PA) => takes_s ts (asq part j rs[k].w) x kn tv u av kv ⟨hty, hx, hkn⟩ hds (prt part rs[k])[j] (rck_pok hrk hj) (szr_prt hszr hj) PA W ⟨hT.later hW, hu.later hW, ha.later hW, hK.later hW⟩ hPA)
 obtain ⟨E1, hE1⟩ : ∃ E, evk ts x = E := ⟨_, rfl⟩
 have hz1 : E1 = 0 → evk ts x = 0 := fun h => hE1.trans h
 have hz2 : ∀ (K : Int) (c : Bool × Int), (if efs ts kn ≠ 0 then (false, efs ts kn) else if K ≠ 0 then (false, K) else c) = if ckc (efs ts kn) K ≠ 0 then (false, ckc (efs ts kn) K) else c := fun K c => by
   by_cases h1 : efs ts kn = 0
   . rw [if_neg (fun d => d h1), ckc_0 h1]
   . rw [if_pos h1, ckc_1 h1, if_pos h1]
 rw [hE1] at HCE
 rw [hz2, hE1] at hRR
 have HZ1 := hid hz1
 have HDS := hid hds
 have HRR := hid hRR
 clear hE1 hz1 hz2
 have HXR := hid hA.1
 clear o1 o2 o3 o4 o5 hu1 hu2 hu3 hu4 hu5 z1 hAz hm100 hA hgd hszr hrk hty hts hrs hb hds hRR
 subst htv huv hkv
 rw [hrg] at hrv
 subst hrv
 obtain ⟨xn, xt, xs, xe, xv⟩ := x
 simp only [evV, snV] at HCE HCK0 HTA0 HCH HZ1 ⊢
 obtain ⟨tn, htn⟩ : ∃ n, ts.length = n := ⟨_, rfl⟩
 obtain ⟨rn, hrn⟩ : ∃ n, rs.length = n := ⟨_, rfl⟩
 rw [htn] at HCH HCE HCK0 HTA0 ⊢
 rw [hrn] at HCH hk ⊢
 have hB : Bxs w ((w.alloc (.cells #[.slice tp tn tc, .slice (some ⟨g, off, none⟩) rn rc] 28)).alloc (.cells #[.int .i64 xn, .int .i64 xt, .int .i64 xs, .int .i64 xe, .slice up un uc] 35)) [([.slice tp tn tc, .slice (some ⟨g, off, none⟩) rn rc], 28), ([.int .i64 xn, .int .i64 xt, .int .i64 xs, .int .i64 xe, .slice up un uc], 35)] := bxs2 w _ _ _ _
 have HB := hid hB
 have i1 : (0 : Int) ≤ (k : Int) := by omega
 have i2 : (k : Int) < (rn : Int) := by omega
 have y1 : decide ((k : Int) < 0) = false := by simp
 have y2 : decide ((k : Int) ≥ (rn : Int)) = false := by simp; omega
 clear hT hR htk htr hu hK hzz hB hmr htn hrn hrg
 go_enter Tryz.func11, Tryz.ntmps11
 go_wp2_with fail
 refine (HCH.out _ HB.out.bel).mono ?_
 rintro e w1 ⟨rfl, hb1⟩
 have HB1 := hid (HB.out.next hb1)
 have c0 : w1.cell? ⟨w.heap.size, 0, none⟩ = some (.slice tp tn tc) := HB1.out.c 0 (by simp) 0
 have c1 : w1.cell? ⟨w.heap.size, 1, none⟩ = some (.slice (some ⟨g, off, none⟩) rn rc) := HB1.out.c 0 (by simp) 1
 have X1_ := hid (HXR.out w1 HB1.out.bel)
 clear hb1 HCH HB
 go_wp2_with (first
   | ((with_reducible refine gLq ?_); refine wpList_load_mid (by rfl) 56 _ (by rfl) g (off + k * 7) (by rfl) A _ X1_.out Tryz.underlying56 rfl ZA.out ?_)
   | ((with_reducible refine gSq ?_); refine zBY (by rfl) 56 _ _ (by rfl) w1.heap.size 0 _ 56 (.agg A.toArray) A (by rfl) (by rfl) (by rfl) (heap_alloc_new _ _) (by have := HAL.out; simp; omega) ZA.out HAO.out ?_; intro w2 hblk hfr; rw [zA4 (by rw [HAL.out]; rfl)] at hblk; have XB : Hid (w2.rangeAt w1.heap.size 0 A) := zAJ hblk; have HBW : Hid (Below w1.heap.size w1 w2) := zAI hfr; have HX2 : Hid (Tkx w w2 [.slice tp tn tc, .slice (some ⟨g, off, none⟩) rn rc] [.int .i64 xn, .int .i64 xt, .int .i64 xs, .int .i64 xe, .slice up un uc] w1.heap.size A) := ⟨HB1.out.next HBW.out, hblk⟩; clear hblk hfr)
   | ((with_reducible refine gLq ?_); refine wpList_load_mid (by rfl) 56 _ (by rfl) w1.heap.size 0 (by rfl) A _ XB.out Tryz.underlying56 rfl ZA.out ?_))
 refine (HPT.out _ HX2.out.bx.bel).mono ?_
 rintro e w3 ⟨pv, rfl, hrd3, hb3⟩
 obtain ⟨pp, pc, rfl, hpx, hat3⟩ := zAL lenP hrd3
 have HX3 := hid (HX2.out.next hb3)
 obtain ⟨rb, hrb⟩ : ∃ rb, w1.heap.size = rb := ⟨_, rfl⟩
 rw [hrb] at HX3
 have HAT3 := hid hat3
 obtain ⟨np, hnp⟩ : ∃ np, (prt part rs[k]).length = np := ⟨_, rfl⟩
 have HNP := hid hnp
 rw [hnp] at hpx HRR ⊢
 rw [hrb]
 clear hrd3 hb3 hat3 hnp hrb c0 c1 X1_ HPT XB HBW HX2 HB1
 by_cases hat : 0 ≤ at_ ∧ at_ < (np : Int)
 . obtain ⟨j, rfl⟩ : ∃ j : Nat, at_ = (j : Int) := ⟨at_.toNat, by omega⟩
   have hjn : j < np := by omega
   have hjl : j < (prt part rs[k]).length := by rw [HNP.out]; exact hjn
   have HR1 := HRR.out
   rw [if_neg (fun c => c hat)] at HR1
   have HR2 := hid HR1
   have z1 : decide ((j : Int) < 0) = false := by simp
   have z2 : decide ((j : Int) ≥ (np : Int)) = false := by simp; omega
   have i3 : (0 : Int) ≤ (j : Int) := by omega
   have i4 : (j : Int) < (np : Int) := by omega
   have c0 : w3.cell? ⟨w.heap.size, 0, none⟩ = some (.slice tp tn tc) := HX3.out.bx.c 0 (by simp) 0
   have XX := hid (HX3.out.bx.r 1 (by simp))
   clear HR1 hat HRR
   go_wp2_with ((with_reducible refine gLq ?_); refine wpList_load_mid (by rfl) 35 _ (by rfl) (w.heap.size + 1) 0 (by rfl) [.int .i64 xn, .int .i64 xt, .int .i64 xs, .int .i64 xe, .slice up un uc] _ XX.out Tryz.underlying35 rfl (by kernel_rfl) ?_)
   refine (HCE.out _ HX3.out.bx.bel).mono ?_
   rintro e w4 ⟨rfl, hb4⟩
   have HX4 := hid (HX3.out.next hb4)
   have HB34 := hid hb4
   clear hb4 c0 XX HCE
   obtain ⟨K2, hK2⟩ : ∃ K, ckc (efs ts kn) (knk ts (asq part j rs[k].w) kn) = K := ⟨_, rfl⟩
   obtain ⟨t2, ht2⟩ : ∃ t, tkb ts (asq part j rs[k].w) ⟨xn, xt, xs, xe, xv⟩ kn (prt part rs[k])[j] = t := ⟨_, rfl⟩
   have hR5 := HR2.out
   rw [Int.toNat_natCast, zA5 hjl, hK2, ht2] at hR5
   have HR5 := hid hR5
   clear HR2 hR5
   by_cases hz : E1 = 0
   . have hx0 := HZ1.out hz
     have HR6 := HR5.out
     rw [if_neg (fun c => c hz)] at HR6
     have HR7 := hid HR6
     subst hz
     have HAS := hid (HAS0.out j (fun h => by
       have e : prt part rs[k] = rs[k].w := by unfold prt; rw [if_pos h]
       rw [e] at hjl
       omega))
     have HCK1 := hid (fun av => HCK0.out j av)
     have HTA1 := hid (fun av (h : K2 = 0) => HTA0.out j hjl av hx0 (knk_ok HDS.out (ckc_ok (hK2.trans h)).2 (zGQ kn (ckc_ok (hK2.trans h)).1)))
     rw [hK2] at HCK1
     rw [ht2] at HTA1
     have XR4 := hid (zAJ HX4.out.r)
     clear HR6 HR5 HAS0 HCK0 HTA0 HZ1 hK2 ht2 hx0
     go_wp2_with ((with_reducible refine gLq ?_); refine wpList_load_mid (by rfl) 56 _ (by rfl) rb 0 (by rfl) A _ XR4.out Tryz.underlying56 rfl ZA.out ?_)
     refine (HAS.out _ HX4.out.bx.bel).mono ?_
     rintro e w5 ⟨av, rfl, hrd5, hb5⟩
     obtain ⟨ap, an, ac, rfl⟩ := zAE hrd5
     have HRD5 := hid hrd5
     have HX5 := hid (HX4.out.next hb5)
     have HB35 := hid (zAA HB34.out hb5 HB34.out.size)
     have c0 : w5.cell? ⟨w.heap.size, 0, none⟩ = some (.slice tp tn tc) := HX5.out.bx.c 0 (by simp) 0
     have HCK := hid (HCK1.out _ hrd5)
     have HTA2 := hid (fun h => HTA1.out _ h hrd5)
     clear hrd5 hb5 XR4 HAS HCK1 HTA1
     go_wp2_with fail
     refine (HCK.out _ HX5.out.bx.bel).mono ?_
     rintro e w6 ⟨rfl, hb6⟩
     have HX6 := hid (HX5.out.next hb6)
     have HB36 := hid (zAA HB35.out hb6 HB35.out.size)
     clear hb6 c0 HCK
     by_cases hz2 : K2 = 0
     . have HRT : Hid (R = (t2, 0)) := by have h := HR7.out; rw [if_neg (fun c => c hz2)] at h; exact h.symm
       have hTA3 := HTA2.out hz2
       subst hz2
       obtain ⟨UL, hUL⟩ : ∃ UL : List Value, [.slice tp tn tc, .int .i64 xn, .int .i64 xt, .int .i64 xs, .int .i64 xe, .slice up un uc, .slice ap an ac, .slice kp kn2 kc] = UL := ⟨_, rfl⟩
       have hsv : (Value.agg #[.slice tp tn tc, .int .i64 xn, .int .i64 xt, .int .i64 xs, .int .i64 xe, .slice up un uc, .slice ap an ac, .slice kp kn2 kc]) = .agg UL.toArray := by rw [← hUL]
       rw [hsv] at hTA3
       have ZU : Hid ((Tryz.prog.info? 100).map (·.size) = some UL.length) := by show _ = _; rw [← hUL]; kernel_rfl
       have hUO : UL.all (·.oneCell') = true := by rw [← hUL]; rfl
       have HUO := hid hUO
       have HUZ : Hid (UL.length = 8) := by show _ = _; rw [← hUL]; rfl
       have HBD : Hid (∀ w, (Instr.build 100 #[(0, .slice tp tn tc), (1, .agg #[.int .i64 xn, .int .i64 xt, .int .i64 xs, .int .i64 xe, .slice up un uc]), (2, .slice ap an ac), (3, .slice kp kn2 kc)]).run Tryz.prog w = .ok (.agg UL.toArray) w) := fun w => by rw [← hsv]; exact bd_sn _ _ _ _ _ _ _ _ _ _ _ _ _ _ _ _ w
       have c0 : w6.cell? ⟨w.heap.size, 0, none⟩ = some (.slice tp tn tc) := HX6.out.bx.c 0 (by simp) 0
       have XX := hid (HX6.out.bx.r 1 (by simp))
       obtain ⟨g3, off3, e13, hrd3⟩ := HAT3.out (by omega)
       have HRD3 := hid hrd3
       subst e13
       have HTA3 := hid hTA3
       clear hUL hsv hUO hTA3 hrd3 HTA2 HR7
       go_wp2_with (first
        | ((with_reducible refine gLq ?_); refine wpList_load_mid (by rfl) 35 _ (by rfl) (w.heap.size + 1) 0 (by rfl) [.int .i64 xn, .int .i64 xt, .int .i64 xs, .int .i64 xe, .slice up un uc] _ XX.out Tryz.underlying35 rfl (by kernel_rfl) ?_)
        | ((with_reducible show wpList _ _ _ (Oper.mk _ (.build _ _) _ _ _ _ :: _) _ _); refine wp_bd (by rfl) 100 _ (by rfl) #[(0, .slice tp tn tc), (1, .agg #[.int .i64 xn, .int .i64 xt, .int .i64 xs, .int .i64 xe, .slice up un uc]), (2, .slice ap an ac), (3, .slice kp kn2 kc)] (by simp [Act.eval, Act.put]) _ HBD.out ?_)
        | ((with_reducible refine gSq ?_); refine zBY (by rfl) 100 _ _ (by rfl) w6.heap.size 0 zSN 100 (.agg UL.toArray) UL (by rfl) (by rfl) (by rfl) (heap_alloc_new _ _) (by have := HUZ.out; simp; omega) ZU.out HUO.out ?_; intro w7 hblk hfr; rw [zA4 (by rw [HUZ.out]; rfl)] at hblk; have XU7 : Hid (w7.rangeAt w6.heap.size 0 UL) := zAJ hblk; have HB67 : Hid (Below w6.heap.size w6 w7) := zAI hfr; clear hblk hfr))
       have HX7 := hid (HX6.out.next HB67.out)
       obtain ⟨PA, r3, o3⟩ := HRD3.out w7 (zAA HB36.out HB67.out HB36.out.size) j hjl
       have hPz : PA.length = 18 := o3.1.symm
       have ZP : Hid ((Tryz.prog.info? 48).map (·.size) = some PA.length) := by show _ = _; rw [hPz]; kernel_rfl
       have XP7 := hid r3
       have HTA := hid (fun W (hW : Below w7.heap.size w7 W) => HTA3.out W (zAA HX7.out.bx.bel hW HX7.out.bx.bel.size) PA (o3.below hW))
       obtain ⟨sb, hsb⟩ : ∃ sb, w6.heap.size = sb := ⟨_, rfl⟩
       rw [hsb] at XU7 ⊢
       clear r3 o3 hPz HTA3 HRD3 c0 XX hsb
       go_wp2_with fail
       refine zCH (S := (fun w' => w'.rangeAt sb 0 UL ∧ w'.rangeAt g3 (off3 + j * 18) PA)) 8 #[false, false, false, false, false, false, false, false] rfl rfl (by kernel_rfl) (⟨zAP XU7.out (Below.drew (Below.refl _ _)), zAP XP7.out (Below.drew (Below.refl _ _))⟩) (fun hHeld => ?_)
       refine tkq (i := 1) (v := ?v1) rfl ?hy1 ?rest1; (case hy1 => intro w0 hSw; (try dsimp only at hSw); go_simp <;> (try (with_reducible rfl))); (try simp only [puts])
       refine tkq (i := 2) (v := ?v2) rfl ?hy2 ?rest2; (case hy2 => intro w0 hSw; (try dsimp only at hSw); go_simp <;> (try (with_reducible rfl))); (try simp only [puts])
       refine tkq (i := 3) (v := ?v3) rfl ?hy3 ?rest3; (case hy3 => intro w0 hSw; (try dsimp only at hSw); go_simp <;> (try (with_reducible rfl))); (try simp only [puts])
       refine tlq (i := 0) rfl (yieldsIf_load_mid (by rfl) 100 _ rfl sb (0) (by rfl) UL _ (fun _ h => h.1) Tryz.underlying100 rfl ZU.out) ?_
       (try simp only [puts])
       refine tlq (i := 4) rfl (yieldsIf_load_mid (by rfl) 48 _ rfl g3 (off3 + j * 18) (by rfl) PA _ (fun _ h => h.2) Tryz.underlying48 rfl ZP.out) ?_
       (try simp only [puts])
       refine wpAnyH_ready (rs := [5]) (by kernel_rfl) (by simp) ?_
       refine zBD rfl (fun K hK => ?_) AllReadyH.nil
       refine zBQ 27 zJD (by rfl) _ _ _ (by rfl) (.agg UL.toArray) (.agg PA.toArray) (by rfl) (by rfl) _ (HTA.out _ (Below.drew (Below.refl _ _))) ?_
       rintro e w8 ⟨rfl, hb8⟩
       refine ⟨_, rfl, ?_⟩
       have HB8 : Hid (Below w7.heap.size w7 w8) := zAA (Below.drew (Below.refl _ _)) hb8 (Nat.le_refl _)
       clear hb8
       refine hK.out _ _ (⟨zAP XU7.out HB8.out, zAP XP7.out HB8.out⟩) (fun hHeld => ?_)
       clear hK K
       (try simp only [puts])
       refine tkq (i := 6) (v := ?v4) rfl ?hy4 ?rest4; (case hy4 => intro w0 hSw; (try dsimp only at hSw); go_simp <;> (try (with_reducible rfl))); (try simp only [puts])
       refine tkq (i := 7) (v := ?v5) rfl ?hy5 ?rest5; (case hy5 => intro w0 hSw; (try dsimp only at hSw); go_simp <;> (try (with_reducible rfl))); (try simp only [puts])
       refine wpAnyH_done (by kernel_rfl) ?_ _
       go_wp2_with fail
       go_ret2
       exact ⟨by rw [HRT.out]; rfl, zAA HX7.out.bx.bel HB8.out HX7.out.bx.bel.size⟩
     . have HRT : Hid (R = (false, K2)) := by have h := HR7.out; rw [if_pos hz2] at h; exact h.symm
       have d9 : (K2 != 0) = true := by simpa using hz2
       go_wp2_with fail
       go_ret2
       exact ⟨by rw [HRT.out]; rfl, HX6.out.bx.bel⟩
   . have HRT : Hid (R = (false, E1)) := by have h := HR5.out; rw [if_pos hz] at h; exact h.symm
     have d9 : (E1 != 0) = true := by simpa using hz
     clear HR5
     go_wp2_with fail
     go_ret2
     exact ⟨by rw [HRT.out]; rfl, HX4.out.bx.bel⟩
 . have z0 : Hid (R = (false, 2)) := by have h := HRR.out; rw [if_pos hat] at h; exact h.symm
   by_cases h0 : at_ < 0
   . have d1 : decide (at_ < 0) = true := by simpa using h0
     go_wp2_with fail
     go_ret2
     exact ⟨by rw [z0.out]; rfl, HX3.out.bx.bel⟩
   . have d1 : decide (at_ < 0) = false := by simpa using h0
     have h1 : (np : Int) ≤ at_ := by omega
     have d2 : decide (at_ ≥ (np : Int)) = true := by simpa using h1
     go_wp2_with fail
     go_ret2
     exact ⟨by rw [z0.out]; rfl, HX3.out.bx.bel⟩
theorem zEI (ts : List Tp) (rs : List Rl) (hzz : ∀ r, r ∈ rs → Szr r) (tv rv : Value) (rule part at_ : Int) (x : Ev) (u : Value) (kn : List Ev) (kv : Value) (w : World) (hT : Rd w (.row 59 2 (ts.map encY)) tv) (hR : Rd w (.row 56 7 (rs.map encR)) rv) (htk : Tab w 0 kpl) (htr : Tab w 1 rll) (hu : Rd w (.row 42 3 (x.v.map encV)) u) (hK : Rd w (.row 35 5 (kn.map encX)) kv) : Calls Tryz.prog 11 #[.agg #[tv, rv], .int .i64 rule, .int .i64 part, .int .i64 at_, evV x u, kv] w fun e w' => e = .returned (.tuple #[.bool ((tkr ts rs rule part at_ x kn).1), .int .i64 ((tkr ts rs rule part at_ x kn).2)]) ∧ Below w.heap.size w w' := by
 by_cases hb : bok ts rs = 0
 . by_cases hr : 0 ≤ rule ∧ rule < (rs.length : Int)
   . obtain ⟨k, rfl⟩ : ∃ k : Nat, rule = (k : Int) := ⟨rule.toNat, by omega⟩
     exact zG9 ts rs hzz tv rv k part at_ x u kn kv w hT hR htk htr hu hK hb k (by omega) rfl _ rfl
   . have e : tkr ts rs rule part at_ x kn = (false, 2) := by unfold tkr; rw [if_neg (fun c => c hb), if_pos hr]
     rw [e]
     exact zJ2 ts rs hzz tv rv rule part at_ x u kn kv w hT hR htk htr hu hK hb hr
 . have e : tkr ts rs rule part at_ x kn = (false, bok ts rs) := by unfold tkr; rw [if_pos hb]
   rw [e]
   exact zKJ ts rs hzz tv rv rule part at_ x u kn kv w hT hR htk htr hu hK hb
theorem zBB : ∀ k, (alN k).length = k
  | 0 => rfl
  | k + 1 => by rw [alN, List.length_append, zBB k]; rfl
theorem zBG (ws : List Cst) : ∀ k, (pwWs ws k).length = k
  | 0 => rfl
  | k + 1 => by rw [pwWs, List.length_append, zBG ws k]; rfl
theorem zDH (ns : List Cst) (kn : List ByteArray) : ∀ k, (pwTs ns kn k).length = k
  | 0 => rfl
  | k + 1 => by rw [pwTs, List.length_append, zDH ns kn k]; rfl
theorem zDN (ns : List Cst) (kn : List ByteArray) : ∀ k, (pwMs ns kn k).length = k
  | 0 => rfl
  | k + 1 => by rw [pwMs, List.length_append, zDN ns kn k]; rfl
theorem zCM (ns : List Cst) (al : List ByteArray) : ∀ k, (pwUs ns al k).length = k
  | 0 => rfl
  | k + 1 => by rw [pwUs, List.length_append, zCM ns al k]; rfl
theorem zDO (bs : List Bd6) (al : List ByteArray) : ∀ k, (pwBs bs al k).length = k
  | 0 => rfl
  | k + 1 => by rw [pwBs, List.length_append, zDO bs al k]; rfl
theorem zBH (l : List Plt) : ∀ k, (pwRs l k).length = k
  | 0 => rfl
  | k + 1 => by rw [pwRs, List.length_append, zBH l k]; rfl
theorem zBV (ws : List Cst) : ∀ k, (pwWs ws k).map Pt.va = alN k
  | 0 => rfl
  | k + 1 => by rw [pwWs, alN, List.map_append, zBV ws k]; rfl
theorem zE6 (ws : List Cst) : ∀ k j, j < k → (pwWs ws k).getD j ⟨txt [], txt [], cn0, 0, 0⟩ = pwH ws j
 | 0, j, h => by omega
 | k + 1, j, h => by
  rw [pwWs, List.getD_eq_getElem?_getD]
  by_cases c : j < k
  . rw [List.getElem?_append_left (by rw [zBG]; exact c), ← List.getD_eq_getElem?_getD]; exact zE6 ws k j c
  . obtain rfl : j = k := by omega
    rw [List.getElem?_append_right (by rw [zBG]; omega), zBG]; simp
theorem pwL_in (ws : List Cst) : 1 ≤ pwL ws ∧ pwL ws ≤ 3 := by unfold pwL; split <;> omega
theorem zD2 (c : Cst) : pwA c < 4 := by
  have := zAQ c.ty (m := 4) (by decide)
  unfold pwA; omega
theorem pwW_in (c : Cst) : pwW c = 0 ∨ pwW c = 1 ∨ pwW c = 2 := by
  have := zAQ c.wi (m := 4) (by decide)
  unfold pwW; split <;> omega
theorem zK1 {α β : Type} (f : α → β) (q : β → Bool) : ∀ (l : List α) (n : Nat), ixq (fun x => q (f x)) l n = ixq q (l.map f) n
  | [], _ => rfl
  | x :: r, n => by rw [List.map_cons, ixq, ixq, zK1 f q r]
theorem zDY (l : List Pt) (n : ByteArray) : ptq l n = ixq (fun a => seq a n) (l.map Pt.va) 0 := zK1 Pt.va (fun a => seq a n) l 0
theorem zH3 : ∀ k, k ≤ 3 → ∀ j, j < k → ixq (fun a => seq a (vnm j)) (alN k) 0 = (j : Int) := by decide +kernel
theorem zGR : ∀ j, j < 4 → tyq kts (tyN j) = (j : Int) := by decide +kernel
theorem frn_v : ∀ j, j < 3 → frn (vnm j) = 0 := by decide +kernel
theorem frn_u : ∀ j, j < 2 → frn (unm j) = 0 := by decide +kernel
theorem frn_m : ∀ j, j < 2 → frn (mnm j) = 0 := by decide +kernel
theorem fck_n : ∀ j, j < 4 → j ≠ 2 → fck (kts.getD j ⟨txt [], []⟩).f (txt [110]) = (1, 0) := by decide +kernel
theorem emp0 : emp (txt []) = true := by kernel_rfl
theorem zGI (ts : List Tp) (kn : List Pt) (own : Tp) (k : Int) (h0 : 0 ≤ k) (h1 : k ≤ 120) : sdk ts kn own (numO k) = (1, 0) := by
  unfold sdk numO
  simp only [emp0]
  unfold vck
  simp only [emp0]
  simp
  omega
theorem sdkOwn (ts : List Tp) (kn : List Pt) (own : Tp) (n : ByteArray) : sdk ts kn own (ownO n) = fck own.f n := by
  unfold sdk ownO nzv
  simp only [emp0]
  simp
theorem zJU (ws : List Cst) (own : Tp) (m j : Nat) (hm : m ≤ 3) (hj : j < m) (h2 : pwA (ws.getD j cst0) ≠ 2) : sdk kts (pwWs ws m) own ⟨3, 0, 0, txt [], vnm j, txt [110]⟩ = (1, 0) := by
  have e : ptq (pwWs ws m) (vnm j) = (j : Int) := by rw [zDY, zBV]; exact zH3 m hm j hj
  unfold sdk nzv tyOf
  simp only [emp0, e]
  rw [Int.toNat_natCast, zE6 ws m j hj, show (pwH ws j).ty = tyN (pwA (ws.getD j cst0)) from rfl, zGR _ (zD2 _), Int.toNat_natCast, fck_n _ (zD2 _) h2]
  simp
theorem zD5 (ws : List Cst) : ∀ k nm, nm ∈ pwK ws k → ∃ j, j < k ∧ nm = vnm j ∧ pwA (ws.getD j cst0) ≠ 2
 | 0, nm, h => by cases h
 | k + 1, nm, h => by
  rw [pwK] at h
  split at h
  . obtain ⟨j, h1, h2, h3⟩ := zD5 ws k nm h
    exact ⟨j, by omega, h2, h3⟩
  . rename_i c
    rcases List.mem_append.1 h with h | h
    . obtain ⟨j, h1, h2, h3⟩ := zD5 ws k nm h
      exact ⟨j, by omega, h2, h3⟩
    . rw [List.mem_singleton] at h
      exact ⟨k, by omega, h, c⟩
theorem zDZ (ws : List Cst) : ∀ k, (pwK ws k).length ≤ k
 | 0 => by simp [pwK]
 | k + 1 => by
  have := zDZ ws k
  rw [pwK]; split
  . omega
  . simp; omega
theorem zC3 {α : Type} {l : List α} {i : Nat} {d : α} (h : i < l.length) : l.getD i d ∈ l := by
  rw [List.getD_eq_getElem?_getD, List.getElem?_eq_getElem h]; exact List.getElem_mem h
theorem zFB (ws : List Cst) (own : Tp) (m k : Nat) (hm : m ≤ 3) (hk : k ≤ m) (n : Int) : sdk kts (pwWs ws m) own (othO (pwK ws k) n) = (1, 0) := by
 unfold othO
 split
 . have := zAQ n (m := 6) (by decide)
   exact zGI _ _ _ _ (by omega) (by omega)
 . rename_i c
   have := zAQ n (m := ((pwK ws k).length : Int)) (by omega)
   obtain ⟨j, h1, h2, h3⟩ := zD5 ws k _ (zC3 (l := pwK ws k) (i := (pkd n ((pwK ws k).length : Int)).toNat) (d := txt []) (by omega))
   rw [h2]
   exact zJU ws own m j hm (by omega) h3
theorem zCB {ts : List Tp} {kn : List Pt} {own : Tp} {n : Nat} {k : Int} {a b : Opd} {q : Int} (h4 : 4 ≤ k) (h7 : k ≤ 7) (ha : sdk ts kn own a = (q, 0)) (hb : sdk ts kn own b = (q, 0)) : cdk ts kn own (n + 1) (cmpC k a b) = (1, 0) := by
  unfold cdk cmpC
  simp only [ha, hb]
  rw [if_neg (by omega), if_pos (by omega)]
  simp
theorem zKW {ts : List Tp} {kn : List Pt} {own : Tp} {n : Nat} {k p q : Int} {a b : Cn} (hk : k = 1 ∨ k = 2) (ha : cdk ts kn own n a = (p, 0)) (hb : cdk ts kn own n b = (q, 0)) (hp : p ≤ 6) (hq : q ≤ 6) (hp0 : 0 ≤ p) : cdk ts kn own (n + 1) (grpC k [a, b]) = (p + q, 0) := by
  unfold cdk
  rw [show (grpC k [a, b]).k = k from rfl, show (grpC k [a, b]).l = opd0 from rfl, show (grpC k [a, b]).r = opd0 from rfl, show (grpC k [a, b]).sb.length = 2 from rfl, zHN, if_neg (by omega), if_neg (by omega), if_neg (by rw [show eqz opd0 = true from by kernel_rfl]; simp), if_neg (by omega)]
  simp only [cgo, ha, hb]
  rw [if_neg (by simp), if_neg (by omega), if_neg (by simp), if_neg (by omega)]
  simp
theorem cdk_not {ts : List Tp} {kn : List Pt} {own : Tp} {n : Nat} {p : Int} {a : Cn} (ha : cdk ts kn own n a = (p, 0)) (hp : p ≤ 6) : cdk ts kn own (n + 1) (grpC 3 [a]) = (p, 0) := by
  unfold cdk
  rw [show (grpC 3 [a]).k = 3 from rfl, show (grpC 3 [a]).l = opd0 from rfl, show (grpC 3 [a]).r = opd0 from rfl, show (grpC 3 [a]).sb.length = 1 from rfl, zHN, if_neg (by omega), if_neg (by omega), if_neg (by rw [show eqz opd0 = true from by kernel_rfl]; simp), if_neg (by omega)]
  simp only [cgo, ha]
  rw [if_neg (by simp), if_neg (by omega)]
  simp
theorem sdk_tx (ts : List Tp) (kn : List Pt) (own : Tp) : sdk ts kn own ⟨1, 2, 0, txt [120], txt [], txt []⟩ = (2, 0) := by
  unfold sdk vck
  simp only [emp0]
  rw [show (txt [120]).size = 1 from by kernel_rfl]
  simp
theorem fck_s : fck (kts.getD 1 ⟨txt [], []⟩).f (txt [115]) = (2, 0) := by kernel_rfl
theorem wh_ok {kn : List Pt} {j : Nat} (hj : j < 4) (co : Nat) (k : Int) (h0 : 0 ≤ k) (h1 : k ≤ 5) (ot : Opd) (ho : ∀ own, sdk kts kn own ot = (1, 0)) : noc (whC co j k ot) = true ∨ (cdk kts kn (kts.getD j ⟨txt [], []⟩) 8 (whC co j k ot)).2 = 0 := by
 have hn : ∀ own q, 0 ≤ q → q ≤ 120 → sdk kts kn own (numO q) = (1, 0) := fun own q a b => zGI _ _ _ _ a b
 by_cases h2 : j = 2
 . unfold whC; rw [if_pos h2]; exact .inl (by kernel_rfl)
 . have hN : sdk kts kn (kts.getD j ⟨txt [], []⟩) nO = (1, 0) := by unfold nO; rw [sdkOwn]; exact fck_n j hj h2
   have hK := hn (kts.getD j ⟨txt [], []⟩) k h0 (by omega)
   unfold whC
   rw [if_neg h2]
   split
   . exact .inr (by rw [zCB (by decide) (by decide) hK hN])
   . split
     . exact .inr (by rw [zCB (by decide) (by decide) hN (ho _)])
     . split
       . exact .inr (by rw [zCB (by decide) (by decide) hN (ho _)])
       . split
         . exact .inr (by rw [zKW (p := 1) (q := 1) (by decide) (zCB (by decide) (by decide) hN hK) (zCB (by decide) (by decide) hN (hn _ 1 (by decide) (by decide))) (by decide) (by decide) (by decide)])
         . split
           . exact .inr (by rw [zKW (p := 1) (q := 1) (by decide) (zCB (by decide) (by decide) (ho _) hN) (cdk_not (zCB (by decide) (by decide) hN hK) (by decide)) (by decide) (by decide) (by decide)])
           . split
             . split
               . rename_i c
                 subst c
                 exact .inr (by rw [zCB (q := 2) (by decide) (by decide) (by rw [sdkOwn]; exact fck_s) (sdk_tx _ _ _)])
               . exact .inr (by rw [zCB (by decide) (by decide) hN (ho _)])
             . exact .inl (by kernel_rfl)
theorem zJ0 {kn : List Pt} {ah : List ByteArray} {nm : ByteArray} {c : Cst} {K : List ByteArray} {w n part : Int} (h1 : frn nm = 0) (h2 : ah.any (fun a => seq a nm) = false) (h3 : ¬ wbad part w n) (h4 : ¬ rbad w n) (ho : ∀ own, sdk kts kn own (othO K c.n) = (1, 0)) : pck kts kn ah (pwP nm c K w n) part = 0 := by
 have hj := zD2 c
 have hk := zAQ c.n (m := 6) (by decide)
 have hw := wh_ok (kn := kn) hj (pkd c.co 9).toNat (pkd c.n 6) hk.1 (by omega) _ ho
 unfold pck
 show (if frn nm ≠ 0 then frn nm else if ah.any (fun a => seq a nm) = true then 7 else if tyq kts (tyN (pwA c)) < 0 then 6 else if wbad part w n then 4 else if rbad w n then 2 else if noc (pwC c K) = true then 0 else (cdk kts kn (kts.getD (tyq kts (tyN (pwA c))).toNat ⟨txt [], []⟩) 8 (pwC c K)).2) = 0
 rw [h1, h2, zGR _ hj, if_neg (by decide), if_neg (by decide), if_neg (by omega), if_neg h3, if_neg h4, Int.toNat_natCast]
 rcases (show noc (pwC c K) = true ∨ (cdk kts kn (kts.getD (pwA c) ⟨txt [], []⟩) 8 (pwC c K)).2 = 0 from hw) with hw | hw
 . rw [if_pos hw]
 . split
   . rfl
   . exact hw
theorem ahead_v : ∀ k, k < 3 → (alN k).any (fun a => seq a (vnm k)) = false := by decide +kernel
theorem win_ok (c : Cst) : ¬ wbad 0 (pwW c) (pwN c) ∧ ¬ rbad (pwW c) (pwN c) := by
  have h1 := zAQ c.si (m := 20) (by decide)
  have h2 := zAQ c.si (m := 4) (by decide)
  unfold wbad rbad pwN
  rcases pwW_in c with h | h | h <;> rw [h] <;> constructor <;> simp <;> omega
theorem wfs_pw (ws : List Cst) (N : Nat) (hN : N ≤ 3) : ∀ m k, k + m = N → wfs 0 kts (pwWs ws k) ((pwWs ws N).drop k) = 0
 | 0, k, h => by rw [List.drop_of_length_le (by rw [zBG]; omega)]; rfl
 | m + 1, k, h => by
  have hd : (pwWs ws N).drop k = pwH ws k :: (pwWs ws N).drop (k + 1) := by
   rw [List.drop_eq_getElem_cons (by rw [zBG]; omega)]
   congr 1
   have := zE6 ws N k (by omega)
   rw [List.getD_eq_getElem?_getD, List.getElem?_eq_getElem (by rw [zBG]; omega)] at this
   exact this
  have hp : pck kts (pwWs ws k) ((pwWs ws k).map Pt.va) (pwH ws k) 0 = 0 := zJ0 (frn_v k (by omega)) (by rw [zBV]; exact ahead_v k (by omega)) (win_ok _).1 (win_ok _).2 (fun own => zFB ws own k k (by omega) (Nat.le_refl _) _)
  rw [hd, wfs, hp, if_neg (by decide)]
  have := wfs_pw ws N hN m (k + 1) (by omega)
  rw [pwWs] at this
  exact this
theorem zKV : ¬ wbad 1 0 0 ∧ ¬ rbad 0 0 := by decide
theorem alN_u : ∀ k, k ≤ 3 → ((alN k).any (fun a => seq a (unm 0)) = false ∧ (alN k ++ [unm 0]).any (fun a => seq a (unm 1)) = false) := by decide +kernel
theorem alN_m0 : ∀ k, k ≤ 3 → (∀ b, b ≤ 2 → ((alN k ++ (List.range b).map unm).any (fun a => seq a (mnm 0)) = false ∧ (alN k ++ (List.range b).map unm ++ [mnm 0]).any (fun a => seq a (mnm 1)) = false)) := by decide +kernel
theorem nfs_pw (ws ns : List Cst) (N : Nat) (hN : N ≤ 3) (b : Nat) (hb : b ≤ 2) : nfs 0 kts (pwWs ws N) (alN N) (pwTs ns (pwK ws N) b) = 0 := by
 have hp : ∀ i, i < 2 → ∀ ah : List ByteArray, ah.any (fun a => seq a (unm i)) = false → pck kts (pwWs ws N) ah (pwT ns (pwK ws N) i) 1 = 0 := fun i hi ah ha => zJ0 (frn_u i hi) ha zKV.1 zKV.2 (fun own => zFB ws own N N hN (Nat.le_refl _) _)
 obtain ⟨a0, a1⟩ := alN_u N hN
 rcases (by omega : b = 0 ∨ b = 1 ∨ b = 2) with rfl | rfl | rfl
 . rfl
 . show nfs 0 kts (pwWs ws N) (alN N) [pwT ns (pwK ws N) 0] = 0
   simp only [nfs, hp 0 (by decide) _ a0]
   rfl
 . show nfs 0 kts (pwWs ws N) (alN N) [pwT ns (pwK ws N) 0, pwT ns (pwK ws N) 1] = 0
   have e : (pwT ns (pwK ws N) 0).va = unm 0 := rfl
   simp only [nfs, hp 0 (by decide) _ a0, e, hp 1 (by decide) _ a1]
   rfl
theorem zHT (ns : List Cst) (kn : List ByteArray) (b : Nat) (hb : b ≤ 2) : (pwTs ns kn b).map Pt.va = (List.range b).map unm := by
  rcases (by omega : b = 0 ∨ b = 1 ∨ b = 2) with rfl | rfl | rfl <;> rfl
theorem zH4 (c : Cst) : ¬ wbad 2 1 (pkd c.si 20) ∧ ¬ rbad 1 (pkd c.si 20) := by
  have h1 := zAQ c.si (m := 20) (by decide)
  unfold wbad rbad
  constructor <;> simp <;> omega
theorem zI2 (ws ms : List Cst) (N : Nat) (hN : N ≤ 3) (i : Nat) (hi : i < 2) (ah : List ByteArray) (ha : ah.any (fun a => seq a (mnm i)) = false) : mck kts (pwWs ws N) ah (pwM ms (pwK ws N) i) = 0 := by
 have hp : pck kts (pwWs ws N) ah (pwM ms (pwK ws N) i).p 2 = 0 := zJ0 (frn_m i hi) ha (zH4 _).1 (zH4 _).2 (fun own => zFB ws own N N hN (Nat.le_refl _) _)
 have h3 := zAQ (ms.getD i cst0).n (m := 3) (by decide)
 have hj := zD2 (ms.getD i cst0)
 have hb : mbad (pwM ms (pwK ws N) i) = false := by
   unfold mbad pwM
   simp only
   have q1 : decide (1 ≤ 1 + pkd (ms.getD i cst0).n 3) = true := decide_eq_true (by omega)
   have q2 : decide (1 + pkd (ms.getD i cst0).n 3 ≤ 120) = true := decide_eq_true (by omega)
   have q3 : decide (0 ≤ 1 + pkd (ms.getD i cst0).n 3) = true := decide_eq_true (by omega)
   have q4 : decide (1 + pkd (ms.getD i cst0).n 3 ≤ 1125899906842624) = true := decide_eq_true (by omega)
   rw [q1, q2, q3, q4]
   simp
 unfold mck
 rw [hb, hp, if_neg (by decide), if_neg (by decide)]
 by_cases c2 : pwA (ms.getD i cst0) = 2
 . have e : (pwM ms (pwK ws N) i).f = txt [] := by unfold pwM; simp only; rw [if_pos c2]
   rw [e, emp0, if_pos rfl]
 . by_cases c1 : pkd (ms.getD i cst0).wi 2 = 1
   . have e : (pwM ms (pwK ws N) i).f = txt [110] := by unfold pwM; simp only; rw [if_neg c2, if_pos c1]
     rw [e, show emp (txt [110]) = false from by kernel_rfl, if_neg (by decide), show (pwM ms (pwK ws N) i).p.ty = tyN (pwA (ms.getD i cst0)) from rfl, zGR _ hj, Int.toNat_natCast]
     unfold sck
     rw [fck_n _ hj c2]
     rfl
   . have e : (pwM ms (pwK ws N) i).f = txt [] := by unfold pwM; simp only; rw [if_neg c2, if_neg c1]
     rw [e, emp0, if_pos rfl]
theorem mfs_pw (ws ms : List Cst) (N : Nat) (hN : N ≤ 3) (b : Nat) (hb : b ≤ 2) (t : Nat) (ht : t ≤ 2) : mfs 0 kts (pwWs ws N) (alN N ++ (List.range t).map unm) (pwMs ms (pwK ws N) b) = 0 := by
 obtain ⟨a0, a1⟩ := alN_m0 N hN t ht
 rcases (by omega : b = 0 ∨ b = 1 ∨ b = 2) with rfl | rfl | rfl
 . rfl
 . show mfs 0 kts (pwWs ws N) (alN N ++ (List.range t).map unm) [pwM ms (pwK ws N) 0] = 0
   simp only [mfs, zI2 ws ms N hN 0 (by decide) _ a0]
   rfl
 . show mfs 0 kts (pwWs ws N) (alN N ++ (List.range t).map unm) [pwM ms (pwK ws N) 0, pwM ms (pwK ws N) 1] = 0
   have e : (pwM ms (pwK ws N) 0).p.va = mnm 0 := rfl
   simp only [mfs, zI2 ws ms N hN 0 (by decide) _ a0, e, zI2 ws ms N hN 1 (by decide) _ a1]
   rfl
theorem zIV (r : Int) : 1 ≤ opRl r ∧ opRl r ≤ 13 := by
  have := zAQ r (m := 13) (by decide)
  unfold opRl; omega
theorem zC5 (l : Int) : 0 ≤ zFW l ∧ zFW l ≤ 5 := by
  have := zAQ l (m := 6) (by decide)
  unfold zFW; split <;> omega
theorem zG4 (r l : Int) : 0 ≤ opLo r l ∧ opLo r l ≤ zFW l := by
  have := zC5 l
  unfold opLo; split <;> omega
theorem zJE (l h : Int) : opHi l h = -1 ∨ (zFW l ≤ opHi l h ∧ opHi l h ≤ 13) := by
  have := zC5 l
  have h9 := zAQ h (m := 9) (by decide)
  unfold opHi; split <;> omega
theorem ock_ok {r lo hi : Int} (h1 : 1 ≤ r ∧ r ≤ 13) (h2 : 0 ≤ lo ∧ lo ≤ 5) (h3 : hi = -1 ∨ (lo ≤ hi ∧ hi ≤ 20)) : ock r lo hi = 0 := by
  unfold ock
  rw [if_neg (by omega), if_neg (by omega), if_neg (by omega)]
theorem ock_op (r l h : Int) : ock (opRl r) (opLo r l) (opHi l h) = 0 := by
  have := zC5 l
  have h1 := zG4 r l
  have h2 := zJE l h
  exact ock_ok (zIV r) (by omega) (by omega)
theorem ock_bn (c : Cst) : ock (bnO c).r (bnO c).lo (bnO c).hi = 0 := by
  have := zC5 c.si
  have h1 := zG4 (bRl c.wi - 1) c.si
  have h2 := zJE c.si c.co
  refine ock_ok (zIV _) (by unfold bnO; simp only; omega) ?_
  unfold bnO
  simp only
  split <;> omega
theorem ofs_S (b : Bd6) : ofs (opS b) = 0 ∧ 1 ≤ (opS b).length ∧ (opS b).length ≤ 6 := by
 have e1 : ock (opB b).r (opB b).lo (opB b).hi = 0 := ock_op _ _ _
 unfold opS
 split
 . refine ⟨?_, by simp, by simp⟩
   simp only [ofs, e1, ock_op]
   rfl
 . refine ⟨?_, by simp, by simp⟩
   simp only [ofs, e1]
   rfl
theorem alN_get : ∀ k, k ≤ 3 → ∀ j, j < k → (alN k).getD j (txt []) = vnm j := by
 intro k hk j hj
 rcases (by omega : k = 0 ∨ k = 1 ∨ k = 2 ∨ k = 3) with rfl | rfl | rfl | rfl
 . omega
 . obtain rfl : j = 0 := by omega
   rfl
 . rcases (by omega : j = 0 ∨ j = 1) with rfl | rfl <;> rfl
 . rcases (by omega : j = 0 ∨ j = 1 ∨ j = 2) with rfl | rfl | rfl <;> rfl
theorem zKR {k : Nat} (hk : k ≤ 3) {i : Int} (h0 : 0 ≤ i) (h1 : i < (k : Int)) : pick (alN k) i = vnm i.toNat := alN_get k hk _ (by omega)
theorem seq_uv : ∀ i, i < 2 → ∀ j, j < 3 → seq (unm i) (vnm j) = false := by decide +kernel
theorem seq_vv : ∀ i, i < 3 → ∀ j, j < 3 → i ≠ j → seq (vnm i) (vnm j) = false := by decide +kernel
theorem unm_at : ∀ b, b ≤ 2 → ∀ j, j < b → ixq (fun a => seq a (unm j)) ((List.range b).map unm) 0 = (j : Int) := by decide +kernel
theorem lck_u (ws ns : List Cst) (kn : List ByteArray) (N : Nat) (hN0 : 1 ≤ N) (hN : N ≤ 3) (b : Nat) (hb : b ≤ 2) (i : Nat) (hi : i < b) : lck (pwWs ws N) (pwTs ns kn b) (pwU ns (alN N) i).l (pwU ns (alN N) i).r (pwU ns (alN N) i).o = 0 := by
  have hp := zAQ (ns.getD i cst0).n (m := (N : Int)) (by omega)
  have e1 : (pwU ns (alN N) i).r = vnm (pkd (ns.getD i cst0).n (N : Int)).toNat := by unfold pwU; simp only; rw [zBB, zKR hN hp.1 hp.2]
  have e2 : (pwU ns (alN N) i).l = unm i := rfl
  have e3 : (pwU ns (alN N) i).o = [bnO (ns.getD i cst0)] := rfl
  rw [e1, e2, e3]
  generalize hq : (pkd (ns.getD i cst0).n (N : Int)).toNat = q
  have hqN : q < N := by omega
  have a1 : ptq (pwWs ws N) (vnm q) = (q : Int) := by rw [zDY, zBV]; exact zH3 N hN q hqN
  have a2 : ptq (pwTs ns kn b) (unm i) = (i : Int) := by rw [zDY, zHT ns kn b hb]; exact unm_at b hb i hi
  unfold lck
  rw [a1, a2, seq_uv i (by omega) q (by omega), if_neg (by omega), if_neg (by rintro (c | c); cases c; omega), if_neg (by simp)]
  simp only [ofs, ock_bn]
  rfl
theorem lck_b (ws : List Cst) (ns : List Pt) (N : Nat) (hN0 : 2 ≤ N) (hN : N ≤ 3) (b : Bd6) : lck (pwWs ws N) ns (pwBl b (alN N)).l (pwBl b (alN N)).r (pwBl b (alN N)).o = 0 := by
 have hl := zAQ b.l (m := (N : Int)) (by omega)
 have hr := zAQ b.r (m := (N : Int) - 1) (by omega)
 have e1 : (pwBl b (alN N)).l = vnm (pkd b.l (N : Int)).toNat := by unfold pwBl; simp only; rw [zBB, zKR hN hl.1 hl.2]
 obtain ⟨q, hq⟩ : ∃ q, (pkd b.l (N : Int) + 1 + pkd b.r ((N : Int) - 1)) % (N : Int) = q := ⟨_, rfl⟩
 have hq0 : 0 ≤ q := by rw [← hq]; exact Int.emod_nonneg _ (by omega)
 have hq1 : q < (N : Int) := by rw [← hq]; exact Int.emod_lt_of_pos _ (by omega)
 have hne : q ≠ pkd b.l (N : Int) := by
  rcases (by omega : N = 2 ∨ N = 3) with rfl | rfl <;> simp at hq hl hr ⊢ <;> omega
 have e2 : (pwBl b (alN N)).r = vnm q.toNat := by unfold pwBl; simp only; rw [zBB, hq, zKR hN hq0 hq1]
 obtain ⟨o1, o2, o3⟩ := ofs_S b
 have e3 : (pwBl b (alN N)).o = opS b := rfl
 rw [e1, e2, e3]
 generalize hl' : (pkd b.l (N : Int)).toNat = l
 generalize hr' : q.toNat = r
 have hlN : l < N := by omega
 have hrN : r < N := by omega
 have a1 : ptq (pwWs ws N) (vnm l) = (l : Int) := by rw [zDY, zBV]; exact zH3 N hN l hlN
 have a2 : ptq (pwWs ws N) (vnm r) = (r : Int) := by rw [zDY, zBV]; exact zH3 N hN r hrN
 unfold lck
 rw [a1, a2, seq_vv l (by omega) r (by omega) (by omega), if_neg (by omega), if_neg (by rintro (c | c); cases c; omega), if_neg (by omega)]
 exact o1
theorem zE9 (ws ns : List Pt) : ∀ (l r : List Lk), lfs 0 ws ns l = 0 → lfs 0 ws ns r = 0 → lfs 0 ws ns (l ++ r) = 0
 | [], r, _, h => h
 | x :: l, r, h, h2 => by
  rw [lfs] at h
  rw [List.cons_append, lfs]
  split at h
  . rename_i c; exact absurd h c
  . rename_i c
    rw [if_neg c]
    exact zE9 ws ns l r h h2
theorem zJ5 {ws ns : List Pt} {x : Lk} (h : lck ws ns x.l x.r x.o = 0) : lfs 0 ws ns [x] = 0 := by
  rw [lfs, h]; rfl
theorem lfs_u (ws ns : List Cst) (kn : List ByteArray) (N : Nat) (hN0 : 1 ≤ N) (hN : N ≤ 3) (b : Nat) (hb : b ≤ 2) : ∀ k, k ≤ b → lfs 0 (pwWs ws N) (pwTs ns kn b) (pwUs ns (alN N) k) = 0
  | 0, _ => rfl
  | k + 1, h => by rw [pwUs]; exact zE9 _ _ _ _ (lfs_u ws ns kn N hN0 hN b hb k (by omega)) (zJ5 (lck_u ws ns kn N hN0 hN b hb k (by omega)))
theorem lfs_b (ws : List Cst) (ns : List Pt) (bs : List Bd6) (N : Nat) (hN0 : 2 ≤ N) (hN : N ≤ 3) : ∀ k, lfs 0 (pwWs ws N) ns (pwBs bs (alN N) k) = 0
  | 0 => rfl
  | k + 1 => by rw [pwBs]; exact zE9 _ _ _ _ (lfs_b ws ns bs N hN0 hN k) (zJ5 (lck_b ws ns N hN0 hN _))
theorem eck_pw (ws : List Cst) (e : Int) (N : Nat) (hN : N ≤ 3) : eck kts (pwWs ws N) (pwE e (pwK ws N)).ty (pwE e (pwK ws N)).v = 0 := by
 unfold pwE
 by_cases c : pkd e 3 = 0
 . rw [if_pos c]; unfold eck; simp only [emp0]; simp
 . rw [if_neg c]
   have h9 := zAQ e (m := 9) (by decide)
   have ho : ∀ own, sdk kts (pwWs ws N) own (if (pwK ws N).length ≠ 0 ∧ pkd e 3 = 2 then ⟨3, 0, 0, txt [], (pwK ws N).getD 0 (txt []), txt [110]⟩ else numO (pkd e 9)) = (1, 0) := by
    intro own
    split
    . rename_i d
      obtain ⟨j, h1, h2, h3⟩ := zD5 ws N _ (zC3 (l := pwK ws N) (i := 0) (d := txt []) (by omega))
      rw [h2]
      exact zJU ws own N j hN h1 h3
    . exact zGI _ _ _ _ (by omega) (by omega)
   have hk : (if (pwK ws N).length ≠ 0 ∧ pkd e 3 = 2 then (⟨3, 0, 0, txt [], (pwK ws N).getD 0 (txt []), txt [110]⟩ : Opd) else numO (pkd e 9)).k ≠ 2 := by split <;> simp [numO]
   generalize (if (pwK ws N).length ≠ 0 ∧ pkd e 3 = 2 then (⟨3, 0, 0, txt [], (pwK ws N).getD 0 (txt []), txt [110]⟩ : Opd) else numO (pkd e 9)) = o at ho hk
   unfold eck
   simp only
   have q2 : tyq kts (txt [101]) = 4 := by kernel_rfl
   have q1 : emp (txt [101]) = false := by kernel_rfl
   rw [q1, q2, if_neg (by decide), if_neg (by decide), show (4 : Int).toNat = 4 from rfl, show (kts.getD 4 ⟨txt [], []⟩).f = [⟨txt [110], 1⟩] from rfl, if_neg (by simp)]
   simp only [evs, ho]
   rw [if_neg hk]
   simp
theorem pwB_in (p : Plt) : min p.t.length 2 + pwB p ≤ 6 := by unfold pwB; split <;> omega
theorem rck_pw {nm : ByteArray} (hn : frn nm = 0) (p : Plt) : rck kts (pwR nm p) = 0 := by
 have hL := pwL_in p.w
 have hz : szs (pwR nm p) := by
  have := pwB_in p
  unfold szs pwR
  simp only [zBG, zDH, zDN, List.length_append, zCM, zDO]
  omega
 rw [zCJ kts (pwR nm p) hn hz]
 have h1 : wfs 0 kts [] (pwR nm p).w = 0 := wfs_pw p.w (pwL p.w) hL.2 (pwL p.w) 0 (by omega)
 have h2 : nfs 0 kts (pwR nm p).w ((pwR nm p).w.map Pt.va) (pwR nm p).t = 0 := by
  show nfs 0 kts (pwWs p.w (pwL p.w)) ((pwWs p.w (pwL p.w)).map Pt.va) _ = 0
  rw [zBV]
  exact nfs_pw p.w p.t (pwL p.w) hL.2 _ (by omega)
 have h3 : mfs 0 kts (pwR nm p).w ((pwR nm p).w.map Pt.va ++ (pwR nm p).t.map Pt.va) (pwR nm p).m = 0 := by
  show mfs 0 kts (pwWs p.w (pwL p.w)) ((pwWs p.w (pwL p.w)).map Pt.va ++ (pwTs p.t (pwK p.w (pwL p.w)) (min p.t.length 2)).map Pt.va) _ = 0
  rw [zBV, zHT _ _ _ (by omega)]
  exact mfs_pw p.w p.m (pwL p.w) hL.2 _ (by omega) _ (by omega)
 have h4 : lfs 0 (pwR nm p).w (pwR nm p).t (pwR nm p).k = 0 := by
  refine zE9 _ _ _ _ (lfs_u p.w p.t _ (pwL p.w) hL.1 hL.2 _ (by omega) _ (Nat.le_refl _)) ?_
  by_cases c : pwL p.w = 1
  . have : pwB p = 0 := by unfold pwB; rw [if_pos c]
    rw [this]
    rfl
  . exact lfs_b p.w _ p.b (pwL p.w) (by omega) hL.2 _
 rw [h1, h2, h3, h4]
 simp only [ne_eq, not_true_eq_false, if_false]
 exact eck_pw p.w p.e (pwL p.w) hL.2
theorem frn_r : ∀ i, i < 4 → frn (rnm i) = 0 := by decide +kernel
theorem zEL (l : List Plt) : ∀ k, (pwRs l k).map Rl.n = (List.range k).map rnm
  | 0 => rfl
  | k + 1 => by rw [pwRs, List.map_append, zEL l k, List.range_succ, List.map_append]; rfl
theorem zK2 : ∀ k, k ≤ 4 → (k < 4 → ((List.range k).map rnm).any (fun d => seq d (rnm k)) = false) ∧ ((List.range k).map rnm).any (fun d => seq d hrd.n) = false := by decide +kernel
theorem rks_pw (l : List Plt) (n : Nat) (hn : n ≤ 4) (r : List Rl) : ∀ m k, k + m = n → rks (rck kts) (pwRs l k) ((pwRs l n).drop k ++ r) = rks (rck kts) (pwRs l n) r
 | 0, k, h => by
  obtain rfl : k = n := by omega
  rw [List.drop_of_length_le (by rw [zBH]; omega)]; rfl
 | m + 1, k, h => by
  have hg : ∀ n k, k < n → ∃ hk : k < (pwRs l n).length, (pwRs l n)[k] = pwR (rnm k) (l.getD k plt0) := by
   intro n
   induction n with
   | zero => intro k hk; omega
   | succ n ih =>
    intro k hk
    refine ⟨by rw [zBH]; exact hk, ?_⟩
    by_cases c : k < n
    . obtain ⟨h1, h2⟩ := ih k c
      simp only [pwRs]
      rw [List.getElem_append_left h1]
      exact h2
    . obtain rfl : k = n := by omega
      simp only [pwRs]
      rw [List.getElem_append_right (by rw [zBH]; omega)]
      simp [zBH]
  obtain ⟨hk1, hk2⟩ := hg n k (by omega)
  have ht : (pwRs l k).any (fun d => seq d.n (pwR (rnm k) (l.getD k plt0)).n) = false := by
   have := (zK2 k (by omega)).1 (by omega)
   rw [← zEL l k, List.any_map] at this
   exact this
  rw [List.drop_eq_getElem_cons hk1, hk2, List.cons_append, rks, rck_pw (frn_r k (by omega)), ht, if_neg (by decide), if_neg (by decide)]
  exact rks_pw l n hn r m (k + 1) (by omega)
def zGB (x : Rl) : Prop := emp x.e.ty = true ∨ (x.e.ty = txt [101] ∧ spk x.w x.t x.m (txt [101]) = false)
theorem zJ3 : ∀ j, j < 4 → seq (tyN j) (txt [101]) = false := by decide +kernel
theorem zHX (ws : List Cst) : ∀ k, (pwWs ws k).any (fun p => seq p.ty (txt [101])) = false
  | 0 => rfl
  | k + 1 => by rw [pwWs, List.any_append, zHX ws k]; simp only [List.any_cons, List.any_nil, Bool.false_or, Bool.or_false]; exact zJ3 _ (zD2 _)
theorem zHS (ws : List Cst) (kn : List ByteArray) : ∀ k, (pwTs ws kn k).any (fun p => seq p.ty (txt [101])) = false
  | 0 => rfl
  | k + 1 => by rw [pwTs, List.any_append, zHS ws kn k]; simp only [List.any_cons, List.any_nil, Bool.false_or, Bool.or_false]; exact zJ3 _ (zD2 _)
theorem zHC (ws : List Cst) (kn : List ByteArray) : ∀ k, (pwMs ws kn k).any (fun m => seq m.p.ty (txt [101])) = false
  | 0 => rfl
  | k + 1 => by rw [pwMs, List.any_append, zHC ws kn k]; simp only [List.any_cons, List.any_nil, Bool.false_or, Bool.or_false]; exact zJ3 _ (zD2 _)
theorem quiet_pw (nm : ByteArray) (p : Plt) : zGB (pwR nm p) := by
 unfold zGB
 by_cases c : pkd p.e 3 = 0
 . exact .inl (by show emp (pwE p.e _).ty = true; unfold pwE; rw [if_pos c]; exact emp0)
 . refine .inr ⟨by show (pwE p.e _).ty = _; unfold pwE; rw [if_neg c], ?_⟩
   unfold spk pwR
   simp only [zHX, zHS, zHC, Bool.or_self]
theorem zJJ : zGB hrd := .inl emp0
theorem quiet_bk (l : List Plt) : ∀ x, x ∈ pwBk l → zGB x := by
 have h : ∀ k, ∀ x, x ∈ pwRs l k → zGB x := by
   intro k
   induction k with
   | zero => intro x hx; cases hx
   | succ k ih =>
    intro x hx
    rw [pwRs] at hx
    rcases List.mem_append.1 hx with hx | hx
    . exact ih x hx
    . rw [List.mem_singleton.1 hx]; exact quiet_pw _ _
 intro x hx
 unfold pwBk at hx
 rcases List.mem_append.1 hx with hx | hx
 . exact h _ x hx
 . rw [List.mem_singleton.1 hx]; exact zJJ
theorem cmo_e {rs : List Rl} (h : ∀ x, x ∈ rs → zGB x) (t : ByteArray) : ∀ n, cmo rs t n (txt [101]) = false
 | 0 => rfl
 | n + 1 => by
  rw [cmo, List.any_eq_false]
  intro x hx
  rcases h x hx with c | ⟨c1, c2⟩
  . rw [c]; simp
  . rw [c2]; simp
theorem cmo_own {rs : List Rl} (h : ∀ x, x ∈ rs → zGB x) (t : ByteArray) (ht : seq (txt [101]) t = true → t = txt [101]) : ∀ n, cmo rs t n t = false
 | 0 => rfl
 | n + 1 => by
  rw [cmo, List.any_eq_false]
  intro x hx
  rcases h x hx with c | ⟨c1, c2⟩
  . rw [c]; simp
  . rw [c1, cmo_e h]
    cases hq : seq (txt [101]) t
    . simp
    . have := ht hq
      subst this
      rw [c2]; simp
theorem kts_e : ∀ t, t ∈ kts → seq (txt [101]) t.n = true → t.n = txt [101] := by
  intro t ht
  have : t = ⟨txt [97], [⟨txt [110], 1⟩]⟩ ∨ t = ⟨txt [98], [⟨txt [110], 1⟩, ⟨txt [115], 2⟩]⟩ ∨ t = ⟨txt [99], []⟩ ∨ t = ⟨txt [100], [⟨txt [110], 1⟩]⟩ ∨ t = ⟨txt [101], [⟨txt [110], 1⟩]⟩ := by simpa [kts] using ht
  rcases this with rfl | rfl | rfl | rfl | rfl
  . intro h; exact absurd h (by decide +kernel)
  . intro h; exact absurd h (by decide +kernel)
  . intro h; exact absurd h (by decide +kernel)
  . intro h; exact absurd h (by decide +kernel)
  . intro _; rfl
theorem cmo_kts {rs : List Rl} (h : ∀ x, x ∈ rs → zGB x) (n : Nat) : kts.any (fun t => cmo rs t.n n t.n) = false := by
  rw [List.any_eq_false]
  intro t ht
  rw [cmo_own h t.n (kts_e t ht)]
  simp
theorem len_bk (l : List Plt) : (pwBk l).length = min l.length 4 + 1 := by unfold pwBk; rw [List.length_append, zBH]; rfl
theorem rks_bk (l : List Plt) : rks (rck kts) [] (pwBk l) = 0 := by
 have h := rks_pw l (min l.length 4) (by omega) [hrd] (min l.length 4) 0 (by omega)
 unfold pwBk
 rw [List.drop_zero] at h
 refine h.trans ?_
 have ht : (pwRs l (min l.length 4)).any (fun d => seq d.n hrd.n) = false := by
  have := (zK2 (min l.length 4) (by omega)).2
  rw [← zEL l, List.any_map] at this
  exact this
 rw [rks, ht, show rck kts hrd = 0 from by kernel_rfl, if_neg (by decide), if_neg (by decide), rks]
theorem bok_pw (l : List Plt) : bok kts (pwBk l) = 0 := by
  unfold bok bkf
  rw [len_bk, rks_bk, if_neg (by rw [show kts.length = 5 from rfl]; omega), show tks [] kts = 0 from by kernel_rfl, cmo_kts (quiet_bk l)]
  simp
theorem zIP : (∀ j, (vnm j).size ≤ maxLen) ∧ (∀ j, (unm j).size ≤ maxLen) ∧ (txt []).size ≤ maxLen := by
 refine ⟨fun j => ?_, fun j => ?_, by decide⟩
 . unfold vnm; split
   . decide
   . split <;> decide
 . unfold unm; split <;> decide
theorem zBX {k : Int} {a b : Opd} (h1 : a.va.size ≤ maxLen) (h2 : b.va.size ≤ maxLen) : Wsz (cmpC k a b) := .mk _ [] rfl h1 h2 (fun x hx => by cases hx)
theorem zG1 {k : Int} {l : List Cn} (h : ∀ x, x ∈ l → Wsz x) : Wsz (grpC k l) := .mk _ l rfl (by show (txt []).size ≤ maxLen; decide) (by show (txt []).size ≤ maxLen; decide) h
theorem wsz_0 : Wsz cn0 := .mk _ [] rfl (by decide) (by decide) (fun x hx => by cases hx)
theorem wsz_wh (co at_ : Nat) (k : Int) (ot : Opd) (h : ot.va.size ≤ maxLen) : Wsz (whC co at_ k ot) := by
 have hn : nO.va.size ≤ maxLen := by decide
 have hk : ∀ q, (numO q).va.size ≤ maxLen := fun q => by show (txt []).size ≤ maxLen; decide
 unfold whC
 split
 . exact wsz_0
 . split
   . exact zBX (hk _) hn
   . split
     . exact zBX hn h
     . split
       . exact zBX hn h
       . split
         . exact zG1     (fun x hx => by
             rcases List.mem_cons.1 hx with rfl | hx
             . exact zBX hn (hk _)
             . rw [List.mem_singleton.1 hx]; exact zBX hn (hk _))
         . split
           . exact zG1     (fun x hx => by
               rcases List.mem_cons.1 hx with rfl | hx
               . exact zBX h hn
               . rw [List.mem_singleton.1 hx]
                 exact zG1 (fun y hy => by rw [List.mem_singleton.1 hy]; exact zBX hn (hk _)))
           . split
             . split
               . exact zBX (by show (txt []).size ≤ maxLen; decide) (by show (txt []).size ≤ maxLen; decide)
               . exact zBX hn h
             . exact wsz_0
theorem zDX {l : List ByteArray} (h : ∀ x, x ∈ l → x.size ≤ maxLen) (i : Nat) : (l.getD i (txt [])).size ≤ maxLen := by
  by_cases c : i < l.length
  . exact h _ (zC3 c)
  . rw [List.getD_eq_getElem?_getD, List.getElem?_eq_none (by omega)]; exact zIP.2.2
theorem sz_K (ws : List Cst) (k : Nat) : ∀ x, x ∈ pwK ws k → x.size ≤ maxLen := fun x hx => by
  obtain ⟨j, _, rfl, _⟩ := zD5 ws k x hx
  exact zIP.1 j
theorem sz_al (k : Nat) : ∀ x, x ∈ alN k → x.size ≤ maxLen := by
 induction k with
 | zero => intro x hx; cases hx
 | succ k ih =>
  intro x hx
  rw [alN] at hx
  rcases List.mem_append.1 hx with hx | hx
  . exact ih x hx
  . rw [List.mem_singleton.1 hx]; exact zIP.1 k
theorem zJA (c : Cst) (ws : List Cst) (k : Nat) : Wsz (pwC c (pwK ws k)) := by
  refine wsz_wh _ _ _ _ ?_
  unfold othO
  split
  . exact zIP.2.2
  . exact zDX (sz_K ws k) _
theorem szr_pw (nm : ByteArray) (p : Plt) : Szr (pwR nm p) := by
 refine ⟨?_, ?_, ?_, ?_, ?_⟩
 . show ∀ t, t ∈ pwWs p.w (pwL p.w) → Wsz t.c
   generalize pwL p.w = k
   induction k with
   | zero => intro t ht; cases ht
   | succ k ih =>
     intro t ht
     rw [pwWs] at ht
     rcases List.mem_append.1 ht with ht | ht
     . exact ih t ht
     . rw [List.mem_singleton.1 ht]; exact zJA _ _ _
 . show ∀ t, t ∈ pwTs p.t (pwK p.w (pwL p.w)) (min p.t.length 2) → Wsz t.c
   generalize min p.t.length 2 = k
   induction k with
   | zero => intro t ht; cases ht
   | succ k ih =>
     intro t ht
     rw [pwTs] at ht
     rcases List.mem_append.1 ht with ht | ht
     . exact ih t ht
     . rw [List.mem_singleton.1 ht]; exact zJA _ _ _
 . show ∀ t, t ∈ pwMs p.m (pwK p.w (pwL p.w)) (min p.m.length 2) → Wsz t.p.c
   generalize min p.m.length 2 = k
   induction k with
   | zero => intro t ht; cases ht
   | succ k ih =>
     intro t ht
     rw [pwMs] at ht
     rcases List.mem_append.1 ht with ht | ht
     . exact ih t ht
     . rw [List.mem_singleton.1 ht]; exact zJA _ _ _
 . show ∀ x, x ∈ pwUs p.t (alN (pwL p.w)) (min p.t.length 2) ++ pwBs p.b (alN (pwL p.w)) (pwB p) → x.l.size ≤ maxLen ∧ x.r.size ≤ maxLen
   intro x hx
   rcases List.mem_append.1 hx with hx | hx
   . revert hx
     generalize min p.t.length 2 = k
     induction k with
     | zero => intro ht; cases ht
     | succ k ih =>
       intro ht
       rw [pwUs] at ht
       rcases List.mem_append.1 ht with ht | ht
       . exact ih ht
       . rw [List.mem_singleton.1 ht]; exact ⟨zIP.2.1 k, zDX (sz_al _) _⟩
   . revert hx
     generalize pwB p = k
     induction k with
     | zero => intro ht; cases ht
     | succ k ih =>
       intro ht
       rw [pwBs] at ht
       rcases List.mem_append.1 ht with ht | ht
       . exact ih ht
       . rw [List.mem_singleton.1 ht]; exact ⟨zDX (sz_al _) _, zDX (sz_al _) _⟩
 . show ∀ o, o ∈ (pwE p.e (pwK p.w (pwL p.w))).v → o.va.size ≤ maxLen
   intro o ho
   unfold pwE at ho
   split at ho
   . cases ho
   . rw [List.mem_singleton.1 ho]
     split
     . exact zDX (sz_K _ _) _
     . exact zIP.2.2
theorem szr_hrd : Szr hrd := by
 refine ⟨?_, ?_, ?_, ?_, ?_⟩
 . intro t ht
   rw [show hrd.w = [⟨txt [120], txt [101], cmpC 6 (numO 1) nO, 1, 3⟩] from rfl] at ht
   rw [List.mem_singleton.1 ht]
   exact zBX (by decide) (by decide)
 . intro t ht; cases ht
 . intro t ht; cases ht
 . intro t ht; cases ht
 . intro t ht; cases ht
theorem szr_bk (l : List Plt) : ∀ x, x ∈ pwBk l → Szr x := by
 have h : ∀ k, ∀ x, x ∈ pwRs l k → Szr x := by
   intro k
   induction k with
   | zero => intro x hx; cases hx
   | succ k ih =>
    intro x hx
    rw [pwRs] at hx
    rcases List.mem_append.1 hx with hx | hx
    . exact ih x hx
    . rw [List.mem_singleton.1 hx]; exact szr_pw _ _
 intro x hx
 unfold pwBk at hx
 rcases List.mem_append.1 hx with hx | hx
 . exact h _ x hx
 . rw [List.mem_singleton.1 hx]; exact szr_hrd
end Go.Proofs.YtnlmknbhppdliaaGreatDoor.Chk
