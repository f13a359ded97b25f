/-
  Does a condition hold, by the program.
-/
import Derived.Test.YtnlmknbhppdliaaGreatDoorRa
set_option maxHeartbeats 64000000
namespace Go.Proofs.YtnlmknbhppdliaaGreatDoor.Chk
open Go.ChangeShapes Go.WideShapes Go.ChangeAt Go.RowKit Go.Maps
set_option linter.unusedVariables false
set_option linter.unusedSimpArgs false
set_option maxRecDepth 20000
theorem zFI : ∀ args w, (callFunc 112 args).run Tryz.prog w = .ok (.enter 112 args) w := enters_of Tryz.func112 (by kernel_rfl) rfl
theorem ent_cmpr : ∀ args w, (callFunc 111 args).run Tryz.prog w = .ok (.enter 111 args) w := enters_of Tryz.func111 (by kernel_rfl) rfl
theorem zGW : ∀ args w, (callFunc 70 args).run Tryz.prog w = .ok (.enter 70 args) w := enters_of Tryz.func70 (by kernel_rfl) rfl
theorem zF5 (ts : List Tp) (ws : List Pt) (own : Ev) (kn : List Ev) (tv ov wv kv : Value) (hk : Sok ts ws own kn) (c : Cn) (cv : Value) (w : World) (hs : Scn w ts ws own kn tv ov wv kv) (hcs : ∃ p n m, cv = .slice p n m) (h4 : 4 ≤ c.k) (h7 : c.k ≤ 7) (hl : (sdk ts ws (ts.getD own.t.toNat dT) c.l).2 = 0) (hr : (sdk ts ws (ts.getD own.t.toNat dT) c.r).2 = 0) (hlr : (sdk ts ws (ts.getD own.t.toNat dT) c.l).1 = (sdk ts ws (ts.getD own.t.toNat dT) c.r).1) :
   Calls Tryz.prog 71 #[snV tv own ov wv kv, cnV c.k cv c.l c.r] w fun e w' => e = .returned (.bool (cmb c.k (V4.ord (svl ts ws own kn c.l) (svl ts ws own kn c.r)))) ∧ Below w.heap.size w w' := by
 have hSL := fun W (hW : Below w.heap.size w W) => side_s ts ws own kn tv ov wv kv hk c.l W (hs.later hW) hl
 have hSR := fun W (hW : Below w.heap.size w W) => side_s ts ws own kn tv ov wv kv hk c.r W (hs.later hW) hr
 obtain ⟨a1, a2⟩ := svl_ok hl hk.ev hk.kn
 obtain ⟨b1, b2⟩ := svl_ok hr hk.ev hk.kn
 have hCP := fun W => V4.compare_any (svl ts ws own kn c.l) (svl ts ws own kn c.r) W
 have e1 : V4.cmpE (svl ts ws own kn c.l) (svl ts ws own kn c.r) = 0 := by
   unfold V4.cmpE
   rw [if_neg (fun x => x a1), if_neg (fun x => x b1), if_neg (fun x => x (by rw [a2, b2]; exact hlr))]
 have e2 : V4.cmpV (svl ts ws own kn c.l) (svl ts ws own kn c.r) = V4.ord (svl ts ws own kn c.l) (svl ts ws own kn c.r) := by
   unfold V4.cmpV
   rw [if_neg (fun x => x e1)]
 rw [e1, e2] at hCP
 obtain ⟨N, hN⟩ : ∃ N, V4.ord (svl ts ws own kn c.l) (svl ts ws own kn c.r) = N := ⟨_, rfl⟩
 rw [hN] at hCP ⊢
 obtain ⟨⟨ak, an, as_⟩, hva⟩ : ∃ v, svl ts ws own kn c.l = v := ⟨_, rfl⟩
 obtain ⟨⟨bk, bn, bs⟩, hvb⟩ : ∃ v, svl ts ws own kn c.r = v := ⟨_, rfl⟩
 rw [hva] at hSL hCP
 rw [hvb] at hSR hCP
 clear a1 a2 b1 b2 e1 e2 hN hva hvb hl hr hlr
 obtain ⟨cp, cn, cc, hcv⟩ := hcs
 obtain ⟨tp, tn, tc, htv⟩ := zAB hs.rt
 obtain ⟨op, on2, oc, hov⟩ := zAB hs.ro
 obtain ⟨wp, wn, wc, hwv⟩ := zAB hs.rw
 obtain ⟨kp, kn2, kc, hkv⟩ := zAB hs.rk
 subst htv hov hwv hkv hcv
 obtain ⟨on, ot, ost, oen, ovl⟩ := own
 obtain ⟨ck, csb, ⟨lk, lvk, lvi, lvt, lva, lfd⟩, ⟨rk, rvk, rvi, rvt, rva, rfd⟩⟩ := c
 have hB : Bxs w ((w.alloc (.cells #[.slice tp tn tc, .int .i64 on, .int .i64 ot, .int .i64 ost, .int .i64 oen, .slice op on2 oc, .slice wp wn wc, .slice kp kn2 kc] 100)).alloc (.cells #[.int .i64 ck, .slice cp cn cc, .int .i64 lk, .int .i64 lvk, .int .i64 lvi, .string lvt, .string lva, .string lfd, .int .i64 rk, .int .i64 rvk, .int .i64 rvi, .string rvt, .string rva, .string rfd] 46)) [([.slice tp tn tc, .int .i64 on, .int .i64 ot, .int .i64 ost, .int .i64 oen, .slice op on2 oc, .slice wp wn wc, .slice kp kn2 kc], 100), ([.int .i64 ck, .slice cp cn cc, .int .i64 lk, .int .i64 lvk, .int .i64 lvi, .string lvt, .string lva, .string lfd, .int .i64 rk, .int .i64 rvk, .int .i64 rvi, .string rvt, .string rva, .string rfd], 46)] := bxs2 w _ _ _ _
 simp only at h4 h7 hSL hSR ⊢
 obtain ⟨UL, hUL⟩ : ∃ UL : List Value, [.slice tp tn tc, .int .i64 on, .int .i64 ot, .int .i64 ost, .int .i64 oen, .slice op on2 oc, .slice wp wn wc, .slice kp kn2 kc] = UL := ⟨_, rfl⟩
 obtain ⟨LL, hLL⟩ : ∃ LL : List Value, [.int .i64 lk, .int .i64 lvk, .int .i64 lvi, .string lvt, .string lva, .string lfd] = LL := ⟨_, rfl⟩
 obtain ⟨RL, hRL⟩ : ∃ RL : List Value, [.int .i64 rk, .int .i64 rvk, .int .i64 rvi, .string rvt, .string rva, .string rfd] = RL := ⟨_, rfl⟩
 have HSL : Hid (∀ W, Below w.heap.size w W → Calls Tryz.prog 112 #[.agg UL.toArray, .agg LL.toArray] W fun e w' => e = .returned (V4.vV ⟨ak, an, as_⟩) ∧ Below W.heap.size W w') := fun W hW => by rw [← hUL, ← hLL]; exact hSL W hW
 have HSR : Hid (∀ W, Below w.heap.size w W → Calls Tryz.prog 112 #[.agg UL.toArray, .agg RL.toArray] W fun e w' => e = .returned (V4.vV ⟨bk, bn, bs⟩) ∧ Below W.heap.size W w') := fun W hW => by rw [← hUL, ← hRL]; exact hSR W hW
 have HCP := hid hCP
 have HS : Hid (∀ W, Bxs w W [([.slice tp tn tc, .int .i64 on, .int .i64 ot, .int .i64 ost, .int .i64 oen, .slice op on2 oc, .slice wp wn wc, .slice kp kn2 kc], 100), ([.int .i64 ck, .slice cp cn cc, .int .i64 lk, .int .i64 lvk, .int .i64 lvi, .string lvt, .string lva, .string lfd, .int .i64 rk, .int .i64 rvk, .int .i64 rvi, .string rvt, .string rva, .string rfd], 46)] → (W.rangeAt w.heap.size 0 UL ∧ W.rangeAt (w.heap.size + 1) 2 LL ∧ W.rangeAt (w.heap.size + 1) 8 RL)) := fun W h => ⟨by rw [← hUL]; exact h.r 0 (by simp), by rw [← hLL]; exact zBP (h.b 1 (by simp)) (C := [.int .i64 ck, .slice cp cn cc]) (B := [.int .i64 lk, .int .i64 lvk, .int .i64 lvi, .string lvt, .string lva, .string lfd] ++ [.int .i64 rk, .int .i64 rvk, .int .i64 rvi, .string rvt, .string rva, .string rfd]) rfl rfl 6, by rw [← hRL]; exact zBP (h.b 1 (by simp)) (C := [.int .i64 ck, .slice cp cn cc] ++ [.int .i64 lk, .int .i64 lvk, .int .i64 lvi, .string lvt, .string lva, .string lfd]) (B := [.int .i64 rk, .int .i64 rvk, .int .i64 rvi, .string rvt, .string rva, .string rfd]) rfl rfl 6⟩
 have ZU : Hid ((Tryz.prog.info? 100).map (·.size) = some UL.length) := by show _ = _; rw [← hUL]; kernel_rfl
 have ZL : Hid ((Tryz.prog.info? 44).map (·.size) = some LL.length) := by show _ = _; rw [← hLL]; kernel_rfl
 have ZR : Hid ((Tryz.prog.info? 44).map (·.size) = some RL.length) := by show _ = _; rw [← hRL]; kernel_rfl
 have HB := hid hB
 have HD := hid (hB.next (Below.drew (Below.refl _ _)))
 clear hB hs hk hSL hSR hCP hUL hLL hRL
 go_enter Tryz.func71, Tryz.ntmps71
 go_wp2_with fail
 refine zBC (S := (fun w' => w'.rangeAt w.heap.size 0 UL ∧ w'.rangeAt (w.heap.size + 1) 2 LL ∧ w'.rangeAt (w.heap.size + 1) 8 RL)) 14 #[false, false, false, false, false, false, false, false, false, false, false, false, false, false] rfl rfl (by kernel_rfl) (HS.out _ HD.out) (fun hHeld => ?_)
 refine tkq (i := 1) (v := ?v1) rfl ?hy1 ?rest1; (case hy1 => intro w0 hSw; (try dsimp only at hSw); go_simp <;> (try (with_reducible rfl))); (try simp only [puts])
 refine tkq (i := 5) (v := ?v2) rfl ?hy2 ?rest2; (case hy2 => intro w0 hSw; (try dsimp only at hSw); go_simp <;> (try (with_reducible rfl))); (try simp only [puts])
 refine tlq (i := 0) rfl (yieldsIf_load_mid (by rfl) 100 _ rfl w.heap.size (0) (by rfl) UL _ (fun _ h => h.1) Tryz.underlying100 rfl ZU.out) ?_
 (try simp only [puts])
 refine tlq (i := 2) rfl (yieldsIf_load_mid (by rfl) 44 _ rfl (w.heap.size + 1) (2) (by rfl) LL _ (fun _ h => h.2.1) Tryz.underlying44 rfl ZL.out) ?_
 (try simp only [puts])
 refine tlq (i := 4) rfl (yieldsIf_load_mid (by rfl) 100 _ rfl w.heap.size (0) (by rfl) UL _ (fun _ h => h.1) Tryz.underlying100 rfl ZU.out) ?_
 (try simp only [puts])
 refine tlq (i := 6) rfl (yieldsIf_load_mid (by rfl) 44 _ rfl (w.heap.size + 1) (8) (by rfl) RL _ (fun _ h => h.2.2) Tryz.underlying44 rfl ZR.out) ?_
 (try simp only [puts])
 refine wpAnyH_ready (rs := [3]) (by kernel_rfl) (by simp) ?_
 refine zAV rfl (fun K hK => ?_) AllReadyH.nil
 refine zAX 112 zFI (by rfl) _ _ _ (by rfl) (.agg UL.toArray) (.agg LL.toArray) (by rfl) (by rfl) _ (HSL.out _ HD.out.bel) ?_
 rintro e w3 ⟨rfl, hb3⟩
 refine ⟨_, rfl, ?_⟩
 have HB3 := hid (HD.out.next hb3)
 clear hb3
 refine hK.out _ _ (HS.out _ HB3.out) (fun hHeld => ?_)
 clear hK K
 (try simp only [puts])
 refine wpAnyH_ready (rs := [7]) (by kernel_rfl) (by simp) ?_
 refine zAV rfl (fun K hK => ?_) AllReadyH.nil
 refine zAX 112 zFI (by rfl) _ _ _ (by rfl) (.agg UL.toArray) (.agg RL.toArray) (by rfl) (by rfl) _ (HSR.out _ HB3.out.bel) ?_
 rintro e w4 ⟨rfl, hb4⟩
 refine ⟨_, rfl, ?_⟩
 have HB4 := hid (HB3.out.next hb4)
 clear hb4
 refine hK.out _ _ (HS.out _ HB4.out) (fun hHeld => ?_)
 clear hK K
 (try simp only [puts])
 refine wpAnyH_ready (rs := [8]) (by kernel_rfl) (by simp) ?_
 refine zAV rfl (fun K hK => ?_) AllReadyH.nil
 refine zAX 111 ent_cmpr (by rfl) _ _ _ (by rfl) (V4.vV ⟨ak, an, as_⟩) (V4.vV ⟨bk, bn, bs⟩) (by rfl) (by rfl) _ (HCP.out _) ?_
 rintro e w5 ⟨rfl, hb5⟩
 refine ⟨_, rfl, ?_⟩
 have HB5 := hid (HB4.out.next hb5)
 clear hb5
 refine hK.out _ _ (HS.out _ HB5.out) (fun hHeld => ?_)
 clear hK K
 (try simp only [puts])
 refine tkq (i := 9) (v := ?v3) rfl ?hy3 ?rest3; (case hy3 => intro w0 hSw; (try dsimp only at hSw); go_simp <;> (try (with_reducible rfl))); (try simp only [puts])
 refine tkq (i := 10) (v := ?v4) rfl ?hy4 ?rest4; (case hy4 => intro w0 hSw; (try dsimp only at hSw); go_simp <;> (try (with_reducible rfl))); (try simp only [puts])
 refine tkq (i := 11) (v := ?v5) rfl ?hy5 ?rest5; (case hy5 => intro w0 hSw; (try dsimp only at hSw); go_simp <;> (try (with_reducible rfl))); (try simp only [puts])
 refine tkq (i := 12) (v := ?v6) rfl ?hy6 ?rest6; (case hy6 => intro w0 hSw; (try dsimp only at hSw); go_simp <;> (try (with_reducible rfl))); (try simp only [puts])
 refine tkq (i := 13) (v := ?v7) rfl ?hy7 ?rest7; (case hy7 => intro w0 hSw; (try dsimp only at hSw); go_simp <;> (try (with_reducible rfl))); (try simp only [puts])
 refine wpAnyH_done (by kernel_rfl) ?_ _
 have c0 : w5.cell? ⟨w.heap.size + 1, 0, none⟩ = some (.int .i64 ck) := HB5.out.c 1 (by simp) 0
 clear HSL HSR HCP HS ZU ZL ZR HB HD HB3 HB4
 rcases (by omega : ck = 4 ∨ ck = 5 ∨ ck = 6 ∨ ck = 7) with rfl | rfl | rfl | rfl
 . go_wp2_with fail
   go_ret
   exact ⟨zAO (by rw [Bool.eq_iff_iff]; simp [cmb]), HB5.out.bel⟩
 . go_wp2_with fail
   go_ret
   exact ⟨zAO (by rw [Bool.eq_iff_iff]; simp [cmb]), HB5.out.bel⟩
 . go_wp2_with fail
   go_ret
   exact ⟨zAO (by rw [Bool.eq_iff_iff]; simp [cmb]), HB5.out.bel⟩
 . go_wp2_with fail
   go_ret
   exact ⟨zAO (by rw [Bool.eq_iff_iff]; simp [cmb]), HB5.out.bel⟩
def Hok (F : FuncId) (q : Cn → Bool) (ts : List Tp) (ws : List Pt) (own : Ev) (kn : List Ev) (tv ov wv kv : Value) (n : Nat) : Prop :=
  ∀ (c : Cn) (cv : Value) (w : World), Scn w ts ws own kn tv ov wv kv → Rd w (.row 46 14 c.sb) cv → Wsz c → (cdk ts ws (ts.getD own.t.toNat dT) n c).2 = 0 → Calls Tryz.prog F #[snV tv own ov wv kv, cnV c.k cv c.l c.r] w fun e w' => e = .returned (.bool (q c)) ∧ Below w.heap.size w w'
theorem fails_s (ts : List Tp) (ws : List Pt) (own : Ev) (kn : List Ev) (tv ov wv kv : Value) (n : Nat) (ih : Hok 45 (hld ts ws own kn n) ts ws own kn tv ov wv kv n) : Hok 70 (fun c => !(hld ts ws own kn n c)) ts ws own kn tv ov wv kv n := by
 intro c cv w hs hcr hw hd
 have hH := fun W (hW : Below w.heap.size w W) => ih c cv W (hs.later hW) (hcr.later hW) hw hd
 obtain ⟨q, hq⟩ : ∃ q, hld ts ws own kn n c = q := ⟨_, rfl⟩
 rw [hq] at hH
 simp only [hq]
 obtain ⟨cp, cn, cc, hcv⟩ := zAB hcr
 clear hw hd hq ih
 obtain ⟨tp, tn, tc, htv⟩ := zAB hs.rt
 obtain ⟨op, on2, oc, hov⟩ := zAB hs.ro
 obtain ⟨wp, wn, wc, hwv⟩ := zAB hs.rw
 obtain ⟨kp, kn2, kc, hkv⟩ := zAB hs.rk
 subst htv hov hwv hkv hcv
 obtain ⟨on, ot, ost, oen, ovl⟩ := own
 obtain ⟨ck, csb, ⟨lk, lvk, lvi, lvt, lva, lfd⟩, ⟨rk, rvk, rvi, rvt, rva, rfd⟩⟩ := c
 have hB : Bxs w ((w.alloc (.cells #[.slice tp tn tc, .int .i64 on, .int .i64 ot, .int .i64 ost, .int .i64 oen, .slice op on2 oc, .slice wp wn wc, .slice kp kn2 kc] 100)).alloc (.cells #[.int .i64 ck, .slice cp cn cc, .int .i64 lk, .int .i64 lvk, .int .i64 lvi, .string lvt, .string lva, .string lfd, .int .i64 rk, .int .i64 rvk, .int .i64 rvi, .string rvt, .string rva, .string rfd] 46)) [([.slice tp tn tc, .int .i64 on, .int .i64 ot, .int .i64 ost, .int .i64 oen, .slice op on2 oc, .slice wp wn wc, .slice kp kn2 kc], 100), ([.int .i64 ck, .slice cp cn cc, .int .i64 lk, .int .i64 lvk, .int .i64 lvi, .string lvt, .string lva, .string lfd, .int .i64 rk, .int .i64 rvk, .int .i64 rvi, .string rvt, .string rva, .string rfd], 46)] := bxs2 w _ _ _ _
 simp only at hH ⊢
 have HH := hid hH
 have HB := hid hB
 have XS := hid (hB.r 0 (by simp))
 have XC := hid (hB.r 1 (by simp))
 clear hB hs hcr hH
 go_enter Tryz.func70, Tryz.ntmps70
 go_wp2_with (first
   | ((with_reducible refine gLq ?_); refine wpList_load_mid (by rfl) 100 _ (by rfl) w.heap.size 0 (by rfl) [.slice tp tn tc, .int .i64 on, .int .i64 ot, .int .i64 ost, .int .i64 oen, .slice op on2 oc, .slice wp wn wc, .slice kp kn2 kc] _ XS.out Tryz.underlying100 rfl (by kernel_rfl) ?_)
   | ((with_reducible refine gLq ?_); refine wpList_load_mid (by rfl) 46 _ (by rfl) (w.heap.size + 1) 0 (by rfl) [.int .i64 ck, .slice cp cn cc, .int .i64 lk, .int .i64 lvk, .int .i64 lvi, .string lvt, .string lva, .string lfd, .int .i64 rk, .int .i64 rvk, .int .i64 rvi, .string rvt, .string rva, .string rfd] _ XC.out Tryz.underlying46 rfl (by kernel_rfl) ?_))
 refine (HH.out _ HB.out.bel).mono ?_
 rintro e w1 ⟨rfl, hb1⟩
 have HB1 := hid (HB.out.next hb1)
 clear hb1
 cases q <;>
 . go_wp2_with fail
   go_ret
   exact ⟨rfl, HB1.out.bel⟩
theorem zFQ (ts : List Tp) (ws : List Pt) (own : Ev) (kn : List Ev) (tv ov wv kv : Value) (n : Nat) (Q : Cn → Bool) (ih : Hok 45 Q ts ws own kn tv ov wv kv n) (cs : List Cn) (hcs : ∀ c, c ∈ cs → Wsz c ∧ (cdk ts ws (ts.getD own.t.toNat dT) n c).2 = 0) (v : Value) (w : World) (hs : Scn w ts ws own kn tv ov wv kv) (h : Rd w (.row 46 14 (cs.map encC)) v) :
  Calls Tryz.prog 110 #[v, .func (.func 45) #[snV tv own ov wv kv] #[]] w fun e w' => e = .returned (.int .i64 (ixq Q cs 0)) ∧ Below w.heap.size w w' := by
 obtain ⟨p, cap, rfl, hmx, hat⟩ := zAG lenC h
 have HAT : Hid (At encC 14 w p cs) := hat
 obtain ⟨m, hnl⟩ : ∃ n, cs.length = n := ⟨_, rfl⟩
 have HN := hid hnl
 have HS := hid hs
 rw [hnl] at hmx ⊢
 obtain ⟨SV, hSV⟩ : ∃ SV, snV tv own ov wv kv = SV := ⟨_, rfl⟩
 have HCL : Hid (∀ (k : Nat) (hk : k < cs.length) W, Below w.heap.size w W → ∀ A, RdL W (encC cs[k]) A → Calls Tryz.prog 45 #[SV, .agg A.toArray] W fun e w' => e = .returned (.bool (Q cs[k])) ∧ Below W.heap.size W w') := fun k hk W hW A hA => by
  obtain ⟨cv, z1, o2⟩ := zCI hA
  rw [z1, ← hSV]
  exact ih cs[k] cv W (HS.out.later hW) o2 (hcs _ (List.getElem_mem hk)).1 (hcs _ (List.getElem_mem hk)).2
 rw [hSV]
 clear h hat hnl hs ih hcs hSV
 go_enter Tryz.func110, Tryz.ntmps110
 go_wp2_with fail
 go_loopg [8] (m + 1) (fun gg i wr => ∃ k : Nat, k ≤ m ∧ gg = m + 1 - k ∧ i = .int .i64 (k : Nat) ∧ (∀ (j : Nat) (hj : j < cs.length), j < k → Q cs[j] = false) ∧ Below w.heap.size w wr)
 case atStart => exact ⟨0, by omega, by omega, rfl, fun j _ h => by omega, Below.refl _ _⟩
 case round =>
  obtain ⟨k, hk, rfl, rfl, hno, hB⟩ := hrel
  have HB := hid hB
  by_cases hlt : k < m
  . have hkc : k < cs.length := by have := HN.out; omega
    obtain ⟨g, off, rfl, hrd⟩ := HAT.out (by omega)
    obtain ⟨A, r1, o1⟩ := hrd wr hB k hkc
    have hAz : A.length = 14 := o1.1.symm
    have ZA : Hid ((Tryz.prog.info? 46).map (·.size) = some A.length) := by show _ = _; rw [hAz]; kernel_rfl
    have HCM := hid (HCL.out k hkc wr hB A o1)
    have HNO := hid hno
    obtain ⟨q, hq⟩ : ∃ q, Q cs[k] = q := ⟨_, rfl⟩
    have HQK : Hid (Q cs[k] = q) := hq
    rw [hq] at HCM
    have X1_ := hid r1
    have i1 : (0 : Int) ≤ (k : Int) := by omega
    have i2 : (k : Int) < (m : Int) := by omega
    clear hno hB hrd o1 r1 hq hAz
    cases q with
    | true =>
     go_wp2_with (first
      | ((with_reducible refine gLq ?_); refine wpList_load_mid (by rfl) 46 _ (by rfl) g (off + k * 14) (by rfl) A _ X1_.out Tryz.underlying46 rfl ZA.out ?_)
      | (go_at_call 45; refine HCM.out.mono ?_; rintro e w2 ⟨rfl, hb2⟩; have HB2 := hid (zAA HB.out hb2 HB.out.size); clear hb2))
     go_ret
     exact ⟨zAD (by show (k : Int) = ixq _ _ _; rw [zBB (q := Q) cs 0 k hkc (fun j hj => HNO.out j (by omega) hj) (by exact HQK.out)]; simp), HB2.out⟩
    | false =>
     go_wp2_with (first
      | ((with_reducible refine gLq ?_); refine wpList_load_mid (by rfl) 46 _ (by rfl) g (off + k * 14) (by rfl) A _ X1_.out Tryz.underlying46 rfl ZA.out ?_)
      | (go_at_call 45; refine HCM.out.mono ?_; rintro e w2 ⟨rfl, hb2⟩; have HB2 := hid (zAA HB.out hb2 HB.out.size); clear hb2))
     go_roundg (m + 1 - (k + 1))
     case rel =>
      refine ⟨k + 1, by omega, rfl, by go_num, fun j hj hjk => ?_, HB2.out⟩
      by_cases c : j < k
      . exact HNO.out j hj c
      . obtain rfl : j = k := by omega
        exact HQK.out
     case measure => omega
  . obtain rfl : k = m := by omega
    have HR := hid (show ixq Q cs 0 = -1 from zAZ _ _ (fun x hx => by
     obtain ⟨j, hj, rfl⟩ := List.getElem_of_mem hx
     exact hno j hj (by have := HN.out; omega)))
    clear hno hB
    go_wp2_with fail
    go_ret
    exact ⟨zAD HR.out.symm, HB.out⟩
theorem zDK (ts : List Tp) (ws : List Pt) (own : Ev) (kn : List Ev) (tv ov wv kv : Value) (n : Nat) (Q : Cn → Bool) (ih : Hok 45 Q ts ws own kn tv ov wv kv n) (cs : List Cn) (hcs : ∀ c, c ∈ cs → Wsz c ∧ (cdk ts ws (ts.getD own.t.toNat dT) n c).2 = 0) (v : Value) (w : World) (hs : Scn w ts ws own kn tv ov wv kv) (h : Rd w (.row 46 14 (cs.map encC)) v) (q : Bool) (hq : cs.any Q = q) :
   Calls Tryz.prog 69 #[v, .func (.func 45) #[snV tv own ov wv kv] #[]] w fun e w' => e = .returned (.bool q) ∧ Below w.heap.size w w' := by
 have hC := zFQ ts ws own kn tv ov wv kv n Q ih cs hcs v w hs h
 obtain ⟨p, l, cap, rfl⟩ := zAB h
 have ha := zBV (q := Q) cs 0
 rw [hq] at ha
 obtain ⟨x, hx⟩ : ∃ x, ixq Q cs 0 = x := ⟨_, rfl⟩
 rw [hx] at ha hC
 have d : decide (0 ≤ x) = q := by cases q <;> simp_all
 obtain ⟨SV, hSV⟩ : ∃ SV, snV tv own ov wv kv = SV := ⟨_, rfl⟩
 rw [hSV] at hC ⊢
 have HC := hid hC
 clear hx hq h ha hs hcs ih hC hSV
 cases q <;>
 . go_enter Tryz.func69, Tryz.ntmps69
   go_wp2_with fail
   refine HC.out.mono ?_
   rintro e w2 ⟨rfl, hb2⟩
   have HB := hid hb2
   clear hb2
   go_wp2_with fail
   go_ret
   exact ⟨rfl, HB.out⟩
theorem zFY (ts : List Tp) (ws : List Pt) (own : Ev) (kn : List Ev) (tv ov wv kv : Value) (n : Nat) (Q : Cn → Bool) (ih : Hok 70 Q ts ws own kn tv ov wv kv n) (cs : List Cn) (hcs : ∀ c, c ∈ cs → Wsz c ∧ (cdk ts ws (ts.getD own.t.toNat dT) n c).2 = 0) (v : Value) (w : World) (hs : Scn w ts ws own kn tv ov wv kv) (h : Rd w (.row 46 14 (cs.map encC)) v) :
  Calls Tryz.prog 110 #[v, .func (.func 70) #[snV tv own ov wv kv] #[]] w fun e w' => e = .returned (.int .i64 (ixq Q cs 0)) ∧ Below w.heap.size w w' := by
 obtain ⟨p, cap, rfl, hmx, hat⟩ := zAG lenC h
 have HAT : Hid (At encC 14 w p cs) := hat
 obtain ⟨m, hnl⟩ : ∃ n, cs.length = n := ⟨_, rfl⟩
 have HN := hid hnl
 have HS := hid hs
 rw [hnl] at hmx ⊢
 obtain ⟨SV, hSV⟩ : ∃ SV, snV tv own ov wv kv = SV := ⟨_, rfl⟩
 have HCL : Hid (∀ (k : Nat) (hk : k < cs.length) W, Below w.heap.size w W → ∀ A, RdL W (encC cs[k]) A → Calls Tryz.prog 70 #[SV, .agg A.toArray] W fun e w' => e = .returned (.bool (Q cs[k])) ∧ Below W.heap.size W w') := fun k hk W hW A hA => by
  obtain ⟨cv, z1, o2⟩ := zCI hA
  rw [z1, ← hSV]
  exact ih cs[k] cv W (HS.out.later hW) o2 (hcs _ (List.getElem_mem hk)).1 (hcs _ (List.getElem_mem hk)).2
 rw [hSV]
 clear h hat hnl hs ih hcs hSV
 go_enter Tryz.func110, Tryz.ntmps110
 go_wp2_with fail
 go_loopg [8] (m + 1) (fun gg i wr => ∃ k : Nat, k ≤ m ∧ gg = m + 1 - k ∧ i = .int .i64 (k : Nat) ∧ (∀ (j : Nat) (hj : j < cs.length), j < k → Q cs[j] = false) ∧ Below w.heap.size w wr)
 case atStart => exact ⟨0, by omega, by omega, rfl, fun j _ h => by omega, Below.refl _ _⟩
 case round =>
  obtain ⟨k, hk, rfl, rfl, hno, hB⟩ := hrel
  have HB := hid hB
  by_cases hlt : k < m
  . have hkc : k < cs.length := by have := HN.out; omega
    obtain ⟨g, off, rfl, hrd⟩ := HAT.out (by omega)
    obtain ⟨A, r1, o1⟩ := hrd wr hB k hkc
    have hAz : A.length = 14 := o1.1.symm
    have ZA : Hid ((Tryz.prog.info? 46).map (·.size) = some A.length) := by show _ = _; rw [hAz]; kernel_rfl
    have HCM := hid (HCL.out k hkc wr hB A o1)
    have HNO := hid hno
    obtain ⟨q, hq⟩ : ∃ q, Q cs[k] = q := ⟨_, rfl⟩
    have HQK : Hid (Q cs[k] = q) := hq
    rw [hq] at HCM
    have X1_ := hid r1
    have i1 : (0 : Int) ≤ (k : Int) := by omega
    have i2 : (k : Int) < (m : Int) := by omega
    clear hno hB hrd o1 r1 hq hAz
    cases q with
    | true =>
     go_wp2_with (first
      | ((with_reducible refine gLq ?_); refine wpList_load_mid (by rfl) 46 _ (by rfl) g (off + k * 14) (by rfl) A _ X1_.out Tryz.underlying46 rfl ZA.out ?_)
      | (go_at_call 70; refine HCM.out.mono ?_; rintro e w2 ⟨rfl, hb2⟩; have HB2 := hid (zAA HB.out hb2 HB.out.size); clear hb2))
     go_ret
     exact ⟨zAD (by show (k : Int) = ixq _ _ _; rw [zBB (q := Q) cs 0 k hkc (fun j hj => HNO.out j (by omega) hj) (by exact HQK.out)]; simp), HB2.out⟩
    | false =>
     go_wp2_with (first
      | ((with_reducible refine gLq ?_); refine wpList_load_mid (by rfl) 46 _ (by rfl) g (off + k * 14) (by rfl) A _ X1_.out Tryz.underlying46 rfl ZA.out ?_)
      | (go_at_call 70; refine HCM.out.mono ?_; rintro e w2 ⟨rfl, hb2⟩; have HB2 := hid (zAA HB.out hb2 HB.out.size); clear hb2))
     go_roundg (m + 1 - (k + 1))
     case rel =>
      refine ⟨k + 1, by omega, rfl, by go_num, fun j hj hjk => ?_, HB2.out⟩
      by_cases c : j < k
      . exact HNO.out j hj c
      . obtain rfl : j = k := by omega
        exact HQK.out
     case measure => omega
  . obtain rfl : k = m := by omega
    have HR := hid (show ixq Q cs 0 = -1 from zAZ _ _ (fun x hx => by
     obtain ⟨j, hj, rfl⟩ := List.getElem_of_mem hx
     exact hno j hj (by have := HN.out; omega)))
    clear hno hB
    go_wp2_with fail
    go_ret
    exact ⟨zAD HR.out.symm, HB.out⟩
theorem zC3 (ts : List Tp) (ws : List Pt) (own : Ev) (kn : List Ev) (tv ov wv kv : Value) (n : Nat) (Q : Cn → Bool) (ih : Hok 70 Q ts ws own kn tv ov wv kv n) (cs : List Cn) (hcs : ∀ c, c ∈ cs → Wsz c ∧ (cdk ts ws (ts.getD own.t.toNat dT) n c).2 = 0) (v : Value) (w : World) (hs : Scn w ts ws own kn tv ov wv kv) (h : Rd w (.row 46 14 (cs.map encC)) v) (q : Bool) (hq : cs.any Q = q) :
   Calls Tryz.prog 69 #[v, .func (.func 70) #[snV tv own ov wv kv] #[]] w fun e w' => e = .returned (.bool q) ∧ Below w.heap.size w w' := by
 have hC := zFY ts ws own kn tv ov wv kv n Q ih cs hcs v w hs h
 obtain ⟨p, l, cap, rfl⟩ := zAB h
 have ha := zBV (q := Q) cs 0
 rw [hq] at ha
 obtain ⟨x, hx⟩ : ∃ x, ixq Q cs 0 = x := ⟨_, rfl⟩
 rw [hx] at ha hC
 have d : decide (0 ≤ x) = q := by cases q <;> simp_all
 obtain ⟨SV, hSV⟩ : ∃ SV, snV tv own ov wv kv = SV := ⟨_, rfl⟩
 rw [hSV] at hC ⊢
 have HC := hid hC
 clear hx hq h ha hs hcs ih hC hSV
 cases q <;>
 . go_enter Tryz.func69, Tryz.ntmps69
   go_wp2_with fail
   refine HC.out.mono ?_
   rintro e w2 ⟨rfl, hb2⟩
   have HB := hid hb2
   clear hb2
   go_wp2_with fail
   go_ret
   exact ⟨rfl, HB.out⟩
theorem zFS (ts : List Tp) (ws : List Pt) (own : Ev) (kn : List Ev) (tv ov wv kv : Value) (c : Cn) (cv : Value) (w : World) (hs : Scn w ts ws own kn tv ov wv kv) (hcr : Rd w (.row 46 14 c.sb) cv) (h0 : c.k = 0) : Calls Tryz.prog 45 #[snV tv own ov wv kv, cnV c.k cv c.l c.r] w fun e w' => e = .returned (.bool (true)) ∧ Below w.heap.size w w' := by
  obtain ⟨cp, cn, cc, hcv⟩ := zAB hcr
  obtain ⟨tp, tn, tc, htv⟩ := zAB hs.rt
  obtain ⟨op, on2, oc, hov⟩ := zAB hs.ro
  obtain ⟨wp, wn, wc, hwv⟩ := zAB hs.rw
  obtain ⟨kp, kn2, kc, hkv⟩ := zAB hs.rk
  subst htv hov hwv hkv hcv
  obtain ⟨on, ot, ost, oen, ovl⟩ := own
  obtain ⟨ck, csb, ⟨lk, lvk, lvi, lvt, lva, lfd⟩, ⟨rk, rvk, rvi, rvt, rva, rfd⟩⟩ := c
  have hB : Bxs w ((w.alloc (.cells #[.slice tp tn tc, .int .i64 on, .int .i64 ot, .int .i64 ost, .int .i64 oen, .slice op on2 oc, .slice wp wn wc, .slice kp kn2 kc] 100)).alloc (.cells #[.int .i64 ck, .slice cp cn cc, .int .i64 lk, .int .i64 lvk, .int .i64 lvi, .string lvt, .string lva, .string lfd, .int .i64 rk, .int .i64 rvk, .int .i64 rvi, .string rvt, .string rva, .string rfd] 46)) [([.slice tp tn tc, .int .i64 on, .int .i64 ot, .int .i64 ost, .int .i64 oen, .slice op on2 oc, .slice wp wn wc, .slice kp kn2 kc], 100), ([.int .i64 ck, .slice cp cn cc, .int .i64 lk, .int .i64 lvk, .int .i64 lvi, .string lvt, .string lva, .string lfd, .int .i64 rk, .int .i64 rvk, .int .i64 rvi, .string rvt, .string rva, .string rfd], 46)] := bxs2 w _ _ _ _
  simp only at h0
  subst h0
  have HB := hid hB.bel
  clear hB hs hcr
  go_enter Tryz.func45, Tryz.ntmps45
  go_wp2_with fail
  go_ret
  exact ⟨rfl, HB.out⟩
theorem zGJ (ts : List Tp) (ws : List Pt) (own : Ev) (kn : List Ev) (tv ov wv kv : Value) (c : Cn) (cv : Value) (w : World) (hs : Scn w ts ws own kn tv ov wv kv) (hcr : Rd w (.row 46 14 c.sb) cv) (h0 : c.k = 1) (q : Bool) (hC : ∀ W, Below w.heap.size w W → Calls Tryz.prog 69 #[cv, .func (.func 70) #[snV tv own ov wv kv] #[]] W fun e w' => e = .returned (.bool q) ∧ Below W.heap.size W w') : Calls Tryz.prog 45 #[snV tv own ov wv kv, cnV c.k cv c.l c.r] w fun e w' => e = .returned (.bool (!q)) ∧ Below w.heap.size w w' := by
 obtain ⟨cp, cn, cc, hcv⟩ := zAB hcr
 obtain ⟨tp, tn, tc, htv⟩ := zAB hs.rt
 obtain ⟨op, on2, oc, hov⟩ := zAB hs.ro
 obtain ⟨wp, wn, wc, hwv⟩ := zAB hs.rw
 obtain ⟨kp, kn2, kc, hkv⟩ := zAB hs.rk
 subst htv hov hwv hkv hcv
 obtain ⟨on, ot, ost, oen, ovl⟩ := own
 obtain ⟨ck, csb, ⟨lk, lvk, lvi, lvt, lva, lfd⟩, ⟨rk, rvk, rvi, rvt, rva, rfd⟩⟩ := c
 have hB : Bxs w ((w.alloc (.cells #[.slice tp tn tc, .int .i64 on, .int .i64 ot, .int .i64 ost, .int .i64 oen, .slice op on2 oc, .slice wp wn wc, .slice kp kn2 kc] 100)).alloc (.cells #[.int .i64 ck, .slice cp cn cc, .int .i64 lk, .int .i64 lvk, .int .i64 lvi, .string lvt, .string lva, .string lfd, .int .i64 rk, .int .i64 rvk, .int .i64 rvi, .string rvt, .string rva, .string rfd] 46)) [([.slice tp tn tc, .int .i64 on, .int .i64 ot, .int .i64 ost, .int .i64 oen, .slice op on2 oc, .slice wp wn wc, .slice kp kn2 kc], 100), ([.int .i64 ck, .slice cp cn cc, .int .i64 lk, .int .i64 lvk, .int .i64 lvi, .string lvt, .string lva, .string lfd, .int .i64 rk, .int .i64 rvk, .int .i64 rvi, .string rvt, .string rva, .string rfd], 46)] := bxs2 w _ _ _ _
 simp only at h0 hC
 subst h0
 have HC := hid hC
 have HB := hid hB
 have XS := hid (hB.r 0 (by simp))
 clear hB hs hcr hC
 go_enter Tryz.func45, Tryz.ntmps45
 go_wp2_with ((with_reducible refine gLq ?_); refine wpList_load_mid (by rfl) 100 _ (by rfl) w.heap.size 0 (by rfl) [.slice tp tn tc, .int .i64 on, .int .i64 ot, .int .i64 ost, .int .i64 oen, .slice op on2 oc, .slice wp wn wc, .slice kp kn2 kc] _ XS.out Tryz.underlying100 rfl (by kernel_rfl) ?_)
 refine (HC.out _ HB.out.bel).mono ?_
 rintro e w1 ⟨rfl, hb1⟩
 have HB1 := hid (HB.out.next hb1)
 clear hb1
 cases q <;>
 . go_wp2_with fail
   go_ret
   exact ⟨rfl, HB1.out.bel⟩
theorem holds_or (ts : List Tp) (ws : List Pt) (own : Ev) (kn : List Ev) (tv ov wv kv : Value) (c : Cn) (cv : Value) (w : World) (hs : Scn w ts ws own kn tv ov wv kv) (hcr : Rd w (.row 46 14 c.sb) cv) (h0 : c.k = 2) (q : Bool) (hC : ∀ W, Below w.heap.size w W → Calls Tryz.prog 69 #[cv, .func (.func 45) #[snV tv own ov wv kv] #[]] W fun e w' => e = .returned (.bool q) ∧ Below W.heap.size W w') : Calls Tryz.prog 45 #[snV tv own ov wv kv, cnV c.k cv c.l c.r] w fun e w' => e = .returned (.bool (q)) ∧ Below w.heap.size w w' := by
 obtain ⟨cp, cn, cc, hcv⟩ := zAB hcr
 obtain ⟨tp, tn, tc, htv⟩ := zAB hs.rt
 obtain ⟨op, on2, oc, hov⟩ := zAB hs.ro
 obtain ⟨wp, wn, wc, hwv⟩ := zAB hs.rw
 obtain ⟨kp, kn2, kc, hkv⟩ := zAB hs.rk
 subst htv hov hwv hkv hcv
 obtain ⟨on, ot, ost, oen, ovl⟩ := own
 obtain ⟨ck, csb, ⟨lk, lvk, lvi, lvt, lva, lfd⟩, ⟨rk, rvk, rvi, rvt, rva, rfd⟩⟩ := c
 have hB : Bxs w ((w.alloc (.cells #[.slice tp tn tc, .int .i64 on, .int .i64 ot, .int .i64 ost, .int .i64 oen, .slice op on2 oc, .slice wp wn wc, .slice kp kn2 kc] 100)).alloc (.cells #[.int .i64 ck, .slice cp cn cc, .int .i64 lk, .int .i64 lvk, .int .i64 lvi, .string lvt, .string lva, .string lfd, .int .i64 rk, .int .i64 rvk, .int .i64 rvi, .string rvt, .string rva, .string rfd] 46)) [([.slice tp tn tc, .int .i64 on, .int .i64 ot, .int .i64 ost, .int .i64 oen, .slice op on2 oc, .slice wp wn wc, .slice kp kn2 kc], 100), ([.int .i64 ck, .slice cp cn cc, .int .i64 lk, .int .i64 lvk, .int .i64 lvi, .string lvt, .string lva, .string lfd, .int .i64 rk, .int .i64 rvk, .int .i64 rvi, .string rvt, .string rva, .string rfd], 46)] := bxs2 w _ _ _ _
 simp only at h0 hC
 subst h0
 have HC := hid hC
 have HB := hid hB
 have XS := hid (hB.r 0 (by simp))
 clear hB hs hcr hC
 go_enter Tryz.func45, Tryz.ntmps45
 go_wp2_with ((with_reducible refine gLq ?_); refine wpList_load_mid (by rfl) 100 _ (by rfl) w.heap.size 0 (by rfl) [.slice tp tn tc, .int .i64 on, .int .i64 ot, .int .i64 ost, .int .i64 oen, .slice op on2 oc, .slice wp wn wc, .slice kp kn2 kc] _ XS.out Tryz.underlying100 rfl (by kernel_rfl) ?_)
 refine (HC.out _ HB.out.bel).mono ?_
 rintro e w1 ⟨rfl, hb1⟩
 have HB1 := hid (HB.out.next hb1)
 clear hb1
 cases q <;>
 . go_wp2_with fail
   go_ret
   exact ⟨rfl, HB1.out.bel⟩
theorem zG1 (ts : List Tp) (ws : List Pt) (own : Ev) (kn : List Ev) (tv ov wv kv : Value) (c : Cn) (cv : Value) (w : World) (hs : Scn w ts ws own kn tv ov wv kv) (hcr : Rd w (.row 46 14 c.sb) cv) (h4 : 4 ≤ c.k) (h7 : c.k ≤ 7) (q : Bool) (hC : ∀ W, Below w.heap.size w W → Calls Tryz.prog 71 #[snV tv own ov wv kv, cnV c.k cv c.l c.r] W fun e w' => e = .returned (.bool q) ∧ Below W.heap.size W w') : Calls Tryz.prog 45 #[snV tv own ov wv kv, cnV c.k cv c.l c.r] w fun e w' => e = .returned (.bool (q)) ∧ Below w.heap.size w w' := by
 obtain ⟨cp, cn, cc, hcv⟩ := zAB hcr
 obtain ⟨tp, tn, tc, htv⟩ := zAB hs.rt
 obtain ⟨op, on2, oc, hov⟩ := zAB hs.ro
 obtain ⟨wp, wn, wc, hwv⟩ := zAB hs.rw
 obtain ⟨kp, kn2, kc, hkv⟩ := zAB hs.rk
 subst htv hov hwv hkv hcv
 obtain ⟨on, ot, ost, oen, ovl⟩ := own
 obtain ⟨ck, csb, ⟨lk, lvk, lvi, lvt, lva, lfd⟩, ⟨rk, rvk, rvi, rvt, rva, rfd⟩⟩ := c
 have hB : Bxs w ((w.alloc (.cells #[.slice tp tn tc, .int .i64 on, .int .i64 ot, .int .i64 ost, .int .i64 oen, .slice op on2 oc, .slice wp wn wc, .slice kp kn2 kc] 100)).alloc (.cells #[.int .i64 ck, .slice cp cn cc, .int .i64 lk, .int .i64 lvk, .int .i64 lvi, .string lvt, .string lva, .string lfd, .int .i64 rk, .int .i64 rvk, .int .i64 rvi, .string rvt, .string rva, .string rfd] 46)) [([.slice tp tn tc, .int .i64 on, .int .i64 ot, .int .i64 ost, .int .i64 oen, .slice op on2 oc, .slice wp wn wc, .slice kp kn2 kc], 100), ([.int .i64 ck, .slice cp cn cc, .int .i64 lk, .int .i64 lvk, .int .i64 lvi, .string lvt, .string lva, .string lfd, .int .i64 rk, .int .i64 rvk, .int .i64 rvi, .string rvt, .string rva, .string rfd], 46)] := bxs2 w _ _ _ _
 simp only at h4 h7 hC
 have d0 : decide (ck = 0) = false := by simp; omega
 have d1 : decide (ck = 1) = false := by simp; omega
 have d2 : decide (ck = 2) = false := by simp; omega
 have d3 : decide (ck = 3) = false := by simp; omega
 have n0 : ¬ ck = 0 := by omega
 have n1 : ¬ ck = 1 := by omega
 have n2 : ¬ ck = 2 := by omega
 have n3 : ¬ ck = 3 := by omega
 have HC := hid hC
 have HB := hid hB
 have XS := hid (hB.r 0 (by simp))
 have XC := hid (hB.r 1 (by simp))
 clear hB hs hcr hC
 go_enter Tryz.func45, Tryz.ntmps45
 go_wp2_with (first
  | ((with_reducible refine gLq ?_); refine wpList_load_mid (by rfl) 100 _ (by rfl) w.heap.size 0 (by rfl) [.slice tp tn tc, .int .i64 on, .int .i64 ot, .int .i64 ost, .int .i64 oen, .slice op on2 oc, .slice wp wn wc, .slice kp kn2 kc] _ XS.out Tryz.underlying100 rfl (by kernel_rfl) ?_)
  | ((with_reducible refine gLq ?_); refine wpList_load_mid (by rfl) 46 _ (by rfl) (w.heap.size + 1) 0 (by rfl) [.int .i64 ck, .slice cp cn cc, .int .i64 lk, .int .i64 lvk, .int .i64 lvi, .string lvt, .string lva, .string lfd, .int .i64 rk, .int .i64 rvk, .int .i64 rvi, .string rvt, .string rva, .string rfd] _ XC.out Tryz.underlying46 rfl (by kernel_rfl) ?_))
 refine (HC.out _ HB.out.bel).mono ?_
 rintro e w1 ⟨rfl, hb1⟩
 have HB1 := hid (HB.out.next hb1)
 clear hb1
 go_wp2_with fail
 go_ret
 exact ⟨rfl, HB1.out.bel⟩
theorem zG4 (ts : List Tp) (ws : List Pt) (own : Ev) (kn : List Ev) (tv ov wv kv : Value) (c : Cn) (cv : Value) (w : World) (hs : Scn w ts ws own kn tv ov wv kv) (hcr : Rd w (.row 46 14 c.sb) cv) (h0 : c.k = 3) (x : Cn) (hx : c.sb = [encC x]) (q : Bool) (hC : ∀ W, Below w.heap.size w W → ∀ xv, Rd W (.row 46 14 x.sb) xv → Calls Tryz.prog 70 #[snV tv own ov wv kv, cnV x.k xv x.l x.r] W fun e w' => e = .returned (.bool q) ∧ Below W.heap.size W w') : Calls Tryz.prog 45 #[snV tv own ov wv kv, cnV c.k cv c.l c.r] w fun e w' => e = .returned (.bool (q)) ∧ Below w.heap.size w w' := by
 have hcr2 : Rd w (.row 46 14 ([x].map encC)) cv := by rw [hx] at hcr; exact hcr
 obtain ⟨p', cap', hcv2, _, hat⟩ := zAG lenC hcr2
 obtain ⟨g, off, hp', hrd⟩ := hat (by simp)
 obtain ⟨A, r1, o1⟩ := hrd w (Below.refl _ _) 0 (by simp)
 have r1' : w.rangeAt g off A := by simpa using r1
 obtain ⟨xv, z1, o2⟩ := zCI o1
 have z1' : A = cnC x.k xv x.l x.r := z1
 have o2' : Rd w (.row 46 14 x.sb) xv := o2
 have hAz : A.length = 14 := o1.1.symm
 obtain ⟨cp, cn, cc, hcv⟩ := zAB hcr
 obtain ⟨hcn, hcp⟩ : cn = 1 ∧ cp = some ⟨g, off, none⟩ := by
  rw [hcv] at hcv2
  simp only [Value.slice.injEq] at hcv2
  exact ⟨hcv2.2.1, hcv2.1.trans hp'⟩
 subst hcn hcp
 have HFC0 : ∀ W, Below w.heap.size w W → Calls Tryz.prog 70 #[snV tv own ov wv kv, .agg A.toArray] W fun e w' => e = .returned (.bool q) ∧ Below W.heap.size W w' := fun W hW => by rw [z1']; exact hC W hW xv (o2'.later hW)
 clear hcr2 hcv2 hat hp' hrd r1 o1 z1 o2 z1' o2' hx hC
 obtain ⟨tp, tn, tc, htv⟩ := zAB hs.rt
 obtain ⟨op, on2, oc, hov⟩ := zAB hs.ro
 obtain ⟨wp, wn, wc, hwv⟩ := zAB hs.rw
 obtain ⟨kp, kn2, kc, hkv⟩ := zAB hs.rk
 subst htv hov hwv hkv hcv
 obtain ⟨on, ot, ost, oen, ovl⟩ := own
 obtain ⟨ck, csb, ⟨lk, lvk, lvi, lvt, lva, lfd⟩, ⟨rk, rvk, rvi, rvt, rva, rfd⟩⟩ := c
 have hB : Bxs w ((w.alloc (.cells #[.slice tp tn tc, .int .i64 on, .int .i64 ot, .int .i64 ost, .int .i64 oen, .slice op on2 oc, .slice wp wn wc, .slice kp kn2 kc] 100)).alloc (.cells #[.int .i64 ck, .slice (some ⟨g, off, none⟩) 1 cc, .int .i64 lk, .int .i64 lvk, .int .i64 lvi, .string lvt, .string lva, .string lfd, .int .i64 rk, .int .i64 rvk, .int .i64 rvi, .string rvt, .string rva, .string rfd] 46)) [([.slice tp tn tc, .int .i64 on, .int .i64 ot, .int .i64 ost, .int .i64 oen, .slice op on2 oc, .slice wp wn wc, .slice kp kn2 kc], 100), ([.int .i64 ck, .slice (some ⟨g, off, none⟩) 1 cc, .int .i64 lk, .int .i64 lvk, .int .i64 lvi, .string lvt, .string lva, .string lfd, .int .i64 rk, .int .i64 rvk, .int .i64 rvi, .string rvt, .string rva, .string rfd], 46)] := bxs2 w _ _ _ _
 simp only at h0 HFC0
 subst h0
 obtain ⟨UL, hUL⟩ : ∃ UL : List Value, [.slice tp tn tc, .int .i64 on, .int .i64 ot, .int .i64 ost, .int .i64 oen, .slice op on2 oc, .slice wp wn wc, .slice kp kn2 kc] = UL := ⟨_, rfl⟩
 have HFC : Hid (∀ W, Below w.heap.size w W → Calls Tryz.prog 70 #[.agg UL.toArray, .agg A.toArray] W fun e w' => e = .returned (.bool q) ∧ Below W.heap.size W w') := fun W hW => by rw [← hUL]; exact HFC0 W hW
 have ZU : Hid ((Tryz.prog.info? 100).map (·.size) = some UL.length) := by show _ = _; rw [← hUL]; kernel_rfl
 have ZA : Hid ((Tryz.prog.info? 46).map (·.size) = some A.length) := by show _ = _; rw [hAz]; kernel_rfl
 have HS9 : Hid (∀ W, Bxs w W [([.slice tp tn tc, .int .i64 on, .int .i64 ot, .int .i64 ost, .int .i64 oen, .slice op on2 oc, .slice wp wn wc, .slice kp kn2 kc], 100), ([.int .i64 3, .slice (some ⟨g, off, none⟩) 1 cc, .int .i64 lk, .int .i64 lvk, .int .i64 lvi, .string lvt, .string lva, .string lfd, .int .i64 rk, .int .i64 rvk, .int .i64 rvi, .string rvt, .string rva, .string rfd], 46)] → (W.rangeAt w.heap.size 0 UL ∧ W.cell? ⟨w.heap.size + 1, 1, none⟩ = some (.slice (some ⟨g, off, none⟩) 1 cc) ∧ W.rangeAt g off A)) := fun W h => ⟨by rw [← hUL]; exact h.r 0 (by simp), h.c 1 (by simp) 1, zAK r1' h.bel⟩
 have HB := hid hB
 have HD := hid (hB.next (Below.drew (Below.refl _ _)))
 clear hB hs hcr HFC0 hUL hAz r1'
 go_enter Tryz.func45, Tryz.ntmps45
 go_wp2_with fail
 refine zBC (S := (fun w' => w'.rangeAt w.heap.size 0 UL ∧ w'.cell? ⟨w.heap.size + 1, 1, none⟩ = some (.slice (some ⟨g, off, none⟩) 1 cc) ∧ w'.rangeAt g off A)) 7 #[false, false, false, false, false, false, false] rfl rfl (by kernel_rfl) (HS9.out _ HD.out) (fun hHeld => ?_)
 refine tkq (i := 1) (v := ?v8) rfl ?hy8 ?rest8; (case hy8 => intro w0 hSw; (try dsimp only at hSw); go_simp <;> (try (with_reducible rfl))); (try simp only [puts])
 refine tkq (i := 2) (v := ?v9) rfl ?hy9 ?rest9; (case hy9 => intro w0 hSw; (try dsimp only at hSw); go_simp <;> (try (with_reducible rfl))); (try simp only [puts])
 refine tkq (i := 3) (v := ?v10) rfl ?hy10 ?rest10; (case hy10 => intro w0 hSw; (try dsimp only at hSw); go_simp <;> (try (with_reducible rfl))); (try simp only [puts])
 refine tlq (i := 0) rfl (yieldsIf_load_mid (by rfl) 100 _ rfl w.heap.size (0) (by rfl) UL _ (fun _ h => h.1) Tryz.underlying100 rfl ZU.out) ?_
 (try simp only [puts])
 refine tlq (i := 4) rfl (yieldsIf_load_mid (by rfl) 46 _ rfl g (off) (by rfl) A _ (fun _ h => h.2.2) Tryz.underlying46 rfl ZA.out) ?_
 (try simp only [puts])
 refine wpAnyH_ready (rs := [5]) (by kernel_rfl) (by simp) ?_
 refine zAV rfl (fun K hK => ?_) AllReadyH.nil
 refine zAX 70 zGW (by rfl) _ _ _ (by rfl) (.agg UL.toArray) (.agg A.toArray) (by rfl) (by rfl) _ (HFC.out _ HD.out.bel) ?_
 rintro e w3 ⟨rfl, hb3⟩
 refine ⟨_, rfl, ?_⟩
 have HB3 := hid (HD.out.next hb3)
 clear hb3
 refine hK.out _ _ (HS9.out _ HB3.out) (fun hHeld => ?_)
 clear hK K
 (try simp only [puts])
 refine tkq (i := 6) (v := ?v11) rfl ?hy11 ?rest11; (case hy11 => intro w0 hSw; (try dsimp only at hSw); go_simp <;> (try (with_reducible rfl))); (try simp only [puts])
 refine wpAnyH_done (by kernel_rfl) ?_ _
 go_wp2_with fail
 go_ret
 exact ⟨rfl, HB3.out.bel⟩
theorem any_not {q : Cn → Bool} (l : List Cn) : (!(l.any fun c => !(q c))) = l.all q := by
  induction l with
  | nil => rfl
  | cons x r ih => rw [List.any_cons, List.all_cons, ← ih]; cases q x <;> simp
theorem zG8 (ts : List Tp) (ws : List Pt) (own : Ev) (kn : List Ev) (tv ov wv kv : Value) (hk : Sok ts ws own kn) : ∀ n, Hok 45 (hld ts ws own kn n) ts ws own kn tv ov wv kv n := by
 intro n
 induction n with
 | zero => intro c cv w hs hcr hw hd; obtain ⟨m, hm, _⟩ := cdk_ok hd; omega
 | succ n ih =>
  intro c cv w hs hcr hw hd
  obtain ⟨m, hm, k1, k7, hg, hcm⟩ := cdk_ok hd
  obtain rfl : n = m := by omega
  have hfl := fails_s ts ws own kn tv ov wv kv n ih
  rw [hld, if_neg (by omega)]
  by_cases h3 : c.k ≤ 3
  . obtain ⟨g1, g2⟩ := hg h3
    obtain ⟨cs, hcs⟩ : ∃ cs : List Cn, c.sb = cs.map encC ∧ ∀ x, x ∈ cs → Wsz x := by cases hw with | mk _ cs e _ _ q => exact ⟨cs, e, q⟩
    have hsub : subs c = cs := zHF hcs.1
    rw [hsub] at g2 ⊢
    have hR : ∀ W, Below w.heap.size w W → Rd W (.row 46 14 (cs.map encC)) cv := fun W hW => by have := hcr.later hW; rw [hcs.1] at this; exact this
    by_cases h1 : c.k = 1
    . rw [if_pos h1, ← any_not]
      exact zGJ ts ws own kn tv ov wv kv c cv w hs hcr h1 _ (fun W hW => zC3 ts ws own kn tv ov wv kv n _ hfl cs (fun x hx => ⟨hcs.2 x hx, g2 x hx⟩) cv W (hs.later hW) (hR W hW) _ rfl)
    . rw [if_neg h1]
      by_cases h2 : c.k = 2
      . rw [if_pos h2]
        exact holds_or ts ws own kn tv ov wv kv c cv w hs hcr h2 _ (fun W hW => zDK ts ws own kn tv ov wv kv n _ ih cs (fun x hx => ⟨hcs.2 x hx, g2 x hx⟩) cv W (hs.later hW) (hR W hW) _ rfl)
      . have h3' : c.k = 3 := by omega
        rw [if_neg h2, if_pos h3']
        have hl := g1 h3'
        rw [hcs.1, List.length_map] at hl
        obtain ⟨x, rfl⟩ : ∃ x, cs = [x] := by
         match cs, hl with
         | [x], _ => exact ⟨x, rfl⟩
        have hx : x ∈ [x] := List.mem_singleton.2 rfl
        exact zG4 ts ws own kn tv ov wv kv c cv w hs hcr h3' x (by rw [hcs.1]; rfl) _ (fun W hW xv hxv => hfl x xv W (hs.later hW) hxv (hcs.2 x hx) (g2 x hx))
  . rw [if_neg (by omega), if_neg (by omega), if_neg (by omega)]
    obtain ⟨s1, s2, s3⟩ := hcm (by omega)
    exact zG1 ts ws own kn tv ov wv kv c cv w hs hcr (by omega) k7 _ (fun W hW => zF5 ts ws own kn tv ov wv kv hk c cv W (hs.later hW) (zAB hcr) (by omega) k7 s1 s2 s3)
end Go.Proofs.YtnlmknbhppdliaaGreatDoor.Chk
