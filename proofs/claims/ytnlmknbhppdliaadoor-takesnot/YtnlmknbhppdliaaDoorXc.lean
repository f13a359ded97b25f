/-
  Does a condition hold, by the program. What comes of itself: ways by types, closed one type after the other, are ways by rules.
-/
import Derived.Test.YtnlmknbhppdliaaDoorRc
import Derived.Test.YtnlmknbhppdliaaDoorG
set_option maxHeartbeats 64000000
namespace Go.Proofs.YtnlmknbhppdliaaDoor.Chk
open Go.ChangeShapes Go.WideShapes Go.ChangeAt Go.RowKit Go.Maps
set_option linter.unusedVariables false
set_option linter.unusedSimpArgs false
set_option maxRecDepth 20000
theorem zF1 : ∀ args w, (callFunc 65 args).run Tryd.prog w = .ok (.enter 65 args) w := enters_of Tryd.func65 (by kernel_rfl) rfl
theorem ent_cmpr : ∀ args w, (callFunc 64 args).run Tryd.prog w = .ok (.enter 64 args) w := enters_of Tryd.func64 (by kernel_rfl) rfl
theorem zH2 : ∀ args w, (callFunc 42 args).run Tryd.prog w = .ok (.enter 42 args) w := enters_of Tryd.func42 (by kernel_rfl) rfl
theorem zGQ (ts : List Tp) (ws : List Pt) (own : Ev) (kn : List Ev) (tv ov wv kv : Value) (hk : Sok ts ws own kn) (c : Cn) (cv : Value) (w : World) (hs : Scn w ts ws own kn tv ov wv kv) (hcs : ∃ p n m, cv = .slice p n m) (h4 : 4 ≤ c.k) (h7 : c.k ≤ 7) (hl : (sdk ts ws (ts.getD own.t.toNat dT) c.l).2 = 0) (hr : (sdk ts ws (ts.getD own.t.toNat dT) c.r).2 = 0) (hlr : (sdk ts ws (ts.getD own.t.toNat dT) c.l).1 = (sdk ts ws (ts.getD own.t.toNat dT) c.r).1) :
   Calls Tryd.prog 43 #[snV tv own ov wv kv, cnV c.k cv c.l c.r] w fun e w' => e = .returned (.bool (cmb c.k (V4.ord (svl ts ws own kn c.l) (svl ts ws own kn c.r)))) ∧ Below w.heap.size w w' := by
 have hSL := fun W (hW : Below w.heap.size w W) => side_s ts ws own kn tv ov wv kv hk c.l W (hs.later hW) hl
 have hSR := fun W (hW : Below w.heap.size w W) => side_s ts ws own kn tv ov wv kv hk c.r W (hs.later hW) hr
 obtain ⟨a1, a2⟩ := svl_ok hl hk.ev hk.kn
 obtain ⟨b1, b2⟩ := svl_ok hr hk.ev hk.kn
 have hCP := fun W => V4.compare_any (svl ts ws own kn c.l) (svl ts ws own kn c.r) W
 have e1 : V4.cmpE (svl ts ws own kn c.l) (svl ts ws own kn c.r) = 0 := by
   unfold V4.cmpE
   rw [if_neg (fun x => x a1), if_neg (fun x => x b1), if_neg (fun x => x (by rw [a2, b2]; exact hlr))]
 have e2 : V4.cmpV (svl ts ws own kn c.l) (svl ts ws own kn c.r) = V4.ord (svl ts ws own kn c.l) (svl ts ws own kn c.r) := by
   unfold V4.cmpV
   rw [if_neg (fun x => x e1)]
 rw [e1, e2] at hCP
 obtain ⟨N, hN⟩ : ∃ N, V4.ord (svl ts ws own kn c.l) (svl ts ws own kn c.r) = N := ⟨_, rfl⟩
 rw [hN] at hCP ⊢
 obtain ⟨⟨ak, an, as_⟩, hva⟩ : ∃ v, svl ts ws own kn c.l = v := ⟨_, rfl⟩
 obtain ⟨⟨bk, bn, bs⟩, hvb⟩ : ∃ v, svl ts ws own kn c.r = v := ⟨_, rfl⟩
 rw [hva] at hSL hCP
 rw [hvb] at hSR hCP
 clear a1 a2 b1 b2 e1 e2 hN hva hvb hl hr hlr
 obtain ⟨cp, cn, cc, hcv⟩ := hcs
 obtain ⟨tp, tn, tc, htv⟩ := zAB hs.rt
 obtain ⟨op, on2, oc, hov⟩ := zAB hs.ro
 obtain ⟨wp, wn, wc, hwv⟩ := zAB hs.rw
 obtain ⟨kp, kn2, kc, hkv⟩ := zAB hs.rk
 subst htv hov hwv hkv hcv
 obtain ⟨on, ot, ost, oen, ovl⟩ := own
 obtain ⟨ck, csb, ⟨lk, lvk, lvi, lvt, lva, lfd⟩, ⟨rk, rvk, rvi, rvt, rva, rfd⟩⟩ := c
 have hB : Bxs w ((w.alloc (.cells #[.slice tp tn tc, .int .i64 on, .int .i64 ot, .int .i64 ost, .int .i64 oen, .slice op on2 oc, .slice wp wn wc, .slice kp kn2 kc] 80)).alloc (.cells #[.int .i64 ck, .slice cp cn cc, .int .i64 lk, .int .i64 lvk, .int .i64 lvi, .string lvt, .string lva, .string lfd, .int .i64 rk, .int .i64 rvk, .int .i64 rvi, .string rvt, .string rva, .string rfd] 33)) [([.slice tp tn tc, .int .i64 on, .int .i64 ot, .int .i64 ost, .int .i64 oen, .slice op on2 oc, .slice wp wn wc, .slice kp kn2 kc], 80), ([.int .i64 ck, .slice cp cn cc, .int .i64 lk, .int .i64 lvk, .int .i64 lvi, .string lvt, .string lva, .string lfd, .int .i64 rk, .int .i64 rvk, .int .i64 rvi, .string rvt, .string rva, .string rfd], 33)] := bxs2 w _ _ _ _
 simp only at h4 h7 hSL hSR ⊢
 obtain ⟨UL, hUL⟩ : ∃ UL : List Value, [.slice tp tn tc, .int .i64 on, .int .i64 ot, .int .i64 ost, .int .i64 oen, .slice op on2 oc, .slice wp wn wc, .slice kp kn2 kc] = UL := ⟨_, rfl⟩
 obtain ⟨LL, hLL⟩ : ∃ LL : List Value, [.int .i64 lk, .int .i64 lvk, .int .i64 lvi, .string lvt, .string lva, .string lfd] = LL := ⟨_, rfl⟩
 obtain ⟨RL, hRL⟩ : ∃ RL : List Value, [.int .i64 rk, .int .i64 rvk, .int .i64 rvi, .string rvt, .string rva, .string rfd] = RL := ⟨_, rfl⟩
 have HSL : Hid (∀ W, Below w.heap.size w W → Calls Tryd.prog 65 #[.agg UL.toArray, .agg LL.toArray] W fun e w' => e = .returned (V4.vV ⟨ak, an, as_⟩) ∧ Below W.heap.size W w') := fun W hW => by rw [← hUL, ← hLL]; exact hSL W hW
 have HSR : Hid (∀ W, Below w.heap.size w W → Calls Tryd.prog 65 #[.agg UL.toArray, .agg RL.toArray] W fun e w' => e = .returned (V4.vV ⟨bk, bn, bs⟩) ∧ Below W.heap.size W w') := fun W hW => by rw [← hUL, ← hRL]; exact hSR W hW
 have HCP := hid hCP
 have HS : Hid (∀ W, Bxs w W [([.slice tp tn tc, .int .i64 on, .int .i64 ot, .int .i64 ost, .int .i64 oen, .slice op on2 oc, .slice wp wn wc, .slice kp kn2 kc], 80), ([.int .i64 ck, .slice cp cn cc, .int .i64 lk, .int .i64 lvk, .int .i64 lvi, .string lvt, .string lva, .string lfd, .int .i64 rk, .int .i64 rvk, .int .i64 rvi, .string rvt, .string rva, .string rfd], 33)] → (W.rangeAt w.heap.size 0 UL ∧ W.rangeAt (w.heap.size + 1) 2 LL ∧ W.rangeAt (w.heap.size + 1) 8 RL)) := fun W h => ⟨by rw [← hUL]; exact h.r 0 (by simp), by rw [← hLL]; exact zBX (h.b 1 (by simp)) (C := [.int .i64 ck, .slice cp cn cc]) (B := [.int .i64 lk, .int .i64 lvk, .int .i64 lvi, .string lvt, .string lva, .string lfd] ++ [.int .i64 rk, .int .i64 rvk, .int .i64 rvi, .string rvt, .string rva, .string rfd]) rfl rfl 6, by rw [← hRL]; exact zBX (h.b 1 (by simp)) (C := [.int .i64 ck, .slice cp cn cc] ++ [.int .i64 lk, .int .i64 lvk, .int .i64 lvi, .string lvt, .string lva, .string lfd]) (B := [.int .i64 rk, .int .i64 rvk, .int .i64 rvi, .string rvt, .string rva, .string rfd]) rfl rfl 6⟩
 have ZU : Hid ((Tryd.prog.info? 80).map (·.size) = some UL.length) := by show _ = _; rw [← hUL]; kernel_rfl
 have ZL : Hid ((Tryd.prog.info? 31).map (·.size) = some LL.length) := by show _ = _; rw [← hLL]; kernel_rfl
 have ZR : Hid ((Tryd.prog.info? 31).map (·.size) = some RL.length) := by show _ = _; rw [← hRL]; kernel_rfl
 have HB := hid hB
 have HD := hid (hB.next (Below.drew (Below.refl _ _)))
 clear hB hs hk hSL hSR hCP hUL hLL hRL
 go_enter Tryd.func43, Tryd.ntmps43
 go_wp2_with fail
 refine zBG (S := (fun w' => w'.rangeAt w.heap.size 0 UL ∧ w'.rangeAt (w.heap.size + 1) 2 LL ∧ w'.rangeAt (w.heap.size + 1) 8 RL)) 14 #[false, false, false, false, false, false, false, false, false, false, false, false, false, false] rfl rfl (by kernel_rfl) (HS.out _ HD.out) (fun hHeld => ?_)
 refine tkq (i := 1) (v := ?v1) rfl ?hy1 ?rest1; (case hy1 => intro w0 hSw; (try dsimp only at hSw); go_simp <;> (try (with_reducible rfl))); (try simp only [puts])
 refine tkq (i := 5) (v := ?v2) rfl ?hy2 ?rest2; (case hy2 => intro w0 hSw; (try dsimp only at hSw); go_simp <;> (try (with_reducible rfl))); (try simp only [puts])
 refine tlq (i := 0) rfl (yieldsIf_load_mid (by rfl) 80 _ rfl w.heap.size (0) (by rfl) UL _ (fun _ h => h.1) Tryd.underlying80 rfl ZU.out) ?_
 (try simp only [puts])
 refine tlq (i := 2) rfl (yieldsIf_load_mid (by rfl) 31 _ rfl (w.heap.size + 1) (2) (by rfl) LL _ (fun _ h => h.2.1) Tryd.underlying31 rfl ZL.out) ?_
 (try simp only [puts])
 refine tlq (i := 4) rfl (yieldsIf_load_mid (by rfl) 80 _ rfl w.heap.size (0) (by rfl) UL _ (fun _ h => h.1) Tryd.underlying80 rfl ZU.out) ?_
 (try simp only [puts])
 refine tlq (i := 6) rfl (yieldsIf_load_mid (by rfl) 31 _ rfl (w.heap.size + 1) (8) (by rfl) RL _ (fun _ h => h.2.2) Tryd.underlying31 rfl ZR.out) ?_
 (try simp only [puts])
 refine wpAnyH_ready (rs := [3]) (by kernel_rfl) (by simp) ?_
 refine zAQ rfl (fun K hK => ?_) AllReadyH.nil
 refine zA2 65 zF1 (by rfl) _ _ _ (by rfl) (.agg UL.toArray) (.agg LL.toArray) (by rfl) (by rfl) _ (HSL.out _ HD.out.bel) ?_
 rintro e w3 ⟨rfl, hb3⟩
 refine ⟨_, rfl, ?_⟩
 have HB3 := hid (HD.out.next hb3)
 clear hb3
 refine hK.out _ _ (HS.out _ HB3.out) (fun hHeld => ?_)
 clear hK K
 (try simp only [puts])
 refine wpAnyH_ready (rs := [7]) (by kernel_rfl) (by simp) ?_
 refine zAQ rfl (fun K hK => ?_) AllReadyH.nil
 refine zA2 65 zF1 (by rfl) _ _ _ (by rfl) (.agg UL.toArray) (.agg RL.toArray) (by rfl) (by rfl) _ (HSR.out _ HB3.out.bel) ?_
 rintro e w4 ⟨rfl, hb4⟩
 refine ⟨_, rfl, ?_⟩
 have HB4 := hid (HB3.out.next hb4)
 clear hb4
 refine hK.out _ _ (HS.out _ HB4.out) (fun hHeld => ?_)
 clear hK K
 (try simp only [puts])
 refine wpAnyH_ready (rs := [8]) (by kernel_rfl) (by simp) ?_
 refine zAQ rfl (fun K hK => ?_) AllReadyH.nil
 refine zA2 64 ent_cmpr (by rfl) _ _ _ (by rfl) (V4.vV ⟨ak, an, as_⟩) (V4.vV ⟨bk, bn, bs⟩) (by rfl) (by rfl) _ (HCP.out _) ?_
 rintro e w5 ⟨rfl, hb5⟩
 refine ⟨_, rfl, ?_⟩
 have HB5 := hid (HB4.out.next hb5)
 clear hb5
 refine hK.out _ _ (HS.out _ HB5.out) (fun hHeld => ?_)
 clear hK K
 (try simp only [puts])
 refine tkq (i := 9) (v := ?v3) rfl ?hy3 ?rest3; (case hy3 => intro w0 hSw; (try dsimp only at hSw); go_simp <;> (try (with_reducible rfl))); (try simp only [puts])
 refine tkq (i := 10) (v := ?v4) rfl ?hy4 ?rest4; (case hy4 => intro w0 hSw; (try dsimp only at hSw); go_simp <;> (try (with_reducible rfl))); (try simp only [puts])
 refine tkq (i := 11) (v := ?v5) rfl ?hy5 ?rest5; (case hy5 => intro w0 hSw; (try dsimp only at hSw); go_simp <;> (try (with_reducible rfl))); (try simp only [puts])
 refine tkq (i := 12) (v := ?v6) rfl ?hy6 ?rest6; (case hy6 => intro w0 hSw; (try dsimp only at hSw); go_simp <;> (try (with_reducible rfl))); (try simp only [puts])
 refine tkq (i := 13) (v := ?v7) rfl ?hy7 ?rest7; (case hy7 => intro w0 hSw; (try dsimp only at hSw); go_simp <;> (try (with_reducible rfl))); (try simp only [puts])
 refine wpAnyH_done (by kernel_rfl) ?_ _
 have c0 : w5.cell? ⟨w.heap.size + 1, 0, none⟩ = some (.int .i64 ck) := HB5.out.c 1 (by simp) 0
 clear HSL HSR HCP HS ZU ZL ZR HB HD HB3 HB4
 rcases (by omega : ck = 4 ∨ ck = 5 ∨ ck = 6 ∨ ck = 7) with rfl | rfl | rfl | rfl
 . go_wp2_with fail
   go_ret
   exact ⟨zAX (by rw [Bool.eq_iff_iff]; simp [cmb]), HB5.out.bel⟩
 . go_wp2_with fail
   go_ret
   exact ⟨zAX (by rw [Bool.eq_iff_iff]; simp [cmb]), HB5.out.bel⟩
 . go_wp2_with fail
   go_ret
   exact ⟨zAX (by rw [Bool.eq_iff_iff]; simp [cmb]), HB5.out.bel⟩
 . go_wp2_with fail
   go_ret
   exact ⟨zAX (by rw [Bool.eq_iff_iff]; simp [cmb]), HB5.out.bel⟩
def Hok (F : FuncId) (q : Cn → Bool) (ts : List Tp) (ws : List Pt) (own : Ev) (kn : List Ev) (tv ov wv kv : Value) (n : Nat) : Prop :=
  ∀ (c : Cn) (cv : Value) (w : World), Scn w ts ws own kn tv ov wv kv → Rd w (.row 33 14 c.sb) cv → Wsz c → (cdk ts ws (ts.getD own.t.toNat dT) n c).2 = 0 → Calls Tryd.prog F #[snV tv own ov wv kv, cnV c.k cv c.l c.r] w fun e w' => e = .returned (.bool (q c)) ∧ Below w.heap.size w w'
theorem fails_s (ts : List Tp) (ws : List Pt) (own : Ev) (kn : List Ev) (tv ov wv kv : Value) (n : Nat) (ih : Hok 26 (hld ts ws own kn n) ts ws own kn tv ov wv kv n) : Hok 42 (fun c => !(hld ts ws own kn n c)) ts ws own kn tv ov wv kv n := by
 intro c cv w hs hcr hw hd
 have hH := fun W (hW : Below w.heap.size w W) => ih c cv W (hs.later hW) (hcr.later hW) hw hd
 obtain ⟨q, hq⟩ : ∃ q, hld ts ws own kn n c = q := ⟨_, rfl⟩
 rw [hq] at hH
 simp only [hq]
 obtain ⟨cp, cn, cc, hcv⟩ := zAB hcr
 clear hw hd hq ih
 obtain ⟨tp, tn, tc, htv⟩ := zAB hs.rt
 obtain ⟨op, on2, oc, hov⟩ := zAB hs.ro
 obtain ⟨wp, wn, wc, hwv⟩ := zAB hs.rw
 obtain ⟨kp, kn2, kc, hkv⟩ := zAB hs.rk
 subst htv hov hwv hkv hcv
 obtain ⟨on, ot, ost, oen, ovl⟩ := own
 obtain ⟨ck, csb, ⟨lk, lvk, lvi, lvt, lva, lfd⟩, ⟨rk, rvk, rvi, rvt, rva, rfd⟩⟩ := c
 have hB : Bxs w ((w.alloc (.cells #[.slice tp tn tc, .int .i64 on, .int .i64 ot, .int .i64 ost, .int .i64 oen, .slice op on2 oc, .slice wp wn wc, .slice kp kn2 kc] 80)).alloc (.cells #[.int .i64 ck, .slice cp cn cc, .int .i64 lk, .int .i64 lvk, .int .i64 lvi, .string lvt, .string lva, .string lfd, .int .i64 rk, .int .i64 rvk, .int .i64 rvi, .string rvt, .string rva, .string rfd] 33)) [([.slice tp tn tc, .int .i64 on, .int .i64 ot, .int .i64 ost, .int .i64 oen, .slice op on2 oc, .slice wp wn wc, .slice kp kn2 kc], 80), ([.int .i64 ck, .slice cp cn cc, .int .i64 lk, .int .i64 lvk, .int .i64 lvi, .string lvt, .string lva, .string lfd, .int .i64 rk, .int .i64 rvk, .int .i64 rvi, .string rvt, .string rva, .string rfd], 33)] := bxs2 w _ _ _ _
 simp only at hH ⊢
 have HH := hid hH
 have HB := hid hB
 have XS := hid (hB.r 0 (by simp))
 have XC := hid (hB.r 1 (by simp))
 clear hB hs hcr hH
 go_enter Tryd.func42, Tryd.ntmps42
 go_wp2_with (first
   | ((with_reducible refine gLq ?_); refine wpList_load_mid (by rfl) 80 _ (by rfl) w.heap.size 0 (by rfl) [.slice tp tn tc, .int .i64 on, .int .i64 ot, .int .i64 ost, .int .i64 oen, .slice op on2 oc, .slice wp wn wc, .slice kp kn2 kc] _ XS.out Tryd.underlying80 rfl (by kernel_rfl) ?_)
   | ((with_reducible refine gLq ?_); refine wpList_load_mid (by rfl) 33 _ (by rfl) (w.heap.size + 1) 0 (by rfl) [.int .i64 ck, .slice cp cn cc, .int .i64 lk, .int .i64 lvk, .int .i64 lvi, .string lvt, .string lva, .string lfd, .int .i64 rk, .int .i64 rvk, .int .i64 rvi, .string rvt, .string rva, .string rfd] _ XC.out Tryd.underlying33 rfl (by kernel_rfl) ?_))
 refine (HH.out _ HB.out.bel).mono ?_
 rintro e w1 ⟨rfl, hb1⟩
 have HB1 := hid (HB.out.next hb1)
 clear hb1
 cases q <;>
 . go_wp2_with fail
   go_ret
   exact ⟨rfl, HB1.out.bel⟩
theorem zGN (ts : List Tp) (ws : List Pt) (own : Ev) (kn : List Ev) (tv ov wv kv : Value) (n : Nat) (Q : Cn → Bool) (ih : Hok 26 Q ts ws own kn tv ov wv kv n) (cs : List Cn) (hcs : ∀ c, c ∈ cs → Wsz c ∧ (cdk ts ws (ts.getD own.t.toNat dT) n c).2 = 0) (v : Value) (w : World) (hs : Scn w ts ws own kn tv ov wv kv) (h : Rd w (.row 33 14 (cs.map encC)) v) :
  Calls Tryd.prog 63 #[v, .func (.func 26) #[snV tv own ov wv kv] #[]] w fun e w' => e = .returned (.int .i64 (ixq Q cs 0)) ∧ Below w.heap.size w w' := by
 obtain ⟨p, cap, rfl, hmx, hat⟩ := zAG lenC h
 have HAT : Hid (At encC 14 w p cs) := hat
 obtain ⟨m, hnl⟩ : ∃ n, cs.length = n := ⟨_, rfl⟩
 have HN := hid hnl
 have HS := hid hs
 rw [hnl] at hmx ⊢
 obtain ⟨SV, hSV⟩ : ∃ SV, snV tv own ov wv kv = SV := ⟨_, rfl⟩
 have HCL : Hid (∀ (k : Nat) (hk : k < cs.length) W, Below w.heap.size w W → ∀ A, RdL W (encC cs[k]) A → Calls Tryd.prog 26 #[SV, .agg A.toArray] W fun e w' => e = .returned (.bool (Q cs[k])) ∧ Below W.heap.size W w') := fun k hk W hW A hA => by
  obtain ⟨cv, z1, o2⟩ := zCU hA
  rw [z1, ← hSV]
  exact ih cs[k] cv W (HS.out.later hW) o2 (hcs _ (List.getElem_mem hk)).1 (hcs _ (List.getElem_mem hk)).2
 rw [hSV]
 clear h hat hnl hs ih hcs hSV
 go_enter Tryd.func63, Tryd.ntmps63
 go_wp2_with fail
 go_loopg [8] (m + 1) (fun gg i wr => ∃ k : Nat, k ≤ m ∧ gg = m + 1 - k ∧ i = .int .i64 (k : Nat) ∧ (∀ (j : Nat) (hj : j < cs.length), j < k → Q cs[j] = false) ∧ Below w.heap.size w wr)
 case atStart => exact ⟨0, by omega, by omega, rfl, fun j _ h => by omega, Below.refl _ _⟩
 case round =>
  obtain ⟨k, hk, rfl, rfl, hno, hB⟩ := hrel
  have HB := hid hB
  by_cases hlt : k < m
  . have hkc : k < cs.length := by have := HN.out; omega
    obtain ⟨g, off, rfl, hrd⟩ := HAT.out (by omega)
    obtain ⟨A, r1, o1⟩ := hrd wr hB k hkc
    have hAz : A.length = 14 := o1.1.symm
    have ZA : Hid ((Tryd.prog.info? 33).map (·.size) = some A.length) := by show _ = _; rw [hAz]; kernel_rfl
    have HCM := hid (HCL.out k hkc wr hB A o1)
    have HNO := hid hno
    obtain ⟨q, hq⟩ : ∃ q, Q cs[k] = q := ⟨_, rfl⟩
    have HQK : Hid (Q cs[k] = q) := hq
    rw [hq] at HCM
    have X1_ := hid r1
    have i1 : (0 : Int) ≤ (k : Int) := by omega
    have i2 : (k : Int) < (m : Int) := by omega
    clear hno hB hrd o1 r1 hq hAz
    cases q with
    | true =>
     go_wp2_with (first
      | ((with_reducible refine gLq ?_); refine wpList_load_mid (by rfl) 33 _ (by rfl) g (off + k * 14) (by rfl) A _ X1_.out Tryd.underlying33 rfl ZA.out ?_)
      | (go_at_call 26; refine HCM.out.mono ?_; rintro e w2 ⟨rfl, hb2⟩; have HB2 := hid (zAA HB.out hb2 HB.out.size); clear hb2))
     go_ret
     exact ⟨zAC (by show (k : Int) = ixq _ _ _; rw [zB2 (q := Q) cs 0 k hkc (fun j hj => HNO.out j (by omega) hj) (by exact HQK.out)]; simp), HB2.out⟩
    | false =>
     go_wp2_with (first
      | ((with_reducible refine gLq ?_); refine wpList_load_mid (by rfl) 33 _ (by rfl) g (off + k * 14) (by rfl) A _ X1_.out Tryd.underlying33 rfl ZA.out ?_)
      | (go_at_call 26; refine HCM.out.mono ?_; rintro e w2 ⟨rfl, hb2⟩; have HB2 := hid (zAA HB.out hb2 HB.out.size); clear hb2))
     go_roundg (m + 1 - (k + 1))
     case rel =>
      refine ⟨k + 1, by omega, rfl, by go_num, fun j hj hjk => ?_, HB2.out⟩
      by_cases c : j < k
      . exact HNO.out j hj c
      . obtain rfl : j = k := by omega
        exact HQK.out
     case measure => omega
  . obtain rfl : k = m := by omega
    have HR := hid (show ixq Q cs 0 = -1 from zBL _ _ (fun x hx => by
     obtain ⟨j, hj, rfl⟩ := List.getElem_of_mem hx
     exact hno j hj (by have := HN.out; omega)))
    clear hno hB
    go_wp2_with fail
    go_ret
    exact ⟨zAC HR.out.symm, HB.out⟩
theorem zDS (ts : List Tp) (ws : List Pt) (own : Ev) (kn : List Ev) (tv ov wv kv : Value) (n : Nat) (Q : Cn → Bool) (ih : Hok 26 Q ts ws own kn tv ov wv kv n) (cs : List Cn) (hcs : ∀ c, c ∈ cs → Wsz c ∧ (cdk ts ws (ts.getD own.t.toNat dT) n c).2 = 0) (v : Value) (w : World) (hs : Scn w ts ws own kn tv ov wv kv) (h : Rd w (.row 33 14 (cs.map encC)) v) (q : Bool) (hq : cs.any Q = q) :
   Calls Tryd.prog 41 #[v, .func (.func 26) #[snV tv own ov wv kv] #[]] w fun e w' => e = .returned (.bool q) ∧ Below w.heap.size w w' := by
 have hC := zGN ts ws own kn tv ov wv kv n Q ih cs hcs v w hs h
 obtain ⟨p, l, cap, rfl⟩ := zAB h
 have ha := zCR (q := Q) cs 0
 rw [hq] at ha
 obtain ⟨x, hx⟩ : ∃ x, ixq Q cs 0 = x := ⟨_, rfl⟩
 rw [hx] at ha hC
 have d : decide (0 ≤ x) = q := by cases q <;> simp_all
 obtain ⟨SV, hSV⟩ : ∃ SV, snV tv own ov wv kv = SV := ⟨_, rfl⟩
 rw [hSV] at hC ⊢
 have HC := hid hC
 clear hx hq h ha hs hcs ih hC hSV
 cases q <;>
 . go_enter Tryd.func41, Tryd.ntmps41
   go_wp2_with fail
   refine HC.out.mono ?_
   rintro e w2 ⟨rfl, hb2⟩
   have HB := hid hb2
   clear hb2
   go_wp2_with fail
   go_ret
   exact ⟨rfl, HB.out⟩
theorem zGY (ts : List Tp) (ws : List Pt) (own : Ev) (kn : List Ev) (tv ov wv kv : Value) (n : Nat) (Q : Cn → Bool) (ih : Hok 42 Q ts ws own kn tv ov wv kv n) (cs : List Cn) (hcs : ∀ c, c ∈ cs → Wsz c ∧ (cdk ts ws (ts.getD own.t.toNat dT) n c).2 = 0) (v : Value) (w : World) (hs : Scn w ts ws own kn tv ov wv kv) (h : Rd w (.row 33 14 (cs.map encC)) v) :
  Calls Tryd.prog 63 #[v, .func (.func 42) #[snV tv own ov wv kv] #[]] w fun e w' => e = .returned (.int .i64 (ixq Q cs 0)) ∧ Below w.heap.size w w' := by
 obtain ⟨p, cap, rfl, hmx, hat⟩ := zAG lenC h
 have HAT : Hid (At encC 14 w p cs) := hat
 obtain ⟨m, hnl⟩ : ∃ n, cs.length = n := ⟨_, rfl⟩
 have HN := hid hnl
 have HS := hid hs
 rw [hnl] at hmx ⊢
 obtain ⟨SV, hSV⟩ : ∃ SV, snV tv own ov wv kv = SV := ⟨_, rfl⟩
 have HCL : Hid (∀ (k : Nat) (hk : k < cs.length) W, Below w.heap.size w W → ∀ A, RdL W (encC cs[k]) A → Calls Tryd.prog 42 #[SV, .agg A.toArray] W fun e w' => e = .returned (.bool (Q cs[k])) ∧ Below W.heap.size W w') := fun k hk W hW A hA => by
  obtain ⟨cv, z1, o2⟩ := zCU hA
  rw [z1, ← hSV]
  exact ih cs[k] cv W (HS.out.later hW) o2 (hcs _ (List.getElem_mem hk)).1 (hcs _ (List.getElem_mem hk)).2
 rw [hSV]
 clear h hat hnl hs ih hcs hSV
 go_enter Tryd.func63, Tryd.ntmps63
 go_wp2_with fail
 go_loopg [8] (m + 1) (fun gg i wr => ∃ k : Nat, k ≤ m ∧ gg = m + 1 - k ∧ i = .int .i64 (k : Nat) ∧ (∀ (j : Nat) (hj : j < cs.length), j < k → Q cs[j] = false) ∧ Below w.heap.size w wr)
 case atStart => exact ⟨0, by omega, by omega, rfl, fun j _ h => by omega, Below.refl _ _⟩
 case round =>
  obtain ⟨k, hk, rfl, rfl, hno, hB⟩ := hrel
  have HB := hid hB
  by_cases hlt : k < m
  . have hkc : k < cs.length := by have := HN.out; omega
    obtain ⟨g, off, rfl, hrd⟩ := HAT.out (by omega)
    obtain ⟨A, r1, o1⟩ := hrd wr hB k hkc
    have hAz : A.length = 14 := o1.1.symm
    have ZA : Hid ((Tryd.prog.info? 33).map (·.size) = some A.length) := by show _ = _; rw [hAz]; kernel_rfl
    have HCM := hid (HCL.out k hkc wr hB A o1)
    have HNO := hid hno
    obtain ⟨q, hq⟩ : ∃ q, Q cs[k] = q := ⟨_, rfl⟩
    have HQK : Hid (Q cs[k] = q) := hq
    rw [hq] at HCM
    have X1_ := hid r1
    have i1 : (0 : Int) ≤ (k : Int) := by omega
    have i2 : (k : Int) < (m : Int) := by omega
    clear hno hB hrd o1 r1 hq hAz
    cases q with
    | true =>
     go_wp2_with (first
      | ((with_reducible refine gLq ?_); refine wpList_load_mid (by rfl) 33 _ (by rfl) g (off + k * 14) (by rfl) A _ X1_.out Tryd.underlying33 rfl ZA.out ?_)
      | (go_at_call 42; refine HCM.out.mono ?_; rintro e w2 ⟨rfl, hb2⟩; have HB2 := hid (zAA HB.out hb2 HB.out.size); clear hb2))
     go_ret
     exact ⟨zAC (by show (k : Int) = ixq _ _ _; rw [zB2 (q := Q) cs 0 k hkc (fun j hj => HNO.out j (by omega) hj) (by exact HQK.out)]; simp), HB2.out⟩
    | false =>
     go_wp2_with (first
      | ((with_reducible refine gLq ?_); refine wpList_load_mid (by rfl) 33 _ (by rfl) g (off + k * 14) (by rfl) A _ X1_.out Tryd.underlying33 rfl ZA.out ?_)
      | (go_at_call 42; refine HCM.out.mono ?_; rintro e w2 ⟨rfl, hb2⟩; have HB2 := hid (zAA HB.out hb2 HB.out.size); clear hb2))
     go_roundg (m + 1 - (k + 1))
     case rel =>
      refine ⟨k + 1, by omega, rfl, by go_num, fun j hj hjk => ?_, HB2.out⟩
      by_cases c : j < k
      . exact HNO.out j hj c
      . obtain rfl : j = k := by omega
        exact HQK.out
     case measure => omega
  . obtain rfl : k = m := by omega
    have HR := hid (show ixq Q cs 0 = -1 from zBL _ _ (fun x hx => by
     obtain ⟨j, hj, rfl⟩ := List.getElem_of_mem hx
     exact hno j hj (by have := HN.out; omega)))
    clear hno hB
    go_wp2_with fail
    go_ret
    exact ⟨zAC HR.out.symm, HB.out⟩
theorem zEF (ts : List Tp) (ws : List Pt) (own : Ev) (kn : List Ev) (tv ov wv kv : Value) (n : Nat) (Q : Cn → Bool) (ih : Hok 42 Q ts ws own kn tv ov wv kv n) (cs : List Cn) (hcs : ∀ c, c ∈ cs → Wsz c ∧ (cdk ts ws (ts.getD own.t.toNat dT) n c).2 = 0) (v : Value) (w : World) (hs : Scn w ts ws own kn tv ov wv kv) (h : Rd w (.row 33 14 (cs.map encC)) v) (q : Bool) (hq : cs.any Q = q) :
   Calls Tryd.prog 41 #[v, .func (.func 42) #[snV tv own ov wv kv] #[]] w fun e w' => e = .returned (.bool q) ∧ Below w.heap.size w w' := by
 have hC := zGY ts ws own kn tv ov wv kv n Q ih cs hcs v w hs h
 obtain ⟨p, l, cap, rfl⟩ := zAB h
 have ha := zCR (q := Q) cs 0
 rw [hq] at ha
 obtain ⟨x, hx⟩ : ∃ x, ixq Q cs 0 = x := ⟨_, rfl⟩
 rw [hx] at ha hC
 have d : decide (0 ≤ x) = q := by cases q <;> simp_all
 obtain ⟨SV, hSV⟩ : ∃ SV, snV tv own ov wv kv = SV := ⟨_, rfl⟩
 rw [hSV] at hC ⊢
 have HC := hid hC
 clear hx hq h ha hs hcs ih hC hSV
 cases q <;>
 . go_enter Tryd.func41, Tryd.ntmps41
   go_wp2_with fail
   refine HC.out.mono ?_
   rintro e w2 ⟨rfl, hb2⟩
   have HB := hid hb2
   clear hb2
   go_wp2_with fail
   go_ret
   exact ⟨rfl, HB.out⟩
theorem zGJ (ts : List Tp) (ws : List Pt) (own : Ev) (kn : List Ev) (tv ov wv kv : Value) (c : Cn) (cv : Value) (w : World) (hs : Scn w ts ws own kn tv ov wv kv) (hcr : Rd w (.row 33 14 c.sb) cv) (h0 : c.k = 0) : Calls Tryd.prog 26 #[snV tv own ov wv kv, cnV c.k cv c.l c.r] w fun e w' => e = .returned (.bool (true)) ∧ Below w.heap.size w w' := by
  obtain ⟨cp, cn, cc, hcv⟩ := zAB hcr
  obtain ⟨tp, tn, tc, htv⟩ := zAB hs.rt
  obtain ⟨op, on2, oc, hov⟩ := zAB hs.ro
  obtain ⟨wp, wn, wc, hwv⟩ := zAB hs.rw
  obtain ⟨kp, kn2, kc, hkv⟩ := zAB hs.rk
  subst htv hov hwv hkv hcv
  obtain ⟨on, ot, ost, oen, ovl⟩ := own
  obtain ⟨ck, csb, ⟨lk, lvk, lvi, lvt, lva, lfd⟩, ⟨rk, rvk, rvi, rvt, rva, rfd⟩⟩ := c
  have hB : Bxs w ((w.alloc (.cells #[.slice tp tn tc, .int .i64 on, .int .i64 ot, .int .i64 ost, .int .i64 oen, .slice op on2 oc, .slice wp wn wc, .slice kp kn2 kc] 80)).alloc (.cells #[.int .i64 ck, .slice cp cn cc, .int .i64 lk, .int .i64 lvk, .int .i64 lvi, .string lvt, .string lva, .string lfd, .int .i64 rk, .int .i64 rvk, .int .i64 rvi, .string rvt, .string rva, .string rfd] 33)) [([.slice tp tn tc, .int .i64 on, .int .i64 ot, .int .i64 ost, .int .i64 oen, .slice op on2 oc, .slice wp wn wc, .slice kp kn2 kc], 80), ([.int .i64 ck, .slice cp cn cc, .int .i64 lk, .int .i64 lvk, .int .i64 lvi, .string lvt, .string lva, .string lfd, .int .i64 rk, .int .i64 rvk, .int .i64 rvi, .string rvt, .string rva, .string rfd], 33)] := bxs2 w _ _ _ _
  simp only at h0
  subst h0
  have HB := hid hB.bel
  clear hB hs hcr
  go_enter Tryd.func26, Tryd.ntmps26
  go_wp2_with fail
  go_ret
  exact ⟨rfl, HB.out⟩
theorem zG2 (ts : List Tp) (ws : List Pt) (own : Ev) (kn : List Ev) (tv ov wv kv : Value) (c : Cn) (cv : Value) (w : World) (hs : Scn w ts ws own kn tv ov wv kv) (hcr : Rd w (.row 33 14 c.sb) cv) (h0 : c.k = 1) (q : Bool) (hC : ∀ W, Below w.heap.size w W → Calls Tryd.prog 41 #[cv, .func (.func 42) #[snV tv own ov wv kv] #[]] W fun e w' => e = .returned (.bool q) ∧ Below W.heap.size W w') : Calls Tryd.prog 26 #[snV tv own ov wv kv, cnV c.k cv c.l c.r] w fun e w' => e = .returned (.bool (!q)) ∧ Below w.heap.size w w' := by
 obtain ⟨cp, cn, cc, hcv⟩ := zAB hcr
 obtain ⟨tp, tn, tc, htv⟩ := zAB hs.rt
 obtain ⟨op, on2, oc, hov⟩ := zAB hs.ro
 obtain ⟨wp, wn, wc, hwv⟩ := zAB hs.rw
 obtain ⟨kp, kn2, kc, hkv⟩ := zAB hs.rk
 subst htv hov hwv hkv hcv
 obtain ⟨on, ot, ost, oen, ovl⟩ := own
 obtain ⟨ck, csb, ⟨lk, lvk, lvi, lvt, lva, lfd⟩, ⟨rk, rvk, rvi, rvt, rva, rfd⟩⟩ := c
 have hB : Bxs w ((w.alloc (.cells #[.slice tp tn tc, .int .i64 on, .int .i64 ot, .int .i64 ost, .int .i64 oen, .slice op on2 oc, .slice wp wn wc, .slice kp kn2 kc] 80)).alloc (.cells #[.int .i64 ck, .slice cp cn cc, .int .i64 lk, .int .i64 lvk, .int .i64 lvi, .string lvt, .string lva, .string lfd, .int .i64 rk, .int .i64 rvk, .int .i64 rvi, .string rvt, .string rva, .string rfd] 33)) [([.slice tp tn tc, .int .i64 on, .int .i64 ot, .int .i64 ost, .int .i64 oen, .slice op on2 oc, .slice wp wn wc, .slice kp kn2 kc], 80), ([.int .i64 ck, .slice cp cn cc, .int .i64 lk, .int .i64 lvk, .int .i64 lvi, .string lvt, .string lva, .string lfd, .int .i64 rk, .int .i64 rvk, .int .i64 rvi, .string rvt, .string rva, .string rfd], 33)] := bxs2 w _ _ _ _
 simp only at h0 hC
 subst h0
 have HC := hid hC
 have HB := hid hB
 have XS := hid (hB.r 0 (by simp))
 clear hB hs hcr hC
 go_enter Tryd.func26, Tryd.ntmps26
 go_wp2_with ((with_reducible refine gLq ?_); refine wpList_load_mid (by rfl) 80 _ (by rfl) w.heap.size 0 (by rfl) [.slice tp tn tc, .int .i64 on, .int .i64 ot, .int .i64 ost, .int .i64 oen, .slice op on2 oc, .slice wp wn wc, .slice kp kn2 kc] _ XS.out Tryd.underlying80 rfl (by kernel_rfl) ?_)
 refine (HC.out _ HB.out.bel).mono ?_
 rintro e w1 ⟨rfl, hb1⟩
 have HB1 := hid (HB.out.next hb1)
 clear hb1
 cases q <;>
 . go_wp2_with fail
   go_ret
   exact ⟨rfl, HB1.out.bel⟩
theorem holds_or (ts : List Tp) (ws : List Pt) (own : Ev) (kn : List Ev) (tv ov wv kv : Value) (c : Cn) (cv : Value) (w : World) (hs : Scn w ts ws own kn tv ov wv kv) (hcr : Rd w (.row 33 14 c.sb) cv) (h0 : c.k = 2) (q : Bool) (hC : ∀ W, Below w.heap.size w W → Calls Tryd.prog 41 #[cv, .func (.func 26) #[snV tv own ov wv kv] #[]] W fun e w' => e = .returned (.bool q) ∧ Below W.heap.size W w') : Calls Tryd.prog 26 #[snV tv own ov wv kv, cnV c.k cv c.l c.r] w fun e w' => e = .returned (.bool (q)) ∧ Below w.heap.size w w' := by
 obtain ⟨cp, cn, cc, hcv⟩ := zAB hcr
 obtain ⟨tp, tn, tc, htv⟩ := zAB hs.rt
 obtain ⟨op, on2, oc, hov⟩ := zAB hs.ro
 obtain ⟨wp, wn, wc, hwv⟩ := zAB hs.rw
 obtain ⟨kp, kn2, kc, hkv⟩ := zAB hs.rk
 subst htv hov hwv hkv hcv
 obtain ⟨on, ot, ost, oen, ovl⟩ := own
 obtain ⟨ck, csb, ⟨lk, lvk, lvi, lvt, lva, lfd⟩, ⟨rk, rvk, rvi, rvt, rva, rfd⟩⟩ := c
 have hB : Bxs w ((w.alloc (.cells #[.slice tp tn tc, .int .i64 on, .int .i64 ot, .int .i64 ost, .int .i64 oen, .slice op on2 oc, .slice wp wn wc, .slice kp kn2 kc] 80)).alloc (.cells #[.int .i64 ck, .slice cp cn cc, .int .i64 lk, .int .i64 lvk, .int .i64 lvi, .string lvt, .string lva, .string lfd, .int .i64 rk, .int .i64 rvk, .int .i64 rvi, .string rvt, .string rva, .string rfd] 33)) [([.slice tp tn tc, .int .i64 on, .int .i64 ot, .int .i64 ost, .int .i64 oen, .slice op on2 oc, .slice wp wn wc, .slice kp kn2 kc], 80), ([.int .i64 ck, .slice cp cn cc, .int .i64 lk, .int .i64 lvk, .int .i64 lvi, .string lvt, .string lva, .string lfd, .int .i64 rk, .int .i64 rvk, .int .i64 rvi, .string rvt, .string rva, .string rfd], 33)] := bxs2 w _ _ _ _
 simp only at h0 hC
 subst h0
 have HC := hid hC
 have HB := hid hB
 have XS := hid (hB.r 0 (by simp))
 clear hB hs hcr hC
 go_enter Tryd.func26, Tryd.ntmps26
 go_wp2_with ((with_reducible refine gLq ?_); refine wpList_load_mid (by rfl) 80 _ (by rfl) w.heap.size 0 (by rfl) [.slice tp tn tc, .int .i64 on, .int .i64 ot, .int .i64 ost, .int .i64 oen, .slice op on2 oc, .slice wp wn wc, .slice kp kn2 kc] _ XS.out Tryd.underlying80 rfl (by kernel_rfl) ?_)
 refine (HC.out _ HB.out.bel).mono ?_
 rintro e w1 ⟨rfl, hb1⟩
 have HB1 := hid (HB.out.next hb1)
 clear hb1
 cases q <;>
 . go_wp2_with fail
   go_ret
   exact ⟨rfl, HB1.out.bel⟩
theorem zHI (ts : List Tp) (ws : List Pt) (own : Ev) (kn : List Ev) (tv ov wv kv : Value) (c : Cn) (cv : Value) (w : World) (hs : Scn w ts ws own kn tv ov wv kv) (hcr : Rd w (.row 33 14 c.sb) cv) (h4 : 4 ≤ c.k) (h7 : c.k ≤ 7) (q : Bool) (hC : ∀ W, Below w.heap.size w W → Calls Tryd.prog 43 #[snV tv own ov wv kv, cnV c.k cv c.l c.r] W fun e w' => e = .returned (.bool q) ∧ Below W.heap.size W w') : Calls Tryd.prog 26 #[snV tv own ov wv kv, cnV c.k cv c.l c.r] w fun e w' => e = .returned (.bool (q)) ∧ Below w.heap.size w w' := by
 obtain ⟨cp, cn, cc, hcv⟩ := zAB hcr
 obtain ⟨tp, tn, tc, htv⟩ := zAB hs.rt
 obtain ⟨op, on2, oc, hov⟩ := zAB hs.ro
 obtain ⟨wp, wn, wc, hwv⟩ := zAB hs.rw
 obtain ⟨kp, kn2, kc, hkv⟩ := zAB hs.rk
 subst htv hov hwv hkv hcv
 obtain ⟨on, ot, ost, oen, ovl⟩ := own
 obtain ⟨ck, csb, ⟨lk, lvk, lvi, lvt, lva, lfd⟩, ⟨rk, rvk, rvi, rvt, rva, rfd⟩⟩ := c
 have hB : Bxs w ((w.alloc (.cells #[.slice tp tn tc, .int .i64 on, .int .i64 ot, .int .i64 ost, .int .i64 oen, .slice op on2 oc, .slice wp wn wc, .slice kp kn2 kc] 80)).alloc (.cells #[.int .i64 ck, .slice cp cn cc, .int .i64 lk, .int .i64 lvk, .int .i64 lvi, .string lvt, .string lva, .string lfd, .int .i64 rk, .int .i64 rvk, .int .i64 rvi, .string rvt, .string rva, .string rfd] 33)) [([.slice tp tn tc, .int .i64 on, .int .i64 ot, .int .i64 ost, .int .i64 oen, .slice op on2 oc, .slice wp wn wc, .slice kp kn2 kc], 80), ([.int .i64 ck, .slice cp cn cc, .int .i64 lk, .int .i64 lvk, .int .i64 lvi, .string lvt, .string lva, .string lfd, .int .i64 rk, .int .i64 rvk, .int .i64 rvi, .string rvt, .string rva, .string rfd], 33)] := bxs2 w _ _ _ _
 simp only at h4 h7 hC
 have d0 : decide (ck = 0) = false := by simp; omega
 have d1 : decide (ck = 1) = false := by simp; omega
 have d2 : decide (ck = 2) = false := by simp; omega
 have d3 : decide (ck = 3) = false := by simp; omega
 have n0 : ¬ ck = 0 := by omega
 have n1 : ¬ ck = 1 := by omega
 have n2 : ¬ ck = 2 := by omega
 have n3 : ¬ ck = 3 := by omega
 have HC := hid hC
 have HB := hid hB
 have XS := hid (hB.r 0 (by simp))
 have XC := hid (hB.r 1 (by simp))
 clear hB hs hcr hC
 go_enter Tryd.func26, Tryd.ntmps26
 go_wp2_with (first
  | ((with_reducible refine gLq ?_); refine wpList_load_mid (by rfl) 80 _ (by rfl) w.heap.size 0 (by rfl) [.slice tp tn tc, .int .i64 on, .int .i64 ot, .int .i64 ost, .int .i64 oen, .slice op on2 oc, .slice wp wn wc, .slice kp kn2 kc] _ XS.out Tryd.underlying80 rfl (by kernel_rfl) ?_)
  | ((with_reducible refine gLq ?_); refine wpList_load_mid (by rfl) 33 _ (by rfl) (w.heap.size + 1) 0 (by rfl) [.int .i64 ck, .slice cp cn cc, .int .i64 lk, .int .i64 lvk, .int .i64 lvi, .string lvt, .string lva, .string lfd, .int .i64 rk, .int .i64 rvk, .int .i64 rvi, .string rvt, .string rva, .string rfd] _ XC.out Tryd.underlying33 rfl (by kernel_rfl) ?_))
 refine (HC.out _ HB.out.bel).mono ?_
 rintro e w1 ⟨rfl, hb1⟩
 have HB1 := hid (HB.out.next hb1)
 clear hb1
 go_wp2_with fail
 go_ret
 exact ⟨rfl, HB1.out.bel⟩
theorem zHB (ts : List Tp) (ws : List Pt) (own : Ev) (kn : List Ev) (tv ov wv kv : Value) (c : Cn) (cv : Value) (w : World) (hs : Scn w ts ws own kn tv ov wv kv) (hcr : Rd w (.row 33 14 c.sb) cv) (h0 : c.k = 3) (x : Cn) (hx : c.sb = [encC x]) (q : Bool) (hC : ∀ W, Below w.heap.size w W → ∀ xv, Rd W (.row 33 14 x.sb) xv → Calls Tryd.prog 42 #[snV tv own ov wv kv, cnV x.k xv x.l x.r] W fun e w' => e = .returned (.bool q) ∧ Below W.heap.size W w') : Calls Tryd.prog 26 #[snV tv own ov wv kv, cnV c.k cv c.l c.r] w fun e w' => e = .returned (.bool (q)) ∧ Below w.heap.size w w' := by
 have hcr2 : Rd w (.row 33 14 ([x].map encC)) cv := by rw [hx] at hcr; exact hcr
 obtain ⟨p', cap', hcv2, _, hat⟩ := zAG lenC hcr2
 obtain ⟨g, off, hp', hrd⟩ := hat (by simp)
 obtain ⟨A, r1, o1⟩ := hrd w (Below.refl _ _) 0 (by simp)
 have r1' : w.rangeAt g off A := by simpa using r1
 obtain ⟨xv, z1, o2⟩ := zCU o1
 have z1' : A = cnC x.k xv x.l x.r := z1
 have o2' : Rd w (.row 33 14 x.sb) xv := o2
 have hAz : A.length = 14 := o1.1.symm
 obtain ⟨cp, cn, cc, hcv⟩ := zAB hcr
 obtain ⟨hcn, hcp⟩ : cn = 1 ∧ cp = some ⟨g, off, none⟩ := by
  rw [hcv] at hcv2
  simp only [Value.slice.injEq] at hcv2
  exact ⟨hcv2.2.1, hcv2.1.trans hp'⟩
 subst hcn hcp
 have HFC0 : ∀ W, Below w.heap.size w W → Calls Tryd.prog 42 #[snV tv own ov wv kv, .agg A.toArray] W fun e w' => e = .returned (.bool q) ∧ Below W.heap.size W w' := fun W hW => by rw [z1']; exact hC W hW xv (o2'.later hW)
 clear hcr2 hcv2 hat hp' hrd r1 o1 z1 o2 z1' o2' hx hC
 obtain ⟨tp, tn, tc, htv⟩ := zAB hs.rt
 obtain ⟨op, on2, oc, hov⟩ := zAB hs.ro
 obtain ⟨wp, wn, wc, hwv⟩ := zAB hs.rw
 obtain ⟨kp, kn2, kc, hkv⟩ := zAB hs.rk
 subst htv hov hwv hkv hcv
 obtain ⟨on, ot, ost, oen, ovl⟩ := own
 obtain ⟨ck, csb, ⟨lk, lvk, lvi, lvt, lva, lfd⟩, ⟨rk, rvk, rvi, rvt, rva, rfd⟩⟩ := c
 have hB : Bxs w ((w.alloc (.cells #[.slice tp tn tc, .int .i64 on, .int .i64 ot, .int .i64 ost, .int .i64 oen, .slice op on2 oc, .slice wp wn wc, .slice kp kn2 kc] 80)).alloc (.cells #[.int .i64 ck, .slice (some ⟨g, off, none⟩) 1 cc, .int .i64 lk, .int .i64 lvk, .int .i64 lvi, .string lvt, .string lva, .string lfd, .int .i64 rk, .int .i64 rvk, .int .i64 rvi, .string rvt, .string rva, .string rfd] 33)) [([.slice tp tn tc, .int .i64 on, .int .i64 ot, .int .i64 ost, .int .i64 oen, .slice op on2 oc, .slice wp wn wc, .slice kp kn2 kc], 80), ([.int .i64 ck, .slice (some ⟨g, off, none⟩) 1 cc, .int .i64 lk, .int .i64 lvk, .int .i64 lvi, .string lvt, .string lva, .string lfd, .int .i64 rk, .int .i64 rvk, .int .i64 rvi, .string rvt, .string rva, .string rfd], 33)] := bxs2 w _ _ _ _
 simp only at h0 HFC0
 subst h0
 obtain ⟨UL, hUL⟩ : ∃ UL : List Value, [.slice tp tn tc, .int .i64 on, .int .i64 ot, .int .i64 ost, .int .i64 oen, .slice op on2 oc, .slice wp wn wc, .slice kp kn2 kc] = UL := ⟨_, rfl⟩
 have HFC : Hid (∀ W, Below w.heap.size w W → Calls Tryd.prog 42 #[.agg UL.toArray, .agg A.toArray] W fun e w' => e = .returned (.bool q) ∧ Below W.heap.size W w') := fun W hW => by rw [← hUL]; exact HFC0 W hW
 have ZU : Hid ((Tryd.prog.info? 80).map (·.size) = some UL.length) := by show _ = _; rw [← hUL]; kernel_rfl
 have ZA : Hid ((Tryd.prog.info? 33).map (·.size) = some A.length) := by show _ = _; rw [hAz]; kernel_rfl
 have HS9 : Hid (∀ W, Bxs w W [([.slice tp tn tc, .int .i64 on, .int .i64 ot, .int .i64 ost, .int .i64 oen, .slice op on2 oc, .slice wp wn wc, .slice kp kn2 kc], 80), ([.int .i64 3, .slice (some ⟨g, off, none⟩) 1 cc, .int .i64 lk, .int .i64 lvk, .int .i64 lvi, .string lvt, .string lva, .string lfd, .int .i64 rk, .int .i64 rvk, .int .i64 rvi, .string rvt, .string rva, .string rfd], 33)] → (W.rangeAt w.heap.size 0 UL ∧ W.cell? ⟨w.heap.size + 1, 1, none⟩ = some (.slice (some ⟨g, off, none⟩) 1 cc) ∧ W.rangeAt g off A)) := fun W h => ⟨by rw [← hUL]; exact h.r 0 (by simp), h.c 1 (by simp) 1, zAP r1' h.bel⟩
 have HB := hid hB
 have HD := hid (hB.next (Below.drew (Below.refl _ _)))
 clear hB hs hcr HFC0 hUL hAz r1'
 go_enter Tryd.func26, Tryd.ntmps26
 go_wp2_with fail
 refine zBG (S := (fun w' => w'.rangeAt w.heap.size 0 UL ∧ w'.cell? ⟨w.heap.size + 1, 1, none⟩ = some (.slice (some ⟨g, off, none⟩) 1 cc) ∧ w'.rangeAt g off A)) 7 #[false, false, false, false, false, false, false] rfl rfl (by kernel_rfl) (HS9.out _ HD.out) (fun hHeld => ?_)
 refine tkq (i := 1) (v := ?v8) rfl ?hy8 ?rest8; (case hy8 => intro w0 hSw; (try dsimp only at hSw); go_simp <;> (try (with_reducible rfl))); (try simp only [puts])
 refine tkq (i := 2) (v := ?v9) rfl ?hy9 ?rest9; (case hy9 => intro w0 hSw; (try dsimp only at hSw); go_simp <;> (try (with_reducible rfl))); (try simp only [puts])
 refine tkq (i := 3) (v := ?v10) rfl ?hy10 ?rest10; (case hy10 => intro w0 hSw; (try dsimp only at hSw); go_simp <;> (try (with_reducible rfl))); (try simp only [puts])
 refine tlq (i := 0) rfl (yieldsIf_load_mid (by rfl) 80 _ rfl w.heap.size (0) (by rfl) UL _ (fun _ h => h.1) Tryd.underlying80 rfl ZU.out) ?_
 (try simp only [puts])
 refine tlq (i := 4) rfl (yieldsIf_load_mid (by rfl) 33 _ rfl g (off) (by rfl) A _ (fun _ h => h.2.2) Tryd.underlying33 rfl ZA.out) ?_
 (try simp only [puts])
 refine wpAnyH_ready (rs := [5]) (by kernel_rfl) (by simp) ?_
 refine zAQ rfl (fun K hK => ?_) AllReadyH.nil
 refine zA2 42 zH2 (by rfl) _ _ _ (by rfl) (.agg UL.toArray) (.agg A.toArray) (by rfl) (by rfl) _ (HFC.out _ HD.out.bel) ?_
 rintro e w3 ⟨rfl, hb3⟩
 refine ⟨_, rfl, ?_⟩
 have HB3 := hid (HD.out.next hb3)
 clear hb3
 refine hK.out _ _ (HS9.out _ HB3.out) (fun hHeld => ?_)
 clear hK K
 (try simp only [puts])
 refine tkq (i := 6) (v := ?v11) rfl ?hy11 ?rest11; (case hy11 => intro w0 hSw; (try dsimp only at hSw); go_simp <;> (try (with_reducible rfl))); (try simp only [puts])
 refine wpAnyH_done (by kernel_rfl) ?_ _
 go_wp2_with fail
 go_ret
 exact ⟨rfl, HB3.out.bel⟩
theorem any_not {q : Cn → Bool} (l : List Cn) : (!(l.any fun c => !(q c))) = l.all q := by
  induction l with
  | nil => rfl
  | cons x r ih => rw [List.any_cons, List.all_cons, ← ih]; cases q x <;> simp
theorem zHD (ts : List Tp) (ws : List Pt) (own : Ev) (kn : List Ev) (tv ov wv kv : Value) (hk : Sok ts ws own kn) : ∀ n, Hok 26 (hld ts ws own kn n) ts ws own kn tv ov wv kv n := by
 intro n
 induction n with
 | zero => intro c cv w hs hcr hw hd; obtain ⟨m, hm, _⟩ := cdk_ok hd; omega
 | succ n ih =>
  intro c cv w hs hcr hw hd
  obtain ⟨m, hm, k1, k7, hg, hcm⟩ := cdk_ok hd
  obtain rfl : n = m := by omega
  have hfl := fails_s ts ws own kn tv ov wv kv n ih
  rw [hld, if_neg (by omega)]
  by_cases h3 : c.k ≤ 3
  . obtain ⟨g1, g2⟩ := hg h3
    obtain ⟨cs, hcs⟩ : ∃ cs : List Cn, c.sb = cs.map encC ∧ ∀ x, x ∈ cs → Wsz x := by cases hw with | mk _ cs e _ _ q => exact ⟨cs, e, q⟩
    have hsub : subs c = cs := zFN hcs.1
    rw [hsub] at g2 ⊢
    have hR : ∀ W, Below w.heap.size w W → Rd W (.row 33 14 (cs.map encC)) cv := fun W hW => by have := hcr.later hW; rw [hcs.1] at this; exact this
    by_cases h1 : c.k = 1
    . rw [if_pos h1, ← any_not]
      exact zG2 ts ws own kn tv ov wv kv c cv w hs hcr h1 _ (fun W hW => zEF ts ws own kn tv ov wv kv n _ hfl cs (fun x hx => ⟨hcs.2 x hx, g2 x hx⟩) cv W (hs.later hW) (hR W hW) _ rfl)
    . rw [if_neg h1]
      by_cases h2 : c.k = 2
      . rw [if_pos h2]
        exact holds_or ts ws own kn tv ov wv kv c cv w hs hcr h2 _ (fun W hW => zDS ts ws own kn tv ov wv kv n _ ih cs (fun x hx => ⟨hcs.2 x hx, g2 x hx⟩) cv W (hs.later hW) (hR W hW) _ rfl)
      . have h3' : c.k = 3 := by omega
        rw [if_neg h2, if_pos h3']
        have hl := g1 h3'
        rw [hcs.1, List.length_map] at hl
        obtain ⟨x, rfl⟩ : ∃ x, cs = [x] := by
         match cs, hl with
         | [x], _ => exact ⟨x, rfl⟩
        have hx : x ∈ [x] := List.mem_singleton.2 rfl
        exact zHB ts ws own kn tv ov wv kv c cv w hs hcr h3' x (by rw [hcs.1]; rfl) _ (fun W hW xv hxv => hfl x xv W (hs.later hW) hxv (hcs.2 x hx) (g2 x hx))
  . rw [if_neg (by omega), if_neg (by omega), if_neg (by omega)]
    obtain ⟨s1, s2, s3⟩ := hcm (by omega)
    exact zHI ts ws own kn tv ov wv kv c cv w hs hcr (by omega) k7 _ (fun W hW => zGQ ts ws own kn tv ov wv kv hk c cv W (hs.later hW) (zAB hcr) (by omega) k7 s1 s2 s3)
/-! Ways of rules: as many steps as there are rules are enough. -/
def gdr (rs : List Rl) (ot : ByteArray) : Nat → Rl → Bool
  | 0, _ => false
  | n + 1, x => !(emp x.e.ty) && (seq x.e.ty ot || cmo rs ot n x.e.ty)
theorem zCH (rs : List Rl) (ot : ByteArray) (n : Nat) (nm : ByteArray) : cmo rs ot n nm = rs.any fun x => spk x.w x.t x.m nm && gdr rs ot n x := by
 cases n with
 | zero => rw [cmo]; symm; rw [List.any_eq_false]; intro x _; simp [gdr]
 | succ n =>
  rw [cmo]
  congr 1
  funext x
  rw [gdr]
  cases emp x.e.ty <;> cases spk x.w x.t x.m nm <;> simp
theorem gdr_step {rs : List Rl} {ot : ByteArray} {a b : Nat} (h : ∀ x, x ∈ rs → gdr rs ot a x = gdr rs ot b x) (x : Rl) : gdr rs ot (a + 1) x = gdr rs ot (b + 1) x := by
 rw [gdr, gdr, zCH, zCH]
 have e : (rs.any fun y => spk y.w y.t y.m x.e.ty && gdr rs ot a y) = (rs.any fun y => spk y.w y.t y.m x.e.ty && gdr rs ot b y) := by
  rw [Bool.eq_iff_iff, List.any_eq_true, List.any_eq_true]
  constructor
  . rintro ⟨y, hy, h1⟩; exact ⟨y, hy, by rw [← h y hy]; exact h1⟩
  . rintro ⟨y, hy, h1⟩; exact ⟨y, hy, by rw [h y hy]; exact h1⟩
 rw [e]
theorem zCN (rs : List Rl) (ot : ByteArray) : ∀ (n : Nat) (x : Rl), gdr rs ot n x = true → gdr rs ot (n + 1) x = true
 | 0, x, h => by simp [gdr] at h
 | n + 1, x, h => by
  rw [gdr] at h ⊢
  rw [Bool.and_eq_true, Bool.or_eq_true] at h ⊢
  refine ⟨h.1, h.2.imp id fun c => ?_⟩
  rw [zCH, List.any_eq_true] at c ⊢
  obtain ⟨y, hy, h1⟩ := c
  rw [Bool.and_eq_true] at h1
  exact ⟨y, hy, by rw [Bool.and_eq_true]; exact ⟨h1.1, zCN rs ot n y h1.2⟩⟩
theorem gdr_le {rs : List Rl} {ot : ByteArray} {a b : Nat} (h : a ≤ b) (x : Rl) (hx : gdr rs ot a x = true) : gdr rs ot b x = true := by
 induction b with
 | zero => rw [show a = 0 by omega] at hx; exact hx
 | succ b ih =>
  by_cases c : a ≤ b
  . exact zCN rs ot b x (ih c)
  . obtain rfl : a = b + 1 := by omega
    exact hx
theorem zFK {rs : List Rl} {ot : ByteArray} {a : Nat} (h : ∀ x, x ∈ rs → gdr rs ot a x = gdr rs ot (a + 1) x) : ∀ (d : Nat) (x : Rl), x ∈ rs → gdr rs ot a x = gdr rs ot (a + d) x
 | 0, x, hx => rfl
 | d + 1, x, hx => by
  have ih := zFK h d
  rw [h x hx]
  exact gdr_step ih x
theorem zEV {α : Type} {p q : α → Bool} : ∀ (l : List α), (∀ x, p x = true → q x = true) → (∃ x, x ∈ l ∧ q x = true ∧ p x = false) → l.countP p < l.countP q
 | [], _, ⟨x, hx, _⟩ => by cases hx
 | y :: r, h, ⟨x, hx, h1, h2⟩ => by
  have hle : r.countP p ≤ r.countP q := List.countP_mono_left fun z _ hz => h z hz
  rw [List.countP_cons, List.countP_cons]
  rcases List.mem_cons.1 hx with rfl | hx
  . rw [if_pos h1, if_neg (by rw [h2]; decide)]; omega
  . have := zEV r h ⟨x, hx, h1, h2⟩
    by_cases c : p y = true
    . rw [if_pos c, if_pos (h y c)]; omega
    . rw [if_neg c]; split <;> omega
theorem zGG (rs : List Rl) (ot : ByteArray) : ∃ n, n ≤ rs.length ∧ ∀ x, x ∈ rs → gdr rs ot n x = gdr rs ot (n + 1) x := by
 refine Classical.byContradiction fun hno => ?_
 have hs : ∀ n, n ≤ rs.length → ∃ x, x ∈ rs ∧ gdr rs ot (n + 1) x = true ∧ gdr rs ot n x = false := fun n hn => by
  refine Classical.byContradiction fun hc => hno ⟨n, hn, fun x hx => ?_⟩
  cases h1 : gdr rs ot n x with
  | true => exact (zCN rs ot n x h1).symm
  | false =>
   cases h2 : gdr rs ot (n + 1) x with
   | false => rfl
   | true => exact absurd ⟨x, hx, h2, h1⟩ hc
 have hcnt : ∀ n, n ≤ rs.length + 1 → n ≤ rs.countP (gdr rs ot n) := fun n => by
  induction n with
  | zero => intro _; omega
  | succ n ih =>
   intro hn
   have h1 := ih (by omega)
   have h2 := zEV rs (zCN rs ot n) (hs n (by omega))
   omega
 have h1 := hcnt (rs.length + 1) (Nat.le_refl _)
 have h2 : rs.countP (gdr rs ot (rs.length + 1)) ≤ rs.length := List.countP_le_length
 omega
theorem zGX (rs : List Rl) (ot nm : ByteArray) (n : Nat) (h : cmo rs ot n nm = true) : cmo rs ot rs.length nm = true := by
  obtain ⟨a, ha, hst⟩ := zGG rs ot
  rw [zCH, List.any_eq_true] at h ⊢
  obtain ⟨x, hx, h1⟩ := h
  rw [Bool.and_eq_true] at h1
  refine ⟨x, hx, ?_⟩
  rw [Bool.and_eq_true]
  refine ⟨h1.1, ?_⟩
  have e1 := zFK hst (rs.length - a) x hx
  have e2 := zFK hst n x hx
  rw [show a + (rs.length - a) = rs.length by omega] at e1
  rw [← e1, e2]
  exact gdr_le (by omega) x h1.2
/-! Ways by types. -/
inductive Wlk (E : Nat → Nat → Prop) : Nat → Nat → Prop
  | one {i j : Nat} (h : E i j) : Wlk E i j
  | cons {i k j : Nat} (h : E i k) (t : Wlk E k j) : Wlk E i j
theorem Wlk.trans {E : Nat → Nat → Prop} {i k j : Nat} (h : Wlk E i k) (t : Wlk E k j) : Wlk E i j := by
  induction h with
  | one h => exact .cons h t
  | cons h _ ih => exact .cons h (ih t)
def Edg (ts : List Tp) (rs : List Rl) (i j : Nat) : Prop :=
  ∃ x, x ∈ rs ∧ emp x.e.ty = false ∧ (∃ p, p ∈ x.w ++ x.t ++ x.m.map Mn.p ∧ tyq ts p.ty = (i : Int)) ∧ tyq ts x.e.ty = (j : Int)
def Rok (ts : List Tp) (x : Rl) : Prop := (∀ p, p ∈ x.w ++ x.t ++ x.m.map Mn.p → ∃ i, ∃ _ : i < ts.length, tyq ts p.ty = (i : Int)) ∧ (emp x.e.ty = false → ∃ i, ∃ _ : i < ts.length, tyq ts x.e.ty = (i : Int))
theorem seq_refl (a : ByteArray) : seq a a = true := by unfold seq; simp
theorem zF4 {a b : ByteArray} (h : seq a b = true) : a.toList = b.toList := by simpa [seq] using h
theorem zCQ {a b : ByteArray} (h : seq a b = true) : seq b a = true := by have := zF4 h; simp [seq, this]
theorem zE8 {a b c : ByteArray} (h : seq a b = true) (k : seq b c = true) : seq a c = true := by have := zF4 h; have := zF4 k; simp [seq, *]
theorem zB3 (x : Rl) (n : ByteArray) : spk x.w x.t x.m n = true ↔ ∃ p, p ∈ x.w ++ x.t ++ x.m.map Mn.p ∧ seq p.ty n = true := by
 unfold spk
 rw [Bool.or_eq_true, Bool.or_eq_true, List.any_eq_true, List.any_eq_true, List.any_eq_true]
 constructor
 . rintro ((⟨p, hp, h⟩ | ⟨p, hp, h⟩) | ⟨m, hm, h⟩)
   . exact ⟨p, by simp [hp], h⟩
   . exact ⟨p, by simp [hp], h⟩
   . exact ⟨m.p, by simp; exact .inr (.inr ⟨m, hm, rfl⟩), h⟩
 . rintro ⟨p, hp, h⟩
   rw [List.mem_append, List.mem_append] at hp
   rcases hp with (hp | hp) | hp
   . exact .inl (.inl ⟨p, hp, h⟩)
   . exact .inl (.inr ⟨p, hp, h⟩)
   . obtain ⟨m, hm, rfl⟩ := List.mem_map.1 hp
     exact .inr ⟨m, hm, h⟩
theorem zB7 {ts : List Tp} {n : ByteArray} {i : Nat} (hi : i < ts.length) (h : tyq ts n = (i : Int)) : seq ts[i].n n = true := by
 rcases zBC (q := fun t : Tp => seq t.n n) ts 0 with c | ⟨j, hj, c, hq⟩
 . have c0 : tyq ts n = -1 := c
   omega
 . have c0 : tyq ts n = (j : Int) := by show ixq _ _ _ = _; rw [c]; simp
   obtain rfl : i = j := by omega
   exact hq
theorem zEX {α : Type} {q r : α → Bool} (h : ∀ x, q x = r x) : ∀ (l : List α) (n : Nat), ixq q l n = ixq r l n
  | [], _ => rfl
  | x :: l, n => by rw [ixq, ixq, h x, zEX h l (n + 1)]
theorem zHC {a b : ByteArray} (h : seq a b = true) (c : ByteArray) : seq c a = seq c b := by
  have := zF4 h
  simp [seq, this]
theorem zCB {ts : List Tp} {a b : ByteArray} (h : seq a b = true) : tyq ts a = tyq ts b := zEX (q := fun t : Tp => seq t.n a) (r := fun t : Tp => seq t.n b) (fun t => zHC h t.n) ts 0
def Dst (ts : List Tp) : Prop := ∀ i (hi : i < ts.length), tyq ts ts[i].n = (i : Int)
theorem zG0 : ∀ (rest done : List Tp), tks done rest = 0 → ∀ i (hi : i < rest.length), tyq (done ++ rest.take i) rest[i].n < 0
 | [], done, _, i, hi => by simp at hi
 | t :: r, done, h, i, hi => by
  rw [tks] at h
  split at h
  . rename_i c; exact absurd h c
  . split at h
    . omega
    . split at h
      . omega
      . split at h
        . omega
        . rename_i c
          cases i with
          | zero => simpa using c
          | succ i =>
           have := zG0 r (done ++ [t]) h i (by simpa using hi)
           simpa using this
theorem zGB {α : Type} {q : α → Bool} : ∀ (l r : List α) (n : Nat), ixq q l n < 0 → ixq q (l ++ r) n = ixq q r (n + l.length)
 | [], r, n, _ => by simp
 | y :: l, r, n, h => by
  rw [ixq] at h
  by_cases c : q y = true
  . rw [if_pos c] at h; omega
  . rw [if_neg c] at h
    rw [List.cons_append, ixq, if_neg c, zGB l r (n + 1) h]
    congr 1
    simp; omega
theorem dst_of {ts : List Tp} (h : tks [] ts = 0) : Dst ts := fun i hi => by
  have h1 := zG0 ts [] h i hi
  rw [List.nil_append] at h1
  have e : ts = ts.take i ++ ts.drop i := (List.take_append_drop i ts).symm
  have e2 : ts.drop i = ts[i] :: ts.drop (i + 1) := List.drop_eq_getElem_cons hi
  have h2 : tyq ts ts[i].n = ixq (fun t : Tp => seq t.n ts[i].n) (ts.take i ++ ts.drop i) 0 := by rw [List.take_append_drop]; rfl
  rw [h2, zGB _ _ _ h1, e2, ixq, if_pos (seq_refl _)]
  simp
  omega
theorem wlk_cmo {ts : List Tp} {rs : List Rl} {i j : Nat} (h : Wlk (Edg ts rs) i j) (hj : j < ts.length) (hr : ∀ x, x ∈ rs → Rok ts x) : ∀ (_ : i < ts.length), ∃ n, cmo rs ts[j].n n ts[i].n = true := by
 induction h with
 | @one i j h =>
  intro hi
  obtain ⟨x, hx, he, ⟨p, hp, h1⟩, h2⟩ := h
  refine ⟨1, ?_⟩
  rw [cmo, List.any_eq_true]
  refine ⟨x, hx, ?_⟩
  have a1 : spk x.w x.t x.m ts[i].n = true := (zB3 x _).2 ⟨p, hp, zCQ (zB7 hi h1)⟩
  have a2 : seq x.e.ty ts[j].n = true := zCQ (zB7 hj h2)
  simp [he, a1, a2]
 | @cons i k j h _ ih =>
  intro hi
  obtain ⟨x, hx, he, ⟨p, hp, h1⟩, h2⟩ := h
  obtain ⟨k', hk', h3⟩ := (hr x hx).2 he
  obtain rfl : k = k' := by omega
  obtain ⟨n, hn⟩ := ih hj hk'
  refine ⟨n + 1, ?_⟩
  rw [cmo, List.any_eq_true]
  refine ⟨x, hx, ?_⟩
  have a1 : spk x.w x.t x.m ts[i].n = true := (zB3 x _).2 ⟨p, hp, zCQ (zB7 hi h1)⟩
  have a2 : cmo rs ts[j].n n x.e.ty = true := by
   rw [zCH, List.any_eq_true] at hn ⊢
   obtain ⟨y, hy, h4⟩ := hn
   rw [Bool.and_eq_true] at h4
   refine ⟨y, hy, ?_⟩
   rw [Bool.and_eq_true]
   refine ⟨?_, h4.2⟩
   obtain ⟨p2, hp2, h5⟩ := (zB3 y _).1 h4.1
   exact (zB3 y _).2 ⟨p2, hp2, zE8 h5 (zB7 hk' h2)⟩
  simp [he, a1, a2]
theorem zHZ {ts : List Tp} {rs : List Rl} (hd : Dst ts) (hr : ∀ x, x ∈ rs → Rok ts x) {j : Nat} (hj : j < ts.length) : ∀ (n i : Nat) (hi : i < ts.length), cmo rs ts[j].n n ts[i].n = true → Wlk (Edg ts rs) i j
 | 0, i, hi, h => by rw [cmo] at h; cases h
 | n + 1, i, hi, h => by
  rw [cmo, List.any_eq_true] at h
  obtain ⟨x, hx, h⟩ := h
  rw [Bool.and_eq_true, Bool.and_eq_true, Bool.or_eq_true] at h
  obtain ⟨h0, h1, h2⟩ := h
  have he : emp x.e.ty = false := by simpa using h0
  obtain ⟨k, hk, h3⟩ := (hr x hx).2 he
  obtain ⟨p, hp, h4⟩ := (zB3 x _).1 h1
  have hed : Edg ts rs i k := ⟨x, hx, he, ⟨p, hp, by rw [zCB h4]; exact hd i hi⟩, h3⟩
  rcases h2 with h2 | h2
  . have : tyq ts x.e.ty = (j : Int) := by rw [zCB h2]; exact hd j hj
    obtain rfl : k = j := by omega
    exact .one hed
  . refine .cons hed (zHZ hd hr hj n k hk ?_)
    rw [zCH, List.any_eq_true] at h2 ⊢
    obtain ⟨y, hy, h5⟩ := h2
    rw [Bool.and_eq_true] at h5
    refine ⟨y, hy, ?_⟩
    rw [Bool.and_eq_true]
    refine ⟨?_, h5.2⟩
    obtain ⟨p2, hp2, h6⟩ := (zB3 y _).1 h5.1
    exact (zB3 y _).2 ⟨p2, hp2, zE8 h6 (zCQ (zB7 hk h3))⟩
/-! The matrix. -/
def byy (M : Nat → Nat → Bool) (b : Nat) : Nat → Nat → Bool := fun i j => M i j || (M i b && M b j)
def wsh (M : Nat → Nat → Bool) : Nat → Nat → Nat → Bool
  | 0 => M
  | b + 1 => byy (wsh M b) b
theorem zDQ {E : Nat → Nat → Prop} {M : Nat → Nat → Bool} (h : ∀ i j, M i j = true → Wlk E i j) : ∀ (b i j : Nat), wsh M b i j = true → Wlk E i j
 | 0, i, j, c => h i j c
 | b + 1, i, j, c => by
  rw [wsh, byy, Bool.or_eq_true, Bool.and_eq_true] at c
  rcases c with c | ⟨c, d⟩
  . exact zDQ h b i j c
  . exact (zDQ h b i b c).trans (zDQ h b b j d)
theorem wsh_grow (M : Nat → Nat → Bool) (b i j : Nat) (h : wsh M b i j = true) : wsh M (b + 1) i j = true := by rw [wsh, byy, h]; rfl
theorem zED (M : Nat → Nat → Bool) (i j : Nat) (h : M i j = true) : ∀ b, wsh M b i j = true
  | 0 => h
  | b + 1 => wsh_grow M b i j (zED M i j h b)
theorem zFY (M : Nat → Nat → Bool) : ∀ (b k i j : Nat), k < b → wsh M b i k = true → wsh M b k j = true → wsh M b i j = true
 | 0, k, i, j, hk, _, _ => by omega
 | b + 1, k, i, j, hk, h1, h2 => by
  rw [wsh, byy, Bool.or_eq_true, Bool.and_eq_true] at h1 h2 ⊢
  by_cases c : k = b
  . subst c
    have a : wsh M k i k = true := h1.elim id (·.1)
    have d : wsh M k k j = true := h2.elim id (·.2)
    exact .inr ⟨a, d⟩
  . have hk' : k < b := by omega
    rcases h1 with h1 | ⟨h1, h3⟩
    . rcases h2 with h2 | ⟨h2, h4⟩
      . exact .inl (zFY M b k i j hk' h1 h2)
      . exact .inr ⟨zFY M b k i b hk' h1 h2, h4⟩
    . rcases h2 with h2 | ⟨h2, h4⟩
      . exact .inr ⟨h1, zFY M b k b j hk' h3 h2⟩
      . exact .inr ⟨h1, h4⟩
theorem wlk_wsh {E : Nat → Nat → Prop} {M : Nat → Nat → Bool} {b : Nat} (h : ∀ i j, E i j → M i j = true) (hb : ∀ i j, E i j → j < b) {i j : Nat} (hw : Wlk E i j) : wsh M b i j = true := by
  induction hw with
  | one h1 => exact zED M _ _ (h _ _ h1) b
  | cons h1 _ ih => exact zFY M b _ _ _ (hb _ _ h1) (zED M _ _ (h _ _ h1) b) ih
def edl (M : Nat → Nat → Bool) : Bool := (List.range 6).any fun t => wsh M 6 t t
theorem edl_eq {ts : List Tp} {rs : List Rl} {M : Nat → Nat → Bool} (hd : Dst ts) (hr : ∀ x, x ∈ rs → Rok ts x) (hl : ts.length ≤ 6) (hM : ∀ i j, M i j = true ↔ Edg ts rs i j) : edl M = ts.any fun t => cmo rs t.n rs.length t.n := by
 have hlt : ∀ i j, Edg ts rs i j → i < ts.length ∧ j < ts.length := fun i j h => by
   obtain ⟨x, hx, he, ⟨p, hp, h1⟩, h2⟩ := h
   obtain ⟨a, ha, e1⟩ := (hr x hx).1 p hp
   obtain ⟨b, hb, e2⟩ := (hr x hx).2 he
   omega
 have hwl : ∀ i j, Wlk (Edg ts rs) i j → i < ts.length := fun i j h => by cases h with
   | one h => exact (hlt _ _ h).1
   | cons h _ => exact (hlt _ _ h).1
 rw [Bool.eq_iff_iff]
 unfold edl
 rw [List.any_eq_true, List.any_eq_true]
 constructor
 . rintro ⟨t, _, h⟩
   have hw := zDQ (E := Edg ts rs) (fun i j c => .one ((hM i j).1 c)) 6 t t h
   have ht := hwl t t hw
   obtain ⟨n, hn⟩ := wlk_cmo hw ht hr ht
   exact ⟨ts[t], List.getElem_mem ht, zGX rs _ _ n hn⟩
 . rintro ⟨t, ht, h⟩
   obtain ⟨i, hi, rfl⟩ := List.getElem_of_mem ht
   refine ⟨i, List.mem_range.2 (by omega), ?_⟩
   exact wlk_wsh (E := Edg ts rs) (fun i j c => (hM i j).2 c) (fun i j c => by have := hlt i j c; omega) (zHZ hd hr hi rs.length i hi h)
/-! Rules that may be. -/
theorem zFB {ts : List Tp} : ∀ (l done : List Pt), wfs 0 ts done l = 0 → ∀ p, p ∈ l → ∃ i, ∃ _ : i < ts.length, tyq ts p.ty = (i : Int)
 | [], done, _, p, hp => by cases hp
 | y :: r, done, h, p, hp => by
  rw [wfs] at h
  split at h
  . rename_i c; exact absurd h c
  . rename_i c
    rcases List.mem_cons.1 hp with rfl | hp
    . exact zBD (Classical.byContradiction c)
    . exact zFB r _ h p hp
theorem zES {ts : List Tp} {ws : List Pt} : ∀ (l : List Pt) (ah : List ByteArray), nfs 0 ts ws ah l = 0 → ∀ p, p ∈ l → ∃ i, ∃ _ : i < ts.length, tyq ts p.ty = (i : Int)
 | [], ah, _, p, hp => by cases hp
 | y :: r, ah, h, p, hp => by
  rw [nfs] at h
  split at h
  . rename_i c; exact absurd h c
  . rename_i c
    rcases List.mem_cons.1 hp with rfl | hp
    . exact zBD (Classical.byContradiction c)
    . exact zES r _ h p hp
theorem zFA {ts : List Tp} {ws : List Pt} : ∀ (l : List Mn) (ah : List ByteArray), mfs 0 ts ws ah l = 0 → ∀ m, m ∈ l → ∃ i, ∃ _ : i < ts.length, tyq ts m.p.ty = (i : Int)
 | [], ah, _, p, hp => by cases hp
 | y :: r, ah, h, p, hp => by
  rw [mfs] at h
  split at h
  . rename_i c; exact absurd h c
  . rename_i c
    rcases List.mem_cons.1 hp with rfl | hp
    . have h0 : mck ts ws ah p = 0 := Classical.byContradiction c
      unfold mck at h0
      split at h0
      . omega
      . split at h0
        . rename_i d; exact absurd h0 d
        . rename_i d; exact zBD (Classical.byContradiction d)
    . exact zFA r _ h p hp
end Go.Proofs.YtnlmknbhppdliaaDoor.Chk
