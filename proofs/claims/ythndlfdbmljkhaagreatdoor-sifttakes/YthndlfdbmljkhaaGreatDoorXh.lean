/-
  Does a condition hold, by the document's answer. Does a pattern take an event, by the document's answer.
-/
import Derived.Test.YthndlfdbmljkhaaGreatDoorXg
namespace Go.Proofs.YthndlfdbmljkhaaGreatDoor.Chk
open Go.ChangeShapes Go.WideShapes Go.ChangeAt Go.RowKit Go.Maps
set_option linter.unusedVariables false
set_option linter.unusedSimpArgs false
set_option maxRecDepth 20000
theorem ent_sv : ∀ args w, (callFunc 81 args).run Tryz.prog w = .ok (.enter 81 args) w := enters_of Tryz.func81 (by kernel_rfl) rfl
theorem ent_ch : ∀ args w, (callFunc 40 args).run Tryz.prog w = .ok (.enter 40 args) w := enters_of Tryz.func40 (by kernel_rfl) rfl
theorem ent_ord : ∀ args w, (callFunc 80 args).run Tryz.prog w = .ok (.enter 80 args) w := enters_of Tryz.func80 (by kernel_rfl) rfl
structure Rcn (w : World) (ts : List Tp) (own : Ev) (kn : List Ev) (r : Rl) (tv ov kv u1 u2 u3 u4 u5 : Value) : Prop where
  rt : Rd w (.row 72 2 (ts.map encY)) tv
  ro : Rd w (.row 59 3 (own.v.map encV)) ov
  rk : Rd w (.row 30 5 (kn.map encX)) kv
  r1 : Rd w (.row 65 18 (r.w.map encP)) u1
  s2 : ∃ p n c, u2 = .slice p n c
  s3 : ∃ p n c, u3 = .slice p n c
  s4 : ∃ p n c, u4 = .slice p n c
  s5 : ∃ p n c, u5 = .slice p n c
theorem Rcn.later {w W : World} {ts : List Tp} {own : Ev} {kn : List Ev} {r : Rl} {tv ov kv u1 u2 u3 u4 u5 : Value} (h : Rcn w ts own kn r tv ov kv u1 u2 u3 u4 u5) (hb : Below w.heap.size w W) : Rcn W ts own kn r tv ov kv u1 u2 u3 u4 u5 := ⟨h.rt.later hb, h.ro.later hb, h.rk.later hb, h.r1.later hb, h.s2, h.s3, h.s4, h.s5⟩
set_option maxHeartbeats 8000000 in
theorem ch_zero (ts : List Tp) (own : Ev) (kn : List Ev) (r : Rl) (tv ov kv u1 u2 u3 u4 u5 : Value) (c : Cn) (cv : Value) (w : World) (hs : Rcn w ts own kn r tv ov kv u1 u2 u3 u4 u5) (hcr : Rd w (.row 63 14 c.sb) cv) (h0 : c.k = 0) : Calls Tryz.prog 40 #[tv, .agg #[.string r.n, u1, u2, u3, u4, .string r.e.ty, u5], evV own ov, kv, cnV c.k cv c.l c.r] w fun e w' => e = .returned (.bool (true)) ∧ Below w.heap.size w w' := by
  obtain ⟨cp, cn, cc, hcv⟩ := rd_shape hcr
  obtain ⟨tp, tn, tc, htv⟩ := rd_shape hs.rt
  obtain ⟨op, on2, oc, hov⟩ := rd_shape hs.ro
  obtain ⟨kp, kn2, kc, hkv⟩ := rd_shape hs.rk
  obtain ⟨q1, l1, j1, hq1⟩ := rd_shape hs.r1
  obtain ⟨q2, l2, j2, hq2⟩ := hs.s2
  obtain ⟨q3, l3, j3, hq3⟩ := hs.s3
  obtain ⟨q4, l4, j4, hq4⟩ := hs.s4
  obtain ⟨q5, l5, j5, hq5⟩ := hs.s5
  subst htv hov hkv hq1 hq2 hq3 hq4 hq5 hcv
  obtain ⟨on, ot, ost, oen, ovl⟩ := own
  obtain ⟨ck, csb, ⟨lk, lvk, lvi, lvt, lva, lfd⟩, ⟨rk, rvk, rvi, rvt, rva, rfd⟩⟩ := c
  obtain ⟨rn, ws, ns, ms, ks, ⟨ety, vs⟩⟩ := r
  have hB : Bxs w (((w.alloc (.cells #[.string rn, .slice q1 l1 j1, .slice q2 l2 j2, .slice q3 l3 j3, .slice q4 l4 j4, .string ety, .slice q5 l5 j5] 49)).alloc (.cells #[.int .i64 on, .int .i64 ot, .int .i64 ost, .int .i64 oen, .slice op on2 oc] 30)).alloc (.cells #[.int .i64 ck, .slice cp cn cc, .int .i64 lk, .int .i64 lvk, .int .i64 lvi, .string lvt, .string lva, .string lfd, .int .i64 rk, .int .i64 rvk, .int .i64 rvi, .string rvt, .string rva, .string rfd] 63)) [([.string rn, .slice q1 l1 j1, .slice q2 l2 j2, .slice q3 l3 j3, .slice q4 l4 j4, .string ety, .slice q5 l5 j5], 49), ([.int .i64 on, .int .i64 ot, .int .i64 ost, .int .i64 oen, .slice op on2 oc], 30), ([.int .i64 ck, .slice cp cn cc, .int .i64 lk, .int .i64 lvk, .int .i64 lvi, .string lvt, .string lva, .string lfd, .int .i64 rk, .int .i64 rvk, .int .i64 rvi, .string rvt, .string rva, .string rfd], 63)] := bxs3 w _ _ _ _ _ _
  simp only at h0
  subst h0
  have HB := hid hB.bel
  clear hB hs hcr
  go_enter Tryz.func40, Tryz.ntmps40
  go_wp2_with fail
  go_ret
  exact ⟨rfl, HB.out⟩
set_option maxHeartbeats 32000000 in
theorem ch_cmp (ts : List Tp) (own : Ev) (kn : List Ev) (r : Rl) (tv ov kv u1 u2 u3 u4 u5 : Value) (c : Cn) (cv : Value) (w : World) (hs : Rcn w ts own kn r tv ov kv u1 u2 u3 u4 u5) (hcr : Rd w (.row 63 14 c.sb) cv) (part : Int) (at_ : Nat) (hk : Sok ts (asq part at_ r.w) own kn) (h4 : 4 ≤ c.k) (h7 : c.k ≤ 7) (hl : (sdk ts (asq part at_ r.w) (ts.getD own.t.toNat dT) c.l).2 = 0) (hr : (sdk ts (asq part at_ r.w) (ts.getD own.t.toNat dT) c.r).2 = 0) :
   Calls Tryz.prog 40 #[tv, .agg #[.string r.n, u1, u2, u3, u4, .string r.e.ty, u5], evV own ov, kv, cnV c.k cv c.l c.r] w fun e w' => e = .returned (.bool (cmb c.k (V4.ord (svl ts (asq part at_ r.w) own kn c.l) (svl ts (asq part at_ r.w) own kn c.r)))) ∧ Below w.heap.size w w' := by
 have hSL := fun W (hW : Below w.heap.size w W) => sv_any ts own kn tv ov kv c.l W r u1 u2 u3 u4 u5 (hs.later hW).r1 hs.s2 hs.s3 hs.s4 hs.s5 (hs.later hW).rt (hs.later hW).ro (hs.later hW).rk part at_ hk hl
 have hSR := fun W (hW : Below w.heap.size w W) => sv_any ts own kn tv ov kv c.r W r u1 u2 u3 u4 u5 (hs.later hW).r1 hs.s2 hs.s3 hs.s4 hs.s5 (hs.later hW).rt (hs.later hW).ro (hs.later hW).rk part at_ hk hr
 obtain ⟨a1, a2⟩ := svl_ok hl hk.ev hk.kn
 have hak : (svl ts (asq part at_ r.w) own kn c.l).k = 1 ∨ (svl ts (asq part at_ r.w) own kn c.l).k = 2 := by
   unfold V4.vchk at a1
   split at a1
   . omega
   . rename_i h; omega
 have hOR := fun W => V4.ordered_any (svl ts (asq part at_ r.w) own kn c.l) (svl ts (asq part at_ r.w) own kn c.r) W hak
 obtain ⟨N, hN⟩ : ∃ N, V4.ord (svl ts (asq part at_ r.w) own kn c.l) (svl ts (asq part at_ r.w) own kn c.r) = N := ⟨_, rfl⟩
 rw [hN] at hOR ⊢
 clear a1 a2 hak hN
 obtain ⟨⟨ak, an, as_⟩, hva⟩ : ∃ v, svl ts (asq part at_ r.w) own kn c.l = v := ⟨_, rfl⟩
 obtain ⟨⟨bk, bn, bs⟩, hvb⟩ : ∃ v, svl ts (asq part at_ r.w) own kn c.r = v := ⟨_, rfl⟩
 rw [hva] at hSL hOR
 rw [hvb] at hSR hOR
 clear hva hvb hl hr hk
 obtain ⟨cp, cn, cc, hcv⟩ := rd_shape hcr
 obtain ⟨tp, tn, tc, htv⟩ := rd_shape hs.rt
 obtain ⟨op, on2, oc, hov⟩ := rd_shape hs.ro
 obtain ⟨kp, kn2, kc, hkv⟩ := rd_shape hs.rk
 obtain ⟨q1, l1, j1, hq1⟩ := rd_shape hs.r1
 obtain ⟨q2, l2, j2, hq2⟩ := hs.s2
 obtain ⟨q3, l3, j3, hq3⟩ := hs.s3
 obtain ⟨q4, l4, j4, hq4⟩ := hs.s4
 obtain ⟨q5, l5, j5, hq5⟩ := hs.s5
 subst htv hov hkv hq1 hq2 hq3 hq4 hq5 hcv
 obtain ⟨on, ot, ost, oen, ovl⟩ := own
 obtain ⟨ck, csb, ⟨lk, lvk, lvi, lvt, lva, lfd⟩, ⟨rk, rvk, rvi, rvt, rva, rfd⟩⟩ := c
 obtain ⟨rn, ws, ns, ms, ks, ⟨ety, vs⟩⟩ := r
 have hB : Bxs w (((w.alloc (.cells #[.string rn, .slice q1 l1 j1, .slice q2 l2 j2, .slice q3 l3 j3, .slice q4 l4 j4, .string ety, .slice q5 l5 j5] 49)).alloc (.cells #[.int .i64 on, .int .i64 ot, .int .i64 ost, .int .i64 oen, .slice op on2 oc] 30)).alloc (.cells #[.int .i64 ck, .slice cp cn cc, .int .i64 lk, .int .i64 lvk, .int .i64 lvi, .string lvt, .string lva, .string lfd, .int .i64 rk, .int .i64 rvk, .int .i64 rvi, .string rvt, .string rva, .string rfd] 63)) [([.string rn, .slice q1 l1 j1, .slice q2 l2 j2, .slice q3 l3 j3, .slice q4 l4 j4, .string ety, .slice q5 l5 j5], 49), ([.int .i64 on, .int .i64 ot, .int .i64 ost, .int .i64 oen, .slice op on2 oc], 30), ([.int .i64 ck, .slice cp cn cc, .int .i64 lk, .int .i64 lvk, .int .i64 lvi, .string lvt, .string lva, .string lfd, .int .i64 rk, .int .i64 rvk, .int .i64 rvi, .string rvt, .string rva, .string rfd], 63)] := bxs3 w _ _ _ _ _ _
 simp only at h4 h7 hSL hSR ⊢
 obtain ⟨UR, hUR⟩ : ∃ UR : List Value, [.string rn, .slice q1 l1 j1, .slice q2 l2 j2, .slice q3 l3 j3, .slice q4 l4 j4, .string ety, .slice q5 l5 j5] = UR := ⟨_, rfl⟩
 obtain ⟨UO, hUO⟩ : ∃ UO : List Value, [.int .i64 on, .int .i64 ot, .int .i64 ost, .int .i64 oen, .slice op on2 oc] = UO := ⟨_, rfl⟩
 have ZU : Hid ((Tryz.prog.info? 49).map (·.size) = some UR.length) := by show _ = _; rw [← hUR]; kernel_rfl
 have ZO : Hid ((Tryz.prog.info? 30).map (·.size) = some UO.length) := by show _ = _; rw [← hUO]; kernel_rfl
 obtain ⟨LL, hLL⟩ : ∃ LL : List Value, [.int .i64 lk, .int .i64 lvk, .int .i64 lvi, .string lvt, .string lva, .string lfd] = LL := ⟨_, rfl⟩
 obtain ⟨RR, hRR⟩ : ∃ RR : List Value, [.int .i64 rk, .int .i64 rvk, .int .i64 rvi, .string rvt, .string rva, .string rfd] = RR := ⟨_, rfl⟩
 have HSL : Hid (∀ W, Below w.heap.size w W → Calls Tryz.prog 81 #[.slice tp tn tc, .agg UR.toArray, .agg UO.toArray, .slice kp kn2 kc, .agg LL.toArray] W fun e w' => e = .returned (V4.vV ⟨ak, an, as_⟩) ∧ Below W.heap.size W w') := fun W hW => by rw [← hUR, ← hUO, ← hLL]; exact hSL W hW
 have HSR : Hid (∀ W, Below w.heap.size w W → Calls Tryz.prog 81 #[.slice tp tn tc, .agg UR.toArray, .agg UO.toArray, .slice kp kn2 kc, .agg RR.toArray] W fun e w' => e = .returned (V4.vV ⟨bk, bn, bs⟩) ∧ Below W.heap.size W w') := fun W hW => by rw [← hUR, ← hUO, ← hRR]; exact hSR W hW
 have HOR := hid hOR
 have ZL : Hid ((Tryz.prog.info? 61).map (·.size) = some LL.length) := by show _ = _; rw [← hLL]; kernel_rfl
 have ZR : Hid ((Tryz.prog.info? 61).map (·.size) = some RR.length) := by show _ = _; rw [← hRR]; kernel_rfl
 have HS : Hid (∀ W, Bxs w W [([.string rn, .slice q1 l1 j1, .slice q2 l2 j2, .slice q3 l3 j3, .slice q4 l4 j4, .string ety, .slice q5 l5 j5], 49), ([.int .i64 on, .int .i64 ot, .int .i64 ost, .int .i64 oen, .slice op on2 oc], 30), ([.int .i64 ck, .slice cp cn cc, .int .i64 lk, .int .i64 lvk, .int .i64 lvi, .string lvt, .string lva, .string lfd, .int .i64 rk, .int .i64 rvk, .int .i64 rvi, .string rvt, .string rva, .string rfd], 63)] → (W.rangeAt w.heap.size 0 UR ∧ W.rangeAt (w.heap.size + 1) 0 UO ∧ W.rangeAt (w.heap.size + 1 + 1) 2 LL ∧ W.rangeAt (w.heap.size + 1 + 1) 8 RR)) := fun W h => ⟨by rw [← hUR]; exact h.r 0 (by simp), by rw [← hUO]; exact h.r 1 (by simp), by rw [← hLL]; exact range_in (h.b 2 (by simp)) (C := [.int .i64 ck, .slice cp cn cc]) (B := [.int .i64 lk, .int .i64 lvk, .int .i64 lvi, .string lvt, .string lva, .string lfd] ++ [.int .i64 rk, .int .i64 rvk, .int .i64 rvi, .string rvt, .string rva, .string rfd]) rfl rfl 6, by rw [← hRR]; exact range_in (h.b 2 (by simp)) (C := [.int .i64 ck, .slice cp cn cc] ++ [.int .i64 lk, .int .i64 lvk, .int .i64 lvi, .string lvt, .string lva, .string lfd]) (B := [.int .i64 rk, .int .i64 rvk, .int .i64 rvi, .string rvt, .string rva, .string rfd]) rfl rfl 6⟩
 have HB := hid hB
 have HD := hid (hB.next (Below.drew (Below.refl _ _)))
 have n0 : ¬ ck = 0 := by omega
 have d0 : decide (ck = 0) = false := by simp; omega
 have n3 : (3 : Int) < ck := by omega
 have d3 : decide (ck > 3) = true := by simp; omega
 clear hB hs hcr hSL hSR hOR hUR hUO hLL hRR
 go_enter Tryz.func40, Tryz.ntmps40
 go_wp2_with fail
 refine start_n (S := (fun w' => w'.rangeAt w.heap.size 0 UR ∧ w'.rangeAt (w.heap.size + 1) 0 UO ∧ w'.rangeAt (w.heap.size + 1 + 1) 2 LL ∧ w'.rangeAt (w.heap.size + 1 + 1) 8 RR)) 16 #[false, false, false, false, false, false, false, false, false, false, false, false, false, false, false, false] rfl rfl (by kernel_rfl) (HS.out _ HD.out) (fun hHeld => ?_)
 refine tkq (i := 0) (v := ?v1) rfl ?hy1 ?rest1; (case hy1 => intro w0 hSw; (try dsimp only at hSw); go_simp <;> (try (with_reducible rfl))); (try simp only [puts])
 refine tkq (i := 3) (v := ?v2) rfl ?hy2 ?rest2; (case hy2 => intro w0 hSw; (try dsimp only at hSw); go_simp <;> (try (with_reducible rfl))); (try simp only [puts])
 refine tkq (i := 4) (v := ?v3) rfl ?hy3 ?rest3; (case hy3 => intro w0 hSw; (try dsimp only at hSw); go_simp <;> (try (with_reducible rfl))); (try simp only [puts])
 refine tkq (i := 7) (v := ?v4) rfl ?hy4 ?rest4; (case hy4 => intro w0 hSw; (try dsimp only at hSw); go_simp <;> (try (with_reducible rfl))); (try simp only [puts])
 refine tkq (i := 10) (v := ?v5) rfl ?hy5 ?rest5; (case hy5 => intro w0 hSw; (try dsimp only at hSw); go_simp <;> (try (with_reducible rfl))); (try simp only [puts])
 refine tkq (i := 11) (v := ?v6) rfl ?hy6 ?rest6; (case hy6 => intro w0 hSw; (try dsimp only at hSw); go_simp <;> (try (with_reducible rfl))); (try simp only [puts])
 refine tlq (i := 1) rfl (yieldsIf_load_mid (by rfl) 49 _ rfl w.heap.size (0) (by rfl) UR _ (fun _ h => h.1) Tryz.underlying49 rfl ZU.out) ?_
 (try simp only [puts])
 refine tlq (i := 2) rfl (yieldsIf_load_mid (by rfl) 30 _ rfl (w.heap.size + 1) (0) (by rfl) UO _ (fun _ h => h.2.1) Tryz.underlying30 rfl ZO.out) ?_
 (try simp only [puts])
 refine tlq (i := 5) rfl (yieldsIf_load_mid (by rfl) 61 _ rfl (w.heap.size + 1 + 1) (2) (by rfl) LL _ (fun _ h => h.2.2.1) Tryz.underlying61 rfl ZL.out) ?_
 (try simp only [puts])
 refine tlq (i := 8) rfl (yieldsIf_load_mid (by rfl) 49 _ rfl w.heap.size (0) (by rfl) UR _ (fun _ h => h.1) Tryz.underlying49 rfl ZU.out) ?_
 (try simp only [puts])
 refine tlq (i := 9) rfl (yieldsIf_load_mid (by rfl) 30 _ rfl (w.heap.size + 1) (0) (by rfl) UO _ (fun _ h => h.2.1) Tryz.underlying30 rfl ZO.out) ?_
 (try simp only [puts])
 refine tlq (i := 12) rfl (yieldsIf_load_mid (by rfl) 61 _ rfl (w.heap.size + 1 + 1) (8) (by rfl) RR _ (fun _ h => h.2.2.2) Tryz.underlying61 rfl ZR.out) ?_
 (try simp only [puts])
 refine wpAnyH_ready (rs := [6]) (by kernel_rfl) (by simp) ?_
 refine cons_mk rfl (fun K hK => ?_) AllReadyH.nil
 refine step_call5 81 ent_sv (by rfl) _ _ _ _ _ _ (by rfl) (.slice tp tn tc) (.agg UR.toArray) (.agg UO.toArray) (.slice kp kn2 kc) (.agg LL.toArray) (by rfl) (by rfl) (by rfl) (by rfl) (by rfl) _ (HSL.out _ HD.out.bel) ?_
 rintro e w3 ⟨rfl, hb3⟩
 refine ⟨_, rfl, ?_⟩
 have HB3 := hid (HD.out.next hb3)
 clear hb3
 refine hK.out _ _ (HS.out _ HB3.out) (fun hHeld => ?_)
 clear hK K
 (try simp only [puts])
 refine wpAnyH_ready (rs := [13]) (by kernel_rfl) (by simp) ?_
 refine cons_mk rfl (fun K hK => ?_) AllReadyH.nil
 refine step_call5 81 ent_sv (by rfl) _ _ _ _ _ _ (by rfl) (.slice tp tn tc) (.agg UR.toArray) (.agg UO.toArray) (.slice kp kn2 kc) (.agg RR.toArray) (by rfl) (by rfl) (by rfl) (by rfl) (by rfl) _ (HSR.out _ HB3.out.bel) ?_
 rintro e w4 ⟨rfl, hb3⟩
 refine ⟨_, rfl, ?_⟩
 have HB4 := hid (HB3.out.next hb3)
 clear hb3
 refine hK.out _ _ (HS.out _ HB4.out) (fun hHeld => ?_)
 clear hK K
 (try simp only [puts])
 refine wpAnyH_ready (rs := [14]) (by kernel_rfl) (by simp) ?_
 refine cons_mk rfl (fun K hK => ?_) AllReadyH.nil
 refine step_call2 80 ent_ord (by rfl) _ _ _ (by rfl) (V4.vV ⟨ak, an, as_⟩) (V4.vV ⟨bk, bn, bs⟩) (by rfl) (by rfl) _ (HOR.out _) ?_
 rintro e w5 ⟨rfl, hb5⟩
 refine ⟨_, rfl, ?_⟩
 have HB5 := hid (HB4.out.next hb5)
 clear hb5
 refine hK.out _ _ (HS.out _ HB5.out) (fun hHeld => ?_)
 clear hK K
 (try simp only [puts])
 refine tkq (i := 15) (v := ?v7) rfl ?hy7 ?rest7; (case hy7 => intro w0 hSw; (try dsimp only at hSw); go_simp <;> (try (with_reducible rfl))); (try simp only [puts])
 refine wpAnyH_done (by kernel_rfl) ?_ _
 have c0 : w5.cell? ⟨w.heap.size + 1 + 1, 0, none⟩ = some (.int .i64 ck) := HB5.out.c 2 (by simp) 0
 clear HSL HSR HOR HS ZU ZO ZL ZR HB HD HB3 HB4 n0 d0 n3 d3
 rcases (by omega : ck = 4 ∨ ck = 5 ∨ ck = 6 ∨ ck = 7) with rfl | rfl | rfl | rfl <;>
 . go_wp2_with fail
   all_goals
     go_ret
     exact ⟨ret_bool (by rw [Bool.eq_iff_iff]; simp [cmb] <;> omega), HB5.out.bel⟩
def grq (k : Int) (cs : List Cn) (Q : Cn → Bool) : Bool := if k = 3 then decide (cs.countP Q = 0) else if k = 1 then decide (cs.countP Q = cs.length) else decide (0 < cs.countP Q)
set_option maxHeartbeats 32000000 in
theorem ch_grp (ts : List Tp) (own : Ev) (kn : List Ev) (r : Rl) (tv ov kv u1 u2 u3 u4 u5 : Value) (c : Cn) (cv : Value) (w : World) (hs : Rcn w ts own kn r tv ov kv u1 u2 u3 u4 u5) (hcr : Rd w (.row 63 14 c.sb) cv) (h1' : 1 ≤ c.k) (h3' : c.k ≤ 3) (cs : List Cn) (hcs : c.sb = cs.map encC) (Q : Cn → Bool) (hQ : ∀ (m : Nat) (hm : m < cs.length) W, Below w.heap.size w W → ∀ A, RdL W (encC cs[m]) A → Calls Tryz.prog 40 #[tv, .agg #[.string r.n, u1, u2, u3, u4, .string r.e.ty, u5], evV own ov, kv, .agg A.toArray] W fun e w' => e = .returned (.bool (Q cs[m])) ∧ Below W.heap.size W w') (R : Bool) (hR : grq c.k cs Q = R) : Calls Tryz.prog 40 #[tv, .agg #[.string r.n, u1, u2, u3, u4, .string r.e.ty, u5], evV own ov, kv, cnV c.k cv c.l c.r] w fun e w' => e = .returned (.bool (R)) ∧ Below w.heap.size w w' := by
 have hcr2 : Rd w (.row 63 14 (cs.map encC)) cv := by rw [hcs] at hcr; exact hcr
 obtain ⟨cp, cc, hcv, hmx, hat⟩ := rd_row lenC hcr2
 have HAT : Hid (At encC 14 w cp cs) := hat
 have hgd : ∃ g off, 0 < cs.length → cp = some ⟨g, off, none⟩ := by
  by_cases h : 0 < cs.length
  . obtain ⟨g, off, e, _⟩ := hat h; exact ⟨g, off, fun _ => e⟩
  . exact ⟨0, 0, fun h' => absurd h' h⟩
 obtain ⟨tp, tn, tc, htv⟩ := rd_shape hs.rt
 obtain ⟨op, on2, oc, hov⟩ := rd_shape hs.ro
 obtain ⟨kp, kn2, kc, hkv⟩ := rd_shape hs.rk
 obtain ⟨q1, l1, j1, hq1⟩ := rd_shape hs.r1
 obtain ⟨q2, l2, j2, hq2⟩ := hs.s2
 obtain ⟨q3, l3, j3, hq3⟩ := hs.s3
 obtain ⟨q4, l4, j4, hq4⟩ := hs.s4
 obtain ⟨q5, l5, j5, hq5⟩ := hs.s5
 obtain ⟨n, hn⟩ : ∃ n, cs.length = n := ⟨_, rfl⟩
 have HN := hid hn
 rw [hn] at hcv hmx
 unfold grq at hR
 rw [hn] at hR
 subst htv hov hkv hq1 hq2 hq3 hq4 hq5 hcv
 obtain ⟨on, ot, ost, oen, ovl⟩ := own
 obtain ⟨ck, csb, ⟨lk, lvk, lvi, lvt, lva, lfd⟩, ⟨rk, rvk, rvi, rvt, rva, rfd⟩⟩ := c
 obtain ⟨rn, ws, ns, ms, ks, ⟨ety, vs⟩⟩ := r
 have hB : Bxs w (((w.alloc (.cells #[.string rn, .slice q1 l1 j1, .slice q2 l2 j2, .slice q3 l3 j3, .slice q4 l4 j4, .string ety, .slice q5 l5 j5] 49)).alloc (.cells #[.int .i64 on, .int .i64 ot, .int .i64 ost, .int .i64 oen, .slice op on2 oc] 30)).alloc (.cells #[.int .i64 ck, .slice cp n cc, .int .i64 lk, .int .i64 lvk, .int .i64 lvi, .string lvt, .string lva, .string lfd, .int .i64 rk, .int .i64 rvk, .int .i64 rvi, .string rvt, .string rva, .string rfd] 63)) [([.string rn, .slice q1 l1 j1, .slice q2 l2 j2, .slice q3 l3 j3, .slice q4 l4 j4, .string ety, .slice q5 l5 j5], 49), ([.int .i64 on, .int .i64 ot, .int .i64 ost, .int .i64 oen, .slice op on2 oc], 30), ([.int .i64 ck, .slice cp n cc, .int .i64 lk, .int .i64 lvk, .int .i64 lvi, .string lvt, .string lva, .string lfd, .int .i64 rk, .int .i64 rvk, .int .i64 rvi, .string rvt, .string rva, .string rfd], 63)] := bxs3 w _ _ _ _ _ _
 simp only at h1' h3' hR hQ
 obtain ⟨UR, hUR⟩ : ∃ UR : List Value, [.string rn, .slice q1 l1 j1, .slice q2 l2 j2, .slice q3 l3 j3, .slice q4 l4 j4, .string ety, .slice q5 l5 j5] = UR := ⟨_, rfl⟩
 obtain ⟨UO, hUO⟩ : ∃ UO : List Value, [.int .i64 on, .int .i64 ot, .int .i64 ost, .int .i64 oen, .slice op on2 oc] = UO := ⟨_, rfl⟩
 have ZU : Hid ((Tryz.prog.info? 49).map (·.size) = some UR.length) := by show _ = _; rw [← hUR]; kernel_rfl
 have ZO : Hid ((Tryz.prog.info? 30).map (·.size) = some UO.length) := by show _ = _; rw [← hUO]; kernel_rfl
 have HQ : Hid (∀ (m : Nat) (hm : m < cs.length) W, Below w.heap.size w W → ∀ A, RdL W (encC cs[m]) A → Calls Tryz.prog 40 #[.slice tp tn tc, .agg UR.toArray, .agg UO.toArray, .slice kp kn2 kc, .agg A.toArray] W fun e w' => e = .returned (.bool (Q cs[m])) ∧ Below W.heap.size W w') := fun m hm W hW A hA => by rw [← hUR, ← hUO]; exact hQ m hm W hW A hA
 have HB := hid hB
 have HUR : Hid (∀ W, Bxs w W [([.string rn, .slice q1 l1 j1, .slice q2 l2 j2, .slice q3 l3 j3, .slice q4 l4 j4, .string ety, .slice q5 l5 j5], 49), ([.int .i64 on, .int .i64 ot, .int .i64 ost, .int .i64 oen, .slice op on2 oc], 30), ([.int .i64 ck, .slice cp n cc, .int .i64 lk, .int .i64 lvk, .int .i64 lvi, .string lvt, .string lva, .string lfd, .int .i64 rk, .int .i64 rvk, .int .i64 rvi, .string rvt, .string rva, .string rfd], 63)] → W.rangeAt w.heap.size 0 UR ∧ W.rangeAt (w.heap.size + 1) 0 UO) := fun W h => ⟨by rw [← hUR]; exact h.r 0 (by simp), by rw [← hUO]; exact h.r 1 (by simp)⟩
 have n0 : ¬ ck = 0 := by omega
 have d0 : decide (ck = 0) = false := by simp; omega
 have n3 : ¬ (3 : Int) < ck := by omega
 have d3 : decide (ck > 3) = false := by simp; omega
 have HR := hid hR
 have HCK : Hid (1 ≤ ck ∧ ck ≤ 3) := ⟨h1', h3'⟩
 clear hB hs hcr hcr2 hQ hUR hUO hat hgd hcs hR hn h1' h3'
 go_enter Tryz.func40, Tryz.ntmps40
 go_wp2_with fail
 go_loopg [12, 13] (n + 1) (fun gg h i wr => ∃ m : Nat, m ≤ n ∧ gg = n + 1 - m ∧ h = .int .i64 (((cs.take m).countP Q : Nat) : Int) ∧ i = .int .i64 (m : Nat) ∧ Bxs w wr [([.string rn, .slice q1 l1 j1, .slice q2 l2 j2, .slice q3 l3 j3, .slice q4 l4 j4, .string ety, .slice q5 l5 j5], 49), ([.int .i64 on, .int .i64 ot, .int .i64 ost, .int .i64 oen, .slice op on2 oc], 30), ([.int .i64 ck, .slice cp n cc, .int .i64 lk, .int .i64 lvk, .int .i64 lvi, .string lvt, .string lva, .string lfd, .int .i64 rk, .int .i64 rvk, .int .i64 rvi, .string rvt, .string rva, .string rfd], 63)])
 case atStart => exact ⟨0, by omega, by omega, by simp, rfl, HB.out⟩
 case round =>
  obtain ⟨m, hm, rfl, rfl, rfl, hX⟩ := hrel
  have HX := hid hX
  have c1 : wr.cell? ⟨w.heap.size + 1 + 1, 1, none⟩ = some (.slice cp n cc) := hX.c 2 (by simp) 1
  have hcl : (cs.take m).countP Q ≤ m := Nat.le_trans List.countP_le_length (by simp; omega)
  by_cases hlt : m < n
  . have hmc : m < cs.length := by have := HN.out; omega
    obtain ⟨g, off, rfl, hrd⟩ := HAT.out (by omega)
    obtain ⟨A, r1, o1⟩ := hrd w (Below.refl _ _) m hmc
    have hAz : A.length = 14 := o1.1.symm
    have ZA : Hid ((Tryz.prog.info? 63).map (·.size) = some A.length) := by show _ = _; rw [hAz]; kernel_rfl
    have hcall := fun W (hW : Below w.heap.size w W) => HQ.out m hmc W hW A (o1.below hW)
    obtain ⟨q, hq⟩ : ∃ q, Q cs[m] = q := ⟨_, rfl⟩
    rw [hq] at hcall
    have HCA := hid hcall
    have HCN : Hid ((cs.take (m + 1)).countP Q = (cs.take m).countP Q + (if q = true then 1 else 0)) := by
      show _ = _
      rw [List.take_succ_eq_append_getElem hmc, List.countP_append, List.countP_cons, List.countP_nil, hq]
      simp
    obtain ⟨ct, hct⟩ : ∃ ct, (cs.take m).countP Q = ct := ⟨_, rfl⟩
    rw [hct] at HCN hcl ⊢
    have HS : Hid (∀ W, Bxs w W [([.string rn, .slice q1 l1 j1, .slice q2 l2 j2, .slice q3 l3 j3, .slice q4 l4 j4, .string ety, .slice q5 l5 j5], 49), ([.int .i64 on, .int .i64 ot, .int .i64 ost, .int .i64 oen, .slice op on2 oc], 30), ([.int .i64 ck, .slice (some ⟨g, off, none⟩) n cc, .int .i64 lk, .int .i64 lvk, .int .i64 lvi, .string lvt, .string lva, .string lfd, .int .i64 rk, .int .i64 rvk, .int .i64 rvi, .string rvt, .string rva, .string rfd], 63)] → (W.rangeAt w.heap.size 0 UR ∧ W.rangeAt (w.heap.size + 1) 0 UO ∧ W.cell? ⟨w.heap.size + 1 + 1, 1, none⟩ = some (.slice (some ⟨g, off, none⟩) n cc) ∧ W.rangeAt g (off + m * 14) A)) := fun W h => ⟨(HUR.out W h).1, (HUR.out W h).2, h.c 2 (by simp) 1, range_below r1 h.bel⟩
    have HD := hid (hX.next (Below.drew (Below.refl _ _)))
    have i1 : (0 : Int) ≤ (m : Int) := by omega
    have i2 : (m : Int) < (n : Int) := by omega
    have a1 : wrap64 ((ct : Int) + 1) = ((ct + 1 : Nat) : Int) := by unfold wrap64; omega
    have a2 : wrap64 ((m : Int) + 1) = ((m + 1 : Nat) : Int) := by unfold wrap64; omega
    clear hX hrd r1 o1 hAz hcall hq hct
    go_wp2_with fail
    refine start_n (S := (fun w' => w'.rangeAt w.heap.size 0 UR ∧ w'.rangeAt (w.heap.size + 1) 0 UO ∧ w'.cell? ⟨w.heap.size + 1 + 1, 1, none⟩ = some (.slice (some ⟨g, off, none⟩) n cc) ∧ w'.rangeAt g (off + m * 14) A)) 10 #[false, false, false, false, false, false, false, false, false, false] rfl rfl (by kernel_rfl) (HS.out _ HD.out) (fun hHeld => ?_)
    refine tkq (i := 0) (v := ?v8) rfl ?hy8 ?rest8; (case hy8 => intro w0 hSw; (try dsimp only at hSw); go_simp <;> (try (with_reducible rfl))); (try simp only [puts])
    refine tkq (i := 3) (v := ?v9) rfl ?hy9 ?rest9; (case hy9 => intro w0 hSw; (try dsimp only at hSw); go_simp <;> (try (with_reducible rfl))); (try simp only [puts])
    refine tkq (i := 4) (v := ?v10) rfl ?hy10 ?rest10; (case hy10 => intro w0 hSw; (try dsimp only at hSw); go_simp <;> (try (with_reducible rfl))); (try simp only [puts])
    refine tkq (i := 5) (v := ?v11) rfl ?hy11 ?rest11; (case hy11 => intro w0 hSw; (try dsimp only at hSw); go_simp <;> (try (with_reducible rfl))); (try simp only [puts])
    refine tkq (i := 6) (v := ?v12) rfl ?hy12 ?rest12; (case hy12 => intro w0 hSw; (try dsimp only at hSw); go_simp <;> (try (with_reducible rfl))); (try simp only [puts])
    refine tkq (i := 7) (v := ?v13) rfl ?hy13 ?rest13; (case hy13 => intro w0 hSw; (try dsimp only at hSw); go_simp <;> (try (with_reducible rfl))); (try simp only [puts])
    refine tlq (i := 1) rfl (yieldsIf_load_mid (by rfl) 49 _ rfl w.heap.size (0) (by rfl) UR _ (fun _ h => h.1) Tryz.underlying49 rfl ZU.out) ?_
    (try simp only [puts])
    refine tlq (i := 2) rfl (yieldsIf_load_mid (by rfl) 30 _ rfl (w.heap.size + 1) (0) (by rfl) UO _ (fun _ h => h.2.1) Tryz.underlying30 rfl ZO.out) ?_
    (try simp only [puts])
    refine tlq (i := 8) rfl (yieldsIf_load_mid (by rfl) 63 _ rfl g (off + m * 14) (by rfl) A _ (fun _ h => h.2.2.2) Tryz.underlying63 rfl ZA.out) ?_
    (try simp only [puts])
    refine wpAnyH_ready (rs := [9]) (by kernel_rfl) (by simp) ?_
    refine cons_mk rfl (fun K hK => ?_) AllReadyH.nil
    refine step_call5 40 ent_ch (by rfl) _ _ _ _ _ _ (by rfl) (.slice tp tn tc) (.agg UR.toArray) (.agg UO.toArray) (.slice kp kn2 kc) (.agg A.toArray) (by rfl) (by rfl) (by rfl) (by rfl) (by rfl) _ (HCA.out _ HD.out.bel) ?_
    rintro e w3 ⟨rfl, hb3⟩
    refine ⟨_, rfl, ?_⟩
    have HB3 := hid (HD.out.next hb3)
    clear hb3
    refine hK.out _ _ (HS.out _ HB3.out) (fun hHeld => ?_)
    clear hK K
    (try simp only [puts])
    refine wpAnyH_done (by kernel_rfl) ?_ _
    clear HS HD HCA c1
    cases q with
    | true =>
      go_wp2_with fail
      go_roundg (n + 1 - (m + 1))
      case rel => exact ⟨m + 1, by omega, rfl, by rw [HCN.out]; simp, by go_num, HB3.out⟩
      case measure => omega
    | false =>
      go_wp2_with fail
      go_roundg (n + 1 - (m + 1))
      case rel => exact ⟨m + 1, by omega, rfl, by rw [HCN.out]; simp, by go_num, HB3.out⟩
      case measure => omega
  . obtain rfl : m = n := by omega
    have htk : cs.take m = cs := List.take_of_length_le (by have := HN.out; omega)
    rw [htk] at hcl ⊢
    have hR2 := HR.out
    obtain ⟨ct, hct⟩ : ∃ ct, cs.countP Q = ct := ⟨_, rfl⟩
    rw [hct] at hcl hR2 ⊢
    have c0 : wr.cell? ⟨w.heap.size + 1 + 1, 0, none⟩ = some (.int .i64 ck) := hX.c 2 (by simp) 0
    have hck := HCK.out
    have HRR := hid hR2
    clear hX htk hct HR hR2 n0 d0 n3 d3 HCK
    rcases (by omega : ck = 1 ∨ ck = 2 ∨ ck = 3) with rfl | rfl | rfl <;>
    . go_wp2_with fail
      all_goals
       go_ret
       exact ⟨ret_bool (by rw [← HRR.out, Bool.eq_iff_iff]; simp <;> omega), HX.out.bel⟩
theorem grq_hld {cs : List Cn} {Q : Cn → Bool} : (grq 1 cs Q = cs.all Q) ∧ (grq 2 cs Q = cs.any Q) ∧ ∀ x, grq 3 [x] Q = !(Q x) := by
 refine ⟨?_, ?_, fun x => ?_⟩
 . unfold grq
   rw [if_neg (by decide), if_pos rfl, Bool.eq_iff_iff, decide_eq_true_eq, List.countP_eq_length, List.all_eq_true]
 . unfold grq
   rw [if_neg (by decide), if_neg (by decide), Bool.eq_iff_iff, decide_eq_true_eq, List.countP_pos_iff, List.any_eq_true]
 . unfold grq
   rw [if_pos rfl]
   cases h : Q x <;> simp [h]
theorem ch_all (ts : List Tp) (own : Ev) (kn : List Ev) (r : Rl) (tv ov kv u1 u2 u3 u4 u5 : Value) (part : Int) (at_ : Nat) (hk : Sok ts (asq part at_ r.w) own kn) : ∀ (n : Nat) (c : Cn) (cv : Value) (w : World), Rcn w ts own kn r tv ov kv u1 u2 u3 u4 u5 → Rd w (.row 63 14 c.sb) cv → Wsz c → (cdk ts (asq part at_ r.w) (ts.getD own.t.toNat dT) n c).2 = 0 → Calls Tryz.prog 40 #[tv, .agg #[.string r.n, u1, u2, u3, u4, .string r.e.ty, u5], evV own ov, kv, cnV c.k cv c.l c.r] w fun e w' => e = .returned (.bool (hld ts (asq part at_ r.w) own kn n c)) ∧ Below w.heap.size w w' := by
 intro n
 induction n with
 | zero => intro c cv w hs hcr hw hd; obtain ⟨m, hm, _⟩ := cdk_ok hd; omega
 | succ n ih =>
  intro c cv w hs hcr hw hd
  obtain ⟨m, hm, k1, k7, hg, hcm⟩ := cdk_ok hd
  obtain rfl : n = m := by omega
  rw [hld, if_neg (by omega)]
  by_cases h3 : c.k ≤ 3
  . obtain ⟨g1, g2⟩ := hg h3
    obtain ⟨cs, hcs⟩ : ∃ cs : List Cn, c.sb = cs.map encC ∧ ∀ x, x ∈ cs → Wsz x := by cases hw with | mk _ cs e _ _ q => exact ⟨cs, e, q⟩
    have hsub : subs c = cs := subs_of hcs.1
    rw [hsub] at g2 ⊢
    have hgr := fun R hR => ch_grp ts own kn r tv ov kv u1 u2 u3 u4 u5 c cv w hs hcr k1 h3 cs hcs.1 (hld ts (asq part at_ r.w) own kn n) (fun m hm W hW A hA => by
      obtain ⟨xv, z1, o2⟩ := encC_rd hA
      rw [z1]
      exact ih cs[m] xv W (hs.later hW) o2 (hcs.2 _ (List.getElem_mem hm)) (g2 _ (List.getElem_mem hm))) R hR
    by_cases h1 : c.k = 1
    . rw [if_pos h1]
      exact hgr _ (by rw [h1]; exact grq_hld.1)
    . rw [if_neg h1]
      by_cases h2 : c.k = 2
      . rw [if_pos h2]
        exact hgr _ (by rw [h2]; exact grq_hld.2.1)
      . have h3' : c.k = 3 := by omega
        rw [if_neg h2, if_pos h3']
        have hl := g1 h3'
        rw [hcs.1, List.length_map] at hl
        obtain ⟨x, hx⟩ : ∃ x, cs = [x] := by
         match cs, hl with
         | [x], _ => exact ⟨x, rfl⟩
        rw [hx] at hgr ⊢
        exact hgr _ (by rw [h3']; exact (grq_hld (cs := [x])).2.2 x)
  . rw [if_neg (by omega), if_neg (by omega), if_neg (by omega)]
    obtain ⟨s1, s2, s3⟩ := hcm (by omega)
    exact ch_cmp ts own kn r tv ov kv u1 u2 u3 u4 u5 c cv w hs hcr part at_ hk (by omega) k7 s1 s2
set_option maxHeartbeats 32000000 in
theorem taken_r (ts : List Tp) (own : Ev) (kn : List Ev) (r : Rl) (tv ov kv u1 u2 u3 u4 u5 : Value) (part : Int) (at_ : Nat) (hk : Sok ts (asq part at_ r.w) own kn) (hd : Dst ts) (p : Pt) (hp : Pok ts (asq part at_ r.w) p) (hw : Wsz p.c) (A : List Value) (w : World) (hs : Rcn w ts own kn r tv ov kv u1 u2 u3 u4 u5) (hA : RdL w (encP p) A) :
  Calls Tryz.prog 19 #[tv, .agg #[.string r.n, u1, u2, u3, u4, .string r.e.ty, u5], .agg A.toArray, evV own ov, kv] w fun e w' => e = .returned (.bool (tkb ts (asq part at_ r.w) own kn p)) ∧ Below w.heap.size w w' := by
 obtain ⟨i, hi, e1, m1, m2⟩ := evk_ok hk.ev
 clear m1 m2
 have et : ts.getD own.t.toNat dT = ts[i] := by rw [e1, Int.toNat_natCast]; exact getD_lt hi _
 obtain ⟨vc, z1, o2⟩ := rdP hA
 obtain ⟨CL, hCL⟩ : ∃ CL : List Value, cnC p.c.k vc p.c.l p.c.r = CL := ⟨_, rfl⟩
 have hA1 : A[1]? = some (.string p.ty) := by rw [z1]; rfl
 have hAC : ∃ B, A = [.string p.va, .string p.ty] ++ (CL ++ B) := ⟨[.int .i64 p.w, .int .i64 p.n], by rw [z1, ← hCL]; rfl⟩
 have hCz : CL.length = 14 := by rw [← hCL]; rfl
 have hCH : seq ts[i].n p.ty = true → ∀ W, Below w.heap.size w W → Calls Tryz.prog 40 #[tv, .agg #[.string r.n, u1, u2, u3, u4, .string r.e.ty, u5], evV own ov, kv, .agg CL.toArray] W fun e w' => e = .returned (.bool (hld ts (asq part at_ r.w) own kn 8 p.c)) ∧ Below W.heap.size W w' := fun hq W hW => by
  rw [← hCL]
  rcases hp.2 with h0 | h0
  . have e : hld ts (asq part at_ r.w) own kn 8 p.c = true := by rw [hld, if_pos h0]
    rw [e]
    exact ch_zero ts own kn r tv ov kv u1 u2 u3 u4 u5 p.c vc W (hs.later hW) (o2.later hW) h0
  . have e2 : tyq ts p.ty = (i : Int) := by rw [← tyq_congr hq]; exact hd i hi
    refine ch_all ts own kn r tv ov kv u1 u2 u3 u4 u5 part at_ hk 8 p.c vc W (hs.later hW) (o2.later hW) hw ?_
    rw [e2, Int.toNat_natCast, getD_lt hi] at h0
    rw [et]
    exact h0
 unfold tkb
 rw [et]
 obtain ⟨gt, oft, tn, tc, htv, hin, hnm⟩ := name_at hs.rt hi
 obtain ⟨tnm, htnm⟩ : ∃ n, ts[i].n = n := ⟨_, rfl⟩
 obtain ⟨pty, hpty⟩ : ∃ n, p.ty = n := ⟨_, rfl⟩
 obtain ⟨q2, hq2⟩ : ∃ q, hld ts (asq part at_ r.w) own kn 8 p.c = q := ⟨_, rfl⟩
 rw [htnm] at hCH hnm ⊢
 rw [hpty] at hCH hA1 ⊢
 rw [hq2] at hCH ⊢
 obtain ⟨B, hAB⟩ := hAC
 rw [hpty] at hAB
 obtain ⟨pva, hpva⟩ : ∃ n, p.va = n := ⟨_, rfl⟩
 rw [hpva] at hAB
 clear hk hd hp hw hA z1 o2 hCL hi et hq2 htnm hpty hpva
 obtain ⟨op, on2, oc, hov⟩ := rd_shape hs.ro
 obtain ⟨kp, kn2, kc, hkv⟩ := rd_shape hs.rk
 obtain ⟨q1, l1, j1, hq1⟩ := rd_shape hs.r1
 obtain ⟨q2', l2, j2, hq2'⟩ := hs.s2
 obtain ⟨q3, l3, j3, hq3⟩ := hs.s3
 obtain ⟨q4, l4, j4, hq4⟩ := hs.s4
 obtain ⟨q5, l5, j5, hq5⟩ := hs.s5
 subst htv hov hkv hq1 hq2' hq3 hq4 hq5
 obtain ⟨on, ot, ost, oen, ovl⟩ := own
 obtain ⟨rn, ws, ns, ms, ks, ⟨ety, vs⟩⟩ := r
 simp only at e1
 subst e1
 simp only [evV] at hCH ⊢
 obtain ⟨UR, hUR⟩ : ∃ UR : List Value, [.string rn, .slice q1 l1 j1, .slice q2' l2 j2, .slice q3 l3 j3, .slice q4 l4 j4, .string ety, .slice q5 l5 j5] = UR := ⟨_, rfl⟩
 obtain ⟨UO, hUO⟩ : ∃ UO : List Value, [.int .i64 on, .int .i64 (i : Nat), .int .i64 ost, .int .i64 oen, .slice op on2 oc] = UO := ⟨_, rfl⟩
 have ZU : Hid ((Tryz.prog.info? 49).map (·.size) = some UR.length) := by show _ = _; rw [← hUR]; kernel_rfl
 have ZO : Hid ((Tryz.prog.info? 30).map (·.size) = some UO.length) := by show _ = _; rw [← hUO]; kernel_rfl
 have ZC : Hid ((Tryz.prog.info? 63).map (·.size) = some CL.length) := by show _ = _; rw [hCz]; kernel_rfl
 have hu1 : (Value.agg #[.string rn, .slice q1 l1 j1, .slice q2' l2 j2, .slice q3 l3 j3, .slice q4 l4 j4, .string ety, .slice q5 l5 j5]) = .agg UR.toArray := by rw [← hUR]
 have hu2 : (Value.agg #[.int .i64 on, .int .i64 (i : Nat), .int .i64 ost, .int .i64 oen, .slice op on2 oc]) = .agg UO.toArray := by rw [← hUO]
 rw [hu1, hu2]
 rw [hu1, hu2] at hCH
 have hB : Bxs w (((w.alloc (.cells UR.toArray 49)).alloc (.cells A.toArray 65)).alloc (.cells UO.toArray 30)) [(UR, 49), (A, 65), (UO, 30)] := bxs3 w _ _ _ _ _ _
 have HS : Hid (∀ W, Bxs w W [(UR, 49), (A, 65), (UO, 30)] → (W.cell? ⟨w.heap.size + 1 + 1, 1, none⟩ = some (.int .i64 (i : Nat)) ∧ W.cell? ⟨gt, oft + i * 2, none⟩ = some (.string tnm) ∧ W.cell? ⟨w.heap.size + 1, 1, none⟩ = some (.string pty) ∧ W.rangeAt w.heap.size 0 UR ∧ W.rangeAt (w.heap.size + 1 + 1) 0 UO ∧ W.rangeAt (w.heap.size + 1) 2 CL)) := fun W h => ⟨by rw [show w.heap.size + 1 + 1 = w.heap.size + 2 from rfl, h.c 2 (by simp) 1, show [(UR, 49), (A, 65), (UO, 30)][2].1 = UO from rfl, ← hUO]; rfl, hnm W h.bel, by rw [h.c 1 (by simp) 1]; exact hA1, h.r 0 (by simp), h.r 2 (by simp), by
  have h9 := range_in (A := A) (t := 65) (h.b 1 (by simp)) (C := [Value.string pva, Value.string pty]) (B := CL ++ B) hAB rfl 14
  have e : (CL ++ B).take 14 = CL := by rw [List.take_append_of_le_length (by omega), List.take_of_length_le (by omega)]
  rw [e] at h9
  exact h9⟩
 have HCH := hid hCH
 have HB := hid hB
 have HD := hid (hB.next (Below.drew (Below.refl _ _)))
 have y1 : (0 : Int) ≤ (i : Int) := by omega
 have y2 : (i : Int) < (tn : Int) := hin
 clear hB hs hCH hnm hA1 hAB hUR hUO hCz hin hu1 hu2
 cases hsq : seq tnm pty with
 | true =>
  rw [hsq] at HCH
  have hqe : (tnm.toList == pty.toList) = true := hsq
  have hqe2 : tnm.toList = pty.toList := by simpa using hqe
  go_enter Tryz.func19, Tryz.ntmps19
  go_wp2_with fail
  refine start_n (S := (fun w' => w'.cell? ⟨w.heap.size + 1 + 1, 1, none⟩ = some (.int .i64 (i : Nat)) ∧ w'.cell? ⟨gt, oft + i * 2, none⟩ = some (.string tnm) ∧ w'.cell? ⟨w.heap.size + 1, 1, none⟩ = some (.string pty) ∧ w'.rangeAt w.heap.size 0 UR ∧ w'.rangeAt (w.heap.size + 1 + 1) 0 UO ∧ w'.rangeAt (w.heap.size + 1) 2 CL)) 19 #[false, false, false, false, false, false, false, false, false, false, false, false, false, false, false, false, false, false, false] rfl rfl (by kernel_rfl) (HS.out _ HD.out) (fun hHeld => ?_)
  refine tkq (i := 0) (v := ?v1) rfl ?hy1 ?rest1; (case hy1 => intro w0 hSw; (try dsimp only at hSw); go_simp <;> (try (with_reducible rfl))); (try simp only [puts])
  refine tkq (i := 1) (v := ?v2) rfl ?hy2 ?rest2; (case hy2 => intro w0 hSw; (try dsimp only at hSw); go_simp <;> (try (with_reducible rfl))); (try simp only [puts])
  refine tkq (i := 2) (v := ?v3) rfl ?hy3 ?rest3; (case hy3 => intro w0 hSw; (try dsimp only at hSw); go_simp <;> (try (with_reducible rfl))); (try simp only [puts])
  refine tkq (i := 3) (v := ?v4) rfl ?hy4 ?rest4; (case hy4 => intro w0 hSw; (try dsimp only at hSw); go_simp <;> (try (with_reducible rfl))); (try simp only [puts])
  refine tkq (i := 4) (v := ?v5) rfl ?hy5 ?rest5; (case hy5 => intro w0 hSw; (try dsimp only at hSw); go_simp <;> (try (with_reducible rfl))); (try simp only [puts])
  refine tkq (i := 5) (v := ?v6) rfl ?hy6 ?rest6; (case hy6 => intro w0 hSw; (try dsimp only at hSw); go_simp <;> (try (with_reducible rfl))); (try simp only [puts])
  refine tkq (i := 6) (v := ?v7) rfl ?hy7 ?rest7; (case hy7 => intro w0 hSw; (try dsimp only at hSw); go_simp <;> (try (with_reducible rfl))); (try simp only [puts])
  refine tkq (i := 7) (v := ?v8) rfl ?hy8 ?rest8; (case hy8 => intro w0 hSw; (try dsimp only at hSw); go_simp <;> (try (with_reducible rfl))); (try simp only [puts])
  refine tkq (i := 8) (v := ?v9) rfl ?hy9 ?rest9; (case hy9 => intro w0 hSw; (try dsimp only at hSw); go_simp <;> (try (with_reducible rfl))); (try simp only [puts])
  refine tkq (i := 9) (v := ?v10) rfl ?hy10 ?rest10; (case hy10 => intro w0 hSw; (try dsimp only at hSw); go_simp <;> (try (with_reducible rfl))); (try simp only [puts])
  refine tkq (i := 10) (v := ?v11) rfl ?hy11 ?rest11; (case hy11 => intro w0 hSw; (try dsimp only at hSw); go_simp <;> (try (with_reducible rfl))); (try simp only [puts])
  refine tkq (i := 13) (v := ?v12) rfl ?hy12 ?rest12; (case hy12 => intro w0 hSw; (try dsimp only at hSw); go_simp <;> (try (with_reducible rfl))); (try simp only [puts])
  refine tkq (i := 14) (v := ?v13) rfl ?hy13 ?rest13; (case hy13 => intro w0 hSw; (try dsimp only at hSw); go_simp <;> (try (with_reducible rfl))); (try simp only [puts])
  refine tlq (i := 11) rfl (yieldsIf_load_mid (by rfl) 49 _ rfl w.heap.size (0) (by rfl) UR _ (fun _ h => h.2.2.2.1) Tryz.underlying49 rfl ZU.out) ?_
  (try simp only [puts])
  refine tlq (i := 12) rfl (yieldsIf_load_mid (by rfl) 30 _ rfl (w.heap.size + 1 + 1) (0) (by rfl) UO _ (fun _ h => h.2.2.2.2.1) Tryz.underlying30 rfl ZO.out) ?_
  (try simp only [puts])
  refine tlq (i := 15) rfl (yieldsIf_load_mid (by rfl) 63 _ rfl (w.heap.size + 1) (2) (by rfl) CL _ (fun _ h => h.2.2.2.2.2) Tryz.underlying63 rfl ZC.out) ?_
  (try simp only [puts])
  refine wpAnyH_ready (rs := [16]) (by kernel_rfl) (by simp) ?_
  refine cons_mk rfl (fun K hK => ?_) AllReadyH.nil
  refine step_call5 40 ent_ch (by rfl) _ _ _ _ _ _ (by rfl) (.slice (some ⟨gt, oft, none⟩) tn tc) (.agg UR.toArray) (.agg UO.toArray) (.slice kp kn2 kc) (.agg CL.toArray) (by rfl) (by rfl) (by rfl) (by rfl) (by rfl) _ (HCH.out (by trivial) _ HD.out.bel) ?_
  rintro e w3 ⟨rfl, hb3⟩
  refine ⟨_, rfl, ?_⟩
  have HB3 := hid (HD.out.next hb3)
  clear hb3
  refine hK.out _ _ (HS.out _ HB3.out) (fun hHeld => ?_)
  clear hK K
  (try simp only [puts])
  refine tkq (i := 17) (v := ?v14) rfl ?hy14 ?rest14; (case hy14 => intro w0 hSw; (try dsimp only at hSw); go_simp <;> (try (with_reducible rfl))); (try simp only [puts])
  refine tkq (i := 18) (v := ?v15) rfl ?hy15 ?rest15; (case hy15 => intro w0 hSw; (try dsimp only at hSw); go_simp <;> (try (with_reducible rfl))); (try simp only [puts])
  refine wpAnyH_done (by kernel_rfl) ?_ _
  go_wp2_with fail
  go_ret
  exact ⟨ret_bool (by simp), HB3.out.bel⟩
 | false =>
  have hqe : (tnm.toList == pty.toList) = false := hsq
  have hqe2 : ¬ tnm.toList = pty.toList := by simpa using hqe
  go_enter Tryz.func19, Tryz.ntmps19
  go_wp2_with fail
  refine start_n (S := (fun w' => w'.cell? ⟨w.heap.size + 1 + 1, 1, none⟩ = some (.int .i64 (i : Nat)) ∧ w'.cell? ⟨gt, oft + i * 2, none⟩ = some (.string tnm) ∧ w'.cell? ⟨w.heap.size + 1, 1, none⟩ = some (.string pty) ∧ w'.rangeAt w.heap.size 0 UR ∧ w'.rangeAt (w.heap.size + 1 + 1) 0 UO ∧ w'.rangeAt (w.heap.size + 1) 2 CL)) 19 #[false, false, false, false, false, false, false, false, false, false, false, false, false, false, false, false, false, false, false] rfl rfl (by kernel_rfl) (HS.out _ HD.out) (fun hHeld => ?_)
  refine tkq (i := 0) (v := ?v516) rfl ?hy516 ?rest516; (case hy516 => intro w0 hSw; (try dsimp only at hSw); go_simp <;> (try (with_reducible rfl))); (try simp only [puts])
  refine tkq (i := 1) (v := ?v517) rfl ?hy517 ?rest517; (case hy517 => intro w0 hSw; (try dsimp only at hSw); go_simp <;> (try (with_reducible rfl))); (try simp only [puts])
  refine tkq (i := 2) (v := ?v518) rfl ?hy518 ?rest518; (case hy518 => intro w0 hSw; (try dsimp only at hSw); go_simp <;> (try (with_reducible rfl))); (try simp only [puts])
  refine tkq (i := 3) (v := ?v519) rfl ?hy519 ?rest519; (case hy519 => intro w0 hSw; (try dsimp only at hSw); go_simp <;> (try (with_reducible rfl))); (try simp only [puts])
  refine tkq (i := 4) (v := ?v520) rfl ?hy520 ?rest520; (case hy520 => intro w0 hSw; (try dsimp only at hSw); go_simp <;> (try (with_reducible rfl))); (try simp only [puts])
  refine tkq (i := 5) (v := ?v521) rfl ?hy521 ?rest521; (case hy521 => intro w0 hSw; (try dsimp only at hSw); go_simp <;> (try (with_reducible rfl))); (try simp only [puts])
  refine tkq (i := 6) (v := ?v522) rfl ?hy522 ?rest522; (case hy522 => intro w0 hSw; (try dsimp only at hSw); go_simp <;> (try (with_reducible rfl))); (try simp only [puts])
  refine tkq (i := 7) (v := ?v523) rfl ?hy523 ?rest523; (case hy523 => intro w0 hSw; (try dsimp only at hSw); go_simp <;> (try (with_reducible rfl))); (try simp only [puts])
  refine tkq (i := 8) (v := ?v524) rfl ?hy524 ?rest524; (case hy524 => intro w0 hSw; (try dsimp only at hSw); go_simp <;> (try (with_reducible rfl))); (try simp only [puts])
  refine tkq (i := 9) (v := ?v525) rfl ?hy525 ?rest525; (case hy525 => intro w0 hSw; (try dsimp only at hSw); go_simp <;> (try (with_reducible rfl))); (try simp only [puts])
  refine take_mk (i := 10) (v := undef) rfl (by kernel_rfl) (by kernel_rfl) (by kernel_rfl) (fun _ _ _ h => h) (Or.inr ⟨by rfl, rfl⟩) (by assumption) ?_
  (try simp only [puts])
  refine take_mk (i := 11) (v := undef) rfl (by kernel_rfl) (by kernel_rfl) (by kernel_rfl) (fun _ _ _ h => h) (Or.inr ⟨by rfl, rfl⟩) (by assumption) ?_
  (try simp only [puts])
  refine take_mk (i := 12) (v := undef) rfl (by kernel_rfl) (by kernel_rfl) (by kernel_rfl) (fun _ _ _ h => h) (Or.inr ⟨by rfl, rfl⟩) (by assumption) ?_
  (try simp only [puts])
  refine take_mk (i := 13) (v := undef) rfl (by kernel_rfl) (by kernel_rfl) (by kernel_rfl) (fun _ _ _ h => h) (Or.inr ⟨by rfl, rfl⟩) (by assumption) ?_
  (try simp only [puts])
  refine take_mk (i := 14) (v := undef) rfl (by kernel_rfl) (by kernel_rfl) (by kernel_rfl) (fun _ _ _ h => h) (Or.inr ⟨by rfl, rfl⟩) (by assumption) ?_
  (try simp only [puts])
  refine take_mk (i := 15) (v := undef) rfl (by kernel_rfl) (by kernel_rfl) (by kernel_rfl) (fun _ _ _ h => h) (Or.inr ⟨by rfl, rfl⟩) (by assumption) ?_
  (try simp only [puts])
  refine take_mk (i := 16) (v := undef) rfl (by kernel_rfl) (by kernel_rfl) (by kernel_rfl) (fun _ _ _ h => h) (Or.inr ⟨by rfl, rfl⟩) (by assumption) ?_
  (try simp only [puts])
  refine tkq (i := 17) (v := ?v526) rfl ?hy526 ?rest526; (case hy526 => intro w0 hSw; (try dsimp only at hSw); go_simp <;> (try (with_reducible rfl))); (try simp only [puts])
  refine tkq (i := 18) (v := ?v527) rfl ?hy527 ?rest527; (case hy527 => intro w0 hSw; (try dsimp only at hSw); go_simp <;> (try (with_reducible rfl))); (try simp only [puts])
  refine wpAnyH_done (by kernel_rfl) ?_ _
  go_wp2_with fail
  go_ret
  exact ⟨ret_bool (by simp), HD.out.bel⟩
end Go.Proofs.YthndlfdbmljkhaaGreatDoor.Chk
