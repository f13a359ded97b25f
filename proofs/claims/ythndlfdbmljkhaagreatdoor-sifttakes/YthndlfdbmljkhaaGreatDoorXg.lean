/-
  The value that a side stands for, by the document's answer.
-/
import Derived.Test.YthndlfdbmljkhaaGreatDoorXf
namespace Go.Proofs.YthndlfdbmljkhaaGreatDoor.Chk
open Go.ChangeShapes Go.WideShapes Go.ChangeAt Go.RowKit Go.Maps
set_option linter.unusedVariables false
set_option linter.unusedSimpArgs false
set_option maxRecDepth 20000
theorem ent_fat : ∀ args w, (callFunc 123 args).run Tryz.prog w = .ok (.enter 123 args) w := enters_of Tryz.func123 (by kernel_rfl) rfl
theorem heap_5 (w : World) (a b c d e : Obj) : (((((w.alloc a).alloc b).alloc c).alloc d).alloc e).heap[w.heap.size + 4]? = some e := by
  have := heap_alloc_new ((((w.alloc a).alloc b).alloc c).alloc d) e
  simpa using this
structure Svx (w W : World) (l : List (List Value × TypeId)) (b : Nat) (el : List Value) (t : TypeId) : Prop where
  bx : Bxs w W l
  e : W.heap[b]? = some (.cells el.toArray t (0, 0))
theorem Svx.next {w W W' : World} {l : List (List Value × TypeId)} {b : Nat} {el : List Value} {t : TypeId} (h : Svx w W l b el t) (hb : Below W.heap.size W W') : Svx w W' l b el t := ⟨h.bx.next hb, (hb.block _ (blk_lt h.e)).trans h.e⟩
theorem Bxs.fr {w0 W W' : World} {l : List (List Value × TypeId)} {b : Nat} (h : Bxs w0 W l) (hf : Fr (fun i => i = b) W W') (hb : w0.heap.size + l.length ≤ b) : Bxs w0 W' l :=
  ⟨below_fr h.bel hf (by omega), fun i hi => (hf.block _ (blk_lt (h.b i hi)) (by omega)).trans (h.b i hi)⟩
set_option maxHeartbeats 32000000 in
theorem sv_own (ts : List Tp) (own : Ev) (kn : List Ev) (tv ov kv : Value) (o : Opd) (w : World) (r : Rl) (u1 u2 u3 u4 u5 : Value) (h1 : Rd w (.row 65 18 (r.w.map encP)) u1) (hs2 : ∃ p n c, u2 = .slice p n c) (hs3 : ∃ p n c, u3 = .slice p n c) (hs4 : ∃ p n c, u4 = .slice p n c) (hs5 : ∃ p n c, u5 = .slice p n c) (hT : Rd w (.row 72 2 (ts.map encY)) tv) (ho : Rd w (.row 59 3 (own.v.map encV)) ov) (hK : Rd w (.row 30 5 (kn.map encX)) kv) (hok : o.k = 2) (hx : evk ts own = 0) (hf : 0 ≤ fdq (ts.getD own.t.toNat dT).f o.fd) : Calls Tryz.prog 81 #[tv, .agg #[.string r.n, u1, u2, u3, u4, .string r.e.ty, u5], evV own ov, kv, opV o] w fun e w' => e = .returned (V4.vV (fvl ts own o.fd)) ∧ Below w.heap.size w w' := by
 have hxu := ho
 obtain ⟨i, hi, e1, m1, m2⟩ := evk_ok hx
 obtain ⟨k, hk, e4, e5, m3, m4⟩ := fvl_ok hx hf
 clear m1 m2 m3 m4
 have et : ts.getD own.t.toNat dT = ts[i] := by rw [e1, Int.toNat_natCast]; exact getD_lt hi _
 rw [et] at e4
 rw [e5]
 obtain ⟨gt, oft, tn, tc, T2, htv, hin, hT2, fv, zT, oT⟩ : ∃ gt oft tn tc T2, tv = .slice (some ⟨gt, oft, none⟩) tn tc ∧ (i : Int) < (tn : Int) ∧ (∀ W, Below w.heap.size w W → W.rangeAt gt (oft + i * 2) T2) ∧ ∃ fv, T2 = [.string ts[i].n, fv] ∧ Rd w (.row 93 2 (ts[i].f.map encF)) fv := by
  obtain ⟨p, cap, rfl, _, hat⟩ := rd_row lenY hT
  obtain ⟨g, off, rfl, hrd⟩ := hat (by omega)
  obtain ⟨A, r1, o1⟩ := hrd w (Below.refl _ _) i hi
  obtain ⟨fv, z1, o2⟩ := rdY o1
  exact ⟨g, off, _, _, A, rfl, by omega, fun W hW => range_below r1 hW, fv, z1, o2⟩
 obtain ⟨g2, off2, un, uc, VC, huv, hkn, hVC, zV⟩ : ∃ g2 off2 un uc VC, ov = .slice (some ⟨g2, off2, none⟩) un uc ∧ (k : Int) < (un : Int) ∧ (∀ W, Below w.heap.size w W → W.rangeAt g2 (off2 + k * 3) VC) ∧ VC = [.int .i64 own.v[k].k, .int .i64 own.v[k].n, .string own.v[k].s] := by
  obtain ⟨p, cap, rfl, _, hat⟩ := rd_row lenV hxu
  obtain ⟨g, off, rfl, hrd⟩ := hat (by omega)
  obtain ⟨A, r1, o1⟩ := hrd w (Below.refl _ _) k hk
  exact ⟨g, off, _, _, A, rfl, by omega, fun W hW => range_below r1 hW, rdV o1⟩
 have hFA := fun W (hW : Below w.heap.size w W) => fieldAt_any ts[i].n ts[i].f fv o.fd W (oT.later hW)
 rw [e4] at hFA
 have HFA : Hid (∀ W, Below w.heap.size w W → Calls Tryz.prog 123 #[.agg T2.toArray, .string o.fd] W fun e w' => e = .returned (.int .i64 (k : Nat)) ∧ Below W.heap.size W w') := fun W hW => by rw [zT]; exact hFA W hW
 have hTz : T2.length = 2 := by rw [zT]; rfl
 have hVz : VC.length = 3 := by rw [zV]; rfl
 have ZT : Hid ((Tryz.prog.info? 72).map (·.size) = some T2.length) := by show _ = _; rw [hTz]; kernel_rfl
 have ZV : Hid ((Tryz.prog.info? 59).map (·.size) = some VC.length) := by show _ = _; rw [hVz]; kernel_rfl
 have HVL := hid hVz
 have HVO : Hid (VC.all (·.oneCell') = true) := by show _ = _; rw [zV]; rfl
 have HVC : Hid (V4.vV own.v[k] = .agg VC.toArray) := by show _ = _; rw [zV]
 obtain ⟨q1, l1, j1, hq1⟩ := rd_shape h1
 obtain ⟨q2, l2, j2, hq2⟩ := hs2
 obtain ⟨q3, l3, j3, hq3⟩ := hs3
 obtain ⟨q4, l4, j4, hq4⟩ := hs4
 obtain ⟨q5, l5, j5, hq5⟩ := hs5
 obtain ⟨kp, kn2, kc, hkv⟩ := rd_shape hK
 subst htv huv hkv hq1 hq2 hq3 hq4 hq5
 obtain ⟨on, ot, ost, oen, ovl⟩ := own
 obtain ⟨ok, ovk, ovi, ovt, ova, ofd⟩ := o
 obtain ⟨rn, ws, ns, ms, ks, ⟨ety, vs⟩⟩ := r
 simp only at e1 hok HFA HVC ⊢
 subst e1 hok
  
 have HS : Hid (∀ W, Svx w W [([.string rn, .slice q1 l1 j1, .slice q2 l2 j2, .slice q3 l3 j3, .slice q4 l4 j4, .string ety, .slice q5 l5 j5], 49), ([.int .i64 on, .int .i64 (i : Nat), .int .i64 ost, .int .i64 oen, .slice (some ⟨g2, off2, none⟩) un uc], 30), ([.int .i64 2, .int .i64 ovk, .int .i64 ovi, .string ovt, .string ova, .string ofd], 61), ([.int .i64 0, .int .i64 0, .string ⟨#[]⟩], 59)] (w.heap.size + 4) [.int .i64 on, .int .i64 (i : Nat), .int .i64 ost, .int .i64 oen, .slice (some ⟨g2, off2, none⟩) un uc] 30 → (W.cell? ⟨w.heap.size + 4, 4, none⟩ = some (.slice (some ⟨g2, off2, none⟩) un uc) ∧ W.cell? ⟨w.heap.size + 4, 1, none⟩ = some (.int .i64 (i : Nat)) ∧ W.cell? ⟨w.heap.size + 1 + 1, 5, none⟩ = some (.string ofd) ∧ W.rangeAt gt (oft + i * 2) T2 ∧ W.rangeAt g2 (off2 + k * 3) VC)) := fun W h => ⟨cell_of_blk h.e 4, cell_of_blk h.e 1, h.bx.c 2 (by simp) 5, hT2 W h.bx.bel, hVC W h.bx.bel⟩
 have HSF : Hid (∀ W W', Svx w W [([.string rn, .slice q1 l1 j1, .slice q2 l2 j2, .slice q3 l3 j3, .slice q4 l4 j4, .string ety, .slice q5 l5 j5], 49), ([.int .i64 on, .int .i64 (i : Nat), .int .i64 ost, .int .i64 oen, .slice (some ⟨g2, off2, none⟩) un uc], 30), ([.int .i64 2, .int .i64 ovk, .int .i64 ovi, .string ovt, .string ova, .string ofd], 61), ([.int .i64 0, .int .i64 0, .string ⟨#[]⟩], 59)] (w.heap.size + 4) [.int .i64 on, .int .i64 (i : Nat), .int .i64 ost, .int .i64 oen, .slice (some ⟨g2, off2, none⟩) un uc] 30 → Fr (fun i => i = w.heap.size + 1 + 1 + 1) W W' → (W'.cell? ⟨w.heap.size + 4, 4, none⟩ = some (.slice (some ⟨g2, off2, none⟩) un uc) ∧ W'.cell? ⟨w.heap.size + 4, 1, none⟩ = some (.int .i64 (i : Nat)) ∧ W'.cell? ⟨w.heap.size + 1 + 1, 5, none⟩ = some (.string ofd) ∧ W'.rangeAt gt (oft + i * 2) T2 ∧ W'.rangeAt g2 (off2 + k * 3) VC)) := fun W W' h hf => by
  have hb : Below w.heap.size w W' := below_fr h.bx.bel hf (by omega)
  have e2 : W'.heap[w.heap.size + 4]? = some (.cells [.int .i64 on, .int .i64 (i : Nat), .int .i64 ost, .int .i64 oen, .slice (some ⟨g2, off2, none⟩) un uc].toArray 30 (0, 0)) := (hf.block _ (blk_lt h.e) (by omega)).trans h.e
  have e3 : W'.heap[w.heap.size + 2]? = some (.cells [.int .i64 2, .int .i64 ovk, .int .i64 ovi, .string ovt, .string ova, .string ofd].toArray 61 (0, 0)) := (hf.block _ (blk_lt (h.bx.b 2 (by simp))) (by omega)).trans (h.bx.b 2 (by simp))
  exact ⟨cell_of_blk e2 4, cell_of_blk e2 1, cell_of_blk e3 5, hT2 W' hb, hVC W' hb⟩
 have hB : Bxs w ((((w.alloc (.cells #[.string rn, .slice q1 l1 j1, .slice q2 l2 j2, .slice q3 l3 j3, .slice q4 l4 j4, .string ety, .slice q5 l5 j5] 49)).alloc (.cells #[.int .i64 on, .int .i64 (i : Nat), .int .i64 ost, .int .i64 oen, .slice (some ⟨g2, off2, none⟩) un uc] 30)).alloc (.cells #[.int .i64 2, .int .i64 ovk, .int .i64 ovi, .string ovt, .string ova, .string ofd] 61)).alloc (.cells #[.int .i64 0, .int .i64 0, .string ⟨#[]⟩] 59)) [([.string rn, .slice q1 l1 j1, .slice q2 l2 j2, .slice q3 l3 j3, .slice q4 l4 j4, .string ety, .slice q5 l5 j5], 49), ([.int .i64 on, .int .i64 (i : Nat), .int .i64 ost, .int .i64 oen, .slice (some ⟨g2, off2, none⟩) un uc], 30), ([.int .i64 2, .int .i64 ovk, .int .i64 ovi, .string ovt, .string ova, .string ofd], 61), ([.int .i64 0, .int .i64 0, .string ⟨#[]⟩], 59)] := bxs4 w _ _ _ _ _ _ _ _
 have HB := hid hB
 have XO := hid (hB.r 1 (by simp))
 have HBA := hid (fun o => hB.next ((Below.refl _ _).alloc (Nat.le_refl _) o))
 have HNB := hid (fun a b c d o => heap_5 w a b c d o)
 have y1 : (0 : Int) ≤ (i : Int) := by omega
 have y3 : (0 : Int) ≤ (k : Int) := by omega
 rw [HVC.out]
 clear HVC
 clear hB h1 hT ho hK hxu hx hf e4 e5 et hT2 hVC zT zV hFA oT hTz hVz hi hk
 go_enter Tryz.func81, Tryz.ntmps81
 go_wp2_with (first
  | ((with_reducible refine gLq ?_); refine wpList_load_mid (by rfl) 30 _ (by rfl) (w.heap.size + 1) 0 (by rfl) [.int .i64 on, .int .i64 (i : Nat), .int .i64 ost, .int .i64 oen, .slice (some ⟨g2, off2, none⟩) un uc] _ XO.out Tryz.underlying30 rfl (by kernel_rfl) ?_)
  | ((with_reducible show wpList _ _ _ (Oper.mk _ (.store 30 _ _) _ _ _ _ :: _) _ _); refine wp_st (by rfl) 30 _ _ (by rfl) (w.heap.size + 4) 0 _ 30 (.agg #[.int .i64 on, .int .i64 (i : Nat), .int .i64 ost, .int .i64 oen, .slice (some ⟨g2, off2, none⟩) un uc]) [.int .i64 on, .int .i64 (i : Nat), .int .i64 ost, .int .i64 oen, .slice (some ⟨g2, off2, none⟩) un uc] (by rfl) (by rfl) (by rfl) (HNB.out _ _ _ _ _) (by simp) (by kernel_rfl) (by rfl) ?_; intro w4 hblk hfr; have HX4 : Hid (Svx w w4 [([.string rn, .slice q1 l1 j1, .slice q2 l2 j2, .slice q3 l3 j3, .slice q4 l4 j4, .string ety, .slice q5 l5 j5], 49), ([.int .i64 on, .int .i64 (i : Nat), .int .i64 ost, .int .i64 oen, .slice (some ⟨g2, off2, none⟩) un uc], 30), ([.int .i64 2, .int .i64 ovk, .int .i64 ovi, .string ovt, .string ova, .string ofd], 61), ([.int .i64 0, .int .i64 0, .string ⟨#[]⟩], 59)] (w.heap.size + 4) [.int .i64 on, .int .i64 (i : Nat), .int .i64 ost, .int .i64 oen, .slice (some ⟨g2, off2, none⟩) un uc] 30) := ⟨(HBA.out _).fr hfr (by simp), hblk⟩; have cK : w4.cell? ⟨w.heap.size + 1 + 1, 0, none⟩ = some (.int .i64 2) := HX4.out.bx.c 2 (by simp) 0; clear hblk hfr))
 have HXD := hid (HX4.out.next (Below.drew (Below.refl _ _)))
 go_wp2_with fail
 refine start_n (S := (fun w' => w'.cell? ⟨w.heap.size + 4, 4, none⟩ = some (.slice (some ⟨g2, off2, none⟩) un uc) ∧ w'.cell? ⟨w.heap.size + 4, 1, none⟩ = some (.int .i64 (i : Nat)) ∧ w'.cell? ⟨w.heap.size + 1 + 1, 5, none⟩ = some (.string ofd) ∧ w'.rangeAt gt (oft + i * 2) T2 ∧ w'.rangeAt g2 (off2 + k * 3) VC)) 13 #[false, false, false, false, false, false, false, false, false, false, false, false, false] rfl rfl (by kernel_rfl) (HS.out _ HXD.out) (fun hHeld => ?_)
 refine tkq (i := 0) (v := ?v1) rfl ?hy1 ?rest1; (case hy1 => intro w0 hSw; (try dsimp only at hSw); go_simp <;> (try (with_reducible rfl))); (try simp only [puts])
 refine tkq (i := 1) (v := ?v2) rfl ?hy2 ?rest2; (case hy2 => intro w0 hSw; (try dsimp only at hSw); go_simp <;> (try (with_reducible rfl))); (try simp only [puts])
 refine tkq (i := 2) (v := ?v3) rfl ?hy3 ?rest3; (case hy3 => intro w0 hSw; (try dsimp only at hSw); go_simp <;> (try (with_reducible rfl))); (try simp only [puts])
 refine tkq (i := 3) (v := ?v4) rfl ?hy4 ?rest4; (case hy4 => intro w0 hSw; (try dsimp only at hSw); go_simp <;> (try (with_reducible rfl))); (try simp only [puts])
 refine tkq (i := 4) (v := ?v5) rfl ?hy5 ?rest5; (case hy5 => intro w0 hSw; (try dsimp only at hSw); go_simp <;> (try (with_reducible rfl))); (try simp only [puts])
 refine tkq (i := 5) (v := ?v6) rfl ?hy6 ?rest6; (case hy6 => intro w0 hSw; (try dsimp only at hSw); go_simp <;> (try (with_reducible rfl))); (try simp only [puts])
 refine tkq (i := 7) (v := ?v7) rfl ?hy7 ?rest7; (case hy7 => intro w0 hSw; (try dsimp only at hSw); go_simp <;> (try (with_reducible rfl))); (try simp only [puts])
 refine tkq (i := 8) (v := ?v8) rfl ?hy8 ?rest8; (case hy8 => intro w0 hSw; (try dsimp only at hSw); go_simp <;> (try (with_reducible rfl))); (try simp only [puts])
 refine tlq (i := 6) rfl (yieldsIf_load_mid (by rfl) 72 _ rfl gt (oft + i * 2) (by rfl) T2 _ (fun _ h => h.2.2.2.1) Tryz.underlying72 rfl ZT.out) ?_
 (try simp only [puts])
 refine wpAnyH_ready (rs := [9]) (by kernel_rfl) (by simp) ?_
 refine cons_mk rfl (fun K hK => ?_) AllReadyH.nil
 refine step_call2 123 ent_fat (by rfl) _ _ _ (by rfl) (.agg T2.toArray) (.string ofd) (by rfl) (by rfl) _ (HFA.out _ HXD.out.bx.bel) ?_
 rintro e w5 ⟨rfl, hb5⟩
 refine ⟨_, rfl, ?_⟩
 have HX5 := hid (HXD.out.next hb5)
 clear hb5
 refine hK.out _ _ (HS.out _ HX5.out) (fun hHeld => ?_)
 clear hK K
 (try simp only [puts])
 refine tkq (i := 10) (v := ?v9) rfl ?hy9 ?rest9; (case hy9 => intro w0 hSw; (try dsimp only at hSw); go_simp <;> (try (with_reducible rfl))); (try simp only [puts])
 refine tlq (i := 11) rfl (yieldsIf_load_mid (by rfl) 59 _ rfl g2 (off2 + k * 3) (by rfl) VC _ (fun _ h => h.2.2.2.2) Tryz.underlying59 rfl ZV.out) ?_
 (try simp only [puts])
 refine wpAnyH_ready (rs := [12]) (by kernel_rfl) (by simp) ?_
 refine cons_mk rfl (fun K hK => ?_) AllReadyH.nil
 refine step_sto (by rfl) 59 _ _ (by rfl) (w.heap.size + 1 + 1 + 1) 0 _ 59 (.agg VC.toArray) VC (by rfl) (by rfl) (by rfl) (HX5.out.bx.b 3 (by simp)) (by have := HVL.out; simp; omega) ZV.out HVO.out ?_
 intro w6 hm6 hf6
 rw [ovr_all (by rw [HVL.out]; rfl)] at hm6
 have HM6 := hid hm6
 have HB6 : Hid (Below w.heap.size w w6) := below_fr HX5.out.bx.bel hf6 (by omega)
 have HS6 := hid (HSF.out _ _ HX5.out hf6)
 clear hm6 hf6
 refine hK.out _ _ (HS6.out) (fun hHeld => ?_)
 clear hK K
 (try simp only [puts])
 refine wpAnyH_done (by kernel_rfl) ?_ _
 go_wp2_with fail
 exact ret_loc (w.heap.size + 1 + 1 + 1) VC 59 _ HM6.out rfl rfl (by rfl) Tryz.underlying59 rfl ZV.out ⟨rfl, HB6.out⟩
set_option maxHeartbeats 16000000 in
theorem sv_con (ts : List Tp) (own : Ev) (kn : List Ev) (tv ov kv : Value) (o : Opd) (w : World) (r : Rl) (u1 u2 u3 u4 u5 : Value) (h1 : Rd w (.row 65 18 (r.w.map encP)) u1) (hs2 : ∃ p n c, u2 = .slice p n c) (hs3 : ∃ p n c, u3 = .slice p n c) (hs4 : ∃ p n c, u4 = .slice p n c) (hs5 : ∃ p n c, u5 = .slice p n c) (hT : Rd w (.row 72 2 (ts.map encY)) tv) (ho : Rd w (.row 59 3 (own.v.map encV)) ov) (hK : Rd w (.row 30 5 (kn.map encX)) kv) (hok : o.k = 1) : Calls Tryz.prog 81 #[tv, .agg #[.string r.n, u1, u2, u3, u4, .string r.e.ty, u5], evV own ov, kv, opV o] w fun e w' => e = .returned (V4.vV (⟨o.vk, o.vi, o.vt⟩)) ∧ Below w.heap.size w w' := by
  obtain ⟨q1, l1, j1, hq1⟩ := rd_shape h1
  obtain ⟨q2, l2, j2, hq2⟩ := hs2
  obtain ⟨q3, l3, j3, hq3⟩ := hs3
  obtain ⟨q4, l4, j4, hq4⟩ := hs4
  obtain ⟨q5, l5, j5, hq5⟩ := hs5
  obtain ⟨tp, tn, tc, htv⟩ := rd_shape hT
  obtain ⟨op, on2, oc, hov⟩ := rd_shape ho
  obtain ⟨kp, kn2, kc, hkv⟩ := rd_shape hK
  subst htv hov hkv hq1 hq2 hq3 hq4 hq5
  obtain ⟨on, ot, ost, oen, ovl⟩ := own
  obtain ⟨ok, ovk, ovi, ovt, ova, ofd⟩ := o
  obtain ⟨rn, ws, ns, ms, ks, ⟨ety, vs⟩⟩ := r
  simp only at hok ⊢
  subst hok
  have hB : Bxs w ((((w.alloc (.cells #[.string rn, .slice q1 l1 j1, .slice q2 l2 j2, .slice q3 l3 j3, .slice q4 l4 j4, .string ety, .slice q5 l5 j5] 49)).alloc (.cells #[.int .i64 on, .int .i64 ot, .int .i64 ost, .int .i64 oen, .slice op on2 oc] 30)).alloc (.cells #[.int .i64 1, .int .i64 ovk, .int .i64 ovi, .string ovt, .string ova, .string ofd] 61)).alloc (.cells #[.int .i64 0, .int .i64 0, .string ⟨#[]⟩] 59)) [([.string rn, .slice q1 l1 j1, .slice q2 l2 j2, .slice q3 l3 j3, .slice q4 l4 j4, .string ety, .slice q5 l5 j5], 49), ([.int .i64 on, .int .i64 ot, .int .i64 ost, .int .i64 oen, .slice op on2 oc], 30), ([.int .i64 1, .int .i64 ovk, .int .i64 ovi, .string ovt, .string ova, .string ofd], 61), ([.int .i64 0, .int .i64 0, .string ⟨#[]⟩], 59)] := bxs4 w _ _ _ _ _ _ _ _
  have HB := hid hB
  have HZ := hid (hB.b 3 (by simp))
  clear hB h1 hT ho hK
  go_enter Tryz.func81, Tryz.ntmps81
  go_wp2_with ((with_reducible show wpList _ _ _ (Oper.mk _ (.store 59 _ _) _ _ _ _ :: _) _ _); refine wp_st (by rfl) 59 _ _ (by rfl) (w.heap.size + 1 + 1 + 1) 0 _ 59 (.agg #[.int .i64 ovk, .int .i64 ovi, .string ovt]) [.int .i64 ovk, .int .i64 ovi, .string ovt] (by rfl) (by rfl) (by rfl) HZ.out (by simp) (by kernel_rfl) (by rfl) ?_; intro w2 hblk hfr; have HW2 := hid hblk; have HBE : Hid (Below w.heap.size w w2) := below_fr HB.out.bel hfr (by omega); clear hblk hfr)
  exact ret_loc (w.heap.size + 1 + 1 + 1) [.int .i64 ovk, .int .i64 ovi, .string ovt] 59 _ HW2.out rfl rfl (by rfl) Tryz.underlying59 rfl (by kernel_rfl) ⟨rfl, HBE.out⟩
set_option maxHeartbeats 32000000 in
theorem sv_other (ts : List Tp) (own : Ev) (kn : List Ev) (tv ov kv : Value) (o : Opd) (w : World) (r : Rl) (u1 u2 u3 u4 u5 : Value) (h1 : Rd w (.row 65 18 (r.w.map encP)) u1) (hs2 : ∃ p n c, u2 = .slice p n c) (hs3 : ∃ p n c, u3 = .slice p n c) (hs4 : ∃ p n c, u4 = .slice p n c) (hs5 : ∃ p n c, u5 = .slice p n c) (hT : Rd w (.row 72 2 (ts.map encY)) tv) (ho : Rd w (.row 59 3 (own.v.map encV)) ov) (hK : Rd w (.row 30 5 (kn.map encX)) kv) (hok : o.k = 3) (j : Nat) (hj : j < kn.length) (hp : ptq r.w o.va = (j : Int)) (hx : evk ts kn[j] = 0) (hf : 0 ≤ fdq (ts.getD kn[j].t.toNat dT).f o.fd) : Calls Tryz.prog 81 #[tv, .agg #[.string r.n, u1, u2, u3, u4, .string r.e.ty, u5], evV own ov, kv, opV o] w fun e w' => e = .returned (V4.vV (fvl ts kn[j] o.fd)) ∧ Below w.heap.size w w' := by
 obtain ⟨gk, ofk, kn2, kc, KL, hkv, hjn, hKL, uv, zK, hxu⟩ : ∃ gk ofk kn2 kc KL, kv = .slice (some ⟨gk, ofk, none⟩) kn2 kc ∧ (j : Int) < (kn2 : Int) ∧ (∀ W, Below w.heap.size w W → W.rangeAt gk (ofk + j * 5) KL) ∧ ∃ uv, KL = [.int .i64 kn[j].n, .int .i64 kn[j].t, .int .i64 kn[j].st, .int .i64 kn[j].en, uv] ∧ Rd w (.row 59 3 (kn[j].v.map encV)) uv := by
  obtain ⟨p, cap, rfl, _, hat⟩ := rd_row lenX hK
  obtain ⟨g, off, rfl, hrd⟩ := hat (by omega)
  obtain ⟨A, r1, o1⟩ := hrd w (Below.refl _ _) j hj
  obtain ⟨uv, z1, o2⟩ := rdX o1
  exact ⟨g, off, _, _, A, rfl, by omega, fun W hW => range_below r1 hW, uv, z1, o2⟩
 obtain ⟨i, hi, e1, m1, m2⟩ := evk_ok hx
 obtain ⟨k, hk, e4, e5, m3, m4⟩ := fvl_ok hx hf
 clear m1 m2 m3 m4
 have et : ts.getD kn[j].t.toNat dT = ts[i] := by rw [e1, Int.toNat_natCast]; exact getD_lt hi _
 rw [et] at e4
 rw [e5]
 obtain ⟨gt, oft, tn, tc, T2, htv, hin, hT2, fv, zT, oT⟩ : ∃ gt oft tn tc T2, tv = .slice (some ⟨gt, oft, none⟩) tn tc ∧ (i : Int) < (tn : Int) ∧ (∀ W, Below w.heap.size w W → W.rangeAt gt (oft + i * 2) T2) ∧ ∃ fv, T2 = [.string ts[i].n, fv] ∧ Rd w (.row 93 2 (ts[i].f.map encF)) fv := by
  obtain ⟨p, cap, rfl, _, hat⟩ := rd_row lenY hT
  obtain ⟨g, off, rfl, hrd⟩ := hat (by omega)
  obtain ⟨A, r1, o1⟩ := hrd w (Below.refl _ _) i hi
  obtain ⟨fv, z1, o2⟩ := rdY o1
  exact ⟨g, off, _, _, A, rfl, by omega, fun W hW => range_below r1 hW, fv, z1, o2⟩
 obtain ⟨g2, off2, un, uc, VC, huv, hkn, hVC, zV⟩ : ∃ g2 off2 un uc VC, uv = .slice (some ⟨g2, off2, none⟩) un uc ∧ (k : Int) < (un : Int) ∧ (∀ W, Below w.heap.size w W → W.rangeAt g2 (off2 + k * 3) VC) ∧ VC = [.int .i64 kn[j].v[k].k, .int .i64 kn[j].v[k].n, .string kn[j].v[k].s] := by
  obtain ⟨p, cap, rfl, _, hat⟩ := rd_row lenV hxu
  obtain ⟨g, off, rfl, hrd⟩ := hat (by omega)
  obtain ⟨A, r1, o1⟩ := hrd w (Below.refl _ _) k hk
  exact ⟨g, off, _, _, A, rfl, by omega, fun W hW => range_below r1 hW, rdV o1⟩
 have hFA := fun W (hW : Below w.heap.size w W) => fieldAt_any ts[i].n ts[i].f fv o.fd W (oT.later hW)
 rw [e4] at hFA
 have HFA : Hid (∀ W, Below w.heap.size w W → Calls Tryz.prog 123 #[.agg T2.toArray, .string o.fd] W fun e w' => e = .returned (.int .i64 (k : Nat)) ∧ Below W.heap.size W w') := fun W hW => by rw [zT]; exact hFA W hW
 have hTz : T2.length = 2 := by rw [zT]; rfl
 have hVz : VC.length = 3 := by rw [zV]; rfl
 have ZT : Hid ((Tryz.prog.info? 72).map (·.size) = some T2.length) := by show _ = _; rw [hTz]; kernel_rfl
 have ZV : Hid ((Tryz.prog.info? 59).map (·.size) = some VC.length) := by show _ = _; rw [hVz]; kernel_rfl
 have HVL := hid hVz
 have HVO : Hid (VC.all (·.oneCell') = true) := by show _ = _; rw [zV]; rfl
 have HVC : Hid (V4.vV kn[j].v[k] = .agg VC.toArray) := by show _ = _; rw [zV]
 have hPN := fun W (hW : Below w.heap.size w W) => patternNamed_any r.w u1 o.va W (h1.later hW)
 rw [hp] at hPN
 obtain ⟨q1, l1, j1, hq1⟩ := rd_shape h1
 obtain ⟨q2, l2, j2, hq2⟩ := hs2
 obtain ⟨q3, l3, j3, hq3⟩ := hs3
 obtain ⟨q4, l4, j4, hq4⟩ := hs4
 obtain ⟨q5, l5, j5, hq5⟩ := hs5
 obtain ⟨op, on2, oc, hov⟩ := rd_shape ho
 rw [e1, huv] at zK
 obtain ⟨en, hen⟩ : ∃ x, kn[j].n = x := ⟨_, rfl⟩
 obtain ⟨es, hes⟩ : ∃ x, kn[j].st = x := ⟨_, rfl⟩
 obtain ⟨ee, hee⟩ : ∃ x, kn[j].en = x := ⟨_, rfl⟩
 rw [hen, hes, hee] at zK
 rw [HVC.out]
 subst htv hov hkv hq1 hq2 hq3 hq4 hq5
 obtain ⟨on, ot, ost, oen, ovl⟩ := own
 obtain ⟨ok, ovk, ovi, ovt, ova, ofd⟩ := o
 obtain ⟨rn, ws, ns, ms, ks, ⟨ety, vs⟩⟩ := r
 simp only at hok HFA hPN ⊢
 subst hok zK
 have HPN := hid hPN
 have HKL := hid hKL
 have HS : Hid (∀ W, Svx w W [([.string rn, .slice q1 l1 j1, .slice q2 l2 j2, .slice q3 l3 j3, .slice q4 l4 j4, .string ety, .slice q5 l5 j5], 49), ([.int .i64 on, .int .i64 ot, .int .i64 ost, .int .i64 oen, .slice op on2 oc], 30), ([.int .i64 3, .int .i64 ovk, .int .i64 ovi, .string ovt, .string ova, .string ofd], 61), ([.int .i64 0, .int .i64 0, .string ⟨#[]⟩], 59)] (w.heap.size + 4) [.int .i64 en, .int .i64 (i : Nat), .int .i64 es, .int .i64 ee, .slice (some ⟨g2, off2, none⟩) un uc] 30 → (W.cell? ⟨w.heap.size + 4, 4, none⟩ = some (.slice (some ⟨g2, off2, none⟩) un uc) ∧ W.cell? ⟨w.heap.size + 4, 1, none⟩ = some (.int .i64 (i : Nat)) ∧ W.cell? ⟨w.heap.size + 1 + 1, 5, none⟩ = some (.string ofd) ∧ W.rangeAt gt (oft + i * 2) T2 ∧ W.rangeAt g2 (off2 + k * 3) VC)) := fun W h => ⟨cell_of_blk h.e 4, cell_of_blk h.e 1, h.bx.c 2 (by simp) 5, hT2 W h.bx.bel, hVC W h.bx.bel⟩
 have HSF : Hid (∀ W W', Svx w W [([.string rn, .slice q1 l1 j1, .slice q2 l2 j2, .slice q3 l3 j3, .slice q4 l4 j4, .string ety, .slice q5 l5 j5], 49), ([.int .i64 on, .int .i64 ot, .int .i64 ost, .int .i64 oen, .slice op on2 oc], 30), ([.int .i64 3, .int .i64 ovk, .int .i64 ovi, .string ovt, .string ova, .string ofd], 61), ([.int .i64 0, .int .i64 0, .string ⟨#[]⟩], 59)] (w.heap.size + 4) [.int .i64 en, .int .i64 (i : Nat), .int .i64 es, .int .i64 ee, .slice (some ⟨g2, off2, none⟩) un uc] 30 → Fr (fun i => i = w.heap.size + 1 + 1 + 1) W W' → (W'.cell? ⟨w.heap.size + 4, 4, none⟩ = some (.slice (some ⟨g2, off2, none⟩) un uc) ∧ W'.cell? ⟨w.heap.size + 4, 1, none⟩ = some (.int .i64 (i : Nat)) ∧ W'.cell? ⟨w.heap.size + 1 + 1, 5, none⟩ = some (.string ofd) ∧ W'.rangeAt gt (oft + i * 2) T2 ∧ W'.rangeAt g2 (off2 + k * 3) VC)) := fun W W' h hf => by
  have hb : Below w.heap.size w W' := below_fr h.bx.bel hf (by omega)
  have e2 : W'.heap[w.heap.size + 4]? = some (.cells [.int .i64 en, .int .i64 (i : Nat), .int .i64 es, .int .i64 ee, .slice (some ⟨g2, off2, none⟩) un uc].toArray 30 (0, 0)) := (hf.block _ (blk_lt h.e) (by omega)).trans h.e
  have e3 : W'.heap[w.heap.size + 2]? = some (.cells [.int .i64 3, .int .i64 ovk, .int .i64 ovi, .string ovt, .string ova, .string ofd].toArray 61 (0, 0)) := (hf.block _ (blk_lt (h.bx.b 2 (by simp))) (by omega)).trans (h.bx.b 2 (by simp))
  exact ⟨cell_of_blk e2 4, cell_of_blk e2 1, cell_of_blk e3 5, hT2 W' hb, hVC W' hb⟩
 have hB : Bxs w ((((w.alloc (.cells #[.string rn, .slice q1 l1 j1, .slice q2 l2 j2, .slice q3 l3 j3, .slice q4 l4 j4, .string ety, .slice q5 l5 j5] 49)).alloc (.cells #[.int .i64 on, .int .i64 ot, .int .i64 ost, .int .i64 oen, .slice op on2 oc] 30)).alloc (.cells #[.int .i64 3, .int .i64 ovk, .int .i64 ovi, .string ovt, .string ova, .string ofd] 61)).alloc (.cells #[.int .i64 0, .int .i64 0, .string ⟨#[]⟩] 59)) [([.string rn, .slice q1 l1 j1, .slice q2 l2 j2, .slice q3 l3 j3, .slice q4 l4 j4, .string ety, .slice q5 l5 j5], 49), ([.int .i64 on, .int .i64 ot, .int .i64 ost, .int .i64 oen, .slice op on2 oc], 30), ([.int .i64 3, .int .i64 ovk, .int .i64 ovi, .string ovt, .string ova, .string ofd], 61), ([.int .i64 0, .int .i64 0, .string ⟨#[]⟩], 59)] := bxs4 w _ _ _ _ _ _ _ _
 have HB := hid hB
 have XO := hid (hB.r 1 (by simp))
 have HBA := hid (fun o => hB.next ((Below.refl _ _).alloc (Nat.le_refl _) o))
 have HNB := hid (fun a b c d o => heap_5 w a b c d o)
 have y1 : (0 : Int) ≤ (i : Int) := by omega
 have y3 : (0 : Int) ≤ (k : Int) := by omega
 have y5 : (0 : Int) ≤ (j : Int) := by omega
 clear HVC
 clear hB h1 hT ho hK hxu hx hf e4 e5 et hT2 hVC zT zV hFA oT hTz hVz hi hk e1 huv hen hes hee hPN hKL hp hj
 go_enter Tryz.func81, Tryz.ntmps81
 go_wp2_with (first
  | ((with_reducible refine gLq ?_); refine wpList_load_mid (by rfl) 30 _ (by rfl) (w.heap.size + 1) 0 (by rfl) [.int .i64 on, .int .i64 ot, .int .i64 ost, .int .i64 oen, .slice op on2 oc] _ XO.out Tryz.underlying30 rfl (by kernel_rfl) ?_)
  | ((with_reducible show wpList _ _ _ (Oper.mk _ (.store 30 _ _) _ _ _ _ :: _) _ _); refine wp_st (by rfl) 30 _ _ (by rfl) (w.heap.size + 4) 0 _ 30 (.agg #[.int .i64 on, .int .i64 ot, .int .i64 ost, .int .i64 oen, .slice op on2 oc]) [.int .i64 on, .int .i64 ot, .int .i64 ost, .int .i64 oen, .slice op on2 oc] (by rfl) (by rfl) (by rfl) (HNB.out _ _ _ _ _) (by simp) (by kernel_rfl) (by rfl) ?_; intro w3 hblk hfr; have HX3 : Hid (Svx w w3 [([.string rn, .slice q1 l1 j1, .slice q2 l2 j2, .slice q3 l3 j3, .slice q4 l4 j4, .string ety, .slice q5 l5 j5], 49), ([.int .i64 on, .int .i64 ot, .int .i64 ost, .int .i64 oen, .slice op on2 oc], 30), ([.int .i64 3, .int .i64 ovk, .int .i64 ovi, .string ovt, .string ova, .string ofd], 61), ([.int .i64 0, .int .i64 0, .string ⟨#[]⟩], 59)] (w.heap.size + 4) [.int .i64 on, .int .i64 ot, .int .i64 ost, .int .i64 oen, .slice op on2 oc] 30) := ⟨(HBA.out _).fr hfr (by simp), hblk⟩; have cK : w3.cell? ⟨w.heap.size + 1 + 1, 0, none⟩ = some (.int .i64 3) := HX3.out.bx.c 2 (by simp) 0; have cW : w3.cell? ⟨w.heap.size, 1, none⟩ = some (.slice q1 l1 j1) := HX3.out.bx.c 0 (by simp) 1; have cV : w3.cell? ⟨w.heap.size + 1 + 1, 4, none⟩ = some (.string ova) := HX3.out.bx.c 2 (by simp) 4; clear hblk hfr))
 refine (HPN.out _ HX3.out.bx.bel).mono ?_
 rintro e w5a ⟨rfl, hb5⟩
 have HX5a := hid (HX3.out.next hb5)
 have XK := hid (HKL.out w5a HX5a.out.bx.bel)
 clear hb5 cK cW cV XO HPN HKL
 go_wp2_with (first
  | ((with_reducible show wpList _ _ _ (Oper.mk _ (.load 30 _) _ _ _ _ :: _) _ _); refine wpList_load_mid (by rfl) 30 _ (by rfl) gk (ofk + j * 5) (by rfl) [.int .i64 en, .int .i64 (i : Nat), .int .i64 es, .int .i64 ee, .slice (some ⟨g2, off2, none⟩) un uc] _ XK.out Tryz.underlying30 rfl (by kernel_rfl) ?_)
  | ((with_reducible show wpList _ _ _ (Oper.mk _ (.store 30 _ _) _ _ _ _ :: _) _ _); refine wp_st (by rfl) 30 _ _ (by rfl) (w.heap.size + 4) 0 _ 30 (.agg #[.int .i64 en, .int .i64 (i : Nat), .int .i64 es, .int .i64 ee, .slice (some ⟨g2, off2, none⟩) un uc]) [.int .i64 en, .int .i64 (i : Nat), .int .i64 es, .int .i64 ee, .slice (some ⟨g2, off2, none⟩) un uc] (by rfl) (by rfl) (by rfl) HX5a.out.e (by simp) (by kernel_rfl) (by rfl) ?_; intro w4 hblk hfr; have HX4 : Hid (Svx w w4 [([.string rn, .slice q1 l1 j1, .slice q2 l2 j2, .slice q3 l3 j3, .slice q4 l4 j4, .string ety, .slice q5 l5 j5], 49), ([.int .i64 on, .int .i64 ot, .int .i64 ost, .int .i64 oen, .slice op on2 oc], 30), ([.int .i64 3, .int .i64 ovk, .int .i64 ovi, .string ovt, .string ova, .string ofd], 61), ([.int .i64 0, .int .i64 0, .string ⟨#[]⟩], 59)] (w.heap.size + 4) [.int .i64 en, .int .i64 (i : Nat), .int .i64 es, .int .i64 ee, .slice (some ⟨g2, off2, none⟩) un uc] 30) := ⟨HX5a.out.bx.fr hfr (by simp), hblk⟩; clear hblk hfr))
 have HXD := hid (HX4.out.next (Below.drew (Below.refl _ _)))
 go_wp2_with fail
 refine start_n (S := (fun w' => w'.cell? ⟨w.heap.size + 4, 4, none⟩ = some (.slice (some ⟨g2, off2, none⟩) un uc) ∧ w'.cell? ⟨w.heap.size + 4, 1, none⟩ = some (.int .i64 (i : Nat)) ∧ w'.cell? ⟨w.heap.size + 1 + 1, 5, none⟩ = some (.string ofd) ∧ w'.rangeAt gt (oft + i * 2) T2 ∧ w'.rangeAt g2 (off2 + k * 3) VC)) 13 #[false, false, false, false, false, false, false, false, false, false, false, false, false] rfl rfl (by kernel_rfl) (HS.out _ HXD.out) (fun hHeld => ?_)
 refine tkq (i := 0) (v := ?v1) rfl ?hy1 ?rest1; (case hy1 => intro w0 hSw; (try dsimp only at hSw); go_simp <;> (try (with_reducible rfl))); (try simp only [puts])
 refine tkq (i := 1) (v := ?v2) rfl ?hy2 ?rest2; (case hy2 => intro w0 hSw; (try dsimp only at hSw); go_simp <;> (try (with_reducible rfl))); (try simp only [puts])
 refine tkq (i := 2) (v := ?v3) rfl ?hy3 ?rest3; (case hy3 => intro w0 hSw; (try dsimp only at hSw); go_simp <;> (try (with_reducible rfl))); (try simp only [puts])
 refine tkq (i := 3) (v := ?v4) rfl ?hy4 ?rest4; (case hy4 => intro w0 hSw; (try dsimp only at hSw); go_simp <;> (try (with_reducible rfl))); (try simp only [puts])
 refine tkq (i := 4) (v := ?v5) rfl ?hy5 ?rest5; (case hy5 => intro w0 hSw; (try dsimp only at hSw); go_simp <;> (try (with_reducible rfl))); (try simp only [puts])
 refine tkq (i := 5) (v := ?v6) rfl ?hy6 ?rest6; (case hy6 => intro w0 hSw; (try dsimp only at hSw); go_simp <;> (try (with_reducible rfl))); (try simp only [puts])
 refine tkq (i := 7) (v := ?v7) rfl ?hy7 ?rest7; (case hy7 => intro w0 hSw; (try dsimp only at hSw); go_simp <;> (try (with_reducible rfl))); (try simp only [puts])
 refine tkq (i := 8) (v := ?v8) rfl ?hy8 ?rest8; (case hy8 => intro w0 hSw; (try dsimp only at hSw); go_simp <;> (try (with_reducible rfl))); (try simp only [puts])
 refine tlq (i := 6) rfl (yieldsIf_load_mid (by rfl) 72 _ rfl gt (oft + i * 2) (by rfl) T2 _ (fun _ h => h.2.2.2.1) Tryz.underlying72 rfl ZT.out) ?_
 (try simp only [puts])
 refine wpAnyH_ready (rs := [9]) (by kernel_rfl) (by simp) ?_
 refine cons_mk rfl (fun K hK => ?_) AllReadyH.nil
 refine step_call2 123 ent_fat (by rfl) _ _ _ (by rfl) (.agg T2.toArray) (.string ofd) (by rfl) (by rfl) _ (HFA.out _ HXD.out.bx.bel) ?_
 rintro e w5 ⟨rfl, hb5⟩
 refine ⟨_, rfl, ?_⟩
 have HX5 := hid (HXD.out.next hb5)
 clear hb5
 refine hK.out _ _ (HS.out _ HX5.out) (fun hHeld => ?_)
 clear hK K
 (try simp only [puts])
 refine tkq (i := 10) (v := ?v9) rfl ?hy9 ?rest9; (case hy9 => intro w0 hSw; (try dsimp only at hSw); go_simp <;> (try (with_reducible rfl))); (try simp only [puts])
 refine tlq (i := 11) rfl (yieldsIf_load_mid (by rfl) 59 _ rfl g2 (off2 + k * 3) (by rfl) VC _ (fun _ h => h.2.2.2.2) Tryz.underlying59 rfl ZV.out) ?_
 (try simp only [puts])
 refine wpAnyH_ready (rs := [12]) (by kernel_rfl) (by simp) ?_
 refine cons_mk rfl (fun K hK => ?_) AllReadyH.nil
 refine step_sto (by rfl) 59 _ _ (by rfl) (w.heap.size + 1 + 1 + 1) 0 _ 59 (.agg VC.toArray) VC (by rfl) (by rfl) (by rfl) (HX5.out.bx.b 3 (by simp)) (by have := HVL.out; simp; omega) ZV.out HVO.out ?_
 intro w6 hm6 hf6
 rw [ovr_all (by rw [HVL.out]; rfl)] at hm6
 have HM6 := hid hm6
 have HB6 : Hid (Below w.heap.size w w6) := below_fr HX5.out.bx.bel hf6 (by omega)
 have HS6 := hid (HSF.out _ _ HX5.out hf6)
 clear hm6 hf6
 refine hK.out _ _ (HS6.out) (fun hHeld => ?_)
 clear hK K
 (try simp only [puts])
 refine wpAnyH_done (by kernel_rfl) ?_ _
 go_wp2_with fail
 exact ret_loc (w.heap.size + 1 + 1 + 1) VC 59 _ HM6.out rfl rfl (by rfl) Tryz.underlying59 rfl ZV.out ⟨rfl, HB6.out⟩
theorem ptq_asq {part : Int} {k : Nat} {ws : List Pt} {va : ByteArray} {j : Nat} (h : ptq (asq part k ws) va = (j : Int)) : ptq ws va = (j : Int) := by
 unfold asq at h
 split at h
 . have e : ws = ws.take k ++ ws.drop k := (List.take_append_drop k ws).symm
   have h2 : ∀ (l r : List Pt) (n : Nat) (j : Nat), ixq (fun p : Pt => seq p.va va) l n = (j : Int) → ixq (fun p : Pt => seq p.va va) (l ++ r) n = (j : Int) := by
    intro l
    induction l with
    | nil => intro r n j h; rw [ixq] at h; omega
    | cons y l ih =>
     intro r n j h
     rw [ixq] at h
     rw [List.cons_append, ixq]
     by_cases c : seq y.va va = true
     . rw [if_pos c] at h ⊢; exact h
     . rw [if_neg c] at h ⊢; exact ih r (n + 1) j h
   rw [e]
   exact h2 (ws.take k) (ws.drop k) 0 j h
 . exact h
theorem sv_any (ts : List Tp) (own : Ev) (kn : List Ev) (tv ov kv : Value) (o : Opd) (w : World) (r : Rl) (u1 u2 u3 u4 u5 : Value) (h1 : Rd w (.row 65 18 (r.w.map encP)) u1) (hs2 : ∃ p n c, u2 = .slice p n c) (hs3 : ∃ p n c, u3 = .slice p n c) (hs4 : ∃ p n c, u4 = .slice p n c) (hs5 : ∃ p n c, u5 = .slice p n c) (hT : Rd w (.row 72 2 (ts.map encY)) tv) (ho : Rd w (.row 59 3 (own.v.map encV)) ov) (hK : Rd w (.row 30 5 (kn.map encX)) kv) (part : Int) (at_ : Nat) (hk : Sok ts (asq part at_ r.w) own kn) (hsd : (sdk ts (asq part at_ r.w) (ts.getD own.t.toNat dT) o).2 = 0) : Calls Tryz.prog 81 #[tv, .agg #[.string r.n, u1, u2, u3, u4, .string r.e.ty, u5], evV own ov, kv, opV o] w fun e w' => e = .returned (V4.vV (svl ts (asq part at_ r.w) own kn o)) ∧ Below w.heap.size w w' := by
 have hsd' := hsd
 unfold sdk at hsd
 by_cases h0 : 1 ≤ o.k ∧ o.k ≤ 3
 . rw [if_neg (fun c => c h0)] at hsd
   by_cases k1 : o.k = 1
   . have e : svl ts (asq part at_ r.w) own kn o = ⟨o.vk, o.vi, o.vt⟩ := by unfold svl; rw [if_neg (by omega), if_neg (by omega)]
     rw [e]
     exact sv_con ts own kn tv ov kv o w r u1 u2 u3 u4 u5 h1 hs2 hs3 hs4 hs5 hT ho hK k1
   . rw [if_neg k1] at hsd
     by_cases k2 : o.k = 2
     . rw [if_pos k2] at hsd
       have e : svl ts (asq part at_ r.w) own kn o = fvl ts own o.fd := by unfold svl; rw [if_pos k2]
       rw [e]
       split at hsd
       . simp at hsd
       . refine sv_own ts own kn tv ov kv o w r u1 u2 u3 u4 u5 h1 hs2 hs3 hs4 hs5 hT ho hK k2 hk.ev ?_
         unfold fck at hsd
         split at hsd
         . simp at hsd
         . omega
     . rw [if_neg k2] at hsd
       split at hsd
       . simp at hsd
       . rename_i c1
         split at hsd
         . simp at hsd
         . obtain ⟨j, hj, e1, _⟩ := ixq_ex (q := fun p : Pt => seq p.va o.va) (l := asq part at_ r.w) (by show 0 ≤ ptq (asq part at_ r.w) o.va; omega)
           have e1' : ptq (asq part at_ r.w) o.va = (j : Int) := e1
           have hjk : j < kn.length := by rw [hk.kn.1]; exact hj
           obtain ⟨g1, g2⟩ := hk.kn.2 j hjk hj
           have et : tyOf ts (asq part at_ r.w) o.va = ts.getD kn[j].t.toNat dT := by
             unfold tyOf
             rw [e1', Int.toNat_natCast, getD_lt hj, g2]
             rfl
           have es : svl ts (asq part at_ r.w) own kn o = fvl ts kn[j] o.fd := by
             unfold svl
             rw [if_neg k2, if_pos (by omega), e1', Int.toNat_natCast, getD_lt hjk]
           rw [es]
           rw [et] at hsd
           refine sv_other ts own kn tv ov kv o w r u1 u2 u3 u4 u5 h1 hs2 hs3 hs4 hs5 hT ho hK (by omega) j hjk (ptq_asq e1') g1 ?_
           unfold fck at hsd
           split at hsd
           . simp at hsd
           . omega
 . rw [if_pos h0] at hsd; simp at hsd
end Go.Proofs.YthndlfdbmljkhaaGreatDoor.Chk
