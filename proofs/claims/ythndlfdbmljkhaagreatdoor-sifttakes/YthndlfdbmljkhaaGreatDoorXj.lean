/-
  What TakenBy answers.
-/
import Derived.BigQuiet
import Derived.Test.YthndlfdbmljkhaaGreatDoorXh
namespace Go.Proofs.YthndlfdbmljkhaaGreatDoor.Chk
open Go.ChangeShapes Go.WideShapes Go.ChangeAt Go.RowKit Go.Maps
set_option linter.unusedVariables false
set_option linter.unusedSimpArgs false
set_option maxRecDepth 20000
set_option maxHeartbeats 16000000 in
theorem tb_bad (ts : List Tp) (rs : List Rl) (hzz : ∀ r, r ∈ rs → Szr r) (tv rv : Value) (rule part at_ : Int) (x : Ev) (u : Value) (kn : List Ev) (kv : Value) (w : World) (hT : Rd w (.row 72 2 (ts.map encY)) tv) (hR : Rd w (.row 49 7 (rs.map encR)) rv) (hu : Rd w (.row 59 3 (x.v.map encV)) u) (hK : Rd w (.row 30 5 (kn.map encX)) kv) (hb : bok ts rs ≠ 0) : Calls Tryz.prog 6 #[.agg #[tv, rv], .int .i64 rule, .int .i64 part, .int .i64 at_, evV x u, kv] w fun e w' => e = .returned (.tuple #[.bool (false), .int .i64 (bok ts rs)]) ∧ Below w.heap.size w w' := by
  have HCH := hid (fun W (hW : Below w.heap.size w W) => bookFault_any ts rs (fun x hx => ⟨fun t ht => ((hzz x hx).w t ht).wfc, fun t ht => ((hzz x hx).t t ht).wfc, fun m hm => ((hzz x hx).m m hm).wfc⟩) tv rv W (hT.later hW) (hR.later hW))
  obtain ⟨tp, tc, htv, _, _⟩ := rd_row lenY hT
  obtain ⟨rp, rc, hrv, hmr, _⟩ := rd_row lenR hR
  obtain ⟨up, un, uc, huv⟩ := rd_shape hu
  obtain ⟨kp, kn2, kc, hkv⟩ := rd_shape hK
  obtain ⟨E0, hE0⟩ : ∃ E, bok ts rs = E := ⟨_, rfl⟩
  rw [hE0] at HCH hb ⊢
  subst htv hrv huv hkv
  obtain ⟨xn, xt, xs, xe, xv⟩ := x
  simp only [evV] at *
  generalize ts.length = tn at *
  generalize rs.length = rn at *
  have hB : Bxs w ((w.alloc (.cells #[.slice tp tn tc, .slice rp rn rc] 25)).alloc (.cells #[.int .i64 xn, .int .i64 xt, .int .i64 xs, .int .i64 xe, .slice up un uc] 30)) [([.slice tp tn tc, .slice rp rn rc], 25), ([.int .i64 xn, .int .i64 xt, .int .i64 xs, .int .i64 xe, .slice up un uc], 30)] := bxs2 w _ _ _ _
  have HB := hid hB
  have d9 : (E0 != 0) = true := by simpa using hb
  clear hT hR hu hK hzz hE0 hb hB hmr
  go_enter Tryz.func6, Tryz.ntmps6
  go_wp2_with fail
  refine (HCH.out _ HB.out.bel).mono ?_
  rintro e w1 ⟨rfl, hb1⟩
  have HB1 := hid (HB.out.next hb1)
  clear hb1
  go_wp2_with fail
  go_ret2
  exact ⟨rfl, HB1.out.bel⟩
set_option maxHeartbeats 16000000 in
theorem tb_off (ts : List Tp) (rs : List Rl) (hzz : ∀ r, r ∈ rs → Szr r) (tv rv : Value) (rule part at_ : Int) (x : Ev) (u : Value) (kn : List Ev) (kv : Value) (w : World) (hT : Rd w (.row 72 2 (ts.map encY)) tv) (hR : Rd w (.row 49 7 (rs.map encR)) rv) (hu : Rd w (.row 59 3 (x.v.map encV)) u) (hK : Rd w (.row 30 5 (kn.map encX)) kv) (hb : bok ts rs = 0) (q : Bool) (hq : Say q (0 ≤ rule ∧ rule ≤ (rs.length : Int) - 1)) (p : Bool) (hp : Say p (0 ≤ part ∧ part ≤ 2)) (hqp : (q && p) = false) : Calls Tryz.prog 6 #[.agg #[tv, rv], .int .i64 rule, .int .i64 part, .int .i64 at_, evV x u, kv] w fun e w' => e = .returned (.tuple #[.bool (false), .int .i64 (2)]) ∧ Below w.heap.size w w' := by
  have HCH := hid (fun W (hW : Below w.heap.size w W) => bookFault_any ts rs (fun x hx => ⟨fun t ht => ((hzz x hx).w t ht).wfc, fun t ht => ((hzz x hx).t t ht).wfc, fun m hm => ((hzz x hx).m m hm).wfc⟩) tv rv W (hT.later hW) (hR.later hW))
  obtain ⟨tp, tc, htv, _, _⟩ := rd_row lenY hT
  obtain ⟨rp, rc, hrv, hmr, _⟩ := rd_row lenR hR
  obtain ⟨up, un, uc, huv⟩ := rd_shape hu
  obtain ⟨kp, kn2, kc, hkv⟩ := rd_shape hK
  rw [hb] at HCH
  subst htv hrv huv hkv
  obtain ⟨xn, xt, xs, xe, xv⟩ := x
  simp only [evV] at *
  generalize ts.length = tn at *
  generalize rs.length = rn at *
  have hB : Bxs w ((w.alloc (.cells #[.slice tp tn tc, .slice rp rn rc] 25)).alloc (.cells #[.int .i64 xn, .int .i64 xt, .int .i64 xs, .int .i64 xe, .slice up un uc] 30)) [([.slice tp tn tc, .slice rp rn rc], 25), ([.int .i64 xn, .int .i64 xt, .int .i64 xs, .int .i64 xe, .slice up un uc], 30)] := bxs2 w _ _ _ _
  have HB := hid hB
  have HI1 := hid (fun W => V4.in_any rule 0 ((rn : Int) - 1) q hq W)
  have HI2 := hid (fun W => V4.in_any part 0 2 p hp W)
  have a1 : wrap64 ((rn : Int) - 1) = (rn : Int) - 1 := by unfold wrap64; omega
  clear hT hR hu hK hzz hb hB hmr hq hp
  cases q <;> cases p <;> first
    | (exfalso; simp at hqp; done)
    | (clear hqp
       go_enter Tryz.func6, Tryz.ntmps6
       go_wp2_with fail
       refine (HCH.out _ HB.out.bel).mono ?_
       rintro e w1 ⟨rfl, hb1⟩
       have HB1 := hid (HB.out.next hb1)
       have c1 : w1.cell? ⟨w.heap.size, 1, none⟩ = some (.slice rp rn rc) := HB1.out.c 0 (by simp) 1
       clear hb1
       go_wp2_with (first
         | (go_at_call_of 17 (Value.int IntKind.i64 rule); refine (HI1.out _).mono ?_; rintro e w2 ⟨rfl, rfl⟩)
         | (go_at_call_of 17 (Value.int IntKind.i64 part); refine (HI2.out _).mono ?_; rintro e w2 ⟨rfl, rfl⟩))
       go_ret2
       exact ⟨rfl, HB1.out.bel⟩)
theorem kfs_nil (ts : List Tp) (l : List Pt) : kfs ts [] l = 0 := by cases l <;> rfl
theorem ent_ef : ∀ args w, (callFunc 18 args).run Tryz.prog w = .ok (.enter 18 args) w := enters_of Tryz.func18 (by kernel_rfl) rfl
theorem ent_tkn : ∀ args w, (callFunc 19 args).run Tryz.prog w = .ok (.enter 19 args) w := enters_of Tryz.func19 (by kernel_rfl) rfl
set_option maxHeartbeats 64000000 in
theorem tb_main0 (ts : List Tp) (rs : List Rl) (hzz : ∀ r, r ∈ rs → Szr r) (tv rv : Value) (at_ : Int) (x : Ev) (u : Value) (kn : List Ev) (kv : Value) (w : World) (hT : Rd w (.row 72 2 (ts.map encY)) tv) (hR : Rd w (.row 49 7 (rs.map encR)) rv) (hu : Rd w (.row 59 3 (x.v.map encV)) u) (hK : Rd w (.row 30 5 (kn.map encX)) kv) (hb : bok ts rs = 0) (k : Nat) (hk : k < rs.length) (R : Bool × Int) (hRR : tkr ts rs (k : Int) 0 at_ x kn = R) : Calls Tryz.prog 6 #[.agg #[tv, rv], .int .i64 (k : Nat), .int .i64 0, .int .i64 at_, evV x u, kv] w fun e w' => e = .returned (.tuple #[.bool (R.1), .int .i64 (R.2)]) ∧ Below w.heap.size w w' := by
 obtain ⟨hts, hrs⟩ := bok_zero hb
 have hty : ∀ i (hi : i < ts.length), tyk ts[i].n ts[i].f = 0 := fun i hi => tks_all ts [] hts _ (List.getElem_mem hi)
 have hrk := rks_all rs [] hrs _ (List.getElem_mem hk)
 have hds := dst_of hts
 have hszr := hzz _ (List.getElem_mem hk)
 have hgd : rs.getD (k : Int).toNat r0 = rs[k] := by rw [Int.toNat_natCast]; exact getD_lt hk _
 unfold tkr at hRR
 rw [if_neg (fun c => c hb), if_neg (fun c => c (by omega)), hgd] at hRR
 have HCH := hid (fun W (hW : Below w.heap.size w W) => bookFault_any ts rs (fun x hx => ⟨fun t ht => ((hzz x hx).w t ht).wfc, fun t ht => ((hzz x hx).t t ht).wfc, fun m hm => ((hzz x hx).m m hm).wfc⟩) tv rv W (hT.later hW) (hR.later hW))
 obtain ⟨tp, tc, htv, _, _⟩ := rd_row lenY hT
 obtain ⟨rp, rc, hrv, hmr, _⟩ := rd_row lenR hR
 obtain ⟨up, un, uc, huv⟩ := rd_shape hu
 obtain ⟨kp, kn2, kc, hkv⟩ := rd_shape hK
 rw [hb] at HCH
 obtain ⟨g, off, A, hrg, hA⟩ : ∃ g off A, rp = some ⟨g, off, none⟩ ∧ (∀ W, Below w.heap.size w W → W.rangeAt g (off + k * 7) A) ∧ RdL w (encR rs[k]) A := by
  obtain ⟨p, cap, e0, _, hat⟩ := rd_row lenR hR
  obtain ⟨g, off, rfl, hrd⟩ := hat (by omega)
  obtain ⟨A, r1, o1⟩ := hrd w (Below.refl _ _) k hk
  rw [hrv] at e0
  simp only [Value.slice.injEq] at e0
  exact ⟨g, off, A, e0.1, fun W hW => range_below r1 hW, o1⟩
 obtain ⟨v1, v2, v3, v4, v5, z1, o1, o2, o3, o4, o5⟩ := rdR hA.2
 obtain ⟨q1, j1, hu1, hn1, hw1⟩ := rd_row lenP o1
 obtain ⟨q2, j2, hu2, hn2, hw2⟩ := rd_row lenP o2
 obtain ⟨q3, j3, hu3, hn3, hw3⟩ := rd_row lenM o3
 have HW1 := hid hw1
 have HW2 := hid hw2
 have HW3 := hid hw3
 clear hn1 hn2 hn3 hw1 hw2 hw3
 obtain ⟨q4, l4, j4, hu4⟩ := rd_shape o4
 obtain ⟨q5, l5, j5, hu5⟩ := rd_shape o5
 obtain ⟨l1, hl1⟩ : ∃ l, rs[k].w.length = l := ⟨_, rfl⟩
 obtain ⟨l2, hl2⟩ : ∃ l, rs[k].t.length = l := ⟨_, rfl⟩
 obtain ⟨l3, hl3⟩ : ∃ l, rs[k].m.length = l := ⟨_, rfl⟩
 have HL1 := hid hl1
 have HL2 := hid hl2
 have HL3 := hid hl3
 have HZ : Hid (l1 ≤ 3 ∧ l2 ≤ 2 ∧ l3 ≤ 2) := by have h := (rck_ok hrk).2; unfold szs at h; show _ ∧ _; omega
 rw [hl1] at hu1
 rw [hl2] at hu2
 rw [hl3] at hu3
 have hAz : A.length = 7 := hA.2.1.symm
 have HAO : Hid (A.all (·.oneCell') = true) := by show _ = _; rw [z1, hu1, hu2, hu3, hu4, hu5]; rfl
 have ZA : Hid ((Tryz.prog.info? 49).map (·.size) = some A.length) := by show _ = _; rw [hAz]; kernel_rfl
 have HAL := hid hAz
 have HA1 : Hid (A[1]? = some (.slice q1 l1 j1)) := by show _ = _; rw [z1, hu1]; rfl
 have HA2 : Hid (A[2]? = some (.slice q2 l2 j2)) := by show _ = _; rw [z1, hu2]; rfl
 have HA3 : Hid (A[3]? = some (.slice q3 l3 j3)) := by show _ = _; rw [z1, hu3]; rfl
 have HO1 := hid o1
 have HO2 := hid o2
 have HO3 := hid o3
 have HEF := hid (fun (y : Ev) (yv : Value) W (hW : Below w.heap.size w W) (hy : Rd W (.row 59 3 (y.v.map encV)) yv) => eventFault_p ts y tv yv W (hT.later hW) hy)
 have HKN := hid hK
 have HUU := hid hu
 have HTA0 := hid (fun (j : Nat) (hj : j < (prt 0 rs[k]).length) (hx : evk ts x = 0) (hkn : Kok ts (asq 0 j rs[k].w) kn) W (hW : Below w.heap.size w W) (PA : List Value) (hPA : RdL W (encP (prt 0 rs[k])[j]) PA) => taken_r ts x kn rs[k] tv u kv v1 v2 v3 v4 v5 0 j ⟨hty, hx, hkn⟩ hds (prt 0 rs[k])[j] (rck_pok hrk hj) (szr_prt hszr hj) PA W ⟨hT.later hW, hu.later hW, hK.later hW, o1.later hW, ⟨_, _, _, hu2⟩, ⟨_, _, _, hu3⟩, ⟨_, _, _, hu4⟩, ⟨_, _, _, hu5⟩⟩ hPA)
 have hAE : (Value.agg #[.string rs[k].n, v1, v2, v3, v4, .string rs[k].e.ty, v5]) = .agg A.toArray := by rw [z1]
 rw [hAE] at HTA0
 have HDS := hid hds
 have HRR := hid hRR
 have HXR := hid hA.1
 have HTT := hid hT
 rw [hu1] at HO1
 rw [hu2] at HO2
 rw [hu3] at HO3
 clear o1 o2 o3 o4 o5 hu1 hu2 hu3 hu4 hu5 z1 hAz hA hgd hszr hrk hty hts hrs hb hds hRR hl1 hl2 hl3 hAE
 subst htv huv hkv
 rw [hrg] at hrv
 subst hrv
 obtain ⟨xn, xt, xs, xe, xv⟩ := x
 simp only [evV] at HTA0 HCH HEF HUU ⊢
 obtain ⟨tn, htn⟩ : ∃ n, ts.length = n := ⟨_, rfl⟩
 obtain ⟨rn, hrn⟩ : ∃ n, rs.length = n := ⟨_, rfl⟩
 rw [htn] at HCH HEF HTA0 HTT ⊢
 rw [hrn] at HCH hk hmr ⊢
 have hB : Bxs w ((w.alloc (.cells #[.slice tp tn tc, .slice (some ⟨g, off, none⟩) rn rc] 25)).alloc (.cells #[.int .i64 xn, .int .i64 xt, .int .i64 xs, .int .i64 xe, .slice up un uc] 30)) [([.slice tp tn tc, .slice (some ⟨g, off, none⟩) rn rc], 25), ([.int .i64 xn, .int .i64 xt, .int .i64 xs, .int .i64 xe, .slice up un uc], 30)] := bxs2 w _ _ _ _
 have HB := hid hB
 have i1 : (0 : Int) ≤ (k : Int) := by omega
 have i2 : (k : Int) < (rn : Int) := by omega
 have HI1 := hid (fun W => V4.in_any (k : Int) 0 ((rn : Int) - 1) true (by show _ ↔ _; simp; omega) W)
 have HI2 := hid (fun W => V4.in_any 0 0 2 true (by show _ ↔ _; simp) W)
 have a1 : wrap64 ((rn : Int) - 1) = (rn : Int) - 1 := by unfold wrap64; omega
 clear hT hR hu hK hzz hB hmr htn hrn hrg
 go_enter Tryz.func6, Tryz.ntmps6
 go_wp2_with fail
 refine (HCH.out _ HB.out.bel).mono ?_
 rintro e w1 ⟨rfl, hb1⟩
 have HB1 := hid (HB.out.next hb1)
 have c1 : w1.cell? ⟨w.heap.size, 1, none⟩ = some (.slice (some ⟨g, off, none⟩) rn rc) := HB1.out.c 0 (by simp) 1
 have X1_ := hid (HXR.out w1 HB1.out.bel)
 clear hb1 HCH HB
 go_upto_block 0 with (first
  | (go_at_call_of 17 (Value.int IntKind.i64 ((k : Nat) : Int)); refine (HI1.out _).mono ?_; rintro e w1 ⟨rfl, rfl⟩)
  | (go_at_call_of 17 (Value.int IntKind.i64 0); refine (HI2.out _).mono ?_; rintro e w1 ⟨rfl, rfl⟩)
  | ((with_reducible refine gLq ?_); refine wpList_load_mid (by rfl) 49 _ (by rfl) g (off + k * 7) (by rfl) A _ X1_.out Tryz.underlying49 rfl ZA.out ?_)
  | ((with_reducible refine gSq ?_); refine wp_st (by rfl) 49 _ _ (by rfl) w1.heap.size 0 _ 49 (.agg A.toArray) A (by rfl) (by rfl) (by rfl) (heap_alloc_new _ _) (by have := HAL.out; simp; omega) ZA.out HAO.out ?_; intro w2 hblk hfr; rw [ovr_all (by rw [HAL.out]; rfl)] at hblk; have HBW : Hid (Below w1.heap.size w1 w2) := new_store hfr; have HX2 : Hid (Tkx w w2 [.slice tp tn tc, .slice (some ⟨g, off, none⟩) rn rc] [.int .i64 xn, .int .i64 xt, .int .i64 xs, .int .i64 xe, .slice up un uc] w1.heap.size A) := ⟨HB1.out.next HBW.out, hblk⟩; clear hblk hfr))
 obtain ⟨rb, hrb⟩ : ∃ rb, w1.heap.size = rb := ⟨_, rfl⟩
 rw [hrb] at HX2 ⊢
 have HX : Hid (Tkx w w2 [.slice tp tn tc, .slice (some ⟨g, off, none⟩) rn rc] [.int .i64 xn, .int .i64 xt, .int .i64 xs, .int .i64 xe, .slice up un uc] rb A) := HX2.out
 have HX0 : Hid (Tkx w w2 [.slice tp tn tc, .slice (some ⟨g, off, none⟩) rn rc] [.int .i64 xn, .int .i64 xt, .int .i64 xs, .int .i64 xe, .slice up un uc] rb A) := HX2.out
 have HBE : Hid (Below w2.heap.size w2 w2) := Below.refl _ _
 have HPR : Hid (Prw w2 w2 (.slice none 0 0) []) := ⟨[], World.ownsRow_nil _ _ _ _, RdL.nil _⟩
 have HRC1 : Hid (∀ W, Tkx w W [.slice tp tn tc, .slice (some ⟨g, off, none⟩) rn rc] [.int .i64 xn, .int .i64 xt, .int .i64 xs, .int .i64 xe, .slice up un uc] rb A → W.cell? ⟨rb, 1, none⟩ = some (.slice q1 l1 j1)) := hid (fun W h => (cell_of_blk h.r 1).trans (by rw [List.getElem?_toArray]; exact HA1.out))
 have HRC2 : Hid (∀ W, Tkx w W [.slice tp tn tc, .slice (some ⟨g, off, none⟩) rn rc] [.int .i64 xn, .int .i64 xt, .int .i64 xs, .int .i64 xe, .slice up un uc] rb A → W.cell? ⟨rb, 2, none⟩ = some (.slice q2 l2 j2)) := hid (fun W h => (cell_of_blk h.r 2).trans (by rw [List.getElem?_toArray]; exact HA2.out))
 have HRC3 : Hid (∀ W, Tkx w W [.slice tp tn tc, .slice (some ⟨g, off, none⟩) rn rc] [.int .i64 xn, .int .i64 xt, .int .i64 xs, .int .i64 xe, .slice up un uc] rb A → W.cell? ⟨rb, 3, none⟩ = some (.slice q3 l3 j3)) := hid (fun W h => (cell_of_blk h.r 3).trans (by rw [List.getElem?_toArray]; exact HA3.out))
 clear HX2 HB1 c1 hrb
 go_cut [16, 17] from 45 to 63 (fun v _ wr => ∃ (pv : Option Addr) (nv cv : Nat), v = .slice pv nv cv ∧ Tkx w wr [.slice tp tn tc, .slice (some ⟨g, off, none⟩) rn rc] [.int .i64 xn, .int .i64 xt, .int .i64 xs, .int .i64 xe, .slice up un uc] rb A ∧ Below w2.heap.size w2 wr ∧ Prw w2 wr (.slice pv nv cv) (prt 0 rs[k]))
 case first =>
  go_wp2_with fail
  go_loopg [16, 17] (l1 + 1) (fun gg v i wr => ∃ (m : Nat) (pv : Option Addr) (nv cv : Nat), m ≤ l1 ∧ gg = l1 + 1 - m ∧ i = .int .i64 (m : Nat) ∧ v = .slice pv nv cv ∧ Tkx w wr [.slice tp tn tc, .slice (some ⟨g, off, none⟩) rn rc] [.int .i64 xn, .int .i64 xt, .int .i64 xs, .int .i64 xe, .slice up un uc] rb A ∧ Below w2.heap.size w2 wr ∧ Prw w2 wr (.slice pv nv cv) (rs[k].w.take m))
  case atStart => exact ⟨0, _, _, _, by omega, by omega, rfl, rfl, HX.out, HBE.out, by simpa using HPR.out⟩
  case round =>
   obtain ⟨m, pv, nv, cv, hm, rfl, rfl, rfl, hX, hBE, hPR⟩ := hrel
   have c1 : wr.cell? ⟨rb, 1, none⟩ = some (.slice q1 l1 j1) := HRC1.out _ hX
   have HX' := hid hX
   have HBE' := hid hBE
   have HPR' := hid hPR
   by_cases hlt : m < l1
   . have hmc : m < rs[k].w.length := by have := HL1.out; omega
     obtain ⟨g5, off5, e5, hrd5⟩ := HW1.out (by omega)
     obtain ⟨B, r5, o5⟩ := hrd5 w2 HX0.out.bx.bel m hmc
     have hQ : q1 = some ⟨g5, off5, none⟩ := e5
     rw [hQ] at c1
     have HBF : Hid (∃ a b k v l r y n, B = ptC a b k v l r y n) := by obtain ⟨vc, z1, _⟩ := rdP o5; exact ⟨_, _, _, _, _, _, _, _, z1⟩
     have hBz : B.length = 18 := o5.1.symm
     have ZB : Hid ((Tryz.prog.info? 65).map (·.size) = some B.length) := by show _ = _; rw [hBz]; kernel_rfl
     have HRB : Hid (RdL w2 ([rs[k].w[m]].map encP).flatten B) := by show RdL _ _ _; simpa using o5
     have X5 := hid (range_below r5 hBE)
     have HTK : Hid (rs[k].w.take m ++ [rs[k].w[m]] = rs[k].w.take (m + 1)) := by show _ = _; rw [List.take_succ_eq_append_getElem hmc]
     have HNL : Hid ((rs[k].w.take m).length + 1 ≤ 1000) := by show _ ≤ 1000; have := HZ.out; simp; omega
     have i1 : (0 : Int) ≤ (m : Int) := by omega
     have i2 : (m : Int) < (l1 : Int) := by omega
     clear hX hBE hPR hrd5 r5 o5 e5 hBz
     go_wp2_with (first
       | ((with_reducible show wpList _ _ _ (Oper.mk _ (.load 65 _) _ _ _ _ :: _) _ _); refine wpList_load_mid (by rfl) 65 _ (by rfl) g5 (off5 + m * 18) (by rfl) B _ X5.out Tryz.underlying65 rfl ZB.out ?_)
       | ((with_reducible show wpList _ _ _ (Oper.mk _ (.buildSlice _ _ _) _ _ _ _ :: _) _ _); refine wp_bsP (by rfl) _ (by rfl) B HBF.out (by rfl) ?_; have HB2 : Hid (Below wr.heap.size wr (wr.alloc (.cells B.toArray 65))) := (Below.refl _ _).alloc (Nat.le_refl _) _; have HCB : Hid (∀ j u, B[j]? = some u → (wr.alloc (.cells B.toArray 65)).cell? ((⟨wr.heap.size, 0, none⟩ : Addr).add j) = some u) := World.news_of_block (heap_alloc_new _ _))
       | ((with_reducible show wpList _ _ _ (Oper.mk (some 63) _ _ _ _ _ :: _) _ _); refine wp_appP0 (by rfl) (.tmp 56) (.tmp 62) (by rfl) w2 (.slice pv nv cv) (rs[k].w.take m) [rs[k].w[m]] (by rfl) (HPR'.out.later HB2.out) (below_trans HBE'.out HB2.out HBE'.out.size) ⟨wr.heap.size, 0, none⟩ 1 B (by rfl) HRB.out HCB.out (by have := HNL.out; simpa using this) ?_; intro v9 w9 hp9 hb9; have HP9 := hid hp9; have HB9 := hid hb9; have HX9 : Hid _ := HX0.out.next hb9; clear hp9 hb9))
     obtain ⟨pv9, cv9, hv9⟩ := HP9.out.shape
     go_roundg (l1 + 1 - (m + 1))
     case rel => exact ⟨m + 1, pv9, _, cv9, by omega, rfl, by have h9 := HZ.out; show Value.int .i64 (wrap64 ((m : Int) + 1)) = _; rw [show wrap64 ((m : Int) + 1) = ((m + 1 : Nat) : Int) by unfold wrap64; omega], hv9, HX9.out, HB9.out, by rw [← HTK.out, ← hv9]; exact HP9.out⟩
     case measure => omega
   . obtain rfl : m = l1 := by omega
     have hw : rs[k].w.take m = prt 0 rs[k] := by
       unfold prt
       rw [if_pos rfl, List.take_of_length_le (by have := HL1.out; omega)]
     rw [hw] at HPR'
     clear hX hBE hPR hw
     go_wp2_with fail
     go_meet
     case rel => exact ⟨pv, nv, cv, rfl, HX'.out, HBE'.out, HPR'.out⟩
 case rest =>
  obtain ⟨pv, nv, cv, rfl, hX, hBE, hPR⟩ := hcut
  clear HX HBE HPR
  have HX := hid hX
  have HBE := hid hBE
  have HPR := hid hPR
  clear hX hBE hPR
  go_upto_block 2 with fail
  go_cut [16, 18] from 64 to 82 (fun v _ wr => ∃ (pv : Option Addr) (nv cv : Nat), v = .slice pv nv cv ∧ Tkx w wr [.slice tp tn tc, .slice (some ⟨g, off, none⟩) rn rc] [.int .i64 xn, .int .i64 xt, .int .i64 xs, .int .i64 xe, .slice up un uc] rb A ∧ Below w2.heap.size w2 wr ∧ Prw w2 wr (.slice pv nv cv) (prt 0 rs[k]))
  case first =>
   go_wp2_with fail
   go_loopg [16, 18] 1 (fun gg v i wr => gg = 1 ∧ i = .int .i64 0 ∧ ∃ (pv : Option Addr) (nv cv : Nat), v = .slice pv nv cv ∧ Tkx w wr [.slice tp tn tc, .slice (some ⟨g, off, none⟩) rn rc] [.int .i64 xn, .int .i64 xt, .int .i64 xs, .int .i64 xe, .slice up un uc] rb A ∧ Below w2.heap.size w2 wr ∧ Prw w2 wr (.slice pv nv cv) (prt 0 rs[k]))
   case atStart => exact ⟨rfl, rfl, _, _, _, rfl, HX.out, HBE.out, HPR.out⟩
   case round =>
     obtain ⟨rfl, rfl, pv, nv, cv, rfl, hX, hBE, hPR⟩ := hrel
     have c1 : wr.cell? ⟨rb, 2, none⟩ = some (.slice q2 l2 j2) := HRC2.out _ hX
     have HX' := hid hX
     have HBE' := hid hBE
     have HPR' := hid hPR
     clear hX hBE hPR
     go_wp2_with fail
     all_goals
       go_meet
       case rel => exact ⟨pv, nv, cv, rfl, HX'.out, HBE'.out, HPR'.out⟩
  case rest =>
   obtain ⟨pv, nv, cv, rfl, hX, hBE, hPR⟩ := hcut
   clear HX HBE HPR
   have HX := hid hX
   have HBE := hid hBE
   have HPR := hid hPR
   clear hX hBE hPR
   go_upto_block 4 with fail
   go_cut [16, 19] from 83 to 102 (fun v _ wr => ∃ (pv : Option Addr) (nv cv : Nat), v = .slice pv nv cv ∧ Tkx w wr [.slice tp tn tc, .slice (some ⟨g, off, none⟩) rn rc] [.int .i64 xn, .int .i64 xt, .int .i64 xs, .int .i64 xe, .slice up un uc] rb A ∧ Below w2.heap.size w2 wr ∧ Prw w2 wr (.slice pv nv cv) (prt 0 rs[k]))
   case first =>
     go_wp2_with fail
     go_loopg [16, 19] 1 (fun gg v i wr => gg = 1 ∧ i = .int .i64 0 ∧ ∃ (pv : Option Addr) (nv cv : Nat), v = .slice pv nv cv ∧ Tkx w wr [.slice tp tn tc, .slice (some ⟨g, off, none⟩) rn rc] [.int .i64 xn, .int .i64 xt, .int .i64 xs, .int .i64 xe, .slice up un uc] rb A ∧ Below w2.heap.size w2 wr ∧ Prw w2 wr (.slice pv nv cv) (prt 0 rs[k]))
     case atStart => exact ⟨rfl, rfl, _, _, _, rfl, HX.out, HBE.out, HPR.out⟩
     case round =>
       obtain ⟨rfl, rfl, pv, nv, cv, rfl, hX, hBE, hPR⟩ := hrel
       have c1 : wr.cell? ⟨rb, 3, none⟩ = some (.slice q3 l3 j3) := HRC3.out _ hX
       have HX' := hid hX
       have HBE' := hid hBE
       have HPR' := hid hPR
       clear hX hBE hPR
       go_wp2_with fail
       all_goals
        go_meet
        case rel => exact ⟨pv, nv, cv, rfl, HX'.out, HBE'.out, HPR'.out⟩
   case rest =>
     obtain ⟨pv, nv, cv, rfl, hX, hBE, hPR⟩ := hcut
     clear HX HBE HPR
     have HX := hid hX
     have HBE := hid hBE
     have HPR := hid hPR
     clear hX hBE hPR
     obtain ⟨pp9, pc9, hv9⟩ := HPR.out.shape
     have hnv : nv = (prt 0 rs[k]).length := by simp only [Value.slice.injEq] at hv9; exact hv9.2.1
     have HNV := hid hnv
     have hnp3 : nv ≤ 3 := by rw [hnv]; have h1 := HL1.out; have h2 := HL2.out; have h3 := HL3.out; have h4 := HZ.out; unfold prt; simp; omega
     have hR1 := HRR.out
     rw [← hnv] at hR1
     have HR1 := hid hR1
     have a2 : wrap64 ((nv : Int) - 1) = (nv : Int) - 1 := by unfold wrap64; omega
     clear hv9 hnv hR1 HRR
     by_cases hat : 0 ≤ at_ ∧ at_ < (nv : Int)
     . have HI3 := hid (fun W => V4.in_any at_ 0 ((nv : Int) - 1) true (by show _ ↔ _; simp; omega) W)
       obtain ⟨j, rfl⟩ : ∃ j : Nat, at_ = (j : Int) := ⟨at_.toNat, by omega⟩
       have hjn : j < nv := by omega
       have hjl : j < (prt 0 rs[k]).length := by rw [← HNV.out]; exact hjn
       have hR2 := HR1.out
       rw [if_neg (fun c => c hat), Int.toNat_natCast, getD_lt hjl] at hR2
       have c0 : wc.cell? ⟨w.heap.size, 0, none⟩ = some (.slice tp tn tc) := HX.out.bx.c 0 (by simp) 0
       have XX := hid (HX.out.bx.r 1 (by simp))
       obtain ⟨E1, hE1⟩ : ∃ E, evk ts ⟨xn, xt, xs, xe, xv⟩ = E := ⟨_, rfl⟩
       have h0 := HEF.out ⟨xn, xt, xs, xe, xv⟩ (.slice up un uc) wc HX.out.bx.bel (HUU.out.later HX.out.bx.bel)
       dsimp only at h0
       rw [hE1] at h0 hR2
       have HE0 := hid h0
       obtain ⟨EE, hEE⟩ : ∃ E, (if E1 ≠ 0 then E1 else efs ts kn) = E := ⟨_, rfl⟩
       obtain ⟨kp', kc', hkv, hkm, hka⟩ := rd_row lenX HKN.out
       have HKL : Hid (kn.length = kn2 ∧ kp' = kp) := by simp only [Value.slice.injEq] at hkv; exact ⟨hkv.2.1.symm, hkv.1.symm⟩
       have HKA := hid hka
       have HKM := hid hkm
       have HEE := hid hEE
       have HE1 := hid hE1
       have HR2 := hid hR2
       clear h0 hEE hE1 hR2 HR1 hat hkv hka hkm
       go_upto_block 6 with (first
        | (go_at_call_of 17 (Value.int IntKind.i64 ((j : Nat) : Int)); refine (HI3.out _).mono ?_; rintro e wc ⟨rfl, rfl⟩)
        | ((with_reducible show wpList _ _ _ (Oper.mk _ (.load 30 _) _ _ _ _ :: _) _ _); refine wpList_load_mid (by rfl) 30 _ (by rfl) (w.heap.size + 1) 0 (by rfl) [.int .i64 xn, .int .i64 xt, .int .i64 xs, .int .i64 xe, .slice up un uc] _ XX.out Tryz.underlying30 rfl (by kernel_rfl) ?_)
        | (go_at_call_of 18 (Value.slice tp tn tc); refine HE0.out.mono ?_; rintro e w3 ⟨rfl, hb3⟩; have HX3 := hid (HX.out.next hb3); have HB3 := hid hb3; clear hb3))
       go_cut [14, 20] from 113 to 129 (fun e _ wr => ∃ e1 : Int, e = .int .i64 e1 ∧ Tkx w wr [.slice tp tn tc, .slice (some ⟨g, off, none⟩) rn rc] [.int .i64 xn, .int .i64 xt, .int .i64 xs, .int .i64 xe, .slice up un uc] rb A ∧ Below wc.heap.size wc wr ∧ e1 = EE)
       case first =>
        go_wp2_with fail
        go_loopg [14, 20] (kn2 + 1) (fun gg e i wr => ∃ (m : Nat) (e1 : Int), m ≤ kn2 ∧ gg = kn2 + 1 - m ∧ i = .int .i64 (m : Nat) ∧ e = .int .i64 e1 ∧ Tkx w wr [.slice tp tn tc, .slice (some ⟨g, off, none⟩) rn rc] [.int .i64 xn, .int .i64 xt, .int .i64 xs, .int .i64 xe, .slice up un uc] rb A ∧ Below wc.heap.size wc wr ∧ (if e1 ≠ 0 then e1 else efs ts (kn.drop m)) = EE)
        case atStart => exact ⟨0, E1, by omega, by omega, rfl, rfl, HX3.out, HB3.out, by simpa using HEE.out⟩
        case round =>
          obtain ⟨m, e1, hm, rfl, rfl, rfl, hX, hBE, hee⟩ := hrel
          clear HX3 HB3 c0 XX HE0
          have HX' := hid hX
          have HBE' := hid hBE
          have HQ := hid hee
          clear hX hBE hee
          by_cases hlt : m < kn2
          . have d2 : decide ((m : Int) < (kn2 : Int)) = true := by simp; omega
            by_cases he : e1 = 0
            . subst he
              have hmc : m < kn.length := by rw [HKL.out.1]; exact hlt
              obtain ⟨g6, off6, e6, hrd6⟩ := HKA.out (by omega)
              obtain ⟨B, r6, o6⟩ := hrd6 w (Below.refl _ _) m hmc
              obtain ⟨yv, z6, o7⟩ := rdX o6
              have hP : kp = some ⟨g6, off6, none⟩ := HKL.out.2.symm.trans e6
              subst hP
              have HS : Hid (∀ w', Tkx w w' [.slice tp tn tc, .slice (some ⟨g, off, none⟩) rn rc] [.int .i64 xn, .int .i64 xt, .int .i64 xs, .int .i64 xe, .slice up un uc] rb A → (fun w' => Tkx w w' [.slice tp tn tc, .slice (some ⟨g, off, none⟩) rn rc] [.int .i64 xn, .int .i64 xt, .int .i64 xs, .int .i64 xe, .slice up un uc] rb A ∧ w'.cell? ⟨w.heap.size, 0, none⟩ = some (.slice tp tn tc) ∧ w'.rangeAt g6 (off6 + m * 5) B) w') := hid fun w' h => ⟨h, h.bx.c 0 (by simp) 0, range_below r6 h.bx.bel⟩
              have HD := hid (HX'.out.next (Below.drew (Below.refl _ _)))
              have hBz : B.length = 5 := o6.1.symm
              have ZE : Hid ((Tryz.prog.info? 30).map (·.size) = some B.length) := by show _ = _; rw [hBz]; kernel_rfl
              have h6 := fun W (hW : Below w.heap.size w W) => HEF.out kn[m] yv W hW (o7.later hW)
              have h7 : (Value.agg #[.int .i64 kn[m].n, .int .i64 kn[m].t, .int .i64 kn[m].st, .int .i64 kn[m].en, yv]) = .agg B.toArray := by rw [z6]
              rw [h7] at h6
              obtain ⟨E6, hE6⟩ : ∃ E, evk ts kn[m] = E := ⟨_, rfl⟩
              rw [hE6] at h6
              have HE6 := hid h6
              have HQ6 : Hid ((if E6 ≠ 0 then E6 else efs ts (kn.drop (m + 1))) = EE) := by
                have h := HQ.out
                rw [if_neg (by simp), List.drop_eq_getElem_cons hmc, efs, hE6] at h
                exact h
              have i1 : (0 : Int) ≤ (m : Int) := by omega
              have i2 : (m : Int) < (kn2 : Int) := by omega
              have HMW : Hid (wrap64 ((m : Int) + 1) = ((m + 1 : Nat) : Int)) := by have h1 := HKM.out; have h2 := HKL.out.1; show _ = _; unfold wrap64; omega
              clear r6 o6 o7 z6 h6 h7 hE6 hBz e6 hrd6 HQ
              go_wp2_with fail
              refine start_n (S := (fun w' => Tkx w w' [.slice tp tn tc, .slice (some ⟨g, off, none⟩) rn rc] [.int .i64 xn, .int .i64 xt, .int .i64 xs, .int .i64 xe, .slice up un uc] rb A ∧ w'.cell? ⟨w.heap.size, 0, none⟩ = some (.slice tp tn tc) ∧ w'.rangeAt g6 (off6 + m * 5) B)) 8 #[false, false, false, false, false, false, false, false] rfl rfl (by kernel_rfl) (HS.out _ HD.out) (fun hHeld => ?_)
              refine tkq (i := 0) (v := ?v1) rfl ?hy1 ?rest1; (case hy1 => intro w0 hSw; (try dsimp only at hSw); go_simp <;> (try (with_reducible rfl))); (try simp only [puts])
              refine tkq (i := 1) (v := ?v2) rfl ?hy2 ?rest2; (case hy2 => intro w0 hSw; (try dsimp only at hSw); go_simp <;> (try (with_reducible rfl))); (try simp only [puts])
              refine tkq (i := 2) (v := ?v3) rfl ?hy3 ?rest3; (case hy3 => intro w0 hSw; (try dsimp only at hSw); go_simp <;> (try (with_reducible rfl))); (try simp only [puts])
              refine tkq (i := 3) (v := ?v4) rfl ?hy4 ?rest4; (case hy4 => intro w0 hSw; (try dsimp only at hSw); go_simp <;> (try (with_reducible rfl))); (try simp only [puts])
              refine tkq (i := 4) (v := ?v5) rfl ?hy5 ?rest5; (case hy5 => intro w0 hSw; (try dsimp only at hSw); go_simp <;> (try (with_reducible rfl))); (try simp only [puts])
              refine tlq (i := 5) rfl (yieldsIf_load_mid (by rfl) 30 _ rfl g6 (off6 + m * 5) (by rfl) B _ (fun _ h => h.2.2) Tryz.underlying30 rfl ZE.out) ?_
              (try simp only [puts])
              refine wpAnyH_ready (rs := [6]) (by kernel_rfl) (by simp) ?_
              refine cons_mk rfl (fun K hK => ?_) AllReadyH.nil
              refine step_call2 18 ent_ef (by rfl) _ _ _ (by rfl) (.slice tp tn tc) (.agg B.toArray) (by rfl) (by rfl) _ (HE6.out _ HD.out.bx.bel) ?_
              rintro e w3 ⟨rfl, hb3⟩
              refine ⟨_, rfl, ?_⟩
              have HB3 := hid (HD.out.next hb3)
              have HBB := hid hb3
              clear hb3
              refine hK.out _ _ (HS.out _ HB3.out) (fun hHeld => ?_)
              clear hK K
              (try simp only [puts])
              refine tkq (i := 7) (v := ?v6) rfl ?hy6 ?rest6; (case hy6 => intro w0 hSw; (try dsimp only at hSw); go_simp <;> (try (with_reducible rfl))); (try simp only [puts])
              refine wpAnyH_done (by kernel_rfl) ?_ _
              go_wp2_with fail
              go_roundg (kn2 + 1 - (m + 1))
              case rel => exact ⟨m + 1, E6, by omega, rfl, by show Value.int .i64 (wrap64 ((m : Int) + 1)) = _; rw [HMW.out], rfl, HB3.out, below_trans HBE'.out (below_trans (Below.drew (Below.refl _ _)) HBB.out (by first | exact Nat.le_refl _ | simp)) HBE'.out.size, HQ6.out⟩
              case measure => omega
            . have d1 : (e1 == 0) = false := by simpa using he
              have HQ6 : Hid (e1 = EE) := by have h := HQ.out; rw [if_pos he] at h; exact h
              clear HQ he
              go_wp2_with fail
              go_meet
              case rel => exact ⟨e1, rfl, HX'.out, HBE'.out, HQ6.out⟩
          . obtain rfl : m = kn2 := by omega
            have HQ6 : Hid (e1 = EE) := by
              have h := HQ.out
              rw [List.drop_of_length_le (by rw [HKL.out.1]; exact Nat.le_refl _), efs] at h
              show e1 = EE
              split at h
              . exact h
              . rename_i c; rw [← h]; exact Classical.byContradiction c
            clear HQ
            go_wp2_with fail
            go_meet
            case rel => exact ⟨e1, rfl, HX'.out, HBE'.out, HQ6.out⟩
       case rest =>
        obtain ⟨e1, rfl, hX, hBE, hee⟩ := hcut
        subst hee
        have HX4 := hid hX
        have HPR4 := hid (HPR.out.later hBE)
        have HBE4 := hid (below_trans HBE.out hBE HBE.out.size)
        clear hX hBE HX HPR HBE HX3 HB3 c0 XX HE0
        obtain ⟨K2, hK2⟩ : ∃ K, knk ts (asq 0 j rs[k].w) kn = K := ⟨_, rfl⟩
        obtain ⟨t2, ht2⟩ : ∃ t, tkb ts (asq 0 j rs[k].w) ⟨xn, xt, xs, xe, xv⟩ kn (prt 0 rs[k])[j] = t := ⟨_, rfl⟩
        have hR3 := HR2.out
        rw [hK2, ht2] at hR3
        by_cases hz : e1 = 0
        . subst hz
          have hEz : E1 = 0 ∧ efs ts kn = 0 := by
            have h := HEE.out
            split at h
            . rename_i c; exact absurd h c
            . rename_i c; exact ⟨Classical.byContradiction c, h⟩
          rw [if_neg (fun c => c hEz.1), if_neg (fun c => c hEz.2)] at hR3
          have HEV := hid (efs_all kn hEz.2)
          have HR4 := hid hR3
          have HTA1 := hid (HTA0.out j hjl (HE1.out.trans hEz.1))
          have HAQ : Hid ((asq 0 j rs[k].w).length = j ∧ j ≤ l1) := by 
            have h2 : j < rs[k].w.length := by have h := hjl; unfold prt at h; rw [if_pos rfl] at h; exact h
            have h1 := HL1.out
            rw [h1] at h2
            refine ⟨?_, by omega⟩
            unfold asq
            rw [if_pos rfl, List.length_take, h1]
            omega
          have HAM : Hid (∀ m (h1 : m < (asq 0 j rs[k].w).length) (h2 : m < rs[k].w.length), (asq 0 j rs[k].w)[m] = rs[k].w[m]) := by intro m h1 h2; unfold asq; simp
          have cr : wc.cell? ⟨rb, 1, none⟩ = some (.slice q1 l1 j1) := HRC1.out _ HX4.out
          clear hR3 hEz HR2 HEE HE1 HTA0
          have hK3 := hK2
          unfold knk at hK3
          rw [HKL.out.1, HAQ.out.1] at hK3
          by_cases hln : kn2 = j
          . rw [if_neg (fun c => c hln)] at hK3
            have HK3 := hid hK3
            have HK2 := hid hK2
            have HT2 := hid ht2
            have d3 : ((kn2 : Int) != ((j : Nat) : Int)) = false := by simp [hln]
            have HLN := hid hln
            clear hK3 hK2 ht2 hln
            obtain ⟨tp', tc', htv, htm, hta⟩ := rd_row lenY HTT.out
            have HTL : Hid (ts.length = tn ∧ tp' = tp) := by simp only [Value.slice.injEq] at htv; exact ⟨htv.2.1.symm, htv.1.symm⟩
            have HTA := hid hta
            clear htv htm hta
            go_wp2_with fail
            go_loopg [22] (kn2 + 1) (fun gg i wr => ∃ m : Nat, m ≤ kn2 ∧ gg = kn2 + 1 - m ∧ i = .int .i64 (m : Nat) ∧ Tkx w wr [.slice tp tn tc, .slice (some ⟨g, off, none⟩) rn rc] [.int .i64 xn, .int .i64 xt, .int .i64 xs, .int .i64 xe, .slice up un uc] rb A ∧ Below wc.heap.size wc wr ∧ kfs ts (kn.drop m) ((asq 0 j rs[k].w).drop m) = K2)
            case atStart => exact ⟨0, by omega, by omega, rfl, HX4.out, Below.refl _ _, by simpa using HK3.out⟩
            case round =>
              obtain ⟨m, hm, rfl, rfl, hX, hBE, hkf⟩ := hrel
              clear cr
              have HX' := hid hX
              have HBE' := hid hBE
              have HKF := hid hkf
              clear hkf hBE
              by_cases hlt : m < kn2
              . have hmc : m < kn.length := by rw [HKL.out.1]; exact hlt
                have hma : m < (asq 0 j rs[k].w).length := by rw [HAQ.out.1, ← HLN.out]; exact hlt
                have hmw : m < rs[k].w.length := by have h1 := HAQ.out; have h2 := HL1.out; omega
                obtain ⟨g6, off6, e6, hrd6⟩ := HKA.out (by omega)
                obtain ⟨B, r6, o6⟩ := hrd6 wr hX.bx.bel m hmc
                obtain ⟨yv, z6, o7⟩ := rdX o6
                have n1 := r6 1 (.int .i64 kn[m].t) (by rw [z6]; rfl)
                obtain ⟨i, hi, ei, ev1, ev2⟩ := evk_ok (HEV.out _ (List.getElem_mem hmc))
                rw [ei] at n1
                obtain ⟨gt, oft, et, hrdt⟩ := HTA.out (by omega)
                obtain ⟨UT, rt, ot⟩ := hrdt wr hX.bx.bel i hi
                obtain ⟨fv, zt, ot2⟩ := rdY ot
                have n2 := rt 0 (.string ts[i].n) (by rw [zt]; rfl)
                obtain ⟨g5, off5, e5, hrd5⟩ := HW1.out (by omega)
                obtain ⟨C5, r5, o5⟩ := hrd5 wr hX.bx.bel m hmw
                obtain ⟨vc, z5, o52⟩ := rdP o5
                have n3 := r5 1 (.string rs[k].w[m].ty) (by rw [z5]; rfl)
                simp only [Nat.add_zero] at n2
                have hP : kp = some ⟨g6, off6, none⟩ := HKL.out.2.symm.trans e6
                have hPt : tp = some ⟨gt, oft, none⟩ := HTL.out.2.symm.trans et
                subst hP hPt e5
                have c0 : wr.cell? ⟨w.heap.size, 0, none⟩ = some (.slice (some ⟨gt, oft, none⟩) tn tc) := hX.bx.c 0 (by simp) 0
                have cr : wr.cell? ⟨rb, 1, none⟩ = some (.slice (some ⟨g5, off5, none⟩) l1 j1) := HRC1.out _ hX
                have hst : (if seq ts[i].n rs[k].w[m].ty = true then kfs ts (kn.drop (m + 1)) ((asq 0 j rs[k].w).drop (m + 1)) else 13) = K2 := by
                  have h := HKF.out
                  rw [List.drop_eq_getElem_cons hmc, List.drop_eq_getElem_cons hma, kfs, ei, Int.toNat_natCast, getD_lt hi] at h
                  first
                   | (rw [HAM.out m hma hmw] at h; exact h)
                   | ((have e9 : (asq 0 j rs[k].w) = rs[k].w := by (unfold asq; rw [if_neg (by decide)])); simp only [e9] at h ⊢; exact h)
                have i1 : (0 : Int) ≤ (m : Int) := by omega
                have i2 : (m : Int) < (kn2 : Int) := by omega
                have i3 : (0 : Int) ≤ (i : Int) := by omega
                have i4 : (i : Int) < (tn : Int) := by have h := HTL.out.1; omega
                have i5 : (m : Int) < (l1 : Int) := by have h := HL1.out; omega
                have HMW : Hid (wrap64 ((m : Int) + 1) = ((m + 1 : Nat) : Int)) := by have h1 := HKM.out; have h2 := HKL.out.1; show _ = _; unfold wrap64; omega
                obtain ⟨na, hna⟩ : ∃ d, ts[i].n = d := ⟨_, rfl⟩
                obtain ⟨nb, hnb⟩ : ∃ d, rs[k].w[m].ty = d := ⟨_, rfl⟩
                rw [hna] at n2 hst
                rw [hnb] at n3 hst
                clear r6 o6 z6 o7 rt ot zt ot2 r5 o5 z5 o52 e6 et hrd6 hrdt hrd5 hna hnb ei ev1 ev2 hX HKF
                cases hq : seq na nb
                . have hq2 : (na.toList == nb.toList) = false := hq
                  rw [if_neg (by rw [hq]; decide)] at hst
                  subst hst
                  have hR5 := HR4.out
                  rw [if_pos (by decide)] at hR5
                  subst hR5
                  clear hq HR4
                  go_wp2_with fail
                  go_quiet (fail)
                  go_wp2_with fail
                  go_ret2
                  exact ⟨rfl, (HX'.out.next (below_drawn (Below.refl _ _) _)).bx.bel⟩
                . have hq2 : (na.toList == nb.toList) = true := hq
                  rw [if_pos hq] at hst
                  have HST := hid hst
                  clear hq hst
                  go_wp2_with fail
                  go_quiet (fail)
                  go_wp2_with fail
                  go_roundg (kn2 + 1 - (m + 1))
                  case rel => exact ⟨m + 1, by omega, rfl, by show Value.int .i64 (wrap64 ((m : Int) + 1)) = _; rw [HMW.out], HX'.out.next (below_drawn (Below.refl _ _) _), below_trans HBE'.out (below_drawn (Below.refl _ _) _) HBE'.out.size, HST.out⟩
                  case measure => omega
              . obtain rfl : m = kn2 := by omega
                have hK0 : K2 = 0 := by
                  have h := HKF.out
                  rw [List.drop_of_length_le (by rw [HKL.out.1]; exact Nat.le_refl _), kfs_nil] at h
                  exact h.symm
                subst hK0
                have hR5 := HR4.out
                rw [if_neg (by decide)] at hR5
                subst hR5
                have hPR := HPR4.out.later HBE'.out
                have hRD := hPR.rd (below_trans HBE4.out HBE'.out HBE4.out.size)
                obtain ⟨pp, pc, hpv, hpm, hpa⟩ := rd_row lenP hRD
                simp only [Value.slice.injEq] at hpv
                obtain ⟨gp, ofp, ep, hrdp⟩ := hpa (by omega)
                obtain ⟨PA, rp9, op9⟩ := hrdp wr (Below.refl _ _) j hjl
                have hP : pv = some ⟨gp, ofp, none⟩ := hpv.1.trans ep
                subst hP
                obtain ⟨XV, hXV⟩ : ∃ l : List Value, [.int .i64 xn, .int .i64 xt, .int .i64 xs, .int .i64 xe, .slice up un uc] = l := ⟨_, rfl⟩
                have HS : Hid (∀ w', Below wr.heap.size wr w' → (fun w' => Below wr.heap.size wr w' ∧ w'.cell? ⟨w.heap.size, 0, none⟩ = some (.slice tp tn tc) ∧ w'.rangeAt rb 0 A ∧ w'.rangeAt gp (ofp + j * 18) PA ∧ w'.rangeAt (w.heap.size + 1) 0 XV) w') := hid fun w' h => ⟨h, (hX.next h).bx.c 0 (by simp) 0, range_blk (hX.next h).r, range_below rp9 h, by rw [← hXV]; exact (hX.next h).bx.r 1 (by simp)⟩
                have ZX : Hid ((Tryz.prog.info? 30).map (·.size) = some XV.length) := by show _ = _; rw [← hXV]; kernel_rfl
                have hXA : (Value.agg #[.int .i64 xn, .int .i64 xt, .int .i64 xs, .int .i64 xe, .slice up un uc]) = .agg XV.toArray := by rw [← hXV]
                have HD : Hid (Below wr.heap.size wr wr.drew) := Below.drew (Below.refl _ _)
                have hPz : PA.length = 18 := op9.1.symm
                have ZP : Hid ((Tryz.prog.info? 65).map (·.size) = some PA.length) := by show _ = _; rw [hPz]; kernel_rfl
                have h9 := fun W (hW : Below wr.heap.size wr W) => HTA1.out (knk_ok HDS.out HK2.out HEV.out) W (below_trans hX.bx.bel hW hX.bx.bel.size) PA (op9.below hW)
                rw [HT2.out, hXA] at h9
                have HT9 := hid h9
                have i1 : (0 : Int) ≤ (j : Int) := by omega
                have i2 : (j : Int) < (nv : Int) := by omega
                clear hPR hRD hpv hpm hpa hrdp rp9 op9 ep hPz h9 hX HR4 HKF hXV hXA
                go_wp2_with fail
                refine start_n (S := (fun w' => Below wr.heap.size wr w' ∧ w'.cell? ⟨w.heap.size, 0, none⟩ = some (.slice tp tn tc) ∧ w'.rangeAt rb 0 A ∧ w'.rangeAt gp (ofp + j * 18) PA ∧ w'.rangeAt (w.heap.size + 1) 0 XV)) 12 #[false, false, false, false, false, false, false, false, false, false, false, false] rfl rfl (by kernel_rfl) (HS.out _ HD.out) (fun hHeld => ?_)
                refine tkq (i := 0) (v := ?v7) rfl ?hy7 ?rest7; (case hy7 => intro w0 hSw; (try dsimp only at hSw); go_simp <;> (try (with_reducible rfl))); (try simp only [puts])
                refine tkq (i := 1) (v := ?v8) rfl ?hy8 ?rest8; (case hy8 => intro w0 hSw; (try dsimp only at hSw); go_simp <;> (try (with_reducible rfl))); (try simp only [puts])
                refine tkq (i := 3) (v := ?v9) rfl ?hy9 ?rest9; (case hy9 => intro w0 hSw; (try dsimp only at hSw); go_simp <;> (try (with_reducible rfl))); (try simp only [puts])
                refine tkq (i := 4) (v := ?v10) rfl ?hy10 ?rest10; (case hy10 => intro w0 hSw; (try dsimp only at hSw); go_simp <;> (try (with_reducible rfl))); (try simp only [puts])
                refine tkq (i := 5) (v := ?v11) rfl ?hy11 ?rest11; (case hy11 => intro w0 hSw; (try dsimp only at hSw); go_simp <;> (try (with_reducible rfl))); (try simp only [puts])
                refine tkq (i := 8) (v := ?v12) rfl ?hy12 ?rest12; (case hy12 => intro w0 hSw; (try dsimp only at hSw); go_simp <;> (try (with_reducible rfl))); (try simp only [puts])
                refine tlq (i := 2) rfl (yieldsIf_load_mid (by rfl) 49 _ rfl rb (0) (by rfl) A _ (fun _ h => h.2.2.1) Tryz.underlying49 rfl ZA.out) ?_
                (try simp only [puts])
                refine tlq (i := 6) rfl (yieldsIf_load_mid (by rfl) 65 _ rfl gp (ofp + j * 18) (by rfl) PA _ (fun _ h => h.2.2.2.1) Tryz.underlying65 rfl ZP.out) ?_
                (try simp only [puts])
                refine tlq (i := 7) rfl (yieldsIf_load_mid (by rfl) 30 _ rfl (w.heap.size + 1) (0) (by rfl) XV _ (fun _ h => h.2.2.2.2) Tryz.underlying30 rfl ZX.out) ?_
                (try simp only [puts])
                refine wpAnyH_ready (rs := [9]) (by kernel_rfl) (by simp) ?_
                refine cons_mk rfl (fun K hK => ?_) AllReadyH.nil
                refine step_call5 19 ent_tkn (by rfl) _ _ _ _ _ _ (by rfl) (.slice tp tn tc) (.agg A.toArray) (.agg PA.toArray) (.agg XV.toArray) (.slice kp m kc) (by rfl) (by rfl) (by rfl) (by rfl) (by rfl) _ (HT9.out _ HD.out) ?_
                rintro e w3 ⟨rfl, hb3⟩
                refine ⟨_, rfl, ?_⟩
                have HB3 := hid (below_trans HD.out hb3 HD.out.size)
                clear hb3
                refine hK.out _ _ (HS.out _ HB3.out) (fun hHeld => ?_)
                clear hK K
                (try simp only [puts])
                refine tkq (i := 10) (v := ?v13) rfl ?hy13 ?rest13; (case hy13 => intro w0 hSw; (try dsimp only at hSw); go_simp <;> (try (with_reducible rfl))); (try simp only [puts])
                refine tkq (i := 11) (v := ?v14) rfl ?hy14 ?rest14; (case hy14 => intro w0 hSw; (try dsimp only at hSw); go_simp <;> (try (with_reducible rfl))); (try simp only [puts])
                refine wpAnyH_done (by kernel_rfl) ?_ _
                go_wp2_with fail
                go_ret2
                exact ⟨rfl, below_trans HX'.out.bx.bel HB3.out HX'.out.bx.bel.size⟩
          . rw [if_pos hln] at hK3
            subst hK3
            have hR5 := HR4.out
            rw [if_pos (by decide)] at hR5
            subst hR5
            have d3 : ((kn2 : Int) != ((j : Nat) : Int)) = true := by simp; omega
            clear HR4 hK2 ht2 hln
            go_wp2_with fail
            go_ret2
            exact ⟨rfl, HX4.out.bx.bel⟩
        . have d1 : (e1 != 0) = true := by simpa using hz
          have hR4 : (false, e1) = R := by
            have h := HEE.out
            have h2 := hR3
            split at h
            . rename_i c; rw [if_pos c] at h2; rw [← h]; exact h2
            . rename_i c; rw [if_neg c, h, if_pos hz] at h2; exact h2
          subst hR4
          clear hR3 HR2 HEE hz
          go_wp2_with fail
          go_ret2
          exact ⟨rfl, HX4.out.bx.bel⟩
     . have HI3 := hid (fun W => V4.in_any at_ 0 ((nv : Int) - 1) false (by show _ ↔ _; simp; omega) W)
       have hR2 := HR1.out
       rw [if_pos hat] at hR2
       subst hR2
       clear HR1 hat hnp3
       go_wp2_with (go_at_call_of 17 (Value.int IntKind.i64 at_); refine (HI3.out _).mono ?_; rintro e wc ⟨rfl, rfl⟩)
       go_ret2
       exact ⟨rfl, HX.out.bx.bel⟩
set_option maxHeartbeats 64000000 in
theorem tb_main1 (ts : List Tp) (rs : List Rl) (hzz : ∀ r, r ∈ rs → Szr r) (tv rv : Value) (at_ : Int) (x : Ev) (u : Value) (kn : List Ev) (kv : Value) (w : World) (hT : Rd w (.row 72 2 (ts.map encY)) tv) (hR : Rd w (.row 49 7 (rs.map encR)) rv) (hu : Rd w (.row 59 3 (x.v.map encV)) u) (hK : Rd w (.row 30 5 (kn.map encX)) kv) (hb : bok ts rs = 0) (k : Nat) (hk : k < rs.length) (R : Bool × Int) (hRR : tkr ts rs (k : Int) 1 at_ x kn = R) : Calls Tryz.prog 6 #[.agg #[tv, rv], .int .i64 (k : Nat), .int .i64 1, .int .i64 at_, evV x u, kv] w fun e w' => e = .returned (.tuple #[.bool (R.1), .int .i64 (R.2)]) ∧ Below w.heap.size w w' := by
 obtain ⟨hts, hrs⟩ := bok_zero hb
 have hty : ∀ i (hi : i < ts.length), tyk ts[i].n ts[i].f = 0 := fun i hi => tks_all ts [] hts _ (List.getElem_mem hi)
 have hrk := rks_all rs [] hrs _ (List.getElem_mem hk)
 have hds := dst_of hts
 have hszr := hzz _ (List.getElem_mem hk)
 have hgd : rs.getD (k : Int).toNat r0 = rs[k] := by rw [Int.toNat_natCast]; exact getD_lt hk _
 unfold tkr at hRR
 rw [if_neg (fun c => c hb), if_neg (fun c => c (by omega)), hgd] at hRR
 have HCH := hid (fun W (hW : Below w.heap.size w W) => bookFault_any ts rs (fun x hx => ⟨fun t ht => ((hzz x hx).w t ht).wfc, fun t ht => ((hzz x hx).t t ht).wfc, fun m hm => ((hzz x hx).m m hm).wfc⟩) tv rv W (hT.later hW) (hR.later hW))
 obtain ⟨tp, tc, htv, _, _⟩ := rd_row lenY hT
 obtain ⟨rp, rc, hrv, hmr, _⟩ := rd_row lenR hR
 obtain ⟨up, un, uc, huv⟩ := rd_shape hu
 obtain ⟨kp, kn2, kc, hkv⟩ := rd_shape hK
 rw [hb] at HCH
 obtain ⟨g, off, A, hrg, hA⟩ : ∃ g off A, rp = some ⟨g, off, none⟩ ∧ (∀ W, Below w.heap.size w W → W.rangeAt g (off + k * 7) A) ∧ RdL w (encR rs[k]) A := by
  obtain ⟨p, cap, e0, _, hat⟩ := rd_row lenR hR
  obtain ⟨g, off, rfl, hrd⟩ := hat (by omega)
  obtain ⟨A, r1, o1⟩ := hrd w (Below.refl _ _) k hk
  rw [hrv] at e0
  simp only [Value.slice.injEq] at e0
  exact ⟨g, off, A, e0.1, fun W hW => range_below r1 hW, o1⟩
 obtain ⟨v1, v2, v3, v4, v5, z1, o1, o2, o3, o4, o5⟩ := rdR hA.2
 obtain ⟨q1, j1, hu1, hn1, hw1⟩ := rd_row lenP o1
 obtain ⟨q2, j2, hu2, hn2, hw2⟩ := rd_row lenP o2
 obtain ⟨q3, j3, hu3, hn3, hw3⟩ := rd_row lenM o3
 have HW1 := hid hw1
 have HW2 := hid hw2
 have HW3 := hid hw3
 clear hn1 hn2 hn3 hw1 hw2 hw3
 obtain ⟨q4, l4, j4, hu4⟩ := rd_shape o4
 obtain ⟨q5, l5, j5, hu5⟩ := rd_shape o5
 obtain ⟨l1, hl1⟩ : ∃ l, rs[k].w.length = l := ⟨_, rfl⟩
 obtain ⟨l2, hl2⟩ : ∃ l, rs[k].t.length = l := ⟨_, rfl⟩
 obtain ⟨l3, hl3⟩ : ∃ l, rs[k].m.length = l := ⟨_, rfl⟩
 have HL1 := hid hl1
 have HL2 := hid hl2
 have HL3 := hid hl3
 have HZ : Hid (l1 ≤ 3 ∧ l2 ≤ 2 ∧ l3 ≤ 2) := by have h := (rck_ok hrk).2; unfold szs at h; show _ ∧ _; omega
 rw [hl1] at hu1
 rw [hl2] at hu2
 rw [hl3] at hu3
 have hAz : A.length = 7 := hA.2.1.symm
 have HAO : Hid (A.all (·.oneCell') = true) := by show _ = _; rw [z1, hu1, hu2, hu3, hu4, hu5]; rfl
 have ZA : Hid ((Tryz.prog.info? 49).map (·.size) = some A.length) := by show _ = _; rw [hAz]; kernel_rfl
 have HAL := hid hAz
 have HA1 : Hid (A[1]? = some (.slice q1 l1 j1)) := by show _ = _; rw [z1, hu1]; rfl
 have HA2 : Hid (A[2]? = some (.slice q2 l2 j2)) := by show _ = _; rw [z1, hu2]; rfl
 have HA3 : Hid (A[3]? = some (.slice q3 l3 j3)) := by show _ = _; rw [z1, hu3]; rfl
 have HO1 := hid o1
 have HO2 := hid o2
 have HO3 := hid o3
 have HEF := hid (fun (y : Ev) (yv : Value) W (hW : Below w.heap.size w W) (hy : Rd W (.row 59 3 (y.v.map encV)) yv) => eventFault_p ts y tv yv W (hT.later hW) hy)
 have HKN := hid hK
 have HUU := hid hu
 have HTA0 := hid (fun (j : Nat) (hj : j < (prt 1 rs[k]).length) (hx : evk ts x = 0) (hkn : Kok ts (asq 1 j rs[k].w) kn) W (hW : Below w.heap.size w W) (PA : List Value) (hPA : RdL W (encP (prt 1 rs[k])[j]) PA) => taken_r ts x kn rs[k] tv u kv v1 v2 v3 v4 v5 1 j ⟨hty, hx, hkn⟩ hds (prt 1 rs[k])[j] (rck_pok hrk hj) (szr_prt hszr hj) PA W ⟨hT.later hW, hu.later hW, hK.later hW, o1.later hW, ⟨_, _, _, hu2⟩, ⟨_, _, _, hu3⟩, ⟨_, _, _, hu4⟩, ⟨_, _, _, hu5⟩⟩ hPA)
 have hAE : (Value.agg #[.string rs[k].n, v1, v2, v3, v4, .string rs[k].e.ty, v5]) = .agg A.toArray := by rw [z1]
 rw [hAE] at HTA0
 have HDS := hid hds
 have HRR := hid hRR
 have HXR := hid hA.1
 have HTT := hid hT
 rw [hu1] at HO1
 rw [hu2] at HO2
 rw [hu3] at HO3
 clear o1 o2 o3 o4 o5 hu1 hu2 hu3 hu4 hu5 z1 hAz hA hgd hszr hrk hty hts hrs hb hds hRR hl1 hl2 hl3 hAE
 subst htv huv hkv
 rw [hrg] at hrv
 subst hrv
 obtain ⟨xn, xt, xs, xe, xv⟩ := x
 simp only [evV] at HTA0 HCH HEF HUU ⊢
 obtain ⟨tn, htn⟩ : ∃ n, ts.length = n := ⟨_, rfl⟩
 obtain ⟨rn, hrn⟩ : ∃ n, rs.length = n := ⟨_, rfl⟩
 rw [htn] at HCH HEF HTA0 HTT ⊢
 rw [hrn] at HCH hk hmr ⊢
 have hB : Bxs w ((w.alloc (.cells #[.slice tp tn tc, .slice (some ⟨g, off, none⟩) rn rc] 25)).alloc (.cells #[.int .i64 xn, .int .i64 xt, .int .i64 xs, .int .i64 xe, .slice up un uc] 30)) [([.slice tp tn tc, .slice (some ⟨g, off, none⟩) rn rc], 25), ([.int .i64 xn, .int .i64 xt, .int .i64 xs, .int .i64 xe, .slice up un uc], 30)] := bxs2 w _ _ _ _
 have HB := hid hB
 have i1 : (0 : Int) ≤ (k : Int) := by omega
 have i2 : (k : Int) < (rn : Int) := by omega
 have HI1 := hid (fun W => V4.in_any (k : Int) 0 ((rn : Int) - 1) true (by show _ ↔ _; simp; omega) W)
 have HI2 := hid (fun W => V4.in_any 1 0 2 true (by show _ ↔ _; simp) W)
 have a1 : wrap64 ((rn : Int) - 1) = (rn : Int) - 1 := by unfold wrap64; omega
 clear hT hR hu hK hzz hB hmr htn hrn hrg
 go_enter Tryz.func6, Tryz.ntmps6
 go_wp2_with fail
 refine (HCH.out _ HB.out.bel).mono ?_
 rintro e w1 ⟨rfl, hb1⟩
 have HB1 := hid (HB.out.next hb1)
 have c1 : w1.cell? ⟨w.heap.size, 1, none⟩ = some (.slice (some ⟨g, off, none⟩) rn rc) := HB1.out.c 0 (by simp) 1
 have X1_ := hid (HXR.out w1 HB1.out.bel)
 clear hb1 HCH HB
 go_upto_block 0 with (first
  | (go_at_call_of 17 (Value.int IntKind.i64 ((k : Nat) : Int)); refine (HI1.out _).mono ?_; rintro e w1 ⟨rfl, rfl⟩)
  | (go_at_call_of 17 (Value.int IntKind.i64 1); refine (HI2.out _).mono ?_; rintro e w1 ⟨rfl, rfl⟩)
  | ((with_reducible refine gLq ?_); refine wpList_load_mid (by rfl) 49 _ (by rfl) g (off + k * 7) (by rfl) A _ X1_.out Tryz.underlying49 rfl ZA.out ?_)
  | ((with_reducible refine gSq ?_); refine wp_st (by rfl) 49 _ _ (by rfl) w1.heap.size 0 _ 49 (.agg A.toArray) A (by rfl) (by rfl) (by rfl) (heap_alloc_new _ _) (by have := HAL.out; simp; omega) ZA.out HAO.out ?_; intro w2 hblk hfr; rw [ovr_all (by rw [HAL.out]; rfl)] at hblk; have HBW : Hid (Below w1.heap.size w1 w2) := new_store hfr; have HX2 : Hid (Tkx w w2 [.slice tp tn tc, .slice (some ⟨g, off, none⟩) rn rc] [.int .i64 xn, .int .i64 xt, .int .i64 xs, .int .i64 xe, .slice up un uc] w1.heap.size A) := ⟨HB1.out.next HBW.out, hblk⟩; clear hblk hfr))
 obtain ⟨rb, hrb⟩ : ∃ rb, w1.heap.size = rb := ⟨_, rfl⟩
 rw [hrb] at HX2 ⊢
 have HX : Hid (Tkx w w2 [.slice tp tn tc, .slice (some ⟨g, off, none⟩) rn rc] [.int .i64 xn, .int .i64 xt, .int .i64 xs, .int .i64 xe, .slice up un uc] rb A) := HX2.out
 have HX0 : Hid (Tkx w w2 [.slice tp tn tc, .slice (some ⟨g, off, none⟩) rn rc] [.int .i64 xn, .int .i64 xt, .int .i64 xs, .int .i64 xe, .slice up un uc] rb A) := HX2.out
 have HBE : Hid (Below w2.heap.size w2 w2) := Below.refl _ _
 have HPR : Hid (Prw w2 w2 (.slice none 0 0) []) := ⟨[], World.ownsRow_nil _ _ _ _, RdL.nil _⟩
 have HRC1 : Hid (∀ W, Tkx w W [.slice tp tn tc, .slice (some ⟨g, off, none⟩) rn rc] [.int .i64 xn, .int .i64 xt, .int .i64 xs, .int .i64 xe, .slice up un uc] rb A → W.cell? ⟨rb, 1, none⟩ = some (.slice q1 l1 j1)) := hid (fun W h => (cell_of_blk h.r 1).trans (by rw [List.getElem?_toArray]; exact HA1.out))
 have HRC2 : Hid (∀ W, Tkx w W [.slice tp tn tc, .slice (some ⟨g, off, none⟩) rn rc] [.int .i64 xn, .int .i64 xt, .int .i64 xs, .int .i64 xe, .slice up un uc] rb A → W.cell? ⟨rb, 2, none⟩ = some (.slice q2 l2 j2)) := hid (fun W h => (cell_of_blk h.r 2).trans (by rw [List.getElem?_toArray]; exact HA2.out))
 have HRC3 : Hid (∀ W, Tkx w W [.slice tp tn tc, .slice (some ⟨g, off, none⟩) rn rc] [.int .i64 xn, .int .i64 xt, .int .i64 xs, .int .i64 xe, .slice up un uc] rb A → W.cell? ⟨rb, 3, none⟩ = some (.slice q3 l3 j3)) := hid (fun W h => (cell_of_blk h.r 3).trans (by rw [List.getElem?_toArray]; exact HA3.out))
 clear HX2 HB1 c1 hrb
 go_cut [16, 17] from 45 to 63 (fun v _ wr => ∃ (pv : Option Addr) (nv cv : Nat), v = .slice pv nv cv ∧ Tkx w wr [.slice tp tn tc, .slice (some ⟨g, off, none⟩) rn rc] [.int .i64 xn, .int .i64 xt, .int .i64 xs, .int .i64 xe, .slice up un uc] rb A ∧ Below w2.heap.size w2 wr ∧ Prw w2 wr (.slice pv nv cv) ([]))
 case first =>
  go_wp2_with fail
  go_loopg [16, 17] 1 (fun gg v i wr => gg = 1 ∧ i = .int .i64 0 ∧ ∃ (pv : Option Addr) (nv cv : Nat), v = .slice pv nv cv ∧ Tkx w wr [.slice tp tn tc, .slice (some ⟨g, off, none⟩) rn rc] [.int .i64 xn, .int .i64 xt, .int .i64 xs, .int .i64 xe, .slice up un uc] rb A ∧ Below w2.heap.size w2 wr ∧ Prw w2 wr (.slice pv nv cv) ([]))
  case atStart => exact ⟨rfl, rfl, _, _, _, rfl, HX.out, HBE.out, HPR.out⟩
  case round =>
   obtain ⟨rfl, rfl, pv, nv, cv, rfl, hX, hBE, hPR⟩ := hrel
   have c1 : wr.cell? ⟨rb, 1, none⟩ = some (.slice q1 l1 j1) := HRC1.out _ hX
   have HX' := hid hX
   have HBE' := hid hBE
   have HPR' := hid hPR
   clear hX hBE hPR
   go_wp2_with fail
   all_goals
    go_meet
    case rel => exact ⟨pv, nv, cv, rfl, HX'.out, HBE'.out, HPR'.out⟩
 case rest =>
  obtain ⟨pv, nv, cv, rfl, hX, hBE, hPR⟩ := hcut
  clear HX HBE HPR
  have HX := hid hX
  have HBE := hid hBE
  have HPR := hid hPR
  clear hX hBE hPR
  go_upto_block 2 with fail
  go_cut [16, 18] from 64 to 82 (fun v _ wr => ∃ (pv : Option Addr) (nv cv : Nat), v = .slice pv nv cv ∧ Tkx w wr [.slice tp tn tc, .slice (some ⟨g, off, none⟩) rn rc] [.int .i64 xn, .int .i64 xt, .int .i64 xs, .int .i64 xe, .slice up un uc] rb A ∧ Below w2.heap.size w2 wr ∧ Prw w2 wr (.slice pv nv cv) (prt 1 rs[k]))
  case first =>
   go_wp2_with fail
   go_loopg [16, 18] (l2 + 1) (fun gg v i wr => ∃ (m : Nat) (pv : Option Addr) (nv cv : Nat), m ≤ l2 ∧ gg = l2 + 1 - m ∧ i = .int .i64 (m : Nat) ∧ v = .slice pv nv cv ∧ Tkx w wr [.slice tp tn tc, .slice (some ⟨g, off, none⟩) rn rc] [.int .i64 xn, .int .i64 xt, .int .i64 xs, .int .i64 xe, .slice up un uc] rb A ∧ Below w2.heap.size w2 wr ∧ Prw w2 wr (.slice pv nv cv) (rs[k].t.take m))
   case atStart => exact ⟨0, _, _, _, by omega, by omega, rfl, rfl, HX.out, HBE.out, by simpa using HPR.out⟩
   case round =>
    obtain ⟨m, pv, nv, cv, hm, rfl, rfl, rfl, hX, hBE, hPR⟩ := hrel
    have c1 : wr.cell? ⟨rb, 2, none⟩ = some (.slice q2 l2 j2) := HRC2.out _ hX
    have HX' := hid hX
    have HBE' := hid hBE
    have HPR' := hid hPR
    by_cases hlt : m < l2
    . have hmc : m < rs[k].t.length := by have := HL2.out; omega
      obtain ⟨g5, off5, e5, hrd5⟩ := HW2.out (by omega)
      obtain ⟨B, r5, o5⟩ := hrd5 w2 HX0.out.bx.bel m hmc
      have hQ : q2 = some ⟨g5, off5, none⟩ := e5
      rw [hQ] at c1
      have HBF : Hid (∃ a b k v l r y n, B = ptC a b k v l r y n) := by obtain ⟨vc, z1, _⟩ := rdP o5; exact ⟨_, _, _, _, _, _, _, _, z1⟩
      have hBz : B.length = 18 := o5.1.symm
      have ZB : Hid ((Tryz.prog.info? 65).map (·.size) = some B.length) := by show _ = _; rw [hBz]; kernel_rfl
      have HRB : Hid (RdL w2 ([rs[k].t[m]].map encP).flatten B) := by show RdL _ _ _; simpa using o5
      have X5 := hid (range_below r5 hBE)
      have HTK : Hid (rs[k].t.take m ++ [rs[k].t[m]] = rs[k].t.take (m + 1)) := by show _ = _; rw [List.take_succ_eq_append_getElem hmc]
      have HNL : Hid ((rs[k].t.take m).length + 1 ≤ 1000) := by show _ ≤ 1000; have := HZ.out; simp; omega
      have i1 : (0 : Int) ≤ (m : Int) := by omega
      have i2 : (m : Int) < (l2 : Int) := by omega
      clear hX hBE hPR hrd5 r5 o5 e5 hBz
      go_wp2_with (first
       | ((with_reducible show wpList _ _ _ (Oper.mk _ (.load 65 _) _ _ _ _ :: _) _ _); refine wpList_load_mid (by rfl) 65 _ (by rfl) g5 (off5 + m * 18) (by rfl) B _ X5.out Tryz.underlying65 rfl ZB.out ?_)
       | ((with_reducible show wpList _ _ _ (Oper.mk _ (.buildSlice _ _ _) _ _ _ _ :: _) _ _); refine wp_bsP (by rfl) _ (by rfl) B HBF.out (by rfl) ?_; have HB2 : Hid (Below wr.heap.size wr (wr.alloc (.cells B.toArray 65))) := (Below.refl _ _).alloc (Nat.le_refl _) _; have HCB : Hid (∀ j u, B[j]? = some u → (wr.alloc (.cells B.toArray 65)).cell? ((⟨wr.heap.size, 0, none⟩ : Addr).add j) = some u) := World.news_of_block (heap_alloc_new _ _))
       | ((with_reducible show wpList _ _ _ (Oper.mk (some 82) _ _ _ _ _ :: _) _ _); refine wp_appP0 (by rfl) (.tmp 75) (.tmp 81) (by rfl) w2 (.slice pv nv cv) (rs[k].t.take m) [rs[k].t[m]] (by rfl) (HPR'.out.later HB2.out) (below_trans HBE'.out HB2.out HBE'.out.size) ⟨wr.heap.size, 0, none⟩ 1 B (by rfl) HRB.out HCB.out (by have := HNL.out; simpa using this) ?_; intro v9 w9 hp9 hb9; have HP9 := hid hp9; have HB9 := hid hb9; have HX9 : Hid _ := HX0.out.next hb9; clear hp9 hb9))
      obtain ⟨pv9, cv9, hv9⟩ := HP9.out.shape
      go_roundg (l2 + 1 - (m + 1))
      case rel => exact ⟨m + 1, pv9, _, cv9, by omega, rfl, by have h9 := HZ.out; show Value.int .i64 (wrap64 ((m : Int) + 1)) = _; rw [show wrap64 ((m : Int) + 1) = ((m + 1 : Nat) : Int) by unfold wrap64; omega], hv9, HX9.out, HB9.out, by rw [← HTK.out, ← hv9]; exact HP9.out⟩
      case measure => omega
    . obtain rfl : m = l2 := by omega
      have hw : rs[k].t.take m = prt 1 rs[k] := by
       unfold prt
       rw [if_neg (by decide), if_pos rfl, List.take_of_length_le (by have := HL2.out; omega)]
      rw [hw] at HPR'
      clear hX hBE hPR hw
      go_wp2_with fail
      go_meet
      case rel => exact ⟨pv, nv, cv, rfl, HX'.out, HBE'.out, HPR'.out⟩
  case rest =>
   obtain ⟨pv, nv, cv, rfl, hX, hBE, hPR⟩ := hcut
   clear HX HBE HPR
   have HX := hid hX
   have HBE := hid hBE
   have HPR := hid hPR
   clear hX hBE hPR
   go_upto_block 4 with fail
   go_cut [16, 19] from 83 to 102 (fun v _ wr => ∃ (pv : Option Addr) (nv cv : Nat), v = .slice pv nv cv ∧ Tkx w wr [.slice tp tn tc, .slice (some ⟨g, off, none⟩) rn rc] [.int .i64 xn, .int .i64 xt, .int .i64 xs, .int .i64 xe, .slice up un uc] rb A ∧ Below w2.heap.size w2 wr ∧ Prw w2 wr (.slice pv nv cv) (prt 1 rs[k]))
   case first =>
    go_wp2_with fail
    go_loopg [16, 19] 1 (fun gg v i wr => gg = 1 ∧ i = .int .i64 0 ∧ ∃ (pv : Option Addr) (nv cv : Nat), v = .slice pv nv cv ∧ Tkx w wr [.slice tp tn tc, .slice (some ⟨g, off, none⟩) rn rc] [.int .i64 xn, .int .i64 xt, .int .i64 xs, .int .i64 xe, .slice up un uc] rb A ∧ Below w2.heap.size w2 wr ∧ Prw w2 wr (.slice pv nv cv) (prt 1 rs[k]))
    case atStart => exact ⟨rfl, rfl, _, _, _, rfl, HX.out, HBE.out, HPR.out⟩
    case round =>
      obtain ⟨rfl, rfl, pv, nv, cv, rfl, hX, hBE, hPR⟩ := hrel
      have c1 : wr.cell? ⟨rb, 3, none⟩ = some (.slice q3 l3 j3) := HRC3.out _ hX
      have HX' := hid hX
      have HBE' := hid hBE
      have HPR' := hid hPR
      clear hX hBE hPR
      go_wp2_with fail
      all_goals
       go_meet
       case rel => exact ⟨pv, nv, cv, rfl, HX'.out, HBE'.out, HPR'.out⟩
   case rest =>
    obtain ⟨pv, nv, cv, rfl, hX, hBE, hPR⟩ := hcut
    clear HX HBE HPR
    have HX := hid hX
    have HBE := hid hBE
    have HPR := hid hPR
    clear hX hBE hPR
    obtain ⟨pp9, pc9, hv9⟩ := HPR.out.shape
    have hnv : nv = (prt 1 rs[k]).length := by simp only [Value.slice.injEq] at hv9; exact hv9.2.1
    have HNV := hid hnv
    have hnp3 : nv ≤ 3 := by rw [hnv]; have h1 := HL1.out; have h2 := HL2.out; have h3 := HL3.out; have h4 := HZ.out; unfold prt; simp; omega
    have hR1 := HRR.out
    rw [← hnv] at hR1
    have HR1 := hid hR1
    have a2 : wrap64 ((nv : Int) - 1) = (nv : Int) - 1 := by unfold wrap64; omega
    clear hv9 hnv hR1 HRR
    by_cases hat : 0 ≤ at_ ∧ at_ < (nv : Int)
    . have HI3 := hid (fun W => V4.in_any at_ 0 ((nv : Int) - 1) true (by show _ ↔ _; simp; omega) W)
      obtain ⟨j, rfl⟩ : ∃ j : Nat, at_ = (j : Int) := ⟨at_.toNat, by omega⟩
      have hjn : j < nv := by omega
      have hjl : j < (prt 1 rs[k]).length := by rw [← HNV.out]; exact hjn
      have hR2 := HR1.out
      rw [if_neg (fun c => c hat), Int.toNat_natCast, getD_lt hjl] at hR2
      have c0 : wc.cell? ⟨w.heap.size, 0, none⟩ = some (.slice tp tn tc) := HX.out.bx.c 0 (by simp) 0
      have XX := hid (HX.out.bx.r 1 (by simp))
      obtain ⟨E1, hE1⟩ : ∃ E, evk ts ⟨xn, xt, xs, xe, xv⟩ = E := ⟨_, rfl⟩
      have h0 := HEF.out ⟨xn, xt, xs, xe, xv⟩ (.slice up un uc) wc HX.out.bx.bel (HUU.out.later HX.out.bx.bel)
      dsimp only at h0
      rw [hE1] at h0 hR2
      have HE0 := hid h0
      obtain ⟨EE, hEE⟩ : ∃ E, (if E1 ≠ 0 then E1 else efs ts kn) = E := ⟨_, rfl⟩
      obtain ⟨kp', kc', hkv, hkm, hka⟩ := rd_row lenX HKN.out
      have HKL : Hid (kn.length = kn2 ∧ kp' = kp) := by simp only [Value.slice.injEq] at hkv; exact ⟨hkv.2.1.symm, hkv.1.symm⟩
      have HKA := hid hka
      have HKM := hid hkm
      have HEE := hid hEE
      have HE1 := hid hE1
      have HR2 := hid hR2
      clear h0 hEE hE1 hR2 HR1 hat hkv hka hkm
      go_upto_block 6 with (first
       | (go_at_call_of 17 (Value.int IntKind.i64 ((j : Nat) : Int)); refine (HI3.out _).mono ?_; rintro e wc ⟨rfl, rfl⟩)
       | ((with_reducible show wpList _ _ _ (Oper.mk _ (.load 30 _) _ _ _ _ :: _) _ _); refine wpList_load_mid (by rfl) 30 _ (by rfl) (w.heap.size + 1) 0 (by rfl) [.int .i64 xn, .int .i64 xt, .int .i64 xs, .int .i64 xe, .slice up un uc] _ XX.out Tryz.underlying30 rfl (by kernel_rfl) ?_)
       | (go_at_call_of 18 (Value.slice tp tn tc); refine HE0.out.mono ?_; rintro e w3 ⟨rfl, hb3⟩; have HX3 := hid (HX.out.next hb3); have HB3 := hid hb3; clear hb3))
      go_cut [14, 20] from 113 to 129 (fun e _ wr => ∃ e1 : Int, e = .int .i64 e1 ∧ Tkx w wr [.slice tp tn tc, .slice (some ⟨g, off, none⟩) rn rc] [.int .i64 xn, .int .i64 xt, .int .i64 xs, .int .i64 xe, .slice up un uc] rb A ∧ Below wc.heap.size wc wr ∧ e1 = EE)
      case first =>
       go_wp2_with fail
       go_loopg [14, 20] (kn2 + 1) (fun gg e i wr => ∃ (m : Nat) (e1 : Int), m ≤ kn2 ∧ gg = kn2 + 1 - m ∧ i = .int .i64 (m : Nat) ∧ e = .int .i64 e1 ∧ Tkx w wr [.slice tp tn tc, .slice (some ⟨g, off, none⟩) rn rc] [.int .i64 xn, .int .i64 xt, .int .i64 xs, .int .i64 xe, .slice up un uc] rb A ∧ Below wc.heap.size wc wr ∧ (if e1 ≠ 0 then e1 else efs ts (kn.drop m)) = EE)
       case atStart => exact ⟨0, E1, by omega, by omega, rfl, rfl, HX3.out, HB3.out, by simpa using HEE.out⟩
       case round =>
         obtain ⟨m, e1, hm, rfl, rfl, rfl, hX, hBE, hee⟩ := hrel
         clear HX3 HB3 c0 XX HE0
         have HX' := hid hX
         have HBE' := hid hBE
         have HQ := hid hee
         clear hX hBE hee
         by_cases hlt : m < kn2
         . have d2 : decide ((m : Int) < (kn2 : Int)) = true := by simp; omega
           by_cases he : e1 = 0
           . subst he
             have hmc : m < kn.length := by rw [HKL.out.1]; exact hlt
             obtain ⟨g6, off6, e6, hrd6⟩ := HKA.out (by omega)
             obtain ⟨B, r6, o6⟩ := hrd6 w (Below.refl _ _) m hmc
             obtain ⟨yv, z6, o7⟩ := rdX o6
             have hP : kp = some ⟨g6, off6, none⟩ := HKL.out.2.symm.trans e6
             subst hP
             have HS : Hid (∀ w', Tkx w w' [.slice tp tn tc, .slice (some ⟨g, off, none⟩) rn rc] [.int .i64 xn, .int .i64 xt, .int .i64 xs, .int .i64 xe, .slice up un uc] rb A → (fun w' => Tkx w w' [.slice tp tn tc, .slice (some ⟨g, off, none⟩) rn rc] [.int .i64 xn, .int .i64 xt, .int .i64 xs, .int .i64 xe, .slice up un uc] rb A ∧ w'.cell? ⟨w.heap.size, 0, none⟩ = some (.slice tp tn tc) ∧ w'.rangeAt g6 (off6 + m * 5) B) w') := hid fun w' h => ⟨h, h.bx.c 0 (by simp) 0, range_below r6 h.bx.bel⟩
             have HD := hid (HX'.out.next (Below.drew (Below.refl _ _)))
             have hBz : B.length = 5 := o6.1.symm
             have ZE : Hid ((Tryz.prog.info? 30).map (·.size) = some B.length) := by show _ = _; rw [hBz]; kernel_rfl
             have h6 := fun W (hW : Below w.heap.size w W) => HEF.out kn[m] yv W hW (o7.later hW)
             have h7 : (Value.agg #[.int .i64 kn[m].n, .int .i64 kn[m].t, .int .i64 kn[m].st, .int .i64 kn[m].en, yv]) = .agg B.toArray := by rw [z6]
             rw [h7] at h6
             obtain ⟨E6, hE6⟩ : ∃ E, evk ts kn[m] = E := ⟨_, rfl⟩
             rw [hE6] at h6
             have HE6 := hid h6
             have HQ6 : Hid ((if E6 ≠ 0 then E6 else efs ts (kn.drop (m + 1))) = EE) := by
               have h := HQ.out
               rw [if_neg (by simp), List.drop_eq_getElem_cons hmc, efs, hE6] at h
               exact h
             have i1 : (0 : Int) ≤ (m : Int) := by omega
             have i2 : (m : Int) < (kn2 : Int) := by omega
             have HMW : Hid (wrap64 ((m : Int) + 1) = ((m + 1 : Nat) : Int)) := by have h1 := HKM.out; have h2 := HKL.out.1; show _ = _; unfold wrap64; omega
             clear r6 o6 o7 z6 h6 h7 hE6 hBz e6 hrd6 HQ
             go_wp2_with fail
             refine start_n (S := (fun w' => Tkx w w' [.slice tp tn tc, .slice (some ⟨g, off, none⟩) rn rc] [.int .i64 xn, .int .i64 xt, .int .i64 xs, .int .i64 xe, .slice up un uc] rb A ∧ w'.cell? ⟨w.heap.size, 0, none⟩ = some (.slice tp tn tc) ∧ w'.rangeAt g6 (off6 + m * 5) B)) 8 #[false, false, false, false, false, false, false, false] rfl rfl (by kernel_rfl) (HS.out _ HD.out) (fun hHeld => ?_)
             refine tkq (i := 0) (v := ?v1) rfl ?hy1 ?rest1; (case hy1 => intro w0 hSw; (try dsimp only at hSw); go_simp <;> (try (with_reducible rfl))); (try simp only [puts])
             refine tkq (i := 1) (v := ?v2) rfl ?hy2 ?rest2; (case hy2 => intro w0 hSw; (try dsimp only at hSw); go_simp <;> (try (with_reducible rfl))); (try simp only [puts])
             refine tkq (i := 2) (v := ?v3) rfl ?hy3 ?rest3; (case hy3 => intro w0 hSw; (try dsimp only at hSw); go_simp <;> (try (with_reducible rfl))); (try simp only [puts])
             refine tkq (i := 3) (v := ?v4) rfl ?hy4 ?rest4; (case hy4 => intro w0 hSw; (try dsimp only at hSw); go_simp <;> (try (with_reducible rfl))); (try simp only [puts])
             refine tkq (i := 4) (v := ?v5) rfl ?hy5 ?rest5; (case hy5 => intro w0 hSw; (try dsimp only at hSw); go_simp <;> (try (with_reducible rfl))); (try simp only [puts])
             refine tlq (i := 5) rfl (yieldsIf_load_mid (by rfl) 30 _ rfl g6 (off6 + m * 5) (by rfl) B _ (fun _ h => h.2.2) Tryz.underlying30 rfl ZE.out) ?_
             (try simp only [puts])
             refine wpAnyH_ready (rs := [6]) (by kernel_rfl) (by simp) ?_
             refine cons_mk rfl (fun K hK => ?_) AllReadyH.nil
             refine step_call2 18 ent_ef (by rfl) _ _ _ (by rfl) (.slice tp tn tc) (.agg B.toArray) (by rfl) (by rfl) _ (HE6.out _ HD.out.bx.bel) ?_
             rintro e w3 ⟨rfl, hb3⟩
             refine ⟨_, rfl, ?_⟩
             have HB3 := hid (HD.out.next hb3)
             have HBB := hid hb3
             clear hb3
             refine hK.out _ _ (HS.out _ HB3.out) (fun hHeld => ?_)
             clear hK K
             (try simp only [puts])
             refine tkq (i := 7) (v := ?v6) rfl ?hy6 ?rest6; (case hy6 => intro w0 hSw; (try dsimp only at hSw); go_simp <;> (try (with_reducible rfl))); (try simp only [puts])
             refine wpAnyH_done (by kernel_rfl) ?_ _
             go_wp2_with fail
             go_roundg (kn2 + 1 - (m + 1))
             case rel => exact ⟨m + 1, E6, by omega, rfl, by show Value.int .i64 (wrap64 ((m : Int) + 1)) = _; rw [HMW.out], rfl, HB3.out, below_trans HBE'.out (below_trans (Below.drew (Below.refl _ _)) HBB.out (by first | exact Nat.le_refl _ | simp)) HBE'.out.size, HQ6.out⟩
             case measure => omega
           . have d1 : (e1 == 0) = false := by simpa using he
             have HQ6 : Hid (e1 = EE) := by have h := HQ.out; rw [if_pos he] at h; exact h
             clear HQ he
             go_wp2_with fail
             go_meet
             case rel => exact ⟨e1, rfl, HX'.out, HBE'.out, HQ6.out⟩
         . obtain rfl : m = kn2 := by omega
           have HQ6 : Hid (e1 = EE) := by
             have h := HQ.out
             rw [List.drop_of_length_le (by rw [HKL.out.1]; exact Nat.le_refl _), efs] at h
             show e1 = EE
             split at h
             . exact h
             . rename_i c; rw [← h]; exact Classical.byContradiction c
           clear HQ
           go_wp2_with fail
           go_meet
           case rel => exact ⟨e1, rfl, HX'.out, HBE'.out, HQ6.out⟩
      case rest =>
       obtain ⟨e1, rfl, hX, hBE, hee⟩ := hcut
       subst hee
       have HX4 := hid hX
       have HPR4 := hid (HPR.out.later hBE)
       have HBE4 := hid (below_trans HBE.out hBE HBE.out.size)
       clear hX hBE HX HPR HBE HX3 HB3 c0 XX HE0
       obtain ⟨K2, hK2⟩ : ∃ K, knk ts (asq 1 j rs[k].w) kn = K := ⟨_, rfl⟩
       obtain ⟨t2, ht2⟩ : ∃ t, tkb ts (asq 1 j rs[k].w) ⟨xn, xt, xs, xe, xv⟩ kn (prt 1 rs[k])[j] = t := ⟨_, rfl⟩
       have hR3 := HR2.out
       rw [hK2, ht2] at hR3
       by_cases hz : e1 = 0
       . subst hz
         have hEz : E1 = 0 ∧ efs ts kn = 0 := by
           have h := HEE.out
           split at h
           . rename_i c; exact absurd h c
           . rename_i c; exact ⟨Classical.byContradiction c, h⟩
         rw [if_neg (fun c => c hEz.1), if_neg (fun c => c hEz.2)] at hR3
         have HEV := hid (efs_all kn hEz.2)
         have HR4 := hid hR3
         have HTA1 := hid (HTA0.out j hjl (HE1.out.trans hEz.1))
         have HAQ : Hid ((asq 1 j rs[k].w).length = l1 ∧ l1 ≤ l1) := by refine ⟨?_, Nat.le_refl _⟩; unfold asq; rw [if_neg (by decide)]; exact HL1.out
         have HAM : Hid (∀ m (h1 : m < (asq 1 j rs[k].w).length) (h2 : m < rs[k].w.length), (asq 1 j rs[k].w)[m] = rs[k].w[m]) := by intro m h1 h2; unfold asq; simp
         have cr : wc.cell? ⟨rb, 1, none⟩ = some (.slice q1 l1 j1) := HRC1.out _ HX4.out
         clear hR3 hEz HR2 HEE HE1 HTA0
         have hK3 := hK2
         unfold knk at hK3
         rw [HKL.out.1, HAQ.out.1] at hK3
         by_cases hln : kn2 = l1
         . rw [if_neg (fun c => c hln)] at hK3
           have HK3 := hid hK3
           have HK2 := hid hK2
           have HT2 := hid ht2
           have d3 : ((kn2 : Int) != ((l1 : Nat) : Int)) = false := by simp [hln]
           have HLN := hid hln
           clear hK3 hK2 ht2 hln
           obtain ⟨tp', tc', htv, htm, hta⟩ := rd_row lenY HTT.out
           have HTL : Hid (ts.length = tn ∧ tp' = tp) := by simp only [Value.slice.injEq] at htv; exact ⟨htv.2.1.symm, htv.1.symm⟩
           have HTA := hid hta
           clear htv htm hta
           go_wp2_with fail
           go_loopg [22] (kn2 + 1) (fun gg i wr => ∃ m : Nat, m ≤ kn2 ∧ gg = kn2 + 1 - m ∧ i = .int .i64 (m : Nat) ∧ Tkx w wr [.slice tp tn tc, .slice (some ⟨g, off, none⟩) rn rc] [.int .i64 xn, .int .i64 xt, .int .i64 xs, .int .i64 xe, .slice up un uc] rb A ∧ Below wc.heap.size wc wr ∧ kfs ts (kn.drop m) ((asq 1 j rs[k].w).drop m) = K2)
           case atStart => exact ⟨0, by omega, by omega, rfl, HX4.out, Below.refl _ _, by simpa using HK3.out⟩
           case round =>
             obtain ⟨m, hm, rfl, rfl, hX, hBE, hkf⟩ := hrel
             clear cr
             have HX' := hid hX
             have HBE' := hid hBE
             have HKF := hid hkf
             clear hkf hBE
             by_cases hlt : m < kn2
             . have hmc : m < kn.length := by rw [HKL.out.1]; exact hlt
               have hma : m < (asq 1 j rs[k].w).length := by rw [HAQ.out.1, ← HLN.out]; exact hlt
               have hmw : m < rs[k].w.length := by have h1 := HAQ.out; have h2 := HL1.out; omega
               obtain ⟨g6, off6, e6, hrd6⟩ := HKA.out (by omega)
               obtain ⟨B, r6, o6⟩ := hrd6 wr hX.bx.bel m hmc
               obtain ⟨yv, z6, o7⟩ := rdX o6
               have n1 := r6 1 (.int .i64 kn[m].t) (by rw [z6]; rfl)
               obtain ⟨i, hi, ei, ev1, ev2⟩ := evk_ok (HEV.out _ (List.getElem_mem hmc))
               rw [ei] at n1
               obtain ⟨gt, oft, et, hrdt⟩ := HTA.out (by omega)
               obtain ⟨UT, rt, ot⟩ := hrdt wr hX.bx.bel i hi
               obtain ⟨fv, zt, ot2⟩ := rdY ot
               have n2 := rt 0 (.string ts[i].n) (by rw [zt]; rfl)
               obtain ⟨g5, off5, e5, hrd5⟩ := HW1.out (by omega)
               obtain ⟨C5, r5, o5⟩ := hrd5 wr hX.bx.bel m hmw
               obtain ⟨vc, z5, o52⟩ := rdP o5
               have n3 := r5 1 (.string rs[k].w[m].ty) (by rw [z5]; rfl)
               simp only [Nat.add_zero] at n2
               have hP : kp = some ⟨g6, off6, none⟩ := HKL.out.2.symm.trans e6
               have hPt : tp = some ⟨gt, oft, none⟩ := HTL.out.2.symm.trans et
               subst hP hPt e5
               have c0 : wr.cell? ⟨w.heap.size, 0, none⟩ = some (.slice (some ⟨gt, oft, none⟩) tn tc) := hX.bx.c 0 (by simp) 0
               have cr : wr.cell? ⟨rb, 1, none⟩ = some (.slice (some ⟨g5, off5, none⟩) l1 j1) := HRC1.out _ hX
               have hst : (if seq ts[i].n rs[k].w[m].ty = true then kfs ts (kn.drop (m + 1)) ((asq 1 j rs[k].w).drop (m + 1)) else 13) = K2 := by
                 have h := HKF.out
                 rw [List.drop_eq_getElem_cons hmc, List.drop_eq_getElem_cons hma, kfs, ei, Int.toNat_natCast, getD_lt hi] at h
                 first
                  | (rw [HAM.out m hma hmw] at h; exact h)
                  | ((have e9 : (asq 1 j rs[k].w) = rs[k].w := by (unfold asq; rw [if_neg (by decide)])); simp only [e9] at h ⊢; exact h)
               have i1 : (0 : Int) ≤ (m : Int) := by omega
               have i2 : (m : Int) < (kn2 : Int) := by omega
               have i3 : (0 : Int) ≤ (i : Int) := by omega
               have i4 : (i : Int) < (tn : Int) := by have h := HTL.out.1; omega
               have i5 : (m : Int) < (l1 : Int) := by have h := HL1.out; omega
               have HMW : Hid (wrap64 ((m : Int) + 1) = ((m + 1 : Nat) : Int)) := by have h1 := HKM.out; have h2 := HKL.out.1; show _ = _; unfold wrap64; omega
               obtain ⟨na, hna⟩ : ∃ d, ts[i].n = d := ⟨_, rfl⟩
               obtain ⟨nb, hnb⟩ : ∃ d, rs[k].w[m].ty = d := ⟨_, rfl⟩
               rw [hna] at n2 hst
               rw [hnb] at n3 hst
               clear r6 o6 z6 o7 rt ot zt ot2 r5 o5 z5 o52 e6 et hrd6 hrdt hrd5 hna hnb ei ev1 ev2 hX HKF
               cases hq : seq na nb
               . have hq2 : (na.toList == nb.toList) = false := hq
                 rw [if_neg (by rw [hq]; decide)] at hst
                 subst hst
                 have hR5 := HR4.out
                 rw [if_pos (by decide)] at hR5
                 subst hR5
                 clear hq HR4
                 go_wp2_with fail
                 go_quiet (fail)
                 go_wp2_with fail
                 go_ret2
                 exact ⟨rfl, (HX'.out.next (below_drawn (Below.refl _ _) _)).bx.bel⟩
               . have hq2 : (na.toList == nb.toList) = true := hq
                 rw [if_pos hq] at hst
                 have HST := hid hst
                 clear hq hst
                 go_wp2_with fail
                 go_quiet (fail)
                 go_wp2_with fail
                 go_roundg (kn2 + 1 - (m + 1))
                 case rel => exact ⟨m + 1, by omega, rfl, by show Value.int .i64 (wrap64 ((m : Int) + 1)) = _; rw [HMW.out], HX'.out.next (below_drawn (Below.refl _ _) _), below_trans HBE'.out (below_drawn (Below.refl _ _) _) HBE'.out.size, HST.out⟩
                 case measure => omega
             . obtain rfl : m = kn2 := by omega
               have hK0 : K2 = 0 := by
                 have h := HKF.out
                 rw [List.drop_of_length_le (by rw [HKL.out.1]; exact Nat.le_refl _), kfs_nil] at h
                 exact h.symm
               subst hK0
               have hR5 := HR4.out
               rw [if_neg (by decide)] at hR5
               subst hR5
               have hPR := HPR4.out.later HBE'.out
               have hRD := hPR.rd (below_trans HBE4.out HBE'.out HBE4.out.size)
               obtain ⟨pp, pc, hpv, hpm, hpa⟩ := rd_row lenP hRD
               simp only [Value.slice.injEq] at hpv
               obtain ⟨gp, ofp, ep, hrdp⟩ := hpa (by omega)
               obtain ⟨PA, rp9, op9⟩ := hrdp wr (Below.refl _ _) j hjl
               have hP : pv = some ⟨gp, ofp, none⟩ := hpv.1.trans ep
               subst hP
               obtain ⟨XV, hXV⟩ : ∃ l : List Value, [.int .i64 xn, .int .i64 xt, .int .i64 xs, .int .i64 xe, .slice up un uc] = l := ⟨_, rfl⟩
               have HS : Hid (∀ w', Below wr.heap.size wr w' → (fun w' => Below wr.heap.size wr w' ∧ w'.cell? ⟨w.heap.size, 0, none⟩ = some (.slice tp tn tc) ∧ w'.rangeAt rb 0 A ∧ w'.rangeAt gp (ofp + j * 18) PA ∧ w'.rangeAt (w.heap.size + 1) 0 XV) w') := hid fun w' h => ⟨h, (hX.next h).bx.c 0 (by simp) 0, range_blk (hX.next h).r, range_below rp9 h, by rw [← hXV]; exact (hX.next h).bx.r 1 (by simp)⟩
               have ZX : Hid ((Tryz.prog.info? 30).map (·.size) = some XV.length) := by show _ = _; rw [← hXV]; kernel_rfl
               have hXA : (Value.agg #[.int .i64 xn, .int .i64 xt, .int .i64 xs, .int .i64 xe, .slice up un uc]) = .agg XV.toArray := by rw [← hXV]
               have HD : Hid (Below wr.heap.size wr wr.drew) := Below.drew (Below.refl _ _)
               have hPz : PA.length = 18 := op9.1.symm
               have ZP : Hid ((Tryz.prog.info? 65).map (·.size) = some PA.length) := by show _ = _; rw [hPz]; kernel_rfl
               have h9 := fun W (hW : Below wr.heap.size wr W) => HTA1.out (knk_ok HDS.out HK2.out HEV.out) W (below_trans hX.bx.bel hW hX.bx.bel.size) PA (op9.below hW)
               rw [HT2.out, hXA] at h9
               have HT9 := hid h9
               have i1 : (0 : Int) ≤ (j : Int) := by omega
               have i2 : (j : Int) < (nv : Int) := by omega
               clear hPR hRD hpv hpm hpa hrdp rp9 op9 ep hPz h9 hX HR4 HKF hXV hXA
               go_wp2_with fail
               refine start_n (S := (fun w' => Below wr.heap.size wr w' ∧ w'.cell? ⟨w.heap.size, 0, none⟩ = some (.slice tp tn tc) ∧ w'.rangeAt rb 0 A ∧ w'.rangeAt gp (ofp + j * 18) PA ∧ w'.rangeAt (w.heap.size + 1) 0 XV)) 12 #[false, false, false, false, false, false, false, false, false, false, false, false] rfl rfl (by kernel_rfl) (HS.out _ HD.out) (fun hHeld => ?_)
               refine tkq (i := 0) (v := ?v7) rfl ?hy7 ?rest7; (case hy7 => intro w0 hSw; (try dsimp only at hSw); go_simp <;> (try (with_reducible rfl))); (try simp only [puts])
               refine tkq (i := 1) (v := ?v8) rfl ?hy8 ?rest8; (case hy8 => intro w0 hSw; (try dsimp only at hSw); go_simp <;> (try (with_reducible rfl))); (try simp only [puts])
               refine tkq (i := 3) (v := ?v9) rfl ?hy9 ?rest9; (case hy9 => intro w0 hSw; (try dsimp only at hSw); go_simp <;> (try (with_reducible rfl))); (try simp only [puts])
               refine tkq (i := 4) (v := ?v10) rfl ?hy10 ?rest10; (case hy10 => intro w0 hSw; (try dsimp only at hSw); go_simp <;> (try (with_reducible rfl))); (try simp only [puts])
               refine tkq (i := 5) (v := ?v11) rfl ?hy11 ?rest11; (case hy11 => intro w0 hSw; (try dsimp only at hSw); go_simp <;> (try (with_reducible rfl))); (try simp only [puts])
               refine tkq (i := 8) (v := ?v12) rfl ?hy12 ?rest12; (case hy12 => intro w0 hSw; (try dsimp only at hSw); go_simp <;> (try (with_reducible rfl))); (try simp only [puts])
               refine tlq (i := 2) rfl (yieldsIf_load_mid (by rfl) 49 _ rfl rb (0) (by rfl) A _ (fun _ h => h.2.2.1) Tryz.underlying49 rfl ZA.out) ?_
               (try simp only [puts])
               refine tlq (i := 6) rfl (yieldsIf_load_mid (by rfl) 65 _ rfl gp (ofp + j * 18) (by rfl) PA _ (fun _ h => h.2.2.2.1) Tryz.underlying65 rfl ZP.out) ?_
               (try simp only [puts])
               refine tlq (i := 7) rfl (yieldsIf_load_mid (by rfl) 30 _ rfl (w.heap.size + 1) (0) (by rfl) XV _ (fun _ h => h.2.2.2.2) Tryz.underlying30 rfl ZX.out) ?_
               (try simp only [puts])
               refine wpAnyH_ready (rs := [9]) (by kernel_rfl) (by simp) ?_
               refine cons_mk rfl (fun K hK => ?_) AllReadyH.nil
               refine step_call5 19 ent_tkn (by rfl) _ _ _ _ _ _ (by rfl) (.slice tp tn tc) (.agg A.toArray) (.agg PA.toArray) (.agg XV.toArray) (.slice kp m kc) (by rfl) (by rfl) (by rfl) (by rfl) (by rfl) _ (HT9.out _ HD.out) ?_
               rintro e w3 ⟨rfl, hb3⟩
               refine ⟨_, rfl, ?_⟩
               have HB3 := hid (below_trans HD.out hb3 HD.out.size)
               clear hb3
               refine hK.out _ _ (HS.out _ HB3.out) (fun hHeld => ?_)
               clear hK K
               (try simp only [puts])
               refine tkq (i := 10) (v := ?v13) rfl ?hy13 ?rest13; (case hy13 => intro w0 hSw; (try dsimp only at hSw); go_simp <;> (try (with_reducible rfl))); (try simp only [puts])
               refine tkq (i := 11) (v := ?v14) rfl ?hy14 ?rest14; (case hy14 => intro w0 hSw; (try dsimp only at hSw); go_simp <;> (try (with_reducible rfl))); (try simp only [puts])
               refine wpAnyH_done (by kernel_rfl) ?_ _
               go_wp2_with fail
               go_ret2
               exact ⟨rfl, below_trans HX'.out.bx.bel HB3.out HX'.out.bx.bel.size⟩
         . rw [if_pos hln] at hK3
           subst hK3
           have hR5 := HR4.out
           rw [if_pos (by decide)] at hR5
           subst hR5
           have d3 : ((kn2 : Int) != ((l1 : Nat) : Int)) = true := by simp; omega
           clear HR4 hK2 ht2 hln
           go_wp2_with fail
           go_ret2
           exact ⟨rfl, HX4.out.bx.bel⟩
       . have d1 : (e1 != 0) = true := by simpa using hz
         have hR4 : (false, e1) = R := by
           have h := HEE.out
           have h2 := hR3
           split at h
           . rename_i c; rw [if_pos c] at h2; rw [← h]; exact h2
           . rename_i c; rw [if_neg c, h, if_pos hz] at h2; exact h2
         subst hR4
         clear hR3 HR2 HEE hz
         go_wp2_with fail
         go_ret2
         exact ⟨rfl, HX4.out.bx.bel⟩
    . have HI3 := hid (fun W => V4.in_any at_ 0 ((nv : Int) - 1) false (by show _ ↔ _; simp; omega) W)
      have hR2 := HR1.out
      rw [if_pos hat] at hR2
      subst hR2
      clear HR1 hat hnp3
      go_wp2_with (go_at_call_of 17 (Value.int IntKind.i64 at_); refine (HI3.out _).mono ?_; rintro e wc ⟨rfl, rfl⟩)
      go_ret2
      exact ⟨rfl, HX.out.bx.bel⟩
set_option maxHeartbeats 64000000 in
theorem tb_main2 (ts : List Tp) (rs : List Rl) (hzz : ∀ r, r ∈ rs → Szr r) (tv rv : Value) (at_ : Int) (x : Ev) (u : Value) (kn : List Ev) (kv : Value) (w : World) (hT : Rd w (.row 72 2 (ts.map encY)) tv) (hR : Rd w (.row 49 7 (rs.map encR)) rv) (hu : Rd w (.row 59 3 (x.v.map encV)) u) (hK : Rd w (.row 30 5 (kn.map encX)) kv) (hb : bok ts rs = 0) (k : Nat) (hk : k < rs.length) (R : Bool × Int) (hRR : tkr ts rs (k : Int) 2 at_ x kn = R) : Calls Tryz.prog 6 #[.agg #[tv, rv], .int .i64 (k : Nat), .int .i64 2, .int .i64 at_, evV x u, kv] w fun e w' => e = .returned (.tuple #[.bool (R.1), .int .i64 (R.2)]) ∧ Below w.heap.size w w' := by
 obtain ⟨hts, hrs⟩ := bok_zero hb
 have hty : ∀ i (hi : i < ts.length), tyk ts[i].n ts[i].f = 0 := fun i hi => tks_all ts [] hts _ (List.getElem_mem hi)
 have hrk := rks_all rs [] hrs _ (List.getElem_mem hk)
 have hds := dst_of hts
 have hszr := hzz _ (List.getElem_mem hk)
 have hgd : rs.getD (k : Int).toNat r0 = rs[k] := by rw [Int.toNat_natCast]; exact getD_lt hk _
 unfold tkr at hRR
 rw [if_neg (fun c => c hb), if_neg (fun c => c (by omega)), hgd] at hRR
 have HCH := hid (fun W (hW : Below w.heap.size w W) => bookFault_any ts rs (fun x hx => ⟨fun t ht => ((hzz x hx).w t ht).wfc, fun t ht => ((hzz x hx).t t ht).wfc, fun m hm => ((hzz x hx).m m hm).wfc⟩) tv rv W (hT.later hW) (hR.later hW))
 obtain ⟨tp, tc, htv, _, _⟩ := rd_row lenY hT
 obtain ⟨rp, rc, hrv, hmr, _⟩ := rd_row lenR hR
 obtain ⟨up, un, uc, huv⟩ := rd_shape hu
 obtain ⟨kp, kn2, kc, hkv⟩ := rd_shape hK
 rw [hb] at HCH
 obtain ⟨g, off, A, hrg, hA⟩ : ∃ g off A, rp = some ⟨g, off, none⟩ ∧ (∀ W, Below w.heap.size w W → W.rangeAt g (off + k * 7) A) ∧ RdL w (encR rs[k]) A := by
  obtain ⟨p, cap, e0, _, hat⟩ := rd_row lenR hR
  obtain ⟨g, off, rfl, hrd⟩ := hat (by omega)
  obtain ⟨A, r1, o1⟩ := hrd w (Below.refl _ _) k hk
  rw [hrv] at e0
  simp only [Value.slice.injEq] at e0
  exact ⟨g, off, A, e0.1, fun W hW => range_below r1 hW, o1⟩
 obtain ⟨v1, v2, v3, v4, v5, z1, o1, o2, o3, o4, o5⟩ := rdR hA.2
 obtain ⟨q1, j1, hu1, hn1, hw1⟩ := rd_row lenP o1
 obtain ⟨q2, j2, hu2, hn2, hw2⟩ := rd_row lenP o2
 obtain ⟨q3, j3, hu3, hn3, hw3⟩ := rd_row lenM o3
 have HW1 := hid hw1
 have HW2 := hid hw2
 have HW3 := hid hw3
 clear hn1 hn2 hn3 hw1 hw2 hw3
 obtain ⟨q4, l4, j4, hu4⟩ := rd_shape o4
 obtain ⟨q5, l5, j5, hu5⟩ := rd_shape o5
 obtain ⟨l1, hl1⟩ : ∃ l, rs[k].w.length = l := ⟨_, rfl⟩
 obtain ⟨l2, hl2⟩ : ∃ l, rs[k].t.length = l := ⟨_, rfl⟩
 obtain ⟨l3, hl3⟩ : ∃ l, rs[k].m.length = l := ⟨_, rfl⟩
 have HL1 := hid hl1
 have HL2 := hid hl2
 have HL3 := hid hl3
 have HZ : Hid (l1 ≤ 3 ∧ l2 ≤ 2 ∧ l3 ≤ 2) := by have h := (rck_ok hrk).2; unfold szs at h; show _ ∧ _; omega
 rw [hl1] at hu1
 rw [hl2] at hu2
 rw [hl3] at hu3
 have hAz : A.length = 7 := hA.2.1.symm
 have HAO : Hid (A.all (·.oneCell') = true) := by show _ = _; rw [z1, hu1, hu2, hu3, hu4, hu5]; rfl
 have ZA : Hid ((Tryz.prog.info? 49).map (·.size) = some A.length) := by show _ = _; rw [hAz]; kernel_rfl
 have HAL := hid hAz
 have HA1 : Hid (A[1]? = some (.slice q1 l1 j1)) := by show _ = _; rw [z1, hu1]; rfl
 have HA2 : Hid (A[2]? = some (.slice q2 l2 j2)) := by show _ = _; rw [z1, hu2]; rfl
 have HA3 : Hid (A[3]? = some (.slice q3 l3 j3)) := by show _ = _; rw [z1, hu3]; rfl
 have HO1 := hid o1
 have HO2 := hid o2
 have HO3 := hid o3
 have HEF := hid (fun (y : Ev) (yv : Value) W (hW : Below w.heap.size w W) (hy : Rd W (.row 59 3 (y.v.map encV)) yv) => eventFault_p ts y tv yv W (hT.later hW) hy)
 have HKN := hid hK
 have HUU := hid hu
 have HTA0 := hid (fun (j : Nat) (hj : j < (prt 2 rs[k]).length) (hx : evk ts x = 0) (hkn : Kok ts (asq 2 j rs[k].w) kn) W (hW : Below w.heap.size w W) (PA : List Value) (hPA : RdL W (encP (prt 2 rs[k])[j]) PA) => taken_r ts x kn rs[k] tv u kv v1 v2 v3 v4 v5 2 j ⟨hty, hx, hkn⟩ hds (prt 2 rs[k])[j] (rck_pok hrk hj) (szr_prt hszr hj) PA W ⟨hT.later hW, hu.later hW, hK.later hW, o1.later hW, ⟨_, _, _, hu2⟩, ⟨_, _, _, hu3⟩, ⟨_, _, _, hu4⟩, ⟨_, _, _, hu5⟩⟩ hPA)
 have hAE : (Value.agg #[.string rs[k].n, v1, v2, v3, v4, .string rs[k].e.ty, v5]) = .agg A.toArray := by rw [z1]
 rw [hAE] at HTA0
 have HDS := hid hds
 have HRR := hid hRR
 have HXR := hid hA.1
 have HTT := hid hT
 rw [hu1] at HO1
 rw [hu2] at HO2
 rw [hu3] at HO3
 clear o1 o2 o3 o4 o5 hu1 hu2 hu3 hu4 hu5 z1 hAz hA hgd hszr hrk hty hts hrs hb hds hRR hl1 hl2 hl3 hAE
 subst htv huv hkv
 rw [hrg] at hrv
 subst hrv
 obtain ⟨xn, xt, xs, xe, xv⟩ := x
 simp only [evV] at HTA0 HCH HEF HUU ⊢
 obtain ⟨tn, htn⟩ : ∃ n, ts.length = n := ⟨_, rfl⟩
 obtain ⟨rn, hrn⟩ : ∃ n, rs.length = n := ⟨_, rfl⟩
 rw [htn] at HCH HEF HTA0 HTT ⊢
 rw [hrn] at HCH hk hmr ⊢
 have hB : Bxs w ((w.alloc (.cells #[.slice tp tn tc, .slice (some ⟨g, off, none⟩) rn rc] 25)).alloc (.cells #[.int .i64 xn, .int .i64 xt, .int .i64 xs, .int .i64 xe, .slice up un uc] 30)) [([.slice tp tn tc, .slice (some ⟨g, off, none⟩) rn rc], 25), ([.int .i64 xn, .int .i64 xt, .int .i64 xs, .int .i64 xe, .slice up un uc], 30)] := bxs2 w _ _ _ _
 have HB := hid hB
 have i1 : (0 : Int) ≤ (k : Int) := by omega
 have i2 : (k : Int) < (rn : Int) := by omega
 have HI1 := hid (fun W => V4.in_any (k : Int) 0 ((rn : Int) - 1) true (by show _ ↔ _; simp; omega) W)
 have HI2 := hid (fun W => V4.in_any 2 0 2 true (by show _ ↔ _; simp) W)
 have a1 : wrap64 ((rn : Int) - 1) = (rn : Int) - 1 := by unfold wrap64; omega
 clear hT hR hu hK hzz hB hmr htn hrn hrg
 go_enter Tryz.func6, Tryz.ntmps6
 go_wp2_with fail
 refine (HCH.out _ HB.out.bel).mono ?_
 rintro e w1 ⟨rfl, hb1⟩
 have HB1 := hid (HB.out.next hb1)
 have c1 : w1.cell? ⟨w.heap.size, 1, none⟩ = some (.slice (some ⟨g, off, none⟩) rn rc) := HB1.out.c 0 (by simp) 1
 have X1_ := hid (HXR.out w1 HB1.out.bel)
 clear hb1 HCH HB
 go_upto_block 0 with (first
  | (go_at_call_of 17 (Value.int IntKind.i64 ((k : Nat) : Int)); refine (HI1.out _).mono ?_; rintro e w1 ⟨rfl, rfl⟩)
  | (go_at_call_of 17 (Value.int IntKind.i64 2); refine (HI2.out _).mono ?_; rintro e w1 ⟨rfl, rfl⟩)
  | ((with_reducible refine gLq ?_); refine wpList_load_mid (by rfl) 49 _ (by rfl) g (off + k * 7) (by rfl) A _ X1_.out Tryz.underlying49 rfl ZA.out ?_)
  | ((with_reducible refine gSq ?_); refine wp_st (by rfl) 49 _ _ (by rfl) w1.heap.size 0 _ 49 (.agg A.toArray) A (by rfl) (by rfl) (by rfl) (heap_alloc_new _ _) (by have := HAL.out; simp; omega) ZA.out HAO.out ?_; intro w2 hblk hfr; rw [ovr_all (by rw [HAL.out]; rfl)] at hblk; have HBW : Hid (Below w1.heap.size w1 w2) := new_store hfr; have HX2 : Hid (Tkx w w2 [.slice tp tn tc, .slice (some ⟨g, off, none⟩) rn rc] [.int .i64 xn, .int .i64 xt, .int .i64 xs, .int .i64 xe, .slice up un uc] w1.heap.size A) := ⟨HB1.out.next HBW.out, hblk⟩; clear hblk hfr))
 obtain ⟨rb, hrb⟩ : ∃ rb, w1.heap.size = rb := ⟨_, rfl⟩
 rw [hrb] at HX2 ⊢
 have HX : Hid (Tkx w w2 [.slice tp tn tc, .slice (some ⟨g, off, none⟩) rn rc] [.int .i64 xn, .int .i64 xt, .int .i64 xs, .int .i64 xe, .slice up un uc] rb A) := HX2.out
 have HX0 : Hid (Tkx w w2 [.slice tp tn tc, .slice (some ⟨g, off, none⟩) rn rc] [.int .i64 xn, .int .i64 xt, .int .i64 xs, .int .i64 xe, .slice up un uc] rb A) := HX2.out
 have HBE : Hid (Below w2.heap.size w2 w2) := Below.refl _ _
 have HPR : Hid (Prw w2 w2 (.slice none 0 0) []) := ⟨[], World.ownsRow_nil _ _ _ _, RdL.nil _⟩
 have HRC1 : Hid (∀ W, Tkx w W [.slice tp tn tc, .slice (some ⟨g, off, none⟩) rn rc] [.int .i64 xn, .int .i64 xt, .int .i64 xs, .int .i64 xe, .slice up un uc] rb A → W.cell? ⟨rb, 1, none⟩ = some (.slice q1 l1 j1)) := hid (fun W h => (cell_of_blk h.r 1).trans (by rw [List.getElem?_toArray]; exact HA1.out))
 have HRC2 : Hid (∀ W, Tkx w W [.slice tp tn tc, .slice (some ⟨g, off, none⟩) rn rc] [.int .i64 xn, .int .i64 xt, .int .i64 xs, .int .i64 xe, .slice up un uc] rb A → W.cell? ⟨rb, 2, none⟩ = some (.slice q2 l2 j2)) := hid (fun W h => (cell_of_blk h.r 2).trans (by rw [List.getElem?_toArray]; exact HA2.out))
 have HRC3 : Hid (∀ W, Tkx w W [.slice tp tn tc, .slice (some ⟨g, off, none⟩) rn rc] [.int .i64 xn, .int .i64 xt, .int .i64 xs, .int .i64 xe, .slice up un uc] rb A → W.cell? ⟨rb, 3, none⟩ = some (.slice q3 l3 j3)) := hid (fun W h => (cell_of_blk h.r 3).trans (by rw [List.getElem?_toArray]; exact HA3.out))
 clear HX2 HB1 c1 hrb
 go_cut [16, 17] from 45 to 63 (fun v _ wr => ∃ (pv : Option Addr) (nv cv : Nat), v = .slice pv nv cv ∧ Tkx w wr [.slice tp tn tc, .slice (some ⟨g, off, none⟩) rn rc] [.int .i64 xn, .int .i64 xt, .int .i64 xs, .int .i64 xe, .slice up un uc] rb A ∧ Below w2.heap.size w2 wr ∧ Prw w2 wr (.slice pv nv cv) ([]))
 case first =>
  go_wp2_with fail
  go_loopg [16, 17] 1 (fun gg v i wr => gg = 1 ∧ i = .int .i64 0 ∧ ∃ (pv : Option Addr) (nv cv : Nat), v = .slice pv nv cv ∧ Tkx w wr [.slice tp tn tc, .slice (some ⟨g, off, none⟩) rn rc] [.int .i64 xn, .int .i64 xt, .int .i64 xs, .int .i64 xe, .slice up un uc] rb A ∧ Below w2.heap.size w2 wr ∧ Prw w2 wr (.slice pv nv cv) ([]))
  case atStart => exact ⟨rfl, rfl, _, _, _, rfl, HX.out, HBE.out, HPR.out⟩
  case round =>
   obtain ⟨rfl, rfl, pv, nv, cv, rfl, hX, hBE, hPR⟩ := hrel
   have c1 : wr.cell? ⟨rb, 1, none⟩ = some (.slice q1 l1 j1) := HRC1.out _ hX
   have HX' := hid hX
   have HBE' := hid hBE
   have HPR' := hid hPR
   clear hX hBE hPR
   go_wp2_with fail
   all_goals
    go_meet
    case rel => exact ⟨pv, nv, cv, rfl, HX'.out, HBE'.out, HPR'.out⟩
 case rest =>
  obtain ⟨pv, nv, cv, rfl, hX, hBE, hPR⟩ := hcut
  clear HX HBE HPR
  have HX := hid hX
  have HBE := hid hBE
  have HPR := hid hPR
  clear hX hBE hPR
  go_upto_block 2 with fail
  go_cut [16, 18] from 64 to 82 (fun v _ wr => ∃ (pv : Option Addr) (nv cv : Nat), v = .slice pv nv cv ∧ Tkx w wr [.slice tp tn tc, .slice (some ⟨g, off, none⟩) rn rc] [.int .i64 xn, .int .i64 xt, .int .i64 xs, .int .i64 xe, .slice up un uc] rb A ∧ Below w2.heap.size w2 wr ∧ Prw w2 wr (.slice pv nv cv) ([]))
  case first =>
   go_wp2_with fail
   go_loopg [16, 18] 1 (fun gg v i wr => gg = 1 ∧ i = .int .i64 0 ∧ ∃ (pv : Option Addr) (nv cv : Nat), v = .slice pv nv cv ∧ Tkx w wr [.slice tp tn tc, .slice (some ⟨g, off, none⟩) rn rc] [.int .i64 xn, .int .i64 xt, .int .i64 xs, .int .i64 xe, .slice up un uc] rb A ∧ Below w2.heap.size w2 wr ∧ Prw w2 wr (.slice pv nv cv) ([]))
   case atStart => exact ⟨rfl, rfl, _, _, _, rfl, HX.out, HBE.out, HPR.out⟩
   case round =>
    obtain ⟨rfl, rfl, pv, nv, cv, rfl, hX, hBE, hPR⟩ := hrel
    have c1 : wr.cell? ⟨rb, 2, none⟩ = some (.slice q2 l2 j2) := HRC2.out _ hX
    have HX' := hid hX
    have HBE' := hid hBE
    have HPR' := hid hPR
    clear hX hBE hPR
    go_wp2_with fail
    all_goals
      go_meet
      case rel => exact ⟨pv, nv, cv, rfl, HX'.out, HBE'.out, HPR'.out⟩
  case rest =>
   obtain ⟨pv, nv, cv, rfl, hX, hBE, hPR⟩ := hcut
   clear HX HBE HPR
   have HX := hid hX
   have HBE := hid hBE
   have HPR := hid hPR
   clear hX hBE hPR
   go_upto_block 4 with fail
   go_cut [16, 19] from 83 to 102 (fun v _ wr => ∃ (pv : Option Addr) (nv cv : Nat), v = .slice pv nv cv ∧ Tkx w wr [.slice tp tn tc, .slice (some ⟨g, off, none⟩) rn rc] [.int .i64 xn, .int .i64 xt, .int .i64 xs, .int .i64 xe, .slice up un uc] rb A ∧ Below w2.heap.size w2 wr ∧ Prw w2 wr (.slice pv nv cv) (prt 2 rs[k]))
   case first =>
    go_wp2_with fail
    go_loopg [16, 19] (l3 + 1) (fun gg v i wr => ∃ (m : Nat) (pv : Option Addr) (nv cv : Nat), m ≤ l3 ∧ gg = l3 + 1 - m ∧ i = .int .i64 (m : Nat) ∧ v = .slice pv nv cv ∧ Tkx w wr [.slice tp tn tc, .slice (some ⟨g, off, none⟩) rn rc] [.int .i64 xn, .int .i64 xt, .int .i64 xs, .int .i64 xe, .slice up un uc] rb A ∧ Below w2.heap.size w2 wr ∧ Prw w2 wr (.slice pv nv cv) ((rs[k].m.take m).map Mn.p))
    case atStart => exact ⟨0, _, _, _, by omega, by omega, rfl, rfl, HX.out, HBE.out, by simpa using HPR.out⟩
    case round =>
      obtain ⟨m, pv, nv, cv, hm, rfl, rfl, rfl, hX, hBE, hPR⟩ := hrel
      have c1 : wr.cell? ⟨rb, 3, none⟩ = some (.slice q3 l3 j3) := HRC3.out _ hX
      have HX' := hid hX
      have HBE' := hid hBE
      have HPR' := hid hPR
      by_cases hlt : m < l3
      . have hmc : m < rs[k].m.length := by have := HL3.out; omega
        obtain ⟨g5, off5, e5, hrd5⟩ := HW3.out (by omega)
        obtain ⟨A5, r5a, o5a⟩ := hrd5 w2 HX0.out.bx.bel m hmc
        obtain ⟨B, z5, o5⟩ := rdM o5a
        have r5 : w2.rangeAt g5 (off5 + m * 20 + 2) B := fun jj uu hh => by have h9 := r5a (jj + 2) uu (by rw [z5]; simpa using hh); rw [show off5 + m * 20 + (jj + 2) = off5 + m * 20 + 2 + jj by omega] at h9; exact h9
        clear r5a o5a z5
        have hQ : q3 = some ⟨g5, off5, none⟩ := e5
        rw [hQ] at c1
        have HBF : Hid (∃ a b k v l r y n, B = ptC a b k v l r y n) := by obtain ⟨vc, z1, _⟩ := rdP o5; exact ⟨_, _, _, _, _, _, _, _, z1⟩
        have hBz : B.length = 18 := o5.1.symm
        have ZB : Hid ((Tryz.prog.info? 65).map (·.size) = some B.length) := by show _ = _; rw [hBz]; kernel_rfl
        have HRB : Hid (RdL w2 ([rs[k].m[m].p].map encP).flatten B) := by show RdL _ _ _; simpa using o5
        have X5 := hid (range_below r5 hBE)
        have HTK : Hid ((rs[k].m.take m).map Mn.p ++ [rs[k].m[m].p] = (rs[k].m.take (m + 1)).map Mn.p) := by show _ = _; rw [List.take_succ_eq_append_getElem hmc, List.map_append]; rfl
        have HNL : Hid (((rs[k].m.take m).map Mn.p).length + 1 ≤ 1000) := by show _ ≤ 1000; have := HZ.out; simp; omega
        have i1 : (0 : Int) ≤ (m : Int) := by omega
        have i2 : (m : Int) < (l3 : Int) := by omega
        clear hX hBE hPR hrd5 r5 o5 e5 hBz
        go_wp2_with (first
          | ((with_reducible show wpList _ _ _ (Oper.mk _ (.load 65 _) _ _ _ _ :: _) _ _); refine wpList_load_mid (by rfl) 65 _ (by rfl) g5 (off5 + m * 20 + 2) (by rfl) B _ X5.out Tryz.underlying65 rfl ZB.out ?_)
          | ((with_reducible show wpList _ _ _ (Oper.mk _ (.buildSlice _ _ _) _ _ _ _ :: _) _ _); refine wp_bsP (by rfl) _ (by rfl) B HBF.out (by rfl) ?_; have HB2 : Hid (Below wr.heap.size wr (wr.alloc (.cells B.toArray 65))) := (Below.refl _ _).alloc (Nat.le_refl _) _; have HCB : Hid (∀ j u, B[j]? = some u → (wr.alloc (.cells B.toArray 65)).cell? ((⟨wr.heap.size, 0, none⟩ : Addr).add j) = some u) := World.news_of_block (heap_alloc_new _ _))
          | ((with_reducible show wpList _ _ _ (Oper.mk (some 102) _ _ _ _ _ :: _) _ _); refine wp_appP0 (by rfl) (.tmp 94) (.tmp 101) (by rfl) w2 (.slice pv nv cv) ((rs[k].m.take m).map Mn.p) [rs[k].m[m].p] (by rfl) (HPR'.out.later HB2.out) (below_trans HBE'.out HB2.out HBE'.out.size) ⟨wr.heap.size, 0, none⟩ 1 B (by rfl) HRB.out HCB.out (by have := HNL.out; simpa using this) ?_; intro v9 w9 hp9 hb9; have HP9 := hid hp9; have HB9 := hid hb9; have HX9 : Hid _ := HX0.out.next hb9; clear hp9 hb9))
        obtain ⟨pv9, cv9, hv9⟩ := HP9.out.shape
        go_roundg (l3 + 1 - (m + 1))
        case rel => exact ⟨m + 1, pv9, _, cv9, by omega, rfl, by have h9 := HZ.out; show Value.int .i64 (wrap64 ((m : Int) + 1)) = _; rw [show wrap64 ((m : Int) + 1) = ((m + 1 : Nat) : Int) by unfold wrap64; omega], hv9, HX9.out, HB9.out, by rw [← HTK.out, ← hv9]; exact HP9.out⟩
        case measure => omega
      . obtain rfl : m = l3 := by omega
        have hw : (rs[k].m.take m).map Mn.p = prt 2 rs[k] := by
          unfold prt
          rw [if_neg (by decide), if_neg (by decide), if_pos rfl, List.take_of_length_le (by have := HL3.out; omega)]
        rw [hw] at HPR'
        clear hX hBE hPR hw
        go_wp2_with fail
        go_meet
        case rel => exact ⟨pv, nv, cv, rfl, HX'.out, HBE'.out, HPR'.out⟩
   case rest =>
    obtain ⟨pv, nv, cv, rfl, hX, hBE, hPR⟩ := hcut
    clear HX HBE HPR
    have HX := hid hX
    have HBE := hid hBE
    have HPR := hid hPR
    clear hX hBE hPR
    obtain ⟨pp9, pc9, hv9⟩ := HPR.out.shape
    have hnv : nv = (prt 2 rs[k]).length := by simp only [Value.slice.injEq] at hv9; exact hv9.2.1
    have HNV := hid hnv
    have hnp3 : nv ≤ 3 := by rw [hnv]; have h1 := HL1.out; have h2 := HL2.out; have h3 := HL3.out; have h4 := HZ.out; unfold prt; simp; omega
    have hR1 := HRR.out
    rw [← hnv] at hR1
    have HR1 := hid hR1
    have a2 : wrap64 ((nv : Int) - 1) = (nv : Int) - 1 := by unfold wrap64; omega
    clear hv9 hnv hR1 HRR
    by_cases hat : 0 ≤ at_ ∧ at_ < (nv : Int)
    . have HI3 := hid (fun W => V4.in_any at_ 0 ((nv : Int) - 1) true (by show _ ↔ _; simp; omega) W)
      obtain ⟨j, rfl⟩ : ∃ j : Nat, at_ = (j : Int) := ⟨at_.toNat, by omega⟩
      have hjn : j < nv := by omega
      have hjl : j < (prt 2 rs[k]).length := by rw [← HNV.out]; exact hjn
      have hR2 := HR1.out
      rw [if_neg (fun c => c hat), Int.toNat_natCast, getD_lt hjl] at hR2
      have c0 : wc.cell? ⟨w.heap.size, 0, none⟩ = some (.slice tp tn tc) := HX.out.bx.c 0 (by simp) 0
      have XX := hid (HX.out.bx.r 1 (by simp))
      obtain ⟨E1, hE1⟩ : ∃ E, evk ts ⟨xn, xt, xs, xe, xv⟩ = E := ⟨_, rfl⟩
      have h0 := HEF.out ⟨xn, xt, xs, xe, xv⟩ (.slice up un uc) wc HX.out.bx.bel (HUU.out.later HX.out.bx.bel)
      dsimp only at h0
      rw [hE1] at h0 hR2
      have HE0 := hid h0
      obtain ⟨EE, hEE⟩ : ∃ E, (if E1 ≠ 0 then E1 else efs ts kn) = E := ⟨_, rfl⟩
      obtain ⟨kp', kc', hkv, hkm, hka⟩ := rd_row lenX HKN.out
      have HKL : Hid (kn.length = kn2 ∧ kp' = kp) := by simp only [Value.slice.injEq] at hkv; exact ⟨hkv.2.1.symm, hkv.1.symm⟩
      have HKA := hid hka
      have HKM := hid hkm
      have HEE := hid hEE
      have HE1 := hid hE1
      have HR2 := hid hR2
      clear h0 hEE hE1 hR2 HR1 hat hkv hka hkm
      go_upto_block 6 with (first
        | (go_at_call_of 17 (Value.int IntKind.i64 ((j : Nat) : Int)); refine (HI3.out _).mono ?_; rintro e wc ⟨rfl, rfl⟩)
        | ((with_reducible show wpList _ _ _ (Oper.mk _ (.load 30 _) _ _ _ _ :: _) _ _); refine wpList_load_mid (by rfl) 30 _ (by rfl) (w.heap.size + 1) 0 (by rfl) [.int .i64 xn, .int .i64 xt, .int .i64 xs, .int .i64 xe, .slice up un uc] _ XX.out Tryz.underlying30 rfl (by kernel_rfl) ?_)
        | (go_at_call_of 18 (Value.slice tp tn tc); refine HE0.out.mono ?_; rintro e w3 ⟨rfl, hb3⟩; have HX3 := hid (HX.out.next hb3); have HB3 := hid hb3; clear hb3))
      go_cut [14, 20] from 113 to 129 (fun e _ wr => ∃ e1 : Int, e = .int .i64 e1 ∧ Tkx w wr [.slice tp tn tc, .slice (some ⟨g, off, none⟩) rn rc] [.int .i64 xn, .int .i64 xt, .int .i64 xs, .int .i64 xe, .slice up un uc] rb A ∧ Below wc.heap.size wc wr ∧ e1 = EE)
      case first =>
        go_wp2_with fail
        go_loopg [14, 20] (kn2 + 1) (fun gg e i wr => ∃ (m : Nat) (e1 : Int), m ≤ kn2 ∧ gg = kn2 + 1 - m ∧ i = .int .i64 (m : Nat) ∧ e = .int .i64 e1 ∧ Tkx w wr [.slice tp tn tc, .slice (some ⟨g, off, none⟩) rn rc] [.int .i64 xn, .int .i64 xt, .int .i64 xs, .int .i64 xe, .slice up un uc] rb A ∧ Below wc.heap.size wc wr ∧ (if e1 ≠ 0 then e1 else efs ts (kn.drop m)) = EE)
        case atStart => exact ⟨0, E1, by omega, by omega, rfl, rfl, HX3.out, HB3.out, by simpa using HEE.out⟩
        case round =>
          obtain ⟨m, e1, hm, rfl, rfl, rfl, hX, hBE, hee⟩ := hrel
          clear HX3 HB3 c0 XX HE0
          have HX' := hid hX
          have HBE' := hid hBE
          have HQ := hid hee
          clear hX hBE hee
          by_cases hlt : m < kn2
          . have d2 : decide ((m : Int) < (kn2 : Int)) = true := by simp; omega
            by_cases he : e1 = 0
            . subst he
              have hmc : m < kn.length := by rw [HKL.out.1]; exact hlt
              obtain ⟨g6, off6, e6, hrd6⟩ := HKA.out (by omega)
              obtain ⟨B, r6, o6⟩ := hrd6 w (Below.refl _ _) m hmc
              obtain ⟨yv, z6, o7⟩ := rdX o6
              have hP : kp = some ⟨g6, off6, none⟩ := HKL.out.2.symm.trans e6
              subst hP
              have HS : Hid (∀ w', Tkx w w' [.slice tp tn tc, .slice (some ⟨g, off, none⟩) rn rc] [.int .i64 xn, .int .i64 xt, .int .i64 xs, .int .i64 xe, .slice up un uc] rb A → (fun w' => Tkx w w' [.slice tp tn tc, .slice (some ⟨g, off, none⟩) rn rc] [.int .i64 xn, .int .i64 xt, .int .i64 xs, .int .i64 xe, .slice up un uc] rb A ∧ w'.cell? ⟨w.heap.size, 0, none⟩ = some (.slice tp tn tc) ∧ w'.rangeAt g6 (off6 + m * 5) B) w') := hid fun w' h => ⟨h, h.bx.c 0 (by simp) 0, range_below r6 h.bx.bel⟩
              have HD := hid (HX'.out.next (Below.drew (Below.refl _ _)))
              have hBz : B.length = 5 := o6.1.symm
              have ZE : Hid ((Tryz.prog.info? 30).map (·.size) = some B.length) := by show _ = _; rw [hBz]; kernel_rfl
              have h6 := fun W (hW : Below w.heap.size w W) => HEF.out kn[m] yv W hW (o7.later hW)
              have h7 : (Value.agg #[.int .i64 kn[m].n, .int .i64 kn[m].t, .int .i64 kn[m].st, .int .i64 kn[m].en, yv]) = .agg B.toArray := by rw [z6]
              rw [h7] at h6
              obtain ⟨E6, hE6⟩ : ∃ E, evk ts kn[m] = E := ⟨_, rfl⟩
              rw [hE6] at h6
              have HE6 := hid h6
              have HQ6 : Hid ((if E6 ≠ 0 then E6 else efs ts (kn.drop (m + 1))) = EE) := by
                have h := HQ.out
                rw [if_neg (by simp), List.drop_eq_getElem_cons hmc, efs, hE6] at h
                exact h
              have i1 : (0 : Int) ≤ (m : Int) := by omega
              have i2 : (m : Int) < (kn2 : Int) := by omega
              have HMW : Hid (wrap64 ((m : Int) + 1) = ((m + 1 : Nat) : Int)) := by have h1 := HKM.out; have h2 := HKL.out.1; show _ = _; unfold wrap64; omega
              clear r6 o6 o7 z6 h6 h7 hE6 hBz e6 hrd6 HQ
              go_wp2_with fail
              refine start_n (S := (fun w' => Tkx w w' [.slice tp tn tc, .slice (some ⟨g, off, none⟩) rn rc] [.int .i64 xn, .int .i64 xt, .int .i64 xs, .int .i64 xe, .slice up un uc] rb A ∧ w'.cell? ⟨w.heap.size, 0, none⟩ = some (.slice tp tn tc) ∧ w'.rangeAt g6 (off6 + m * 5) B)) 8 #[false, false, false, false, false, false, false, false] rfl rfl (by kernel_rfl) (HS.out _ HD.out) (fun hHeld => ?_)
              refine tkq (i := 0) (v := ?v1) rfl ?hy1 ?rest1; (case hy1 => intro w0 hSw; (try dsimp only at hSw); go_simp <;> (try (with_reducible rfl))); (try simp only [puts])
              refine tkq (i := 1) (v := ?v2) rfl ?hy2 ?rest2; (case hy2 => intro w0 hSw; (try dsimp only at hSw); go_simp <;> (try (with_reducible rfl))); (try simp only [puts])
              refine tkq (i := 2) (v := ?v3) rfl ?hy3 ?rest3; (case hy3 => intro w0 hSw; (try dsimp only at hSw); go_simp <;> (try (with_reducible rfl))); (try simp only [puts])
              refine tkq (i := 3) (v := ?v4) rfl ?hy4 ?rest4; (case hy4 => intro w0 hSw; (try dsimp only at hSw); go_simp <;> (try (with_reducible rfl))); (try simp only [puts])
              refine tkq (i := 4) (v := ?v5) rfl ?hy5 ?rest5; (case hy5 => intro w0 hSw; (try dsimp only at hSw); go_simp <;> (try (with_reducible rfl))); (try simp only [puts])
              refine tlq (i := 5) rfl (yieldsIf_load_mid (by rfl) 30 _ rfl g6 (off6 + m * 5) (by rfl) B _ (fun _ h => h.2.2) Tryz.underlying30 rfl ZE.out) ?_
              (try simp only [puts])
              refine wpAnyH_ready (rs := [6]) (by kernel_rfl) (by simp) ?_
              refine cons_mk rfl (fun K hK => ?_) AllReadyH.nil
              refine step_call2 18 ent_ef (by rfl) _ _ _ (by rfl) (.slice tp tn tc) (.agg B.toArray) (by rfl) (by rfl) _ (HE6.out _ HD.out.bx.bel) ?_
              rintro e w3 ⟨rfl, hb3⟩
              refine ⟨_, rfl, ?_⟩
              have HB3 := hid (HD.out.next hb3)
              have HBB := hid hb3
              clear hb3
              refine hK.out _ _ (HS.out _ HB3.out) (fun hHeld => ?_)
              clear hK K
              (try simp only [puts])
              refine tkq (i := 7) (v := ?v6) rfl ?hy6 ?rest6; (case hy6 => intro w0 hSw; (try dsimp only at hSw); go_simp <;> (try (with_reducible rfl))); (try simp only [puts])
              refine wpAnyH_done (by kernel_rfl) ?_ _
              go_wp2_with fail
              go_roundg (kn2 + 1 - (m + 1))
              case rel => exact ⟨m + 1, E6, by omega, rfl, by show Value.int .i64 (wrap64 ((m : Int) + 1)) = _; rw [HMW.out], rfl, HB3.out, below_trans HBE'.out (below_trans (Below.drew (Below.refl _ _)) HBB.out (by first | exact Nat.le_refl _ | simp)) HBE'.out.size, HQ6.out⟩
              case measure => omega
            . have d1 : (e1 == 0) = false := by simpa using he
              have HQ6 : Hid (e1 = EE) := by have h := HQ.out; rw [if_pos he] at h; exact h
              clear HQ he
              go_wp2_with fail
              go_meet
              case rel => exact ⟨e1, rfl, HX'.out, HBE'.out, HQ6.out⟩
          . obtain rfl : m = kn2 := by omega
            have HQ6 : Hid (e1 = EE) := by
              have h := HQ.out
              rw [List.drop_of_length_le (by rw [HKL.out.1]; exact Nat.le_refl _), efs] at h
              show e1 = EE
              split at h
              . exact h
              . rename_i c; rw [← h]; exact Classical.byContradiction c
            clear HQ
            go_wp2_with fail
            go_meet
            case rel => exact ⟨e1, rfl, HX'.out, HBE'.out, HQ6.out⟩
      case rest =>
        obtain ⟨e1, rfl, hX, hBE, hee⟩ := hcut
        subst hee
        have HX4 := hid hX
        have HPR4 := hid (HPR.out.later hBE)
        have HBE4 := hid (below_trans HBE.out hBE HBE.out.size)
        clear hX hBE HX HPR HBE HX3 HB3 c0 XX HE0
        obtain ⟨K2, hK2⟩ : ∃ K, knk ts (asq 2 j rs[k].w) kn = K := ⟨_, rfl⟩
        obtain ⟨t2, ht2⟩ : ∃ t, tkb ts (asq 2 j rs[k].w) ⟨xn, xt, xs, xe, xv⟩ kn (prt 2 rs[k])[j] = t := ⟨_, rfl⟩
        have hR3 := HR2.out
        rw [hK2, ht2] at hR3
        by_cases hz : e1 = 0
        . subst hz
          have hEz : E1 = 0 ∧ efs ts kn = 0 := by
            have h := HEE.out
            split at h
            . rename_i c; exact absurd h c
            . rename_i c; exact ⟨Classical.byContradiction c, h⟩
          rw [if_neg (fun c => c hEz.1), if_neg (fun c => c hEz.2)] at hR3
          have HEV := hid (efs_all kn hEz.2)
          have HR4 := hid hR3
          have HTA1 := hid (HTA0.out j hjl (HE1.out.trans hEz.1))
          have HAQ : Hid ((asq 2 j rs[k].w).length = l1 ∧ l1 ≤ l1) := by refine ⟨?_, Nat.le_refl _⟩; unfold asq; rw [if_neg (by decide)]; exact HL1.out
          have HAM : Hid (∀ m (h1 : m < (asq 2 j rs[k].w).length) (h2 : m < rs[k].w.length), (asq 2 j rs[k].w)[m] = rs[k].w[m]) := by intro m h1 h2; unfold asq; simp
          have cr : wc.cell? ⟨rb, 1, none⟩ = some (.slice q1 l1 j1) := HRC1.out _ HX4.out
          clear hR3 hEz HR2 HEE HE1 HTA0
          have hK3 := hK2
          unfold knk at hK3
          rw [HKL.out.1, HAQ.out.1] at hK3
          by_cases hln : kn2 = l1
          . rw [if_neg (fun c => c hln)] at hK3
            have HK3 := hid hK3
            have HK2 := hid hK2
            have HT2 := hid ht2
            have d3 : ((kn2 : Int) != ((l1 : Nat) : Int)) = false := by simp [hln]
            have HLN := hid hln
            clear hK3 hK2 ht2 hln
            obtain ⟨tp', tc', htv, htm, hta⟩ := rd_row lenY HTT.out
            have HTL : Hid (ts.length = tn ∧ tp' = tp) := by simp only [Value.slice.injEq] at htv; exact ⟨htv.2.1.symm, htv.1.symm⟩
            have HTA := hid hta
            clear htv htm hta
            go_wp2_with fail
            go_loopg [22] (kn2 + 1) (fun gg i wr => ∃ m : Nat, m ≤ kn2 ∧ gg = kn2 + 1 - m ∧ i = .int .i64 (m : Nat) ∧ Tkx w wr [.slice tp tn tc, .slice (some ⟨g, off, none⟩) rn rc] [.int .i64 xn, .int .i64 xt, .int .i64 xs, .int .i64 xe, .slice up un uc] rb A ∧ Below wc.heap.size wc wr ∧ kfs ts (kn.drop m) ((asq 2 j rs[k].w).drop m) = K2)
            case atStart => exact ⟨0, by omega, by omega, rfl, HX4.out, Below.refl _ _, by simpa using HK3.out⟩
            case round =>
              obtain ⟨m, hm, rfl, rfl, hX, hBE, hkf⟩ := hrel
              clear cr
              have HX' := hid hX
              have HBE' := hid hBE
              have HKF := hid hkf
              clear hkf hBE
              by_cases hlt : m < kn2
              . have hmc : m < kn.length := by rw [HKL.out.1]; exact hlt
                have hma : m < (asq 2 j rs[k].w).length := by rw [HAQ.out.1, ← HLN.out]; exact hlt
                have hmw : m < rs[k].w.length := by have h1 := HAQ.out; have h2 := HL1.out; omega
                obtain ⟨g6, off6, e6, hrd6⟩ := HKA.out (by omega)
                obtain ⟨B, r6, o6⟩ := hrd6 wr hX.bx.bel m hmc
                obtain ⟨yv, z6, o7⟩ := rdX o6
                have n1 := r6 1 (.int .i64 kn[m].t) (by rw [z6]; rfl)
                obtain ⟨i, hi, ei, ev1, ev2⟩ := evk_ok (HEV.out _ (List.getElem_mem hmc))
                rw [ei] at n1
                obtain ⟨gt, oft, et, hrdt⟩ := HTA.out (by omega)
                obtain ⟨UT, rt, ot⟩ := hrdt wr hX.bx.bel i hi
                obtain ⟨fv, zt, ot2⟩ := rdY ot
                have n2 := rt 0 (.string ts[i].n) (by rw [zt]; rfl)
                obtain ⟨g5, off5, e5, hrd5⟩ := HW1.out (by omega)
                obtain ⟨C5, r5, o5⟩ := hrd5 wr hX.bx.bel m hmw
                obtain ⟨vc, z5, o52⟩ := rdP o5
                have n3 := r5 1 (.string rs[k].w[m].ty) (by rw [z5]; rfl)
                simp only [Nat.add_zero] at n2
                have hP : kp = some ⟨g6, off6, none⟩ := HKL.out.2.symm.trans e6
                have hPt : tp = some ⟨gt, oft, none⟩ := HTL.out.2.symm.trans et
                subst hP hPt e5
                have c0 : wr.cell? ⟨w.heap.size, 0, none⟩ = some (.slice (some ⟨gt, oft, none⟩) tn tc) := hX.bx.c 0 (by simp) 0
                have cr : wr.cell? ⟨rb, 1, none⟩ = some (.slice (some ⟨g5, off5, none⟩) l1 j1) := HRC1.out _ hX
                have hst : (if seq ts[i].n rs[k].w[m].ty = true then kfs ts (kn.drop (m + 1)) ((asq 2 j rs[k].w).drop (m + 1)) else 13) = K2 := by
                  have h := HKF.out
                  rw [List.drop_eq_getElem_cons hmc, List.drop_eq_getElem_cons hma, kfs, ei, Int.toNat_natCast, getD_lt hi] at h
                  first
                   | (rw [HAM.out m hma hmw] at h; exact h)
                   | ((have e9 : (asq 2 j rs[k].w) = rs[k].w := by (unfold asq; rw [if_neg (by decide)])); simp only [e9] at h ⊢; exact h)
                have i1 : (0 : Int) ≤ (m : Int) := by omega
                have i2 : (m : Int) < (kn2 : Int) := by omega
                have i3 : (0 : Int) ≤ (i : Int) := by omega
                have i4 : (i : Int) < (tn : Int) := by have h := HTL.out.1; omega
                have i5 : (m : Int) < (l1 : Int) := by have h := HL1.out; omega
                have HMW : Hid (wrap64 ((m : Int) + 1) = ((m + 1 : Nat) : Int)) := by have h1 := HKM.out; have h2 := HKL.out.1; show _ = _; unfold wrap64; omega
                obtain ⟨na, hna⟩ : ∃ d, ts[i].n = d := ⟨_, rfl⟩
                obtain ⟨nb, hnb⟩ : ∃ d, rs[k].w[m].ty = d := ⟨_, rfl⟩
                rw [hna] at n2 hst
                rw [hnb] at n3 hst
                clear r6 o6 z6 o7 rt ot zt ot2 r5 o5 z5 o52 e6 et hrd6 hrdt hrd5 hna hnb ei ev1 ev2 hX HKF
                cases hq : seq na nb
                . have hq2 : (na.toList == nb.toList) = false := hq
                  rw [if_neg (by rw [hq]; decide)] at hst
                  subst hst
                  have hR5 := HR4.out
                  rw [if_pos (by decide)] at hR5
                  subst hR5
                  clear hq HR4
                  go_wp2_with fail
                  go_quiet (fail)
                  go_wp2_with fail
                  go_ret2
                  exact ⟨rfl, (HX'.out.next (below_drawn (Below.refl _ _) _)).bx.bel⟩
                . have hq2 : (na.toList == nb.toList) = true := hq
                  rw [if_pos hq] at hst
                  have HST := hid hst
                  clear hq hst
                  go_wp2_with fail
                  go_quiet (fail)
                  go_wp2_with fail
                  go_roundg (kn2 + 1 - (m + 1))
                  case rel => exact ⟨m + 1, by omega, rfl, by show Value.int .i64 (wrap64 ((m : Int) + 1)) = _; rw [HMW.out], HX'.out.next (below_drawn (Below.refl _ _) _), below_trans HBE'.out (below_drawn (Below.refl _ _) _) HBE'.out.size, HST.out⟩
                  case measure => omega
              . obtain rfl : m = kn2 := by omega
                have hK0 : K2 = 0 := by
                  have h := HKF.out
                  rw [List.drop_of_length_le (by rw [HKL.out.1]; exact Nat.le_refl _), kfs_nil] at h
                  exact h.symm
                subst hK0
                have hR5 := HR4.out
                rw [if_neg (by decide)] at hR5
                subst hR5
                have hPR := HPR4.out.later HBE'.out
                have hRD := hPR.rd (below_trans HBE4.out HBE'.out HBE4.out.size)
                obtain ⟨pp, pc, hpv, hpm, hpa⟩ := rd_row lenP hRD
                simp only [Value.slice.injEq] at hpv
                obtain ⟨gp, ofp, ep, hrdp⟩ := hpa (by omega)
                obtain ⟨PA, rp9, op9⟩ := hrdp wr (Below.refl _ _) j hjl
                have hP : pv = some ⟨gp, ofp, none⟩ := hpv.1.trans ep
                subst hP
                obtain ⟨XV, hXV⟩ : ∃ l : List Value, [.int .i64 xn, .int .i64 xt, .int .i64 xs, .int .i64 xe, .slice up un uc] = l := ⟨_, rfl⟩
                have HS : Hid (∀ w', Below wr.heap.size wr w' → (fun w' => Below wr.heap.size wr w' ∧ w'.cell? ⟨w.heap.size, 0, none⟩ = some (.slice tp tn tc) ∧ w'.rangeAt rb 0 A ∧ w'.rangeAt gp (ofp + j * 18) PA ∧ w'.rangeAt (w.heap.size + 1) 0 XV) w') := hid fun w' h => ⟨h, (hX.next h).bx.c 0 (by simp) 0, range_blk (hX.next h).r, range_below rp9 h, by rw [← hXV]; exact (hX.next h).bx.r 1 (by simp)⟩
                have ZX : Hid ((Tryz.prog.info? 30).map (·.size) = some XV.length) := by show _ = _; rw [← hXV]; kernel_rfl
                have hXA : (Value.agg #[.int .i64 xn, .int .i64 xt, .int .i64 xs, .int .i64 xe, .slice up un uc]) = .agg XV.toArray := by rw [← hXV]
                have HD : Hid (Below wr.heap.size wr wr.drew) := Below.drew (Below.refl _ _)
                have hPz : PA.length = 18 := op9.1.symm
                have ZP : Hid ((Tryz.prog.info? 65).map (·.size) = some PA.length) := by show _ = _; rw [hPz]; kernel_rfl
                have h9 := fun W (hW : Below wr.heap.size wr W) => HTA1.out (knk_ok HDS.out HK2.out HEV.out) W (below_trans hX.bx.bel hW hX.bx.bel.size) PA (op9.below hW)
                rw [HT2.out, hXA] at h9
                have HT9 := hid h9
                have i1 : (0 : Int) ≤ (j : Int) := by omega
                have i2 : (j : Int) < (nv : Int) := by omega
                clear hPR hRD hpv hpm hpa hrdp rp9 op9 ep hPz h9 hX HR4 HKF hXV hXA
                go_wp2_with fail
                refine start_n (S := (fun w' => Below wr.heap.size wr w' ∧ w'.cell? ⟨w.heap.size, 0, none⟩ = some (.slice tp tn tc) ∧ w'.rangeAt rb 0 A ∧ w'.rangeAt gp (ofp + j * 18) PA ∧ w'.rangeAt (w.heap.size + 1) 0 XV)) 12 #[false, false, false, false, false, false, false, false, false, false, false, false] rfl rfl (by kernel_rfl) (HS.out _ HD.out) (fun hHeld => ?_)
                refine tkq (i := 0) (v := ?v7) rfl ?hy7 ?rest7; (case hy7 => intro w0 hSw; (try dsimp only at hSw); go_simp <;> (try (with_reducible rfl))); (try simp only [puts])
                refine tkq (i := 1) (v := ?v8) rfl ?hy8 ?rest8; (case hy8 => intro w0 hSw; (try dsimp only at hSw); go_simp <;> (try (with_reducible rfl))); (try simp only [puts])
                refine tkq (i := 3) (v := ?v9) rfl ?hy9 ?rest9; (case hy9 => intro w0 hSw; (try dsimp only at hSw); go_simp <;> (try (with_reducible rfl))); (try simp only [puts])
                refine tkq (i := 4) (v := ?v10) rfl ?hy10 ?rest10; (case hy10 => intro w0 hSw; (try dsimp only at hSw); go_simp <;> (try (with_reducible rfl))); (try simp only [puts])
                refine tkq (i := 5) (v := ?v11) rfl ?hy11 ?rest11; (case hy11 => intro w0 hSw; (try dsimp only at hSw); go_simp <;> (try (with_reducible rfl))); (try simp only [puts])
                refine tkq (i := 8) (v := ?v12) rfl ?hy12 ?rest12; (case hy12 => intro w0 hSw; (try dsimp only at hSw); go_simp <;> (try (with_reducible rfl))); (try simp only [puts])
                refine tlq (i := 2) rfl (yieldsIf_load_mid (by rfl) 49 _ rfl rb (0) (by rfl) A _ (fun _ h => h.2.2.1) Tryz.underlying49 rfl ZA.out) ?_
                (try simp only [puts])
                refine tlq (i := 6) rfl (yieldsIf_load_mid (by rfl) 65 _ rfl gp (ofp + j * 18) (by rfl) PA _ (fun _ h => h.2.2.2.1) Tryz.underlying65 rfl ZP.out) ?_
                (try simp only [puts])
                refine tlq (i := 7) rfl (yieldsIf_load_mid (by rfl) 30 _ rfl (w.heap.size + 1) (0) (by rfl) XV _ (fun _ h => h.2.2.2.2) Tryz.underlying30 rfl ZX.out) ?_
                (try simp only [puts])
                refine wpAnyH_ready (rs := [9]) (by kernel_rfl) (by simp) ?_
                refine cons_mk rfl (fun K hK => ?_) AllReadyH.nil
                refine step_call5 19 ent_tkn (by rfl) _ _ _ _ _ _ (by rfl) (.slice tp tn tc) (.agg A.toArray) (.agg PA.toArray) (.agg XV.toArray) (.slice kp m kc) (by rfl) (by rfl) (by rfl) (by rfl) (by rfl) _ (HT9.out _ HD.out) ?_
                rintro e w3 ⟨rfl, hb3⟩
                refine ⟨_, rfl, ?_⟩
                have HB3 := hid (below_trans HD.out hb3 HD.out.size)
                clear hb3
                refine hK.out _ _ (HS.out _ HB3.out) (fun hHeld => ?_)
                clear hK K
                (try simp only [puts])
                refine tkq (i := 10) (v := ?v13) rfl ?hy13 ?rest13; (case hy13 => intro w0 hSw; (try dsimp only at hSw); go_simp <;> (try (with_reducible rfl))); (try simp only [puts])
                refine tkq (i := 11) (v := ?v14) rfl ?hy14 ?rest14; (case hy14 => intro w0 hSw; (try dsimp only at hSw); go_simp <;> (try (with_reducible rfl))); (try simp only [puts])
                refine wpAnyH_done (by kernel_rfl) ?_ _
                go_wp2_with fail
                go_ret2
                exact ⟨rfl, below_trans HX'.out.bx.bel HB3.out HX'.out.bx.bel.size⟩
          . rw [if_pos hln] at hK3
            subst hK3
            have hR5 := HR4.out
            rw [if_pos (by decide)] at hR5
            subst hR5
            have d3 : ((kn2 : Int) != ((l1 : Nat) : Int)) = true := by simp; omega
            clear HR4 hK2 ht2 hln
            go_wp2_with fail
            go_ret2
            exact ⟨rfl, HX4.out.bx.bel⟩
        . have d1 : (e1 != 0) = true := by simpa using hz
          have hR4 : (false, e1) = R := by
            have h := HEE.out
            have h2 := hR3
            split at h
            . rename_i c; rw [if_pos c] at h2; rw [← h]; exact h2
            . rename_i c; rw [if_neg c, h, if_pos hz] at h2; exact h2
          subst hR4
          clear hR3 HR2 HEE hz
          go_wp2_with fail
          go_ret2
          exact ⟨rfl, HX4.out.bx.bel⟩
    . have HI3 := hid (fun W => V4.in_any at_ 0 ((nv : Int) - 1) false (by show _ ↔ _; simp; omega) W)
      have hR2 := HR1.out
      rw [if_pos hat] at hR2
      subst hR2
      clear HR1 hat hnp3
      go_wp2_with (go_at_call_of 17 (Value.int IntKind.i64 at_); refine (HI3.out _).mono ?_; rintro e wc ⟨rfl, rfl⟩)
      go_ret2
      exact ⟨rfl, HX.out.bx.bel⟩
end Go.Proofs.YthndlfdbmljkhaaGreatDoor.Chk
