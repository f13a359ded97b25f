/-
  The value that a side stands for, by the program.
-/
import Derived.Test.YtnajcoikcoegoaaDoorV4K
namespace Go.Proofs.YtnajcoikcoegoaaDoor.Chk
open Go.ChangeShapes Go.WideShapes Go.ChangeAt Go.RowKit Go.Maps
set_option linter.unusedVariables false
set_option linter.unusedSimpArgs false
set_option maxRecDepth 20000
/-- Structs in new blocks, one behind the other, and what was there ahead of them. -/
structure Bxs (w0 W : World) (l : List (List Value × TypeId)) : Prop where
  bel : Below w0.heap.size w0 W
  b : ∀ i (hi : i < l.length), W.heap[w0.heap.size + i]? = some (.cells l[i].1.toArray l[i].2 (0, 0))
theorem Bxs.nil (w : World) : Bxs w w [] := ⟨Below.refl _ _, fun i hi => by simp at hi⟩
theorem Bxs.snoc {w0 W : World} {l : List (List Value × TypeId)} (h : Bxs w0 W l) (hs : W.heap.size = w0.heap.size + l.length) (us : List Value) (t : TypeId) : Bxs w0 (W.alloc (.cells us.toArray t)) (l ++ [(us, t)]) := by
  refine ⟨h.bel.alloc h.bel.size _, fun i hi => ?_⟩
  by_cases c : i < l.length
  · rw [Below.heap_alloc _ _ _ (by omega), List.getElem_append_left c]
    exact h.b i c
  · have e : i = l.length := by simp at hi; omega
    subst e
    rw [← hs]
    simpa using heap_alloc_new W (.cells us.toArray t)
theorem Bxs.next {w0 W W' : World} {l : List (List Value × TypeId)} (h : Bxs w0 W l) (hb : Below W.heap.size W W') : Bxs w0 W' l :=
  ⟨below_trans h.bel hb h.bel.size, fun i hi => (hb.block _ (blk_lt (h.b i hi))).trans (h.b i hi)⟩
theorem Bxs.c {w0 W : World} {l : List (List Value × TypeId)} (h : Bxs w0 W l) (i : Nat) (hi : i < l.length) (j : Nat) : W.cell? ⟨w0.heap.size + i, j, none⟩ = l[i].1[j]? := by rw [cell_of_blk (h.b i hi)]; simp
theorem Bxs.r {w0 W : World} {l : List (List Value × TypeId)} (h : Bxs w0 W l) (i : Nat) (hi : i < l.length) : W.rangeAt (w0.heap.size + i) 0 l[i].1 := range_blk (h.b i hi)
theorem bxs2 (w : World) (us vs : List Value) (t u : TypeId) : Bxs w ((w.alloc (.cells us.toArray t)).alloc (.cells vs.toArray u)) [(us, t), (vs, u)] := (((Bxs.nil w).snoc (by simp) us t).snoc (by simp) vs u)
theorem bxs3 (w : World) (us vs ws : List Value) (t u x : TypeId) : Bxs w (((w.alloc (.cells us.toArray t)).alloc (.cells vs.toArray u)).alloc (.cells ws.toArray x)) [(us, t), (vs, u), (ws, x)] := (((Bxs.nil w).snoc (by simp) us t).snoc (by simp) vs u).snoc (by simp) ws x
theorem bxs4 (w : World) (us vs ws zs : List Value) (t u x y : TypeId) : Bxs w ((((w.alloc (.cells us.toArray t)).alloc (.cells vs.toArray u)).alloc (.cells ws.toArray x)).alloc (.cells zs.toArray y)) [(us, t), (vs, u), (ws, x), (zs, y)] := ((((Bxs.nil w).snoc (by simp) us t).snoc (by simp) vs u).snoc (by simp) ws x).snoc (by simp) zs y
abbrev snC (tv : Value) (o : Ev) (ov wv kv : Value) : List Value := [tv, .int .i64 o.n, .int .i64 o.t, .int .i64 o.st, .int .i64 o.en, ov, wv, kv]
abbrev snV (tv : Value) (o : Ev) (ov wv kv : Value) : Value := .agg #[tv, .int .i64 o.n, .int .i64 o.t, .int .i64 o.st, .int .i64 o.en, ov, wv, kv]
/-- What a pattern looks at, in memory. -/
structure Scn (w : World) (ts : List Tp) (ws : List Pt) (own : Ev) (kn : List Ev) (tv ov wv kv : Value) : Prop where
  rt : Rd w (.row 72 2 (ts.map encY)) tv
  ro : Rd w (.row 29 3 (own.v.map encV)) ov
  rw : Rd w (.row 47 18 (ws.map encP)) wv
  rk : Rd w (.row 40 5 (kn.map encX)) kv
theorem Scn.later {w W : World} {ts : List Tp} {ws : List Pt} {own : Ev} {kn : List Ev} {tv ov wv kv : Value} (h : Scn w ts ws own kn tv ov wv kv) (hb : Below w.heap.size w W) : Scn W ts ws own kn tv ov wv kv := ⟨h.rt.later hb, h.ro.later hb, h.rw.later hb, h.rk.later hb⟩
/-- Types that may be, an event that may be, and those of whens. -/
structure Sok (ts : List Tp) (ws : List Pt) (own : Ev) (kn : List Ev) : Prop where
  ty : ∀ i (hi : i < ts.length), tyk ts[i].n ts[i].f = 0
  ev : evk ts own = 0
  kn : Kok ts ws kn
set_option maxHeartbeats 8000000 in
theorem eqFld_any (A : List Value) (n nm : ByteArray) (k : Int) (b : Nat) (w : World) (hA : A = [.string n, .int .i64 k]) (h : w.cell? ⟨b, 0, none⟩ = some (.string nm)) : Calls Tryd.prog 90 #[.agg A.toArray, .pointer (some ⟨b, 0, none⟩)] w fun e w' => e = .returned (.bool (seq n nm)) ∧ Below w.heap.size w w' := by
  have hB : BlkT w (w.alloc (.cells A.toArray 69)) A 69 := BlkT.start w _ _
  have c0 : (w.alloc (.cells A.toArray 69)).cell? ⟨w.heap.size, 0, none⟩ = some (.string n) := by rw [hB.c 0, hA]; rfl
  have c4 : (w.alloc (.cells A.toArray 69)).cell? ⟨b, 0, none⟩ = some (.string nm) := (hB.bel.cell (p := ⟨b, 0, none⟩) (World.block_lt_of_cell? _ _ h)).trans h
  have HB := hid hB.bel
  clear hB h hA
  unfold seq
  go_enter Tryd.func90, Tryd.ntmps90
  go_wp2_with fail
  go_ret
  exact ⟨rfl, HB.out⟩
set_option maxHeartbeats 8000000 in
theorem indexFd_any (ws : List Fd) (v : Value) (nm : ByteArray) (b : Nat) (w : World) (h : Rd w (.row 69 2 (ws.map encF)) v) (hn : w.cell? ⟨b, 0, none⟩ = some (.string nm)) :
    Calls Tryd.prog 46 #[v, .func (.func 90) #[] #[.pointer (some ⟨b, 0, none⟩)]] w fun e w' => e = .returned (.int .i64 (fdq ws nm)) ∧ Below w.heap.size w w' := by
  obtain ⟨p, cap, rfl, hmx, hat⟩ := rd_row lenF h
  have HAT : Hid (At encF 2 w p ws) := hat
  obtain ⟨n, hnl⟩ : ∃ n, ws.length = n := ⟨_, rfl⟩
  have HN := hid hnl
  have HNM := hid hn
  rw [hnl] at hmx ⊢
  clear h hat hnl hn
  go_enter Tryd.func46, Tryd.ntmps46
  go_wp2_with fail
  go_loopg [8] (n + 1) (fun gg i wr => ∃ k : Nat, k ≤ n ∧ gg = n + 1 - k ∧ i = .int .i64 (k : Nat) ∧ (∀ (j : Nat) (hj : j < ws.length), j < k → seq ws[j].n nm = false) ∧ Below w.heap.size w wr)
  case atStart => exact ⟨0, by omega, by omega, rfl, fun j _ h => by omega, Below.refl _ _⟩
  case round =>
    obtain ⟨k, hk, rfl, rfl, hno, hB⟩ := hrel
    have HB := hid hB
    by_cases hlt : k < n
    · have hkc : k < ws.length := by have := HN.out; omega
      obtain ⟨g, off, rfl, hrd⟩ := HAT.out (by omega)
      obtain ⟨A, r1, o1⟩ := hrd wr hB k hkc
      have z1 := rdF o1
      have hAz : A.length = 2 := o1.1.symm
      have ZA : Hid ((Tryd.prog.info? 69).map (·.size) = some A.length) := by show _ = _; rw [hAz]; kernel_rfl
      have HCM := hid (eqFld_any A ws[k].n nm ws[k].k b wr z1 ((hB.cell (p := ⟨b, 0, none⟩) (World.block_lt_of_cell? _ _ HNM.out)).trans HNM.out))
      have HNO := hid hno
      obtain ⟨q, hq⟩ : ∃ q, seq ws[k].n nm = q := ⟨_, rfl⟩
      have HQK : Hid (seq ws[k].n nm = q) := hq
      rw [hq] at HCM
      have X1_ := hid r1
      have i1 : (0 : Int) ≤ (k : Int) := by omega
      have i2 : (k : Int) < (n : Int) := by omega
      clear hno hB hrd o1 z1 r1 hq hAz
      cases q with
      | true =>
        go_wp2_with (first
          | ((with_reducible show wpList _ _ _ (Oper.mk _ (.load _ _) _ _ _ _ :: _) _ _); refine wpList_load_mid (by rfl) 69 _ (by rfl) g (off + k * 2) (by rfl) A _ X1_.out Tryd.underlying69 rfl ZA.out ?_)
          | (go_at_call 90; refine HCM.out.mono ?_; rintro e w2 ⟨rfl, hb2⟩; have HB2 := hid (below_trans HB.out hb2 HB.out.size); clear hb2))
        go_ret
        exact ⟨ret_int (by show (k : Int) = ixq _ _ _; rw [ixq_hit (q := fun t : Fd => seq t.n nm) ws 0 k hkc (fun j hj => HNO.out j (by omega) hj) (by exact HQK.out)]; simp), HB2.out⟩
      | false =>
        go_wp2_with (first
          | ((with_reducible show wpList _ _ _ (Oper.mk _ (.load _ _) _ _ _ _ :: _) _ _); refine wpList_load_mid (by rfl) 69 _ (by rfl) g (off + k * 2) (by rfl) A _ X1_.out Tryd.underlying69 rfl ZA.out ?_)
          | (go_at_call 90; refine HCM.out.mono ?_; rintro e w2 ⟨rfl, hb2⟩; have HB2 := hid (below_trans HB.out hb2 HB.out.size); clear hb2))
        go_roundg (n + 1 - (k + 1))
        case rel =>
          refine ⟨k + 1, by omega, rfl, by go_num, fun j hj hjk => ?_, HB2.out⟩
          by_cases c : j < k
          · exact HNO.out j hj c
          · obtain rfl : j = k := by omega
            exact HQK.out
        case measure => omega
    · obtain rfl : k = n := by omega
      have HR := hid (show fdq ws nm = -1 from ixq_none _ _ (fun x hx => by
        obtain ⟨j, hj, rfl⟩ := List.getElem_of_mem hx
        exact hno j hj (by have := HN.out; omega)))
      clear hno hB
      go_wp2_with fail
      go_ret
      exact ⟨ret_int HR.out.symm, HB.out⟩
set_option maxHeartbeats 16000000 in
theorem field_s (ts : List Tp) (ws : List Pt) (own : Ev) (kn : List Ev) (tv ov wv kv : Value) (hty : ∀ i (hi : i < ts.length), tyk ts[i].n ts[i].f = 0) (x : Ev) (u : Value) (nm : ByteArray) (w : World) (hs : Scn w ts ws own kn tv ov wv kv) (hu : Rd w (.row 29 3 (x.v.map encV)) u) (hx : evk ts x = 0) (hf : 0 ≤ fdq (ts.getD x.t.toNat dT).f nm) :
    Calls Tryd.prog 80 #[snV tv own ov wv kv, evV x u, .string nm] w fun e w' => e = .returned (V4.vV (fvl ts x nm)) ∧ Below w.heap.size w w' := by
  obtain ⟨i, hi, e1, e1a, e1b⟩ := evk_ok hx
  obtain ⟨k, hk, e4, e5, e5a, e5b⟩ := fvl_ok hx hf
  clear e1a e1b e5a e5b
  have et : ts.getD x.t.toNat dT = ts[i] := by rw [e1, Int.toNat_natCast]; exact getD_lt hi _
  rw [et] at e4
  rw [e5]
  obtain ⟨tp, tn, tc, htv⟩ := rd_shape hs.rt
  obtain ⟨op, on2, oc, hov⟩ := rd_shape hs.ro
  obtain ⟨wp, wn, wc, hwv⟩ := rd_shape hs.rw
  obtain ⟨kp, kn2, kc, hkv⟩ := rd_shape hs.rk
  have hT := hs.rt
  subst htv hov hwv hkv
  obtain ⟨tp', tc', e0, m1, hat⟩ := rd_row lenY hT
  clear m1
  simp only [Value.slice.injEq] at e0
  obtain ⟨e01, e02, e03⟩ := e0
  obtain ⟨g, off, e06, hrd⟩ := hat (by omega)
  obtain ⟨up', uc', e10, m2, hau⟩ := rd_row lenV hu
  clear m2
  obtain ⟨up, un, uc, eu⟩ := rd_shape hu
  rw [eu] at e10
  simp only [Value.slice.injEq] at e10
  obtain ⟨e11, e12, e13⟩ := e10
  obtain ⟨g2, off2, e16, hrv⟩ := hau (by omega)
  subst eu
  obtain rfl : tp = some ⟨g, off, none⟩ := e01.trans e06
  obtain rfl : up = some ⟨g2, off2, none⟩ := e11.trans e16
  obtain ⟨xn, xt, xs, xe, xv⟩ := x
  obtain ⟨on, ot, ost, oen, ovl⟩ := own
  simp only at e1 hk e5 hrv e12 ⊢
  subst e1
  have hB : Bxs w ((((w.alloc (.cells #[.slice (some ⟨g, off, none⟩) tn tc, .int .i64 on, .int .i64 ot, .int .i64 ost, .int .i64 oen, .slice op on2 oc, .slice wp wn wc, .slice kp kn2 kc] 80)).alloc (.cells #[.int .i64 xn, .int .i64 (i : Nat), .int .i64 xs, .int .i64 xe, .slice (some ⟨g2, off2, none⟩) un uc] 40)).alloc (.cells #[.string nm] 9)).alloc (.cells #[.int .i64 0, .int .i64 0, .string ⟨#[]⟩] 29)) [([.slice (some ⟨g, off, none⟩) tn tc, .int .i64 on, .int .i64 ot, .int .i64 ost, .int .i64 oen, .slice op on2 oc, .slice wp wn wc, .slice kp kn2 kc], 80), ([.int .i64 xn, .int .i64 (i : Nat), .int .i64 xs, .int .i64 xe, .slice (some ⟨g2, off2, none⟩) un uc], 40), ([.string nm], 9), ([.int .i64 0, .int .i64 0, .string ⟨#[]⟩], 29)] := bxs4 w _ _ _ _ _ _ _ _
  obtain ⟨A, r1, o1⟩ := hrd _ hB.bel i hi
  obtain ⟨fv, z1, o2⟩ := rdY o1
  rw [z1] at r1
  have t0 : ((((w.alloc (.cells #[.slice (some ⟨g, off, none⟩) tn tc, .int .i64 on, .int .i64 ot, .int .i64 ost, .int .i64 oen, .slice op on2 oc, .slice wp wn wc, .slice kp kn2 kc] 80)).alloc (.cells #[.int .i64 xn, .int .i64 (i : Nat), .int .i64 xs, .int .i64 xe, .slice (some ⟨g2, off2, none⟩) un uc] 40)).alloc (.cells #[.string nm] 9)).alloc (.cells #[.int .i64 0, .int .i64 0, .string ⟨#[]⟩] 29)).cell? ⟨g, off + i * 2, none⟩ = some (.string ts[i].n) := by simpa using r1 0 _ rfl
  have t1 : ((((w.alloc (.cells #[.slice (some ⟨g, off, none⟩) tn tc, .int .i64 on, .int .i64 ot, .int .i64 ost, .int .i64 oen, .slice op on2 oc, .slice wp wn wc, .slice kp kn2 kc] 80)).alloc (.cells #[.int .i64 xn, .int .i64 (i : Nat), .int .i64 xs, .int .i64 xe, .slice (some ⟨g2, off2, none⟩) un uc] 40)).alloc (.cells #[.string nm] 9)).alloc (.cells #[.int .i64 0, .int .i64 0, .string ⟨#[]⟩] 29)).cell? ⟨g, off + i * 2 + 1, none⟩ = some fv := r1 1 _ rfl
  have hVF := indexFd_any ts[i].f fv nm (w.heap.size + 2) _ o2 (hB.c 2 (by simp) 0)
  rw [e4] at hVF
  have HVF := hid hVF
  have HRV := hid (fun W (hW : Below w.heap.size w W) => hrv W hW k hk)
  have HB := hid hB
  obtain ⟨fp, fl, fc, rfl⟩ := rd_shape o2
  obtain ⟨tnm, htnm⟩ : ∃ n, ts[i].n = n := ⟨_, rfl⟩
  rw [htnm] at t0
  obtain ⟨⟨vk, vn, vs⟩, hv⟩ : ∃ v, xv[k] = v := ⟨_, rfl⟩
  rw [hv] at HRV ⊢
  have i1 : (0 : Int) ≤ (i : Int) := by omega
  have i2 : (i : Int) < (tn : Int) := by omega
  have i3 : (0 : Int) ≤ (k : Int) := by omega
  have i4 : (k : Int) < (un : Int) := by omega
  clear hs hu hx hf hty e4 e5 et hT hat hrd hau hrv e01 e02 e03 e06 e11 e12 e13 e16 hB hVF r1 o1 o2 z1 htnm hv hi hk
  go_enter Tryd.func80, Tryd.ntmps80
  go_wp2_with fail
  refine HVF.out.mono ?_
  rintro e w1 ⟨rfl, hb1⟩
  have HB1 := hid (HB.out.next hb1)
  clear hb1 t0 t1 HVF
  obtain ⟨B, r2, o2⟩ := HRV.out w1 HB1.out.bel
  have z2 := rdV o2
  rw [z2] at r2
  have c4 : w1.cell? ⟨w.heap.size + 1, 4, none⟩ = some (.slice (some ⟨g2, off2, none⟩) un uc) := HB1.out.c 1 (by simp) 4
  have X2 := hid r2
  have HZ := hid (HB1.out.b 3 (by simp))
  clear r2 o2 z2 HRV
  go_wp2_with (first
    | ((with_reducible show wpList _ _ _ (Oper.mk _ (.load 29 _) _ _ _ _ :: _) _ _); refine wpList_load_mid (by rfl) 29 _ (by rfl) g2 (off2 + k * 3) (by rfl) [.int .i64 vk, .int .i64 vn, .string vs] _ X2.out Tryd.underlying29 rfl (by kernel_rfl) ?_)
    | ((with_reducible show wpList _ _ _ (Oper.mk _ (.store _ _ _) _ _ _ _ :: _) _ _); refine wp_st (by rfl) 29 _ _ (by rfl) (w.heap.size + 3) 0 _ 29 (.agg #[.int .i64 vk, .int .i64 vn, .string vs]) [.int .i64 vk, .int .i64 vn, .string vs] (by rfl) (by rfl) (by rfl) HZ.out (by simp) (by kernel_rfl) (by rfl) ?_; intro w2 hblk hfr; have HW2 := hid hblk; have HBE : Hid (Below w.heap.size w w2) := below_fr HB1.out.bel hfr (by omega); clear hblk hfr))
  exact ret_loc (w.heap.size + 3) [.int .i64 vk, .int .i64 vn, .string vs] 29 _ HW2.out rfl rfl (by rfl) Tryd.underlying29 rfl (by kernel_rfl) ⟨rfl, HBE.out⟩
set_option maxHeartbeats 8000000 in
theorem eqVar_any (A : List Value) (va nm : ByteArray) (b : Nat) (w : World) (hA : A[0]? = some (.string va)) (h : w.cell? ⟨b, 4, none⟩ = some (.string nm)) (hz : A.length = 18) (ho : A.all (·.oneCell') = true) : Calls Tryd.prog 82 #[.agg A.toArray, .pointer (some ⟨b, 0, none⟩)] w fun e w' => e = .returned (.bool (seq va nm)) ∧ Below w.heap.size w w' := by
  have hB : BlkT w (w.alloc (.cells A.toArray 47)) A 47 := BlkT.start w _ _
  have c0 : (w.alloc (.cells A.toArray 47)).cell? ⟨w.heap.size, 0, none⟩ = some (.string va) := by rw [hB.c 0]; exact hA
  have c4 : (w.alloc (.cells A.toArray 47)).cell? ⟨b, 4, none⟩ = some (.string nm) := (hB.bel.cell (p := ⟨b, 4, none⟩) (World.block_lt_of_cell? _ _ h)).trans h
  have HB := hid hB.bel
  clear hB h hA hz ho
  unfold seq
  go_enter Tryd.func82, Tryd.ntmps82
  go_wp2_with fail
  go_ret
  exact ⟨rfl, HB.out⟩
set_option maxHeartbeats 8000000 in
theorem indexPat_any (ws : List Pt) (v : Value) (nm : ByteArray) (b : Nat) (w : World) (h : Rd w (.row 47 18 (ws.map encP)) v) (hn : w.cell? ⟨b, 4, none⟩ = some (.string nm)) :
    Calls Tryd.prog 81 #[v, .func (.func 82) #[] #[.pointer (some ⟨b, 0, none⟩)]] w fun e w' => e = .returned (.int .i64 (ptq ws nm)) ∧ Below w.heap.size w w' := by
  obtain ⟨p, cap, rfl, hmx, hat⟩ := rd_row lenP h
  have HAT : Hid (At encP 18 w p ws) := hat
  obtain ⟨n, hnl⟩ : ∃ n, ws.length = n := ⟨_, rfl⟩
  have HN := hid hnl
  have HNM := hid hn
  rw [hnl] at hmx ⊢
  clear h hat hnl hn
  go_enter Tryd.func81, Tryd.ntmps81
  go_wp2_with fail
  go_loopg [8] (n + 1) (fun gg i wr => ∃ k : Nat, k ≤ n ∧ gg = n + 1 - k ∧ i = .int .i64 (k : Nat) ∧ (∀ (j : Nat) (hj : j < ws.length), j < k → seq ws[j].va nm = false) ∧ Below w.heap.size w wr)
  case atStart => exact ⟨0, by omega, by omega, rfl, fun j _ h => by omega, Below.refl _ _⟩
  case round =>
    obtain ⟨k, hk, rfl, rfl, hno, hB⟩ := hrel
    have HB := hid hB
    by_cases hlt : k < n
    · have hkc : k < ws.length := by have := HN.out; omega
      obtain ⟨g, off, rfl, hrd⟩ := HAT.out (by omega)
      obtain ⟨A, r1, o1⟩ := hrd wr hB k hkc
      obtain ⟨vc, z1, o2⟩ := rdP o1
      obtain ⟨up, un, uc, hu⟩ := rd_shape o2
      have hAz : A.length = 18 := o1.1.symm
      have hAO : A.all (·.oneCell') = true := by rw [z1, hu]; rfl
      have ZA : Hid ((Tryd.prog.info? 47).map (·.size) = some A.length) := by show _ = _; rw [hAz]; kernel_rfl
      have HCM := hid (eqVar_any A ws[k].va nm b wr (by rw [z1]; rfl) ((hB.cell (p := ⟨b, 4, none⟩) (World.block_lt_of_cell? _ _ HNM.out)).trans HNM.out) hAz hAO)
      have HNO := hid hno
      obtain ⟨q, hq⟩ : ∃ q, seq ws[k].va nm = q := ⟨_, rfl⟩
      have HQK : Hid (seq ws[k].va nm = q) := hq
      rw [hq] at HCM
      have X1_ := hid r1
      have i1 : (0 : Int) ≤ (k : Int) := by omega
      have i2 : (k : Int) < (n : Int) := by omega
      clear hno hB hrd o1 o2 z1 r1 hq hu hAz hAO
      cases q with
      | true =>
        go_wp2_with (first
          | ((with_reducible show wpList _ _ _ (Oper.mk _ (.load _ _) _ _ _ _ :: _) _ _); refine wpList_load_mid (by rfl) 47 _ (by rfl) g (off + k * 18) (by rfl) A _ X1_.out Tryd.underlying47 rfl ZA.out ?_)
          | (go_at_call 82; refine HCM.out.mono ?_; rintro e w2 ⟨rfl, hb2⟩; have HB2 := hid (below_trans HB.out hb2 HB.out.size); clear hb2))
        go_ret
        exact ⟨ret_int (by show (k : Int) = ixq _ _ _; rw [ixq_hit (q := fun t : Pt => seq t.va nm) ws 0 k hkc (fun j hj => HNO.out j (by omega) hj) (by exact HQK.out)]; simp), HB2.out⟩
      | false =>
        go_wp2_with (first
          | ((with_reducible show wpList _ _ _ (Oper.mk _ (.load _ _) _ _ _ _ :: _) _ _); refine wpList_load_mid (by rfl) 47 _ (by rfl) g (off + k * 18) (by rfl) A _ X1_.out Tryd.underlying47 rfl ZA.out ?_)
          | (go_at_call 82; refine HCM.out.mono ?_; rintro e w2 ⟨rfl, hb2⟩; have HB2 := hid (below_trans HB.out hb2 HB.out.size); clear hb2))
        go_roundg (n + 1 - (k + 1))
        case rel =>
          refine ⟨k + 1, by omega, rfl, by go_num, fun j hj hjk => ?_, HB2.out⟩
          by_cases c : j < k
          · exact HNO.out j hj c
          · obtain rfl : j = k := by omega
            exact HQK.out
        case measure => omega
    · obtain rfl : k = n := by omega
      have HR := hid (show ptq ws nm = -1 from ixq_none _ _ (fun x hx => by
        obtain ⟨j, hj, rfl⟩ := List.getElem_of_mem hx
        exact hno j hj (by have := HN.out; omega)))
      clear hno hB
      go_wp2_with fail
      go_ret
      exact ⟨ret_int HR.out.symm, HB.out⟩
set_option maxHeartbeats 16000000 in
theorem side_own (ts : List Tp) (ws : List Pt) (own : Ev) (kn : List Ev) (tv ov wv kv : Value) (hk : Sok ts ws own kn) (o : Opd) (w : World) (hs : Scn w ts ws own kn tv ov wv kv) (ho : o.k = 2) (hf : 0 ≤ fdq (ts.getD own.t.toNat dT).f o.fd) :
    Calls Tryd.prog 65 #[snV tv own ov wv kv, opV o] w fun e w' => e = .returned (V4.vV (fvl ts own o.fd)) ∧ Below w.heap.size w w' := by
  have HFS := hid (fun W (hW : Below w.heap.size w W) => field_s ts ws own kn tv ov wv kv hk.ty own ov o.fd W (hs.later hW) (hs.later hW).ro hk.ev hf)
  obtain ⟨⟨vk, vn, vs⟩, hv⟩ : ∃ v, fvl ts own o.fd = v := ⟨_, rfl⟩
  rw [hv] at HFS ⊢
  obtain ⟨tp, tn, tc, htv⟩ := rd_shape hs.rt
  obtain ⟨op, on2, oc, hov⟩ := rd_shape hs.ro
  obtain ⟨wp, wn, wc, hwv⟩ := rd_shape hs.rw
  obtain ⟨kp, kn2, kc, hkv⟩ := rd_shape hs.rk
  have hB := bxs3 w (snC tv own ov wv kv) [.int .i64 o.k, .int .i64 o.vk, .int .i64 o.vi, .string o.vt, .string o.va, .string o.fd] [.int .i64 0, .int .i64 0, .string ⟨#[]⟩] 80 31 29
  subst htv hov hwv hkv
  obtain ⟨on, ot, ost, oen, ovl⟩ := own
  obtain ⟨ok, ovk, ovi, ovt, ova, ofd⟩ := o
  simp only [snC] at hB
  simp only at ho HFS ⊢
  subst ho
  have HB := hid hB
  have XS := hid (hB.r 0 (by simp))
  have XE : Hid ((((w.alloc (.cells #[.slice tp tn tc, .int .i64 on, .int .i64 ot, .int .i64 ost, .int .i64 oen, .slice op on2 oc, .slice wp wn wc, .slice kp kn2 kc] 80)).alloc (.cells #[.int .i64 2, .int .i64 ovk, .int .i64 ovi, .string ovt, .string ova, .string ofd] 31)).alloc (.cells #[.int .i64 0, .int .i64 0, .string ⟨#[]⟩] 29)).rangeAt w.heap.size 1 [.int .i64 on, .int .i64 ot, .int .i64 ost, .int .i64 oen, .slice op on2 oc]) := fun j u hu => by
    have := hB.c 0 (by simp) (1 + j)
    rw [show w.heap.size + 0 = w.heap.size from rfl] at this
    rw [this]
    rcases j with _ | _ | _ | _ | _ | j <;> simp_all
  clear hB hs hk hf hv
  go_enter Tryd.func65, Tryd.ntmps65
  go_wp2_with (first
    | ((with_reducible show wpList _ _ _ (Oper.mk _ (.load _ _) _ _ _ _ :: _) _ _); refine wpList_load_mid (by rfl) 40 _ (by rfl) w.heap.size 1 (by rfl) [.int .i64 on, .int .i64 ot, .int .i64 ost, .int .i64 oen, .slice op on2 oc] _ XE.out Tryd.underlying40 rfl (by kernel_rfl) ?_)
    | ((with_reducible show wpList _ _ _ (Oper.mk _ (.load _ _) _ _ _ _ :: _) _ _); refine wpList_load_mid (by rfl) 80 _ (by rfl) w.heap.size 0 (by rfl) [.slice tp tn tc, .int .i64 on, .int .i64 ot, .int .i64 ost, .int .i64 oen, .slice op on2 oc, .slice wp wn wc, .slice kp kn2 kc] _ XS.out Tryd.underlying80 rfl (by kernel_rfl) ?_))
  refine (HFS.out _ HB.out.bel).mono ?_
  rintro e w1 ⟨rfl, hb1⟩
  have HB1 := hid (HB.out.next hb1)
  have HBB := hid HB1.out.bel
  have HZ := hid (HB1.out.b 2 (by simp))
  clear hb1 XS XE
  go_wp2_with ((with_reducible show wpList _ _ _ (Oper.mk _ (.store _ _ _) _ _ _ _ :: _) _ _); refine wp_st (by rfl) 29 _ _ (by rfl) (w.heap.size + 2) 0 _ 29 (.agg #[.int .i64 vk, .int .i64 vn, .string vs]) [.int .i64 vk, .int .i64 vn, .string vs] (by rfl) (by rfl) (by rfl) HZ.out (by simp) (by kernel_rfl) (by rfl) ?_; intro w2 hblk hfr; have HW2 := hid hblk; have HBE : Hid (Below w.heap.size w w2) := below_fr HBB.out (hfr) (by omega); clear hblk hfr)
  exact ret_loc (w.heap.size + 2) [.int .i64 vk, .int .i64 vn, .string vs] 29 _ HW2.out rfl rfl (by rfl) Tryd.underlying29 rfl (by kernel_rfl) ⟨rfl, HBE.out⟩
set_option maxHeartbeats 16000000 in
theorem side_con (ts : List Tp) (ws : List Pt) (own : Ev) (kn : List Ev) (tv ov wv kv : Value) (hk : Sok ts ws own kn) (o : Opd) (w : World) (hs : Scn w ts ws own kn tv ov wv kv) (ho : o.k ≠ 2) (ho3 : o.k ≠ 3) :
    Calls Tryd.prog 65 #[snV tv own ov wv kv, opV o] w fun e w' => e = .returned (V4.vV ⟨o.vk, o.vi, o.vt⟩) ∧ Below w.heap.size w w' := by
  obtain ⟨tp, tn, tc, htv⟩ := rd_shape hs.rt
  obtain ⟨op, on2, oc, hov⟩ := rd_shape hs.ro
  obtain ⟨wp, wn, wc, hwv⟩ := rd_shape hs.rw
  obtain ⟨kp, kn2, kc, hkv⟩ := rd_shape hs.rk
  have hB := bxs3 w (snC tv own ov wv kv) [.int .i64 o.k, .int .i64 o.vk, .int .i64 o.vi, .string o.vt, .string o.va, .string o.fd] [.int .i64 0, .int .i64 0, .string ⟨#[]⟩] 80 31 29
  subst htv hov hwv hkv
  obtain ⟨on, ot, ost, oen, ovl⟩ := own
  obtain ⟨ok, ovk, ovi, ovt, ova, ofd⟩ := o
  simp only [snC] at hB
  simp only at ho ho3 ⊢
  have d2 : decide (ok = 2) = false := by simpa using ho
  have d3 : decide (ok = 3) = false := by simpa using ho3
  have HB := hid hB
  have HBB := hid hB.bel
  have HZ := hid (hB.b 2 (by simp))
  clear hB hs hk
  go_enter Tryd.func65, Tryd.ntmps65
  go_wp2_with ((with_reducible show wpList _ _ _ (Oper.mk _ (.store _ _ _) _ _ _ _ :: _) _ _); refine wp_st (by rfl) 29 _ _ (by rfl) (w.heap.size + 2) 0 _ 29 (.agg #[.int .i64 ovk, .int .i64 ovi, .string ovt]) [.int .i64 ovk, .int .i64 ovi, .string ovt] (by rfl) (by rfl) (by rfl) HZ.out (by simp) (by kernel_rfl) (by rfl) ?_; intro w2 hblk hfr; have HW2 := hid hblk; have HBE : Hid (Below w.heap.size w w2) := below_fr HBB.out (hfr) (by omega); clear hblk hfr)
  exact ret_loc (w.heap.size + 2) [.int .i64 ovk, .int .i64 ovi, .string ovt] 29 _ HW2.out rfl rfl (by rfl) Tryd.underlying29 rfl (by kernel_rfl) ⟨rfl, HBE.out⟩
theorem ent_fds : ∀ args w, (callFunc 80 args).run Tryd.prog w = .ok (.enter 80 args) w := enters_of Tryd.func80 (by kernel_rfl) rfl
theorem step_sto {P : Program} {ops : Array Oper} {o : Oper} {a : Act} {w : World} {K : Act → World → Prop} {Q : Exit → Act → World → Prop} {E : Prop} (hw : Region.wanted o (yielded ops a.tmps) = true) (ty : TypeId) (x y : Operand) (ho : o.op = .store ty x y)
    (b f : Nat) (cs : List Value) (T : TypeId) (v : Value) (vs : List Value) (hx : a.eval x = .pointer (some ⟨b, f, none⟩)) (hy : a.eval y = v) (hv : v.cells = vs.toArray) (hb : w.heap[b]? = some (.cells cs.toArray T (0, 0)))
    (hl : f + vs.length ≤ cs.length) (hi : (P.info? ty).map (·.size) = some vs.length) (h1 : vs.all (·.oneCell') = true)
    (h : ∀ w', w'.heap[b]? = some (.cells (ovr cs f vs).toArray T (0, 0)) → Fr (fun i => i = b) w w' → K (a.put o.dst undef) w') :
    if Region.wanted o (yielded ops a.tmps) = true then Oper.wp P o a w K Q else E := by
  rw [if_pos hw]
  unfold Oper.wp execOp
  simp only [ho, hx, hy, Instr.storeAt, Instr.sureAddr, Sem.run_bind, Sem.run_pure, Result.andThen_ok, run_st w b f ty v vs.toArray hv (there_blk hb f _ (by simpa using hl)) (by simpa using hi) (all_oneCell_toArray (List.all_eq_true.1 h1))]
  exact h _ (blk_sets vs f cs w hb hl) ((Fr.refl (fun i => i = b) w).setCells (.inl rfl))
set_option maxHeartbeats 32000000 in
theorem side_other (ts : List Tp) (ws : List Pt) (own : Ev) (kn : List Ev) (tv ov wv kv : Value) (hk : Sok ts ws own kn) (o : Opd) (w : World) (hs : Scn w ts ws own kn tv ov wv kv) (ho : o.k = 3) (j : Nat) (hj : j < kn.length) (hp : ptq ws o.va = (j : Int)) (hev : evk ts kn[j] = 0) (hf : 0 ≤ fdq (ts.getD kn[j].t.toNat dT).f o.fd) :
    Calls Tryd.prog 65 #[snV tv own ov wv kv, opV o] w fun e w' => e = .returned (V4.vV (fvl ts kn[j] o.fd)) ∧ Below w.heap.size w w' := by
  obtain ⟨g, off, A, hg, hr, uv, hA, hu⟩ : ∃ g off A, (∃ n c, kv = .slice (some ⟨g, off, none⟩) n c ∧ (j : Int) < (n : Int)) ∧ (∀ W, Below w.heap.size w W → W.rangeAt g (off + j * 5) A) ∧ ∃ uv, A = [.int .i64 kn[j].n, .int .i64 kn[j].t, .int .i64 kn[j].st, .int .i64 kn[j].en, uv] ∧ Rd w (.row 29 3 (kn[j].v.map encV)) uv := by
    obtain ⟨p, cap, rfl, _, hat⟩ := rd_row lenX hs.rk
    obtain ⟨g, off, rfl, hrd⟩ := hat (by omega)
    obtain ⟨A, r1, o1⟩ := hrd w (Below.refl _ _) j hj
    obtain ⟨uv, z1, o2⟩ := rdX o1
    exact ⟨g, off, A, ⟨_, _, rfl, by omega⟩, fun W hW => range_below r1 hW, uv, z1, o2⟩
  have hFS := fun W (hW : Below w.heap.size w W) => field_s ts ws own kn tv ov wv kv hk.ty kn[j] uv o.fd W (hs.later hW) (hu.later hW) hev hf
  have hIX := fun W (hW : Below w.heap.size w W) (hc : W.cell? ⟨w.heap.size + 1, 4, none⟩ = some (.string o.va)) => indexPat_any ws wv o.va (w.heap.size + 1) W (hs.later hW).rw hc
  rw [hp] at hIX
  obtain ⟨⟨vk, vn, vs⟩, hv⟩ : ∃ v, fvl ts kn[j] o.fd = v := ⟨_, rfl⟩
  rw [hv] at hFS ⊢
  have hsh := rd_shape hu
  have hkvs := hg
  obtain ⟨tp, tn, tc, htv⟩ := rd_shape hs.rt
  obtain ⟨op, on2, oc, hov⟩ := rd_shape hs.ro
  obtain ⟨wp, wn, wc, hwv⟩ := rd_shape hs.rw
  obtain ⟨kn2, kc, hkv, hjn⟩ := hkvs
  have hB := bxs3 w (snC tv own ov wv kv) [.int .i64 o.k, .int .i64 o.vk, .int .i64 o.vi, .string o.vt, .string o.va, .string o.fd] [.int .i64 0, .int .i64 0, .string ⟨#[]⟩] 80 31 29
  subst htv hov hwv hkv
  obtain ⟨on, ot, ost, oen, ovl⟩ := own
  obtain ⟨ok, ovk, ovi, ovt, ova, ofd⟩ := o
  simp only [snC] at hB
  simp only at ho hFS hIX ⊢
  subst ho
  obtain ⟨UL, hUL⟩ : ∃ UL : List Value, [.slice tp tn tc, .int .i64 on, .int .i64 ot, .int .i64 ost, .int .i64 oen, .slice op on2 oc, .slice wp wn wc, .slice (some ⟨g, off, none⟩) kn2 kc] = UL := ⟨_, rfl⟩
  have hUz : UL.length = 8 := by rw [← hUL]; rfl
  have hXz : A.length = 5 := by rw [hA]; rfl
  have HFC : Hid (∀ W, Below w.heap.size w W → Calls Tryd.prog 80 #[.agg UL.toArray, .agg A.toArray, .string ofd] W fun e w' => e = .returned (V4.vV ⟨vk, vn, vs⟩) ∧ Below W.heap.size W w') := fun W hW => by rw [hA, ← hUL]; exact hFS W hW
  obtain ⟨XL, hXL⟩ : ∃ XL : List Value, A = XL := ⟨_, rfl⟩
  rw [hXL] at HFC hXz hr
  have HS6 : Hid (∀ W, Below w.heap.size w W → W.heap[w.heap.size]? = some (.cells [.slice tp tn tc, .int .i64 on, .int .i64 ot, .int .i64 ost, .int .i64 oen, .slice op on2 oc, .slice wp wn wc, .slice (some ⟨g, off, none⟩) kn2 kc].toArray 80 (0, 0)) → W.heap[w.heap.size + 1]? = some (.cells [.int .i64 3, .int .i64 ovk, .int .i64 ovi, .string ovt, .string ova, .string ofd].toArray 31 (0, 0)) → (W.rangeAt w.heap.size 0 UL ∧ W.cell? ⟨w.heap.size, 7, none⟩ = some (.slice (some ⟨g, off, none⟩) kn2 kc) ∧ W.rangeAt g (off + j * 5) XL ∧ W.cell? ⟨w.heap.size + 1, 5, none⟩ = some (.string ofd))) := fun W h0 h1 h2 => ⟨by rw [← hUL]; exact range_blk h1, cell_of_blk h1 7, hr W h0, cell_of_blk h2 5⟩
  have ZU : Hid ((Tryd.prog.info? 80).map (·.size) = some UL.length) := by show _ = _; rw [hUz]; kernel_rfl
  have ZX : Hid ((Tryd.prog.info? 40).map (·.size) = some XL.length) := by show _ = _; rw [hXz]; kernel_rfl
  have HIX := hid hIX
  have HB := hid hB
  have y1 : (0 : Int) ≤ (j : Int) := by omega
  have y2 : (j : Int) < (kn2 : Int) := hjn
  clear hB hs hk hf hv hFS hIX hr hA hu hsh hg hev hp hj hUL hUz hXz hXL hjn
  go_enter Tryd.func65, Tryd.ntmps65
  go_wp2_with fail
  refine (HIX.out _ HB.out.bel (HB.out.c 1 (by simp) 4)).mono ?_
  rintro e w4 ⟨rfl, hb4⟩
  have HB2 := hid (HB.out.next hb4)
  have HD2 := hid (HB2.out.next (Below.drew (Below.refl _ _)))
  clear hb4 HIX HB
  go_wp2_with fail
  refine start_n (S := (fun w' => w'.rangeAt w.heap.size 0 UL ∧ w'.cell? ⟨w.heap.size, 7, none⟩ = some (.slice (some ⟨g, off, none⟩) kn2 kc) ∧ w'.rangeAt g (off + j * 5) XL ∧ w'.cell? ⟨w.heap.size + 1, 5, none⟩ = some (.string ofd))) 10 #[false, false, false, false, false, false, false, false, false, false] rfl rfl (by kernel_rfl) (HS6.out _ HD2.out.bel (HD2.out.b 0 (by simp)) (HD2.out.b 1 (by simp))) (fun hHeld => ?_)
  refine take_mk (i := 1) (v := ?v1) rfl (by kernel_rfl) (by kernel_rfl) (by kernel_rfl) (fun _ _ _ h => h) (Or.inl ⟨by rfl, ?hy1⟩) (by assumption) ?rest1
  case hy1 => (intro w0 hSw; (try dsimp only at hSw); go_simp <;> (try (with_reducible rfl)))
  (try simp only [Act.put, List.setIfInBounds_toArray, List.set_cons_zero, List.set_cons_succ])
  refine take_mk (i := 2) (v := ?v2) rfl (by kernel_rfl) (by kernel_rfl) (by kernel_rfl) (fun _ _ _ h => h) (Or.inl ⟨by rfl, ?hy2⟩) (by assumption) ?rest2
  case hy2 => (intro w0 hSw; (try dsimp only at hSw); go_simp <;> (try (with_reducible rfl)))
  (try simp only [Act.put, List.setIfInBounds_toArray, List.set_cons_zero, List.set_cons_succ])
  refine take_mk (i := 3) (v := ?v3) rfl (by kernel_rfl) (by kernel_rfl) (by kernel_rfl) (fun _ _ _ h => h) (Or.inl ⟨by rfl, ?hy3⟩) (by assumption) ?rest3
  case hy3 => (intro w0 hSw; (try dsimp only at hSw); go_simp <;> (try (with_reducible rfl)))
  (try simp only [Act.put, List.setIfInBounds_toArray, List.set_cons_zero, List.set_cons_succ])
  refine take_mk (i := 4) (v := ?v4) rfl (by kernel_rfl) (by kernel_rfl) (by kernel_rfl) (fun _ _ _ h => h) (Or.inl ⟨by rfl, ?hy4⟩) (by assumption) ?rest4
  case hy4 => (intro w0 hSw; (try dsimp only at hSw); go_simp <;> (try (with_reducible rfl)))
  (try simp only [Act.put, List.setIfInBounds_toArray, List.set_cons_zero, List.set_cons_succ])
  refine take_mk (i := 6) (v := ?v5) rfl (by kernel_rfl) (by kernel_rfl) (by kernel_rfl) (fun _ _ _ h => h) (Or.inl ⟨by rfl, ?hy5⟩) (by assumption) ?rest5
  case hy5 => (intro w0 hSw; (try dsimp only at hSw); go_simp <;> (try (with_reducible rfl)))
  (try simp only [Act.put, List.setIfInBounds_toArray, List.set_cons_zero, List.set_cons_succ])
  refine take_mk (i := 7) (v := ?v6) rfl (by kernel_rfl) (by kernel_rfl) (by kernel_rfl) (fun _ _ _ h => h) (Or.inl ⟨by rfl, ?hy6⟩) (by assumption) ?rest6
  case hy6 => (intro w0 hSw; (try dsimp only at hSw); go_simp <;> (try (with_reducible rfl)))
  (try simp only [Act.put, List.setIfInBounds_toArray, List.set_cons_zero, List.set_cons_succ])
  refine take_mk (i := 0) rfl (by kernel_rfl) (by kernel_rfl) (by kernel_rfl) (fun _ _ _ h => h) (yieldsIf_load_mid (by rfl) 80 _ rfl w.heap.size (0) (by rfl) UL _ (fun _ h => h.1) Tryd.underlying80 rfl ZU.out) (by assumption) ?_
  (try simp only [Act.put, List.setIfInBounds_toArray, List.set_cons_zero, List.set_cons_succ])
  refine take_mk (i := 5) rfl (by kernel_rfl) (by kernel_rfl) (by kernel_rfl) (fun _ _ _ h => h) (yieldsIf_load_mid (by rfl) 40 _ rfl g (off + j * 5) (by rfl) XL _ (fun _ h => h.2.2.1) Tryd.underlying40 rfl ZX.out) (by assumption) ?_
  (try simp only [Act.put, List.setIfInBounds_toArray, List.set_cons_zero, List.set_cons_succ])
  refine wpAnyH_ready (rs := [8]) (by kernel_rfl) (by simp) ?_
  refine cons_mk rfl (fun K hK => ?_) AllReadyH.nil
  refine step_call3 80 ent_fds (by rfl) _ _ _ _ (by rfl) (.agg UL.toArray) (.agg XL.toArray) (.string ofd) (by rfl) (by rfl) (by rfl) _ (HFC.out _ HD2.out.bel) ?_
  rintro e w5 ⟨rfl, hb5⟩
  refine ⟨_, rfl, ?_⟩
  have HB5 := hid (HD2.out.next hb5)
  clear hb5
  refine hK.out _ _ (HS6.out _ HB5.out.bel (HB5.out.b 0 (by simp)) (HB5.out.b 1 (by simp))) (fun hHeld => ?_)
  clear hK K
  (try simp only [Act.put, List.setIfInBounds_toArray, List.set_cons_zero, List.set_cons_succ])
  refine wpAnyH_ready (rs := [9]) (by kernel_rfl) (by simp) ?_
  refine cons_mk rfl (fun K hK => ?_) AllReadyH.nil
  refine step_sto (by rfl) 29 _ _ (by rfl) (w.heap.size + 2) 0 _ 29 (.agg #[.int .i64 vk, .int .i64 vn, .string vs]) [.int .i64 vk, .int .i64 vn, .string vs] (by rfl) (by rfl) (by rfl) (HB5.out.b 2 (by simp)) (by simp) (by kernel_rfl) (by rfl) ?_
  intro w6 hm6 hf6
  have HW2 := hid hm6
  have HBE : Hid (Below w.heap.size w w6) := below_fr HB5.out.bel hf6 (by omega)
  have HF6 := hid hf6
  clear hm6 hf6
  refine hK.out _ _ (HS6.out _ HBE.out ((HF6.out.block _ (blk_lt (HB5.out.b 0 (by simp))) (by omega)).trans (HB5.out.b 0 (by simp))) ((HF6.out.block _ (blk_lt (HB5.out.b 1 (by simp))) (by omega)).trans (HB5.out.b 1 (by simp)))) (fun hHeld => ?_)
  clear hK K
  (try simp only [Act.put, List.setIfInBounds_toArray, List.set_cons_zero, List.set_cons_succ])
  refine wpAnyH_done (by kernel_rfl) ?_ _
  go_wp2_with fail
  exact ret_loc (w.heap.size + 2) [.int .i64 vk, .int .i64 vn, .string vs] 29 _ HW2.out rfl rfl (by rfl) Tryd.underlying29 rfl (by kernel_rfl) ⟨rfl, HBE.out⟩
theorem side_s (ts : List Tp) (ws : List Pt) (own : Ev) (kn : List Ev) (tv ov wv kv : Value) (hk : Sok ts ws own kn) (o : Opd) (w : World) (hs : Scn w ts ws own kn tv ov wv kv) (ho : (sdk ts ws (ts.getD own.t.toNat dT) o).2 = 0) :
    Calls Tryd.prog 65 #[snV tv own ov wv kv, opV o] w fun e w' => e = .returned (V4.vV (svl ts ws own kn o)) ∧ Below w.heap.size w w' := by
  have ho' := ho
  unfold sdk at ho
  by_cases h0 : 1 ≤ o.k ∧ o.k ≤ 3
  · rw [if_neg (fun c => c h0)] at ho
    by_cases h1 : o.k = 1
    · have e : svl ts ws own kn o = ⟨o.vk, o.vi, o.vt⟩ := by unfold svl; rw [if_neg (by omega), if_neg (by omega)]
      rw [e]
      exact side_con ts ws own kn tv ov wv kv hk o w hs (by omega) (by omega)
    · rw [if_neg h1] at ho
      by_cases h2 : o.k = 2
      · rw [if_pos h2] at ho
        have e : svl ts ws own kn o = fvl ts own o.fd := by unfold svl; rw [if_pos h2]
        rw [e]
        split at ho
        · simp at ho
        · refine side_own ts ws own kn tv ov wv kv hk o w hs h2 ?_
          unfold fck at ho
          split at ho
          · simp at ho
          · omega
      · rw [if_neg h2] at ho
        split at ho
        · simp at ho
        · rename_i c1
          split at ho
          · simp at ho
          · obtain ⟨j, hj, e1, _⟩ := ixq_ex (q := fun p : Pt => seq p.va o.va) (l := ws) (by show 0 ≤ ptq ws o.va; omega)
            have e1' : ptq ws o.va = (j : Int) := e1
            have hjk : j < kn.length := by rw [hk.kn.1]; exact hj
            obtain ⟨g1, g2⟩ := hk.kn.2 j hjk hj
            have et : tyOf ts ws o.va = ts.getD kn[j].t.toNat dT := by
              unfold tyOf
              rw [e1', Int.toNat_natCast, getD_lt hj, g2]
              rfl
            have es : svl ts ws own kn o = fvl ts kn[j] o.fd := by
              unfold svl
              rw [if_neg h2, if_pos (by omega), e1', Int.toNat_natCast, getD_lt hjk]
            rw [es]
            rw [et] at ho
            refine side_other ts ws own kn tv ov wv kv hk o w hs (by omega) j hjk e1' g1 ?_
            unfold fck at ho
            split at ho
            · simp at ho
            · omega
  · rw [if_pos h0] at ho; simp at ho
end Go.Proofs.YtnajcoikcoegoaaDoor.Chk
