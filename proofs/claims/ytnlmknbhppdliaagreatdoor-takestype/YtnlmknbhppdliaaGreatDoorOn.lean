/-
  An event of raw numbers. A scene's side of another when, by WhenAt.
-/
import Derived.Test.YtnlmknbhppdliaaGreatDoorIn
import Derived.Test.YtnlmknbhppdliaaGreatDoorV4K
import Derived.Test.YtnlmknbhppdliaaGreatDoorRf
import Derived.Test.YtnlmknbhppdliaaGreatDoorS
set_option maxHeartbeats 64000000
namespace Go.Proofs.YtnlmknbhppdliaaGreatDoor.Chk
open Go.ChangeShapes Go.WideShapes Go.ChangeAt Go.RowKit Go.Maps
set_option linter.unusedVariables false
set_option linter.unusedSimpArgs false
set_option maxRecDepth 20000
theorem one_any (ki ty lo n de : Int) (tx : ByteArray) (co : Bool) (nu : Int) (ht1 : -9223372036854775808 ≤ ty) (ht2 : ty ≤ 9223372036854775807) (hl1 : -9223372036854775808 ≤ lo) (hl2 : lo ≤ 9223372036854775807) (hn1 : -9223372036854775808 ≤ n) (hn2 : n ≤ 9223372036854775807) (hs : tx.size ≤ maxLen) (w : World) :
  Calls Tryz.prog 10 #[.agg #[.int .i64 ki, .int .i64 ty, .int .i64 lo, .int .i64 n, .int .i64 de, .string tx, .bool co], .int .i64 nu] w fun e w' => ∃ v, e = .returned (.agg #[.int .i64 nu, .int .i64 (pkd ty 4), .int .i64 (insM lo 20), .int .i64 20, v]) ∧ Rd w' (.row 42 3 ((insV ty n tx).map encV)) v ∧ Below w.heap.size w w' := by
 have HIN := hid (fun W => zH8 ki ty lo n de tx co 20 ht1 ht2 hl1 hl2 hn1 hn2 hs (by decide) (by decide) W)
 have HP1 := hid (fun W => zAF ty 4 W ht1 ht2 (by decide) (by decide))
 obtain ⟨TN, hTN⟩ : ∃ z, tyN (pkd ty 4).toNat = z := ⟨_, rfl⟩
 rw [hTN] at HIN
 obtain ⟨q9, hq9⟩ : ∃ z, pkd ty 4 = z := ⟨_, rfl⟩
 obtain ⟨M, hM⟩ : ∃ z, insM lo 20 = z := ⟨_, rfl⟩
 obtain ⟨L, hL⟩ : ∃ z, (insV ty n tx).map encV = z := ⟨_, rfl⟩
 rw [hM, hL] at HIN
 rw [hq9] at HP1
 rw [hq9, hM, hL]
 clear hTN hq9 hM hL ht1 ht2 hl1 hl2 hn1 hn2 hs
 have HB := hid (bxs2 w [.int .i64 ki, .int .i64 ty, .int .i64 lo, .int .i64 n, .int .i64 de, .string tx, .bool co] [.int .i64 0, .int .i64 0, .int .i64 0, .int .i64 0, .slice none 0 0] 24 35)
 go_enter Tryz.func10, Tryz.ntmps10
 go_upto_region 1 with fail
 generalize hWB : (w.alloc (.cells #[.int .i64 ki, .int .i64 ty, .int .i64 lo, .int .i64 n, .int .i64 de, .string tx, .bool co] 24)).alloc (.cells #[.int .i64 0, .int .i64 0, .int .i64 0, .int .i64 0, .slice none 0 0] 35) = WB at HB ⊢
 clear hWB
 have HD : Hid (WB.heap[w.heap.size]? = some (.cells #[.int .i64 ki, .int .i64 ty, .int .i64 lo, .int .i64 n, .int .i64 de, .string tx, .bool co] 24 (0, 0))) := HB.out.b 0 (by simp)
 have HO : Hid (WB.heap[w.heap.size + 1]? = some (.cells #[.int .i64 0, .int .i64 0, .int .i64 0, .int .i64 0, .slice none 0 0] 35 (0, 0))) := HB.out.b 1 (by simp)
 have HBB := hid HB.out.bel
 clear HB
 have d0 : WB.cell? ⟨w.heap.size, 0, none⟩ = some (.int .i64 ki) := by rw [zAB HD.out]; rfl
 have d1 : WB.cell? ⟨w.heap.size, 1, none⟩ = some (.int .i64 ty) := by rw [zAB HD.out]; rfl
 have d2 : WB.cell? ⟨w.heap.size, 2, none⟩ = some (.int .i64 lo) := by rw [zAB HD.out]; rfl
 have d3 : WB.cell? ⟨w.heap.size, 3, none⟩ = some (.int .i64 n) := by rw [zAB HD.out]; rfl
 have d4 : WB.cell? ⟨w.heap.size, 4, none⟩ = some (.int .i64 de) := by rw [zAB HD.out]; rfl
 have d5 : WB.cell? ⟨w.heap.size, 5, none⟩ = some (.string tx) := by rw [zAB HD.out]; rfl
 have d6 : WB.cell? ⟨w.heap.size, 6, none⟩ = some (.bool co) := by rw [zAB HD.out]; rfl
 go_wp2_with fail
 refine (HIN.out _).mono ?_
 rintro e w1 ⟨v, rfl, hrd, hb1⟩
 obtain ⟨p1, n1, c1, rfl⟩ := zAE hrd.rd
 have HRD := hid hrd
 have HD1 := hid ((hb1.block _ (zAD HD.out)).trans HD.out)
 have HO1 := hid ((hb1.block _ (zAD HO.out)).trans HO.out)
 have HB1 := hid (zAA HBB.out hb1 HBB.out.size)
 clear hrd hb1 d0 d1 d2 d3 d4 d5 d6
 have hsz := zAD HO1.out
 go_upto_region 2 with ((with_reducible show wpList _ _ _ (Oper.mk _ (.store 93 _ _) _ _ _ _ :: _) _ _); refine zAY 93 w1.heap.size 0 [.int .i64 0, .string ⟨#[]⟩, .int .i64 0, .int .i64 0, .slice none 0 0, .int .i64 0, .bool false] 93 [.int .i64 1, .string TN, .int .i64 M, .int .i64 20, .slice p1 n1 c1, .int .i64 0, .bool false] (heap_alloc_new _ _) ?_; intro w2 hq1 hq2; have HU2 := hid hq1; have HF2 := hid hq2; clear hq1 hq2)
 have hA : Below w1.heap.size w1 (w1.alloc (.cells #[.int .i64 0, .string ⟨#[]⟩, .int .i64 0, .int .i64 0, .slice none 0 0, .int .i64 0, .bool false] 93)) := (Below.refl _ _).alloc (Nat.le_refl _) _
 have hn : Below w1.heap.size w1 w2 := zAG hA HF2.out (Nat.le_refl _)
 have HB2 := hid (zAA HB1.out hn HB1.out.size)
 have HRD2 := hid (HRD.out.below hn)
 have HD2 := hid ((hn.block _ (zAD HD1.out)).trans HD1.out)
 have HO2 := hid ((hn.block _ (zAD HO1.out)).trans HO1.out)
 have d1 : w2.cell? ⟨w.heap.size, 1, none⟩ = some (.int .i64 ty) := by rw [zAB HD2.out]; rfl
 have y2 : w2.cell? ⟨w1.heap.size, 2, none⟩ = some (.int .i64 M) := by rw [zAB HU2.out]; rfl
 have y3 : w2.cell? ⟨w1.heap.size, 3, none⟩ = some (.int .i64 20) := by rw [zAB HU2.out]; rfl
 have y4 : w2.cell? ⟨w1.heap.size, 4, none⟩ = some (.slice p1 n1 c1) := by rw [zAB HU2.out]; rfl
 clear hA hn HF2 HRD HD1 HO1
 go_wp2_with (first
  | (go_at_call 9; refine (HP1.out _).mono ?_; rintro e w2 ⟨rfl, rfl⟩)
  | ((with_reducible show wpList _ _ _ (Oper.mk _ (.store 35 _ _) _ _ _ _ :: _) _ _); refine zAY 35 (w.heap.size + 1) 0 [.int .i64 0, .int .i64 0, .int .i64 0, .int .i64 0, .slice none 0 0] 35 [.int .i64 nu, .int .i64 q9, .int .i64 M, .int .i64 20, .slice p1 n1 c1] HO2.out ?_; intro wz hq1 hq2; have HUz := hid hq1; have HFz := hid hq2; clear hq1 hq2))
 have HBz := zAG HB2.out HFz.out (by omega)
 have hRd : Rd wz (.row 42 3 L) (.slice p1 n1 c1) := (HRD2.out.set HFz.out ⟨_, HO2.out⟩ (by decide) (fun h => h)).rd
 exact zAR (w.heap.size + 1) [.int .i64 nu, .int .i64 q9, .int .i64 M, .int .i64 20, .slice p1 n1 c1] 35 _ HUz.out rfl rfl (by rfl) Tryz.underlying35 rfl (by kernel_rfl) ⟨_, rfl, hRd, HBz⟩
theorem zIJ (A : List Value) (va nm : ByteArray) (b : Nat) (w : World) (hA : A[0]? = some (.string va)) (h : w.cell? ⟨b, 0, none⟩ = some (.string nm)) (hz : A.length = 18) (ho : A.all (·.oneCell') = true) : Calls Tryz.prog 164 #[.agg A.toArray, .pointer (some ⟨b, 0, none⟩)] w fun e w' => e = .returned (.bool (seq va nm)) ∧ Below w.heap.size w w' := by
  have hB : BlkT w (w.alloc (.cells A.toArray 48)) A 48 := BlkT.start w _ _
  have c0 : (w.alloc (.cells A.toArray 48)).cell? ⟨w.heap.size, 0, none⟩ = some (.string va) := by rw [hB.c 0]; exact hA
  have c4 : (w.alloc (.cells A.toArray 48)).cell? ⟨b, 0, none⟩ = some (.string nm) := (hB.bel.cell (p := ⟨b, 0, none⟩) (World.block_lt_of_cell? _ _ h)).trans h
  have HB := hid hB.bel
  clear hB h hA hz ho
  unfold seq
  go_enter Tryz.func164, Tryz.ntmps164
  go_wp2_with fail
  go_ret
  exact ⟨rfl, HB.out⟩
theorem zEN (ws : List Pt) (v : Value) (nm : ByteArray) (b : Nat) (w : World) (h : Rd w (.row 48 18 (ws.map encP)) v) (hn : w.cell? ⟨b, 0, none⟩ = some (.string nm)) :
  Calls Tryz.prog 116 #[v, .func (.func 164) #[] #[.pointer (some ⟨b, 0, none⟩)]] w fun e w' => e = .returned (.int .i64 (ptq ws nm)) ∧ Below w.heap.size w w' := by
 obtain ⟨p, cap, rfl, hmx, hat⟩ := zAL lenP h
 have HAT : Hid (At encP 18 w p ws) := hat
 obtain ⟨n, hnl⟩ : ∃ n, ws.length = n := ⟨_, rfl⟩
 have HN := hid hnl
 have HNM := hid hn
 rw [hnl] at hmx ⊢
 clear h hat hnl hn
 go_enter Tryz.func116, Tryz.ntmps116
 go_wp2_with fail
 go_loopg [8] (n + 1) (fun gg i wr => ∃ k : Nat, k ≤ n ∧ gg = n + 1 - k ∧ i = .int .i64 (k : Nat) ∧ (∀ (j : Nat) (hj : j < ws.length), j < k → seq ws[j].va nm = false) ∧ Below w.heap.size w wr)
 case atStart => exact ⟨0, by omega, by omega, rfl, fun j _ h => by omega, Below.refl _ _⟩
 case round =>
  obtain ⟨k, hk, rfl, rfl, hno, hB⟩ := hrel
  have HB := hid hB
  by_cases hlt : k < n
  . have hkc : k < ws.length := by have := HN.out; omega
    obtain ⟨g, off, rfl, hrd⟩ := HAT.out (by omega)
    obtain ⟨A, r1, o1⟩ := hrd wr hB k hkc
    obtain ⟨vc, z1, o2⟩ := rdP o1
    obtain ⟨up, un, uc, hu⟩ := zAE o2
    have hAz : A.length = 18 := o1.1.symm
    have hAO : A.all (·.oneCell') = true := by rw [z1, hu]; rfl
    have ZA : Hid ((Tryz.prog.info? 48).map (·.size) = some A.length) := by show _ = _; rw [hAz]; kernel_rfl
    have HCM := hid (zIJ A ws[k].va nm b wr (by rw [z1]; rfl) ((hB.cell (p := ⟨b, 0, none⟩) (World.block_lt_of_cell? _ _ HNM.out)).trans HNM.out) hAz hAO)
    have HNO := hid hno
    obtain ⟨q, hq⟩ : ∃ q, seq ws[k].va nm = q := ⟨_, rfl⟩
    have HQK : Hid (seq ws[k].va nm = q) := hq
    rw [hq] at HCM
    have X1_ := hid r1
    have i1 : (0 : Int) ≤ (k : Int) := by omega
    have i2 : (k : Int) < (n : Int) := by omega
    clear hno hB hrd o1 o2 z1 r1 hq hu hAz hAO
    cases q with
    | true =>
     go_wp2_with (first
      | ((with_reducible refine gLq ?_); refine wpList_load_mid (by rfl) 48 _ (by rfl) g (off + k * 18) (by rfl) A _ X1_.out Tryz.underlying48 rfl ZA.out ?_)
      | (go_at_call 164; refine HCM.out.mono ?_; rintro e w2 ⟨rfl, hb2⟩; have HB2 := hid (zAA HB.out hb2 HB.out.size); clear hb2))
     go_ret
     exact ⟨zAH (by show (k : Int) = ixq _ _ _; rw [zCS (q := fun t : Pt => seq t.va nm) ws 0 k hkc (fun j hj => HNO.out j (by omega) hj) (by exact HQK.out)]; simp), HB2.out⟩
    | false =>
     go_wp2_with (first
      | ((with_reducible refine gLq ?_); refine wpList_load_mid (by rfl) 48 _ (by rfl) g (off + k * 18) (by rfl) A _ X1_.out Tryz.underlying48 rfl ZA.out ?_)
      | (go_at_call 164; refine HCM.out.mono ?_; rintro e w2 ⟨rfl, hb2⟩; have HB2 := hid (zAA HB.out hb2 HB.out.size); clear hb2))
     go_roundg (n + 1 - (k + 1))
     case rel =>
      refine ⟨k + 1, by omega, rfl, by go_num, fun j hj hjk => ?_, HB2.out⟩
      by_cases c : j < k
      . exact HNO.out j hj c
      . obtain rfl : j = k := by omega
        exact HQK.out
     case measure => omega
  . obtain rfl : k = n := by omega
    have HR := hid (show ptq ws nm = -1 from zCA _ _ (fun x hx => by
     obtain ⟨j, hj, rfl⟩ := List.getElem_of_mem hx
     exact hno j hj (by have := HN.out; omega)))
    clear hno hB
    go_wp2_with fail
    go_ret
    exact ⟨zAH HR.out.symm, HB.out⟩
theorem zIN (ws : List Pt) (v : Value) (nm : ByteArray) (w : World) (h : Rd w (.row 48 18 (ws.map encP)) v) :
  Calls Tryz.prog 147 #[v, .string nm] w fun e w' => e = .returned (.int .i64 (ptq ws nm)) ∧ Below w.heap.size w w' := by
 have HB := hid ((Bxs.nil w).snoc (by simp) [.string nm] 9)
 have HIX := hid (fun W (hW : Below w.heap.size w W) (hc : W.cell? ⟨w.heap.size, 0, none⟩ = some (.string nm)) => zEN ws v nm w.heap.size W (h.later hW) hc)
 obtain ⟨pv, pn, pc, rfl⟩ := zAE h
 clear h
 go_enter Tryz.func147, Tryz.ntmps147
 go_wp2_with fail
 refine (HIX.out _ HB.out.bel (HB.out.c 0 (by simp) 0)).mono ?_
 rintro e w2 ⟨rfl, hb2⟩
 have HB2 := hid (HB.out.next hb2)
 clear hb2
 go_wp2_with fail
 go_ret
 exact ⟨rfl, HB2.out.bel⟩
theorem ent_wat : ∀ args w, (callFunc 147 args).run Tryz.prog w = .ok (.enter 147 args) w := enters_of Tryz.func147 (by kernel_rfl) rfl
theorem zIG (ts : List Tp) (ws : List Pt) (own : Ev) (kn : List Ev) (tv ov wv kv : Value) (hk : Sok ts ws own kn) (o : Opd) (w : World) (hs : Scn w ts ws own kn tv ov wv kv) (ho : o.k = 3) (j : Nat) (hj : j < kn.length) (hp : ptq ws o.va = (j : Int)) (hev : evk ts kn[j] = 0) (hf : 0 ≤ fdq (ts.getD kn[j].t.toNat dT).f o.fd) :
  Calls Tryz.prog 112 #[snV tv own ov wv kv, opV o] w fun e w' => e = .returned (V4.vV (fvl ts kn[j] o.fd)) ∧ Below w.heap.size w w' := by
 obtain ⟨g, off, A, hg, hr, uv, hA, hu⟩ : ∃ g off A, (∃ n c, kv = .slice (some ⟨g, off, none⟩) n c ∧ (j : Int) < (n : Int)) ∧ (∀ W, Below w.heap.size w W → W.rangeAt g (off + j * 5) A) ∧ ∃ uv, A = [.int .i64 kn[j].n, .int .i64 kn[j].t, .int .i64 kn[j].st, .int .i64 kn[j].en, uv] ∧ Rd w (.row 42 3 (kn[j].v.map encV)) uv := by
  obtain ⟨p, cap, rfl, _, hat⟩ := zAL lenX hs.rk
  obtain ⟨g, off, rfl, hrd⟩ := hat (by omega)
  obtain ⟨A, r1, o1⟩ := hrd w (Below.refl _ _) j hj
  obtain ⟨uv, z1, o2⟩ := rdX o1
  exact ⟨g, off, A, ⟨_, _, rfl, by omega⟩, fun W hW => zAP r1 hW, uv, z1, o2⟩
 have hFS := fun W (hW : Below w.heap.size w W) => zK4 ts ws own kn tv ov wv kv hk.ty kn[j] uv o.fd W (hs.later hW) (hu.later hW) hev hf
 have hIX := fun W (hW : Below w.heap.size w W) => zIN ws wv o.va W (hs.later hW).rw
 rw [hp] at hIX
 obtain ⟨⟨vk, vn, vt⟩, hv⟩ : ∃ v, fvl ts kn[j] o.fd = v := ⟨_, rfl⟩
 rw [hv] at hFS ⊢
 have hsh := zAE hu
 have hkvs := hg
 obtain ⟨tp, tn, tc, htv⟩ := zAE hs.rt
 obtain ⟨op, on2, oc, hov⟩ := zAE hs.ro
 obtain ⟨wp, wn, wc, hwv⟩ := zAE hs.rw
 obtain ⟨kn2, kc, hkv, hjn⟩ := hkvs
 have hB := bxs3 w (snC tv own ov wv kv) [.int .i64 o.k, .int .i64 o.vk, .int .i64 o.vi, .string o.vt, .string o.va, .string o.fd] [.int .i64 0, .int .i64 0, .string ⟨#[]⟩] 100 44 42
 subst htv hov hwv hkv
 obtain ⟨on, ot, ost, oen, ovl⟩ := own
 obtain ⟨ok, ovk, ovi, ovt, ova, ofd⟩ := o
 simp only [snC] at hB
 simp only at ho hFS hIX ⊢
 subst ho
 obtain ⟨UL, hUL⟩ : ∃ UL : List Value, [.slice tp tn tc, .int .i64 on, .int .i64 ot, .int .i64 ost, .int .i64 oen, .slice op on2 oc, .slice wp wn wc, .slice (some ⟨g, off, none⟩) kn2 kc] = UL := ⟨_, rfl⟩
 have hUz : UL.length = 8 := by rw [← hUL]; rfl
 have hXz : A.length = 5 := by rw [hA]; rfl
 have HFC : Hid (∀ W, Below w.heap.size w W → Calls Tryz.prog 146 #[.agg UL.toArray, .agg A.toArray, .string ofd] W fun e w' => e = .returned (V4.vV ⟨vk, vn, vt⟩) ∧ Below W.heap.size W w') := fun W hW => by rw [hA, ← hUL]; exact hFS W hW
 obtain ⟨XL, hXL⟩ : ∃ XL : List Value, A = XL := ⟨_, rfl⟩
 rw [hXL] at HFC hXz hr
 have HS6 : Hid (∀ W, Below w.heap.size w W → W.heap[w.heap.size]? = some (.cells [.slice tp tn tc, .int .i64 on, .int .i64 ot, .int .i64 ost, .int .i64 oen, .slice op on2 oc, .slice wp wn wc, .slice (some ⟨g, off, none⟩) kn2 kc].toArray 100 (0, 0)) → W.heap[w.heap.size + 1]? = some (.cells [.int .i64 3, .int .i64 ovk, .int .i64 ovi, .string ovt, .string ova, .string ofd].toArray 44 (0, 0)) → (W.rangeAt w.heap.size 0 UL ∧ W.cell? ⟨w.heap.size, 7, none⟩ = some (.slice (some ⟨g, off, none⟩) kn2 kc) ∧ W.rangeAt g (off + j * 5) XL ∧ W.cell? ⟨w.heap.size + 1, 5, none⟩ = some (.string ofd))) := fun W h0 h1 h2 => ⟨by rw [← hUL]; exact zAJ h1, zAB h1 7, hr W h0, zAB h2 5⟩
 have ZU : Hid ((Tryz.prog.info? 100).map (·.size) = some UL.length) := by show _ = _; rw [hUz]; kernel_rfl
 have ZX : Hid ((Tryz.prog.info? 35).map (·.size) = some XL.length) := by show _ = _; rw [hXz]; kernel_rfl
 have HIX := hid hIX
 have HB := hid hB
 have y1 : (0 : Int) ≤ (j : Int) := by omega
 have y2 : (j : Int) < (kn2 : Int) := hjn
 clear hB hs hk hf hv hFS hIX hr hA hu hsh hg hev hp hj hUL hUz hXz hXL hjn
 go_enter Tryz.func112, Tryz.ntmps112
 go_upto_region 5 with fail
 generalize hWB : ((w.alloc (.cells #[.slice tp tn tc, .int .i64 on, .int .i64 ot, .int .i64 ost, .int .i64 oen, .slice op on2 oc, .slice wp wn wc, .slice (some ⟨g, off, none⟩) kn2 kc] 100)).alloc (.cells #[.int .i64 3, .int .i64 ovk, .int .i64 ovi, .string ovt, .string ova, .string ofd] 44)).alloc (.cells #[.int .i64 0, .int .i64 0, .string ⟨#[]⟩] 42) = WB at HB ⊢
 clear hWB
 have HBB := hid HB.out.bel
 have HV : Hid (WB.heap[w.heap.size + 2]? = some (.cells #[.int .i64 0, .int .i64 0, .string ⟨#[]⟩] 42 (0, 0))) := HB.out.b 2 (by simp)
 have hb0 : WB.heap[w.heap.size]? = some (.cells #[.slice tp tn tc, .int .i64 on, .int .i64 ot, .int .i64 ost, .int .i64 oen, .slice op on2 oc, .slice wp wn wc, .slice (some ⟨g, off, none⟩) kn2 kc] 100 (0, 0)) := HB.out.b 0 (by simp)
 have hb1 : WB.heap[w.heap.size + 1]? = some (.cells #[.int .i64 3, .int .i64 ovk, .int .i64 ovi, .string ovt, .string ova, .string ofd] 44 (0, 0)) := HB.out.b 1 (by simp)
 have hS := fun W (hW : Below WB.heap.size WB W) => HS6.out W (zAA HBB.out hW HBB.out.size) ((hW.block _ (zAD hb0)).trans hb0) ((hW.block _ (zAD hb1)).trans hb1)
 have CU := hid (fun W (hW : Below WB.heap.size WB W) => (hS W hW).1)
 have C7 := hid (fun W (hW : Below WB.heap.size WB W) => (hS W hW).2.1)
 have HR := hid (fun W (hW : Below WB.heap.size WB W) => (hS W hW).2.2.1)
 have C5 := hid (fun W (hW : Below WB.heap.size WB W) => (hS W hW).2.2.2)
 have C6 : Hid (∀ W, Below WB.heap.size WB W → W.cell? ⟨w.heap.size, 6, none⟩ = some (.slice wp wn wc)) := fun W hW => by rw [zAB ((hW.block _ (zAD hb0)).trans hb0)]; rfl
 have C4 : Hid (∀ W, Below WB.heap.size WB W → W.cell? ⟨w.heap.size + 1, 4, none⟩ = some (.string ova)) := fun W hW => by rw [zAB ((hW.block _ (zAD hb1)).trans hb1)]; rfl
 clear hb0 hb1 hS HB HS6
 have y3 : (0 : Int) ≤ (j : Int) ∧ (j : Int) < (kn2 : Int) := ⟨y1, y2⟩
 refine zBI (by kernel_rfl) (fun i w9 v => ([(fun w9 v => v = .agg UL.toArray), (fun w9 v => v = .pointer (some ⟨w.heap.size, 7, none⟩)), (fun w9 v => v = .slice (some ⟨g, off, none⟩) kn2 kc), (fun w9 v => v = .pointer (some ⟨w.heap.size, 6, none⟩)), (fun w9 v => v = .slice wp wn wc), (fun w9 v => v = .pointer (some ⟨w.heap.size + 1, 4, none⟩)), (fun w9 v => v = .string ova), (fun w9 v => v = .int .i64 (j : Nat)), (fun w9 v => v = .pointer (some ⟨g, off + j * 5, none⟩)), (fun w9 v => v = .agg XL.toArray), (fun w9 v => v = .pointer (some ⟨w.heap.size + 1, 5, none⟩)), (fun w9 v => v = .string ofd), (fun w9 v => v = V4.vV ⟨vk, vn, vt⟩)] : List (World → Value → Prop)).getD i (fun _ _ => True) w9 v) (fun W => Below WB.heap.size WB W) 32 13 rfl rfl [some 17, some 18, some 19, some 20, some 21, some 22, some 23, some 24, some 25, some 26, some 27, some 28, some 29] (by kernel_rfl) 42 (.tmp 4) (.tmp 29) (by rfl) (by rfl) (by kernel_rfl) (by kernel_rfl) (fun W W' => Below W.heap.size W W') ?hmon (Below.drew (Below.refl _ _)) (zAC.cons ?o0 (zAC.cons ?o1 (zAC.cons ?o2 (zAC.cons ?o3 (zAC.cons ?o4 (zAC.cons ?o5 (zAC.cons ?o6 (zAC.cons ?o7 (zAC.cons ?o8 (zAC.cons ?o9 (zAC.cons ?o10 (zAC.cons ?o11 (zAC.cons ?o12 zAC.nil))))))))))))) ?hend
 case hmon =>
  intro q W W' v hb h
  rcases q with _ | _ | _ | _ | _ | _ | _ | _ | _ | _ | _ | _ | _ | q
  . exact h
  . exact h
  . exact h
  . exact h
  . exact h
  . exact h
  . exact h
  . exact h
  . exact h
  . exact h
  . exact h
  . exact h
  . exact h
  . exact h
 case o0 =>
  intro a W hB hd ho
  have e2 : a.eval (.tmp 2) = .pointer (some ⟨w.heap.size, 0, none⟩) := ho 2 (by kernel_rfl)
  exact zBZ 100 _ rfl w.heap.size 0 e2 UL _ (CU.out W hB) Tryz.underlying100 rfl ZU.out ⟨_, rfl, rfl, hB, Below.refl _ _⟩
 case o1 =>
  intro a W hB hd ho
  have e2 : a.eval (.tmp 2) = .pointer (some ⟨w.heap.size, 0, none⟩) := ho 2 (by kernel_rfl)
  exact zAK (.pointer (some ⟨w.heap.size, 7, none⟩)) (by unfold execOp; simp only [ev_c, e2]; go_simp) ⟨_, rfl, rfl, hB, Below.refl _ _⟩
 case o2 =>
  intro a W hB hd ho
  have e18 : a.eval (.tmp 18) = .pointer (some ⟨w.heap.size, 7, none⟩) := hd 1 18 (by kernel_rfl)
  have c9 : W.cell? ⟨w.heap.size, 7, none⟩ = some (.slice (some ⟨g, off, none⟩) kn2 kc) := C7.out W hB
  exact zAK (.slice (some ⟨g, off, none⟩) kn2 kc) (by unfold execOp; simp only [ev_c, e18]; go_simp) ⟨_, rfl, rfl, hB, Below.refl _ _⟩
 case o3 =>
  intro a W hB hd ho
  have e2 : a.eval (.tmp 2) = .pointer (some ⟨w.heap.size, 0, none⟩) := ho 2 (by kernel_rfl)
  exact zAK (.pointer (some ⟨w.heap.size, 6, none⟩)) (by unfold execOp; simp only [ev_c, e2]; go_simp) ⟨_, rfl, rfl, hB, Below.refl _ _⟩
 case o4 =>
  intro a W hB hd ho
  have e20 : a.eval (.tmp 20) = .pointer (some ⟨w.heap.size, 6, none⟩) := hd 3 20 (by kernel_rfl)
  have c9 : W.cell? ⟨w.heap.size, 6, none⟩ = some (.slice wp wn wc) := C6.out W hB
  exact zAK (.slice wp wn wc) (by unfold execOp; simp only [ev_c, e20]; go_simp) ⟨_, rfl, rfl, hB, Below.refl _ _⟩
 case o5 =>
  intro a W hB hd ho
  have e3 : a.eval (.tmp 3) = .pointer (some ⟨w.heap.size + 1, 0, none⟩) := ho 3 (by kernel_rfl)
  exact zAK (.pointer (some ⟨w.heap.size + 1, 4, none⟩)) (by unfold execOp; simp only [ev_c, e3]; go_simp) ⟨_, rfl, rfl, hB, Below.refl _ _⟩
 case o6 =>
  intro a W hB hd ho
  have e22 : a.eval (.tmp 22) = .pointer (some ⟨w.heap.size + 1, 4, none⟩) := hd 5 22 (by kernel_rfl)
  have c9 : W.cell? ⟨w.heap.size + 1, 4, none⟩ = some (.string ova) := C4.out W hB
  exact zAK (.string ova) (by unfold execOp; simp only [ev_c, e22]; go_simp) ⟨_, rfl, rfl, hB, Below.refl _ _⟩
 case o7 =>
  intro a W hB hd ho
  have e21 : a.eval (.tmp 21) = .slice wp wn wc := hd 4 21 (by kernel_rfl)
  have e23 : a.eval (.tmp 23) = .string ova := hd 6 23 (by kernel_rfl)
  refine zA0 147 ent_wat _ _ rfl #[.slice wp wn wc, .string ova] (by simp [ev_c, e21, e23]) _ (HIX.out W (zAA HBB.out hB HBB.out.size)) ?_
  rintro e W' ⟨rfl, hal⟩
  exact ⟨_, rfl, _, rfl, rfl, zAA hB hal hB.size, hal⟩
 case o8 =>
  intro a W hB hd ho
  have e19 : a.eval (.tmp 19) = .slice (some ⟨g, off, none⟩) kn2 kc := hd 2 19 (by kernel_rfl)
  have e24 : a.eval (.tmp 24) = .int .i64 (j : Nat) := hd 7 24 (by kernel_rfl)
  exact zAK (.pointer (some ⟨g, off + j * 5, none⟩)) (by unfold execOp; simp only [ev_c, e19, e24]; go_simp) ⟨_, rfl, rfl, hB, Below.refl _ _⟩
 case o9 =>
  intro a W hB hd ho
  have e25 : a.eval (.tmp 25) = .pointer (some ⟨g, off + j * 5, none⟩) := hd 8 25 (by kernel_rfl)
  exact zBZ 35 _ rfl g (off + j * 5) e25 XL _ (HR.out W hB) Tryz.underlying35 rfl ZX.out ⟨_, rfl, rfl, hB, Below.refl _ _⟩
 case o10 =>
  intro a W hB hd ho
  have e3 : a.eval (.tmp 3) = .pointer (some ⟨w.heap.size + 1, 0, none⟩) := ho 3 (by kernel_rfl)
  exact zAK (.pointer (some ⟨w.heap.size + 1, 5, none⟩)) (by unfold execOp; simp only [ev_c, e3]; go_simp) ⟨_, rfl, rfl, hB, Below.refl _ _⟩
 case o11 =>
  intro a W hB hd ho
  have e27 : a.eval (.tmp 27) = .pointer (some ⟨w.heap.size + 1, 5, none⟩) := hd 10 27 (by kernel_rfl)
  have c9 : W.cell? ⟨w.heap.size + 1, 5, none⟩ = some (.string ofd) := C5.out W hB
  exact zAK (.string ofd) (by unfold execOp; simp only [ev_c, e27]; go_simp) ⟨_, rfl, rfl, hB, Below.refl _ _⟩
 case o12 =>
  intro a W hB hd ho
  have e17 : a.eval (.tmp 17) = .agg UL.toArray := hd 0 17 (by kernel_rfl)
  have e26 : a.eval (.tmp 26) = .agg XL.toArray := hd 9 26 (by kernel_rfl)
  have e28 : a.eval (.tmp 28) = .string ofd := hd 11 28 (by kernel_rfl)
  refine zA0 146 ent_fds _ _ rfl #[.agg UL.toArray, .agg XL.toArray, .string ofd] (by simp [ev_c, e17, e26, e28]) _ (HFC.out W (zAA HBB.out hB HBB.out.size)) ?_
  rintro e W' ⟨rfl, hal⟩
  exact ⟨_, rfl, _, rfl, rfl, zAA hB hal hB.size, hal⟩
 case hend =>
  intro vs W hB hT
  have e12 : vs 12 = V4.vV ⟨vk, vn, vt⟩ := hT 12 (by decide)
  have hV := (hB.block _ (zAD HV.out)).trans HV.out
  refine ⟨w.heap.size + 2, 0, [.int .i64 0, .int .i64 0, .string ⟨#[]⟩], 42, V4.vV ⟨vk, vn, vt⟩, [.int .i64 vk, .int .i64 vn, .string vt], by kernel_rfl, Eq.trans (b := vs 12) (by kernel_rfl) e12, rfl, hV, by simp, by kernel_rfl, rfl, ?_⟩
  intro w8 hq1 hq2
  have HU8 := hid hq1
  have HB8 : Hid (Below w.heap.size w w8) := zAG (zAA HBB.out hB HBB.out.size) hq2 (by omega)
  clear hq1 hq2 hV hT hB
  simp only [zB0, Act.put, List.setIfInBounds_toArray, e12]
  (try simp only [zBJ])
  simp only [List.set_cons_zero, List.set_cons_succ]
  clear e12
  generalize vs 0 = v0
  generalize vs 1 = v1
  generalize vs 2 = v2
  generalize vs 3 = v3
  generalize vs 4 = v4
  generalize vs 5 = v5
  generalize vs 6 = v6
  generalize vs 7 = v7
  generalize vs 8 = v8
  generalize vs 9 = v9
  generalize vs 10 = v10
  generalize vs 11 = v11
  clear vs
  go_wp2_with fail
  exact zAR (w.heap.size + 2) [.int .i64 vk, .int .i64 vn, .string vt] 42 _ HU8.out rfl rfl (by rfl) Tryz.underlying42 rfl (by kernel_rfl) ⟨rfl, HB8.out⟩
theorem side_s (ts : List Tp) (ws : List Pt) (own : Ev) (kn : List Ev) (tv ov wv kv : Value) (hk : Sok ts ws own kn) (o : Opd) (w : World) (hs : Scn w ts ws own kn tv ov wv kv) (ho : (sdk ts ws (ts.getD own.t.toNat dT) o).2 = 0) :
   Calls Tryz.prog 112 #[snV tv own ov wv kv, opV o] w fun e w' => e = .returned (V4.vV (svl ts ws own kn o)) ∧ Below w.heap.size w w' := by
 have ho' := ho
 unfold sdk at ho
 by_cases h0 : 1 ≤ o.k ∧ o.k ≤ 3
 . rw [if_neg (fun c => c h0)] at ho
   by_cases h1 : o.k = 1
   . have e : svl ts ws own kn o = ⟨o.vk, o.vi, o.vt⟩ := by unfold svl; rw [if_neg (by omega), if_neg (by omega)]
     rw [e]
     exact side_con ts ws own kn tv ov wv kv hk o w hs (by omega) (by omega)
   . rw [if_neg h1] at ho
     by_cases h2 : o.k = 2
     . rw [if_pos h2] at ho
       have e : svl ts ws own kn o = fvl ts own o.fd := by unfold svl; rw [if_pos h2]
       rw [e]
       split at ho
       . simp at ho
       . refine side_own ts ws own kn tv ov wv kv hk o w hs h2 ?_
         unfold fck at ho
         split at ho
         . simp at ho
         . omega
     . rw [if_neg h2] at ho
       split at ho
       . simp at ho
       . rename_i c1
         split at ho
         . simp at ho
         . obtain ⟨j, hj, e1, _⟩ := zI4 (q := fun p : Pt => seq p.va o.va) (l := ws) (by show 0 ≤ ptq ws o.va; omega)
           have e1' : ptq ws o.va = (j : Int) := e1
           have hjk : j < kn.length := by rw [hk.kn.1]; exact hj
           obtain ⟨g1, g2⟩ := hk.kn.2 j hjk hj
           have et : tyOf ts ws o.va = ts.getD kn[j].t.toNat dT := by
             unfold tyOf
             rw [e1', Int.toNat_natCast, zA5 hj, g2]
             rfl
           have es : svl ts ws own kn o = fvl ts kn[j] o.fd := by
             unfold svl
             rw [if_neg h2, if_pos (by omega), e1', Int.toNat_natCast, zA5 hjk]
           rw [es]
           rw [et] at ho
           refine zIG ts ws own kn tv ov wv kv hk o w hs (by omega) j hjk e1' g1 ?_
           unfold fck at ho
           split at ho
           . simp at ho
           . omega
 . rw [if_pos h0] at ho; simp at ho
end Go.Proofs.YtnlmknbhppdliaaGreatDoor.Chk
