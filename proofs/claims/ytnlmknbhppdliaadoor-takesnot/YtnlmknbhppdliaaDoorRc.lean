/-
  A region that draws its order, by what each of its operations yields, side by side. A region that draws its order, in which a row is appended to, and what is made of it is stored last. A scene's side of another when, by WhenAt.
-/
import Derived.Test.YtnlmknbhppdliaaDoorA
import Derived.Test.YtnlmknbhppdliaaDoorG
import Derived.Test.YtnlmknbhppdliaaDoorV4K
set_option maxHeartbeats 64000000
namespace Go.Proofs.YtnlmknbhppdliaaDoor
open Go.ChangeShapes Go.WideShapes Go.ChangeAt Go.RowKit
set_option linter.unusedVariables false
set_option linter.unusedSimpArgs false
set_option maxRecDepth 20000
def zFC (vs : Nat → Value) : Nat → List (Option Tmp) → Act → Act
  | _, [], a => a
  | k, d :: r, a => zFC vs (k + 1) r (a.put d (vs k))
theorem zFV {vs : Nat → Value} : ∀ {l : List Oper} {k : Nat} {a : Act} (ds : List (Option Tmp)) (h : l.map Oper.dst = ds), fill vs (fun _ => true) k l a = zFC vs k ds a
 | [], k, a, ds, h => by subst h; rfl
 | x :: r, k, a, ds, h => by
  subst h
  rw [fill, if_pos rfl, List.map_cons, zFC]
  exact zFV _ rfl
theorem set_c20 {α : Type} (a0 a1 a2 a3 a4 a5 a6 a7 a8 a9 a10 a11 a12 a13 a14 a15 a16 a17 a18 a19 : α) (l : List α) (n : Nat) (v : α) : (a0 :: a1 :: a2 :: a3 :: a4 :: a5 :: a6 :: a7 :: a8 :: a9 :: a10 :: a11 :: a12 :: a13 :: a14 :: a15 :: a16 :: a17 :: a18 :: a19 :: l).set (n + 20) v = a0 :: a1 :: a2 :: a3 :: a4 :: a5 :: a6 :: a7 :: a8 :: a9 :: a10 :: a11 :: a12 :: a13 :: a14 :: a15 :: a16 :: a17 :: a18 :: a19 :: l.set n v := rfl
theorem zET {P : Program} {Q : Exit → Act → World → Prop} {id : Nat} {ops : Array Oper} {a0 : Act} {w0 : World} (hm : P.follows .mixedOrders = true) (T : Nat → World → Value → Prop) (B : World → Prop) (n m : Nat) (hn : a0.tmps.size = n) (hsz : ops.size = m + 1) (ds : List (Option Tmp)) (hds : (ops.toList.take m).map Oper.dst = ds) (tyS : TypeId) (xS yS : Operand) (hst : (ops[m]'(by omega)).op = .store tyS xS yS) (hdn : (ops[m]'(by omega)).dst = none) (hp : zAW 0 ops.toList [] n = true) (hlb : lastB ops.toList = true)
  (Mo : World → World → Prop) (hmon : ∀ k w w' v, Mo w w' → T k w v → T k w' v) (hB : B w0.drew)
  (hop : zAF (fun i o => ∀ a w, B w → (∀ k d, depB ops o k d = true → T k w (a.eval (.tmp d))) → (∀ d, outB ops.toList d = true → a.eval (.tmp d) = a0.eval (.tmp d)) → Oper.wp P o a w (fun a' w' => ∃ v, a' = a.put o.dst v ∧ T i w' v ∧ B w' ∧ Mo w w') Q) 0 (ops.toList.take m))
  (hend : ∀ (vs : Nat → Value) w, B w → (∀ i, i < m → T i w (vs i)) → ∃ (b f : Nat) (cs : List Value) (U : TypeId) (v : Value) (us : List Value), (zFC vs 0 ds a0).eval xS = .pointer (some ⟨b, f, none⟩) ∧ (zFC vs 0 ds a0).eval yS = v ∧ v.cells = us.toArray ∧ w.heap[b]? = some (.cells cs.toArray U (0, 0)) ∧ f + us.length ≤ cs.length ∧ (P.info? tyS).map (·.size) = some us.length ∧ us.all (·.oneCell') = true ∧ ∀ w', w'.heap[b]? = some (.cells (ovr cs f us).toArray U (0, 0)) → Fr (fun i => i = b) w w' → Q .normal (zFC vs 0 ds a0) w') : (Code.region id ops true).wp P Q a0 w0 := by
 refine zAV hm T B n m hn hsz hp hlb Mo hmon hB hop fun vs w o ho hb hT => ?_
 have hoo : o = ops[m]'(by omega) := by rw [Array.getElem?_eq_getElem (by omega)] at ho; exact (Option.some.inj ho).symm
 subst hoo
 obtain ⟨b, f, cs, U, v, us, g1, g2, g3, g4, g5, g6, g7, g8⟩ := hend vs w hb hT
 rw [zFV ds hds]
 exact Chk.op_st tyS xS yS hst b f cs U v us g1 g2 g3 g4 g5 g6 g7 (fun w' k1 k2 => by rw [hdn]; exact g8 w' k1 k2)
end Go.Proofs.YtnlmknbhppdliaaDoor
namespace Go.Proofs.YtnlmknbhppdliaaDoor.Chk
open Go.ChangeShapes Go.WideShapes Go.ChangeAt Go.RowKit Go.Maps
set_option linter.unusedVariables false
set_option linter.unusedSimpArgs false
set_option maxRecDepth 20000
theorem zGO (A : List Value) (va nm : ByteArray) (b : Nat) (w : World) (hA : A[0]? = some (.string va)) (h : w.cell? ⟨b, 0, none⟩ = some (.string nm)) (hz : A.length = 18) (ho : A.all (·.oneCell') = true) : Calls Tryd.prog 90 #[.agg A.toArray, .pointer (some ⟨b, 0, none⟩)] w fun e w' => e = .returned (.bool (seq va nm)) ∧ Below w.heap.size w w' := by
  have hB : BlkT w (w.alloc (.cells A.toArray 47)) A 47 := BlkT.start w _ _
  have c0 : (w.alloc (.cells A.toArray 47)).cell? ⟨w.heap.size, 0, none⟩ = some (.string va) := by rw [hB.c 0]; exact hA
  have c4 : (w.alloc (.cells A.toArray 47)).cell? ⟨b, 0, none⟩ = some (.string nm) := (hB.bel.cell (p := ⟨b, 0, none⟩) (World.block_lt_of_cell? _ _ h)).trans h
  have HB := hid hB.bel
  clear hB h hA hz ho
  unfold seq
  go_enter Tryd.func90, Tryd.ntmps90
  go_wp2_with fail
  go_ret
  exact ⟨rfl, HB.out⟩
theorem zEJ (ws : List Pt) (v : Value) (nm : ByteArray) (b : Nat) (w : World) (h : Rd w (.row 47 18 (ws.map encP)) v) (hn : w.cell? ⟨b, 0, none⟩ = some (.string nm)) :
  Calls Tryd.prog 89 #[v, .func (.func 90) #[] #[.pointer (some ⟨b, 0, none⟩)]] w fun e w' => e = .returned (.int .i64 (ptq ws nm)) ∧ Below w.heap.size w w' := by
 obtain ⟨p, cap, rfl, hmx, hat⟩ := zAG lenP h
 have HAT : Hid (At encP 18 w p ws) := hat
 obtain ⟨n, hnl⟩ : ∃ n, ws.length = n := ⟨_, rfl⟩
 have HN := hid hnl
 have HNM := hid hn
 rw [hnl] at hmx ⊢
 clear h hat hnl hn
 go_enter Tryd.func89, Tryd.ntmps89
 go_wp2_with fail
 go_loopg [8] (n + 1) (fun gg i wr => ∃ k : Nat, k ≤ n ∧ gg = n + 1 - k ∧ i = .int .i64 (k : Nat) ∧ (∀ (j : Nat) (hj : j < ws.length), j < k → seq ws[j].va nm = false) ∧ Below w.heap.size w wr)
 case atStart => exact ⟨0, by omega, by omega, rfl, fun j _ h => by omega, Below.refl _ _⟩
 case round =>
  obtain ⟨k, hk, rfl, rfl, hno, hB⟩ := hrel
  have HB := hid hB
  by_cases hlt : k < n
  . have hkc : k < ws.length := by have := HN.out; omega
    obtain ⟨g, off, rfl, hrd⟩ := HAT.out (by omega)
    obtain ⟨A, r1, o1⟩ := hrd wr hB k hkc
    obtain ⟨vc, z1, o2⟩ := rdP o1
    obtain ⟨up, un, uc, hu⟩ := zAB o2
    have hAz : A.length = 18 := o1.1.symm
    have hAO : A.all (·.oneCell') = true := by rw [z1, hu]; rfl
    have ZA : Hid ((Tryd.prog.info? 47).map (·.size) = some A.length) := by show _ = _; rw [hAz]; kernel_rfl
    have HCM := hid (zGO A ws[k].va nm b wr (by rw [z1]; rfl) ((hB.cell (p := ⟨b, 0, none⟩) (World.block_lt_of_cell? _ _ HNM.out)).trans HNM.out) hAz hAO)
    have HNO := hid hno
    obtain ⟨q, hq⟩ : ∃ q, seq ws[k].va nm = q := ⟨_, rfl⟩
    have HQK : Hid (seq ws[k].va nm = q) := hq
    rw [hq] at HCM
    have X1_ := hid r1
    have i1 : (0 : Int) ≤ (k : Int) := by omega
    have i2 : (k : Int) < (n : Int) := by omega
    clear hno hB hrd o1 o2 z1 r1 hq hu hAz hAO
    cases q with
    | true =>
     go_wp2_with (first
      | ((with_reducible refine gLq ?_); refine wpList_load_mid (by rfl) 47 _ (by rfl) g (off + k * 18) (by rfl) A _ X1_.out Tryd.underlying47 rfl ZA.out ?_)
      | (go_at_call 90; refine HCM.out.mono ?_; rintro e w2 ⟨rfl, hb2⟩; have HB2 := hid (zAA HB.out hb2 HB.out.size); clear hb2))
     go_ret
     exact ⟨zAC (by show (k : Int) = ixq _ _ _; rw [zB2 (q := fun t : Pt => seq t.va nm) ws 0 k hkc (fun j hj => HNO.out j (by omega) hj) (by exact HQK.out)]; simp), HB2.out⟩
    | false =>
     go_wp2_with (first
      | ((with_reducible refine gLq ?_); refine wpList_load_mid (by rfl) 47 _ (by rfl) g (off + k * 18) (by rfl) A _ X1_.out Tryd.underlying47 rfl ZA.out ?_)
      | (go_at_call 90; refine HCM.out.mono ?_; rintro e w2 ⟨rfl, hb2⟩; have HB2 := hid (zAA HB.out hb2 HB.out.size); clear hb2))
     go_roundg (n + 1 - (k + 1))
     case rel =>
      refine ⟨k + 1, by omega, rfl, by go_num, fun j hj hjk => ?_, HB2.out⟩
      by_cases c : j < k
      . exact HNO.out j hj c
      . obtain rfl : j = k := by omega
        exact HQK.out
     case measure => omega
  . obtain rfl : k = n := by omega
    have HR := hid (show ptq ws nm = -1 from zBL _ _ (fun x hx => by
     obtain ⟨j, hj, rfl⟩ := List.getElem_of_mem hx
     exact hno j hj (by have := HN.out; omega)))
    clear hno hB
    go_wp2_with fail
    go_ret
    exact ⟨zAC HR.out.symm, HB.out⟩
theorem zGR (ws : List Pt) (v : Value) (nm : ByteArray) (w : World) (h : Rd w (.row 47 18 (ws.map encP)) v) :
  Calls Tryd.prog 80 #[v, .string nm] w fun e w' => e = .returned (.int .i64 (ptq ws nm)) ∧ Below w.heap.size w w' := by
 have HB := hid ((Bxs.nil w).snoc (by simp) [.string nm] 9)
 have HIX := hid (fun W (hW : Below w.heap.size w W) (hc : W.cell? ⟨w.heap.size, 0, none⟩ = some (.string nm)) => zEJ ws v nm w.heap.size W (h.later hW) hc)
 obtain ⟨pv, pn, pc, rfl⟩ := zAB h
 clear h
 go_enter Tryd.func80, Tryd.ntmps80
 go_wp2_with fail
 refine (HIX.out _ HB.out.bel (HB.out.c 0 (by simp) 0)).mono ?_
 rintro e w2 ⟨rfl, hb2⟩
 have HB2 := hid (HB.out.next hb2)
 clear hb2
 go_wp2_with fail
 go_ret
 exact ⟨rfl, HB2.out.bel⟩
theorem ent_wat : ∀ args w, (callFunc 80 args).run Tryd.prog w = .ok (.enter 80 args) w := enters_of Tryd.func80 (by kernel_rfl) rfl
theorem zGH (ts : List Tp) (ws : List Pt) (own : Ev) (kn : List Ev) (tv ov wv kv : Value) (hk : Sok ts ws own kn) (o : Opd) (w : World) (hs : Scn w ts ws own kn tv ov wv kv) (ho : o.k = 3) (j : Nat) (hj : j < kn.length) (hp : ptq ws o.va = (j : Int)) (hev : evk ts kn[j] = 0) (hf : 0 ≤ fdq (ts.getD kn[j].t.toNat dT).f o.fd) :
  Calls Tryd.prog 65 #[snV tv own ov wv kv, opV o] w fun e w' => e = .returned (V4.vV (fvl ts kn[j] o.fd)) ∧ Below w.heap.size w w' := by
 obtain ⟨g, off, A, hg, hr, uv, hA, hu⟩ : ∃ g off A, (∃ n c, kv = .slice (some ⟨g, off, none⟩) n c ∧ (j : Int) < (n : Int)) ∧ (∀ W, Below w.heap.size w W → W.rangeAt g (off + j * 5) A) ∧ ∃ uv, A = [.int .i64 kn[j].n, .int .i64 kn[j].t, .int .i64 kn[j].st, .int .i64 kn[j].en, uv] ∧ Rd w (.row 29 3 (kn[j].v.map encV)) uv := by
  obtain ⟨p, cap, rfl, _, hat⟩ := zAG lenX hs.rk
  obtain ⟨g, off, rfl, hrd⟩ := hat (by omega)
  obtain ⟨A, r1, o1⟩ := hrd w (Below.refl _ _) j hj
  obtain ⟨uv, z1, o2⟩ := rdX o1
  exact ⟨g, off, A, ⟨_, _, rfl, by omega⟩, fun W hW => zAP r1 hW, uv, z1, o2⟩
 have hFS := fun W (hW : Below w.heap.size w W) => zG9 ts ws own kn tv ov wv kv hk.ty kn[j] uv o.fd W (hs.later hW) (hu.later hW) hev hf
 have hIX := fun W (hW : Below w.heap.size w W) => zGR ws wv o.va W (hs.later hW).rw
 rw [hp] at hIX
 obtain ⟨⟨vk, vn, vt⟩, hv⟩ : ∃ v, fvl ts kn[j] o.fd = v := ⟨_, rfl⟩
 rw [hv] at hFS ⊢
 have hsh := zAB hu
 have hkvs := hg
 obtain ⟨tp, tn, tc, htv⟩ := zAB hs.rt
 obtain ⟨op, on2, oc, hov⟩ := zAB hs.ro
 obtain ⟨wp, wn, wc, hwv⟩ := zAB hs.rw
 obtain ⟨kn2, kc, hkv, hjn⟩ := hkvs
 have hB := bxs3 w (snC tv own ov wv kv) [.int .i64 o.k, .int .i64 o.vk, .int .i64 o.vi, .string o.vt, .string o.va, .string o.fd] [.int .i64 0, .int .i64 0, .string ⟨#[]⟩] 80 31 29
 subst htv hov hwv hkv
 obtain ⟨on, ot, ost, oen, ovl⟩ := own
 obtain ⟨ok, ovk, ovi, ovt, ova, ofd⟩ := o
 simp only [snC] at hB
 simp only at ho hFS hIX ⊢
 subst ho
 obtain ⟨UL, hUL⟩ : ∃ UL : List Value, [.slice tp tn tc, .int .i64 on, .int .i64 ot, .int .i64 ost, .int .i64 oen, .slice op on2 oc, .slice wp wn wc, .slice (some ⟨g, off, none⟩) kn2 kc] = UL := ⟨_, rfl⟩
 have hUz : UL.length = 8 := by rw [← hUL]; rfl
 have hXz : A.length = 5 := by rw [hA]; rfl
 have HFC : Hid (∀ W, Below w.heap.size w W → Calls Tryd.prog 79 #[.agg UL.toArray, .agg A.toArray, .string ofd] W fun e w' => e = .returned (V4.vV ⟨vk, vn, vt⟩) ∧ Below W.heap.size W w') := fun W hW => by rw [hA, ← hUL]; exact hFS W hW
 obtain ⟨XL, hXL⟩ : ∃ XL : List Value, A = XL := ⟨_, rfl⟩
 rw [hXL] at HFC hXz hr
 have HS6 : Hid (∀ W, Below w.heap.size w W → W.heap[w.heap.size]? = some (.cells [.slice tp tn tc, .int .i64 on, .int .i64 ot, .int .i64 ost, .int .i64 oen, .slice op on2 oc, .slice wp wn wc, .slice (some ⟨g, off, none⟩) kn2 kc].toArray 80 (0, 0)) → W.heap[w.heap.size + 1]? = some (.cells [.int .i64 3, .int .i64 ovk, .int .i64 ovi, .string ovt, .string ova, .string ofd].toArray 31 (0, 0)) → (W.rangeAt w.heap.size 0 UL ∧ W.cell? ⟨w.heap.size, 7, none⟩ = some (.slice (some ⟨g, off, none⟩) kn2 kc) ∧ W.rangeAt g (off + j * 5) XL ∧ W.cell? ⟨w.heap.size + 1, 5, none⟩ = some (.string ofd))) := fun W h0 h1 h2 => ⟨by rw [← hUL]; exact zAJ h1, zAD h1 7, hr W h0, zAD h2 5⟩
 have ZU : Hid ((Tryd.prog.info? 80).map (·.size) = some UL.length) := by show _ = _; rw [hUz]; kernel_rfl
 have ZX : Hid ((Tryd.prog.info? 40).map (·.size) = some XL.length) := by show _ = _; rw [hXz]; kernel_rfl
 have HIX := hid hIX
 have HB := hid hB
 have y1 : (0 : Int) ≤ (j : Int) := by omega
 have y2 : (j : Int) < (kn2 : Int) := hjn
 clear hB hs hk hf hv hFS hIX hr hA hu hsh hg hev hp hj hUL hUz hXz hXL hjn
 go_enter Tryd.func65, Tryd.ntmps65
 go_upto_region 5 with fail
 generalize hWB : ((w.alloc (.cells #[.slice tp tn tc, .int .i64 on, .int .i64 ot, .int .i64 ost, .int .i64 oen, .slice op on2 oc, .slice wp wn wc, .slice (some ⟨g, off, none⟩) kn2 kc] 80)).alloc (.cells #[.int .i64 3, .int .i64 ovk, .int .i64 ovi, .string ovt, .string ova, .string ofd] 31)).alloc (.cells #[.int .i64 0, .int .i64 0, .string ⟨#[]⟩] 29) = WB at HB ⊢
 clear hWB
 have HBB := hid HB.out.bel
 have HV : Hid (WB.heap[w.heap.size + 2]? = some (.cells #[.int .i64 0, .int .i64 0, .string ⟨#[]⟩] 29 (0, 0))) := HB.out.b 2 (by simp)
 have hb0 : WB.heap[w.heap.size]? = some (.cells #[.slice tp tn tc, .int .i64 on, .int .i64 ot, .int .i64 ost, .int .i64 oen, .slice op on2 oc, .slice wp wn wc, .slice (some ⟨g, off, none⟩) kn2 kc] 80 (0, 0)) := HB.out.b 0 (by simp)
 have hb1 : WB.heap[w.heap.size + 1]? = some (.cells #[.int .i64 3, .int .i64 ovk, .int .i64 ovi, .string ovt, .string ova, .string ofd] 31 (0, 0)) := HB.out.b 1 (by simp)
 have hS := fun W (hW : Below WB.heap.size WB W) => HS6.out W (zAA HBB.out hW HBB.out.size) ((hW.block _ (zAE hb0)).trans hb0) ((hW.block _ (zAE hb1)).trans hb1)
 have CU := hid (fun W (hW : Below WB.heap.size WB W) => (hS W hW).1)
 have C7 := hid (fun W (hW : Below WB.heap.size WB W) => (hS W hW).2.1)
 have HR := hid (fun W (hW : Below WB.heap.size WB W) => (hS W hW).2.2.1)
 have C5 := hid (fun W (hW : Below WB.heap.size WB W) => (hS W hW).2.2.2)
 have C6 : Hid (∀ W, Below WB.heap.size WB W → W.cell? ⟨w.heap.size, 6, none⟩ = some (.slice wp wn wc)) := fun W hW => by rw [zAD ((hW.block _ (zAE hb0)).trans hb0)]; rfl
 have C4 : Hid (∀ W, Below WB.heap.size WB W → W.cell? ⟨w.heap.size + 1, 4, none⟩ = some (.string ova)) := fun W hW => by rw [zAD ((hW.block _ (zAE hb1)).trans hb1)]; rfl
 clear hb0 hb1 hS HB HS6
 have y3 : (0 : Int) ≤ (j : Int) ∧ (j : Int) < (kn2 : Int) := ⟨y1, y2⟩
 refine zET (by kernel_rfl) (fun i w9 v => ([(fun w9 v => v = .agg UL.toArray), (fun w9 v => v = .pointer (some ⟨w.heap.size, 7, none⟩)), (fun w9 v => v = .slice (some ⟨g, off, none⟩) kn2 kc), (fun w9 v => v = .pointer (some ⟨w.heap.size, 6, none⟩)), (fun w9 v => v = .slice wp wn wc), (fun w9 v => v = .pointer (some ⟨w.heap.size + 1, 4, none⟩)), (fun w9 v => v = .string ova), (fun w9 v => v = .int .i64 (j : Nat)), (fun w9 v => v = .pointer (some ⟨g, off + j * 5, none⟩)), (fun w9 v => v = .agg XL.toArray), (fun w9 v => v = .pointer (some ⟨w.heap.size + 1, 5, none⟩)), (fun w9 v => v = .string ofd), (fun w9 v => v = V4.vV ⟨vk, vn, vt⟩)] : List (World → Value → Prop)).getD i (fun _ _ => True) w9 v) (fun W => Below WB.heap.size WB W) 32 13 rfl rfl [some 17, some 18, some 19, some 20, some 21, some 22, some 23, some 24, some 25, some 26, some 27, some 28, some 29] (by kernel_rfl) 29 (.tmp 4) (.tmp 29) (by rfl) (by rfl) (by kernel_rfl) (by kernel_rfl) (fun W W' => Below W.heap.size W W') ?hmon (Below.drew (Below.refl _ _)) (zAF.cons ?o0 (zAF.cons ?o1 (zAF.cons ?o2 (zAF.cons ?o3 (zAF.cons ?o4 (zAF.cons ?o5 (zAF.cons ?o6 (zAF.cons ?o7 (zAF.cons ?o8 (zAF.cons ?o9 (zAF.cons ?o10 (zAF.cons ?o11 (zAF.cons ?o12 zAF.nil))))))))))))) ?hend
 case hmon =>
  intro q W W' v hb h
  rcases q with _ | _ | _ | _ | _ | _ | _ | _ | _ | _ | _ | _ | _ | q
  . exact h
  . exact h
  . exact h
  . exact h
  . exact h
  . exact h
  . exact h
  . exact h
  . exact h
  . exact h
  . exact h
  . exact h
  . exact h
  . exact h
 case o0 =>
  intro a W hB hd ho
  have e2 : a.eval (.tmp 2) = .pointer (some ⟨w.heap.size, 0, none⟩) := ho 2 (by kernel_rfl)
  exact zDX 80 _ rfl w.heap.size 0 e2 UL _ (CU.out W hB) Tryd.underlying80 rfl ZU.out ⟨_, rfl, rfl, hB, Below.refl _ _⟩
 case o1 =>
  intro a W hB hd ho
  have e2 : a.eval (.tmp 2) = .pointer (some ⟨w.heap.size, 0, none⟩) := ho 2 (by kernel_rfl)
  exact zAZ (.pointer (some ⟨w.heap.size, 7, none⟩)) (by unfold execOp; simp only [ev_c, e2]; go_simp) ⟨_, rfl, rfl, hB, Below.refl _ _⟩
 case o2 =>
  intro a W hB hd ho
  have e18 : a.eval (.tmp 18) = .pointer (some ⟨w.heap.size, 7, none⟩) := hd 1 18 (by kernel_rfl)
  have c9 : W.cell? ⟨w.heap.size, 7, none⟩ = some (.slice (some ⟨g, off, none⟩) kn2 kc) := C7.out W hB
  exact zAZ (.slice (some ⟨g, off, none⟩) kn2 kc) (by unfold execOp; simp only [ev_c, e18]; go_simp) ⟨_, rfl, rfl, hB, Below.refl _ _⟩
 case o3 =>
  intro a W hB hd ho
  have e2 : a.eval (.tmp 2) = .pointer (some ⟨w.heap.size, 0, none⟩) := ho 2 (by kernel_rfl)
  exact zAZ (.pointer (some ⟨w.heap.size, 6, none⟩)) (by unfold execOp; simp only [ev_c, e2]; go_simp) ⟨_, rfl, rfl, hB, Below.refl _ _⟩
 case o4 =>
  intro a W hB hd ho
  have e20 : a.eval (.tmp 20) = .pointer (some ⟨w.heap.size, 6, none⟩) := hd 3 20 (by kernel_rfl)
  have c9 : W.cell? ⟨w.heap.size, 6, none⟩ = some (.slice wp wn wc) := C6.out W hB
  exact zAZ (.slice wp wn wc) (by unfold execOp; simp only [ev_c, e20]; go_simp) ⟨_, rfl, rfl, hB, Below.refl _ _⟩
 case o5 =>
  intro a W hB hd ho
  have e3 : a.eval (.tmp 3) = .pointer (some ⟨w.heap.size + 1, 0, none⟩) := ho 3 (by kernel_rfl)
  exact zAZ (.pointer (some ⟨w.heap.size + 1, 4, none⟩)) (by unfold execOp; simp only [ev_c, e3]; go_simp) ⟨_, rfl, rfl, hB, Below.refl _ _⟩
 case o6 =>
  intro a W hB hd ho
  have e22 : a.eval (.tmp 22) = .pointer (some ⟨w.heap.size + 1, 4, none⟩) := hd 5 22 (by kernel_rfl)
  have c9 : W.cell? ⟨w.heap.size + 1, 4, none⟩ = some (.string ova) := C4.out W hB
  exact zAZ (.string ova) (by unfold execOp; simp only [ev_c, e22]; go_simp) ⟨_, rfl, rfl, hB, Below.refl _ _⟩
 case o7 =>
  intro a W hB hd ho
  have e21 : a.eval (.tmp 21) = .slice wp wn wc := hd 4 21 (by kernel_rfl)
  have e23 : a.eval (.tmp 23) = .string ova := hd 6 23 (by kernel_rfl)
  refine zB9 80 ent_wat _ _ rfl #[.slice wp wn wc, .string ova] (by simp [ev_c, e21, e23]) _ (HIX.out W (zAA HBB.out hB HBB.out.size)) ?_
  rintro e W' ⟨rfl, hal⟩
  exact ⟨_, rfl, _, rfl, rfl, zAA hB hal hB.size, hal⟩
 case o8 =>
  intro a W hB hd ho
  have e19 : a.eval (.tmp 19) = .slice (some ⟨g, off, none⟩) kn2 kc := hd 2 19 (by kernel_rfl)
  have e24 : a.eval (.tmp 24) = .int .i64 (j : Nat) := hd 7 24 (by kernel_rfl)
  exact zAZ (.pointer (some ⟨g, off + j * 5, none⟩)) (by unfold execOp; simp only [ev_c, e19, e24]; go_simp) ⟨_, rfl, rfl, hB, Below.refl _ _⟩
 case o9 =>
  intro a W hB hd ho
  have e25 : a.eval (.tmp 25) = .pointer (some ⟨g, off + j * 5, none⟩) := hd 8 25 (by kernel_rfl)
  exact zDX 40 _ rfl g (off + j * 5) e25 XL _ (HR.out W hB) Tryd.underlying40 rfl ZX.out ⟨_, rfl, rfl, hB, Below.refl _ _⟩
 case o10 =>
  intro a W hB hd ho
  have e3 : a.eval (.tmp 3) = .pointer (some ⟨w.heap.size + 1, 0, none⟩) := ho 3 (by kernel_rfl)
  exact zAZ (.pointer (some ⟨w.heap.size + 1, 5, none⟩)) (by unfold execOp; simp only [ev_c, e3]; go_simp) ⟨_, rfl, rfl, hB, Below.refl _ _⟩
 case o11 =>
  intro a W hB hd ho
  have e27 : a.eval (.tmp 27) = .pointer (some ⟨w.heap.size + 1, 5, none⟩) := hd 10 27 (by kernel_rfl)
  have c9 : W.cell? ⟨w.heap.size + 1, 5, none⟩ = some (.string ofd) := C5.out W hB
  exact zAZ (.string ofd) (by unfold execOp; simp only [ev_c, e27]; go_simp) ⟨_, rfl, rfl, hB, Below.refl _ _⟩
 case o12 =>
  intro a W hB hd ho
  have e17 : a.eval (.tmp 17) = .agg UL.toArray := hd 0 17 (by kernel_rfl)
  have e26 : a.eval (.tmp 26) = .agg XL.toArray := hd 9 26 (by kernel_rfl)
  have e28 : a.eval (.tmp 28) = .string ofd := hd 11 28 (by kernel_rfl)
  refine zB9 79 ent_fds _ _ rfl #[.agg UL.toArray, .agg XL.toArray, .string ofd] (by simp [ev_c, e17, e26, e28]) _ (HFC.out W (zAA HBB.out hB HBB.out.size)) ?_
  rintro e W' ⟨rfl, hal⟩
  exact ⟨_, rfl, _, rfl, rfl, zAA hB hal hB.size, hal⟩
 case hend =>
  intro vs W hB hT
  have e12 : vs 12 = V4.vV ⟨vk, vn, vt⟩ := hT 12 (by decide)
  have hV := (hB.block _ (zAE HV.out)).trans HV.out
  refine ⟨w.heap.size + 2, 0, [.int .i64 0, .int .i64 0, .string ⟨#[]⟩], 29, V4.vV ⟨vk, vn, vt⟩, [.int .i64 vk, .int .i64 vn, .string vt], by kernel_rfl, Eq.trans (b := vs 12) (by kernel_rfl) e12, rfl, hV, by simp, by kernel_rfl, rfl, ?_⟩
  intro w8 hq1 hq2
  have HU8 := hid hq1
  have HB8 : Hid (Below w.heap.size w w8) := zAO (zAA HBB.out hB HBB.out.size) hq2 (by omega)
  clear hq1 hq2 hV hT hB
  simp only [zFC, Act.put, List.setIfInBounds_toArray, e12]
  (try simp only [set_c20])
  simp only [List.set_cons_zero, List.set_cons_succ]
  clear e12
  generalize vs 0 = v0
  generalize vs 1 = v1
  generalize vs 2 = v2
  generalize vs 3 = v3
  generalize vs 4 = v4
  generalize vs 5 = v5
  generalize vs 6 = v6
  generalize vs 7 = v7
  generalize vs 8 = v8
  generalize vs 9 = v9
  generalize vs 10 = v10
  generalize vs 11 = v11
  clear vs
  go_wp2_with fail
  exact zAU (w.heap.size + 2) [.int .i64 vk, .int .i64 vn, .string vt] 29 _ HU8.out rfl rfl (by rfl) Tryd.underlying29 rfl (by kernel_rfl) ⟨rfl, HB8.out⟩
theorem side_s (ts : List Tp) (ws : List Pt) (own : Ev) (kn : List Ev) (tv ov wv kv : Value) (hk : Sok ts ws own kn) (o : Opd) (w : World) (hs : Scn w ts ws own kn tv ov wv kv) (ho : (sdk ts ws (ts.getD own.t.toNat dT) o).2 = 0) :
   Calls Tryd.prog 65 #[snV tv own ov wv kv, opV o] w fun e w' => e = .returned (V4.vV (svl ts ws own kn o)) ∧ Below w.heap.size w w' := by
 have ho' := ho
 unfold sdk at ho
 by_cases h0 : 1 ≤ o.k ∧ o.k ≤ 3
 . rw [if_neg (fun c => c h0)] at ho
   by_cases h1 : o.k = 1
   . have e : svl ts ws own kn o = ⟨o.vk, o.vi, o.vt⟩ := by unfold svl; rw [if_neg (by omega), if_neg (by omega)]
     rw [e]
     exact side_con ts ws own kn tv ov wv kv hk o w hs (by omega) (by omega)
   . rw [if_neg h1] at ho
     by_cases h2 : o.k = 2
     . rw [if_pos h2] at ho
       have e : svl ts ws own kn o = fvl ts own o.fd := by unfold svl; rw [if_pos h2]
       rw [e]
       split at ho
       . simp at ho
       . refine side_own ts ws own kn tv ov wv kv hk o w hs h2 ?_
         unfold fck at ho
         split at ho
         . simp at ho
         . omega
     . rw [if_neg h2] at ho
       split at ho
       . simp at ho
       . rename_i c1
         split at ho
         . simp at ho
         . obtain ⟨j, hj, e1, _⟩ := zIH (q := fun p : Pt => seq p.va o.va) (l := ws) (by show 0 ≤ ptq ws o.va; omega)
           have e1' : ptq ws o.va = (j : Int) := e1
           have hjk : j < kn.length := by rw [hk.kn.1]; exact hj
           obtain ⟨g1, g2⟩ := hk.kn.2 j hjk hj
           have et : tyOf ts ws o.va = ts.getD kn[j].t.toNat dT := by
             unfold tyOf
             rw [e1', Int.toNat_natCast, zA1 hj, g2]
             rfl
           have es : svl ts ws own kn o = fvl ts kn[j] o.fd := by
             unfold svl
             rw [if_neg h2, if_pos (by omega), e1', Int.toNat_natCast, zA1 hjk]
           rw [es]
           rw [et] at ho
           refine zGH ts ws own kn tv ov wv kv hk o w hs (by omega) j hjk e1' g1 ?_
           unfold fck at ho
           split at ho
           . simp at ho
           . omega
 . rw [if_pos h0] at ho; simp at ho
end Go.Proofs.YtnlmknbhppdliaaDoor.Chk
