/-
  Links of a rule's spans, by the program. A book, by the reference. Values, names, types and events in plain words. What Check and the document say of a value. What Name and the document say of a name. What checkAll says of values, one by one. How two values compare. Compare, and what the document says of it. The walk of Compare, and of the law over it.
-/
import Derived.Test.YtnlmknbhppdliaaGreatDoorRows
import Derived.Handy
import Derived.WalkSmall
import Derived.Deep.QuietTactic
import Derived.BigQuiet
import Derived.Deep.RegionHeld3
import Derived.Deep.RegionLaw
import Derived.OwnWalk
import Derived.Lib.Bytealg
import Derived.Test.YtnlmknbhppdliaaGreatDoorRb
set_option maxHeartbeats 64000000
namespace Go.Proofs.YtnlmknbhppdliaaGreatDoor.Chk
open Go.ChangeShapes Go.WideShapes Go.ChangeAt Go.RowKit Go.Maps
open B8 (Mx OwnM New zA5 lowZ leaZ greZ neeZ Bnd Gd fw)
set_option linter.unusedVariables false
set_option linter.unusedSimpArgs false
set_option maxRecDepth 20000
theorem op_clo {P : Program} {o : Oper} {a : Act} {w : World} {K : Act → World → Prop} {Q : Exit → Act → World → Prop} (f : FuncId) (he : ∀ args w, (callFunc f args).run P w = .ok (.enter f args) w) (x0 x1 : Operand) (ts : Array TypeId) (ho : o.op = .call { callee := .value x0, args := #[x1], argTypes := ts }) (c u1 : Value) (h0 : a.eval x0 = .func (.func f) #[] #[c]) (h1 : a.eval x1 = u1)
  (R : Ending → World → Prop) (hc : Calls P f #[u1, c] w R) (h : ∀ e w', R e w' → ∃ v, e = .returned v ∧ K (a.put o.dst v) w') : Oper.wp P o a w K Q := by
 unfold Oper.wp execOp
 simp [ho, resolve, invoke, Deferred.ofValue, h0, h1, he]
 refine hc.mono ?_
 intro e w' hr
 obtain ⟨v, rfl, hk⟩ := h e w' hr
 exact hk
theorem eqVr_any (A : List Value) (va nm : ByteArray) (b : Nat) (w : World) (hA : A[0]? = some (.string va)) (h : w.cell? ⟨b, 0, none⟩ = some (.string nm)) (hz : A.length = 18) (ho : A.all (·.oneCell') = true) : Calls Tryz.prog 117 #[.agg A.toArray, .pointer (some ⟨b, 0, none⟩)] w fun e w' => e = .returned (.bool (seq va nm)) ∧ Below w.heap.size w w' := by
  have hB : BlkT w (w.alloc (.cells A.toArray 48)) A 48 := BlkT.start w _ _
  have c0 : (w.alloc (.cells A.toArray 48)).cell? ⟨w.heap.size, 0, none⟩ = some (.string va) := by rw [hB.c 0]; exact hA
  have c4 : (w.alloc (.cells A.toArray 48)).cell? ⟨b, 0, none⟩ = some (.string nm) := (hB.bel.cell (p := ⟨b, 0, none⟩) (World.block_lt_of_cell? _ _ h)).trans h
  have HB := hid hB.bel
  clear hB h hA hz ho
  unfold seq
  go_enter Tryz.func117, Tryz.ntmps117
  go_wp2_with fail
  go_ret
  exact ⟨rfl, HB.out⟩
theorem zF8 (ws : List Pt) (v : Value) (nm : ByteArray) (b : Nat) (w : World) (h : Rd w (.row 48 18 (ws.map encP)) v) (hn : w.cell? ⟨b, 0, none⟩ = some (.string nm)) :
  Calls Tryz.prog 116 #[v, .func (.func 117) #[] #[.pointer (some ⟨b, 0, none⟩)]] w fun e w' => e = .returned (.int .i64 (ptq ws nm)) ∧ Below w.heap.size w w' := by
 obtain ⟨p, cap, rfl, hmx, hat⟩ := zAK lenP h
 have HAT : Hid (At encP 18 w p ws) := hat
 obtain ⟨n, hnl⟩ : ∃ n, ws.length = n := ⟨_, rfl⟩
 have HN := hid hnl
 have HNM := hid hn
 rw [hnl] at hmx ⊢
 clear h hat hnl hn
 go_enter Tryz.func116, Tryz.ntmps116
 go_wp2_with fail
 go_loopg [8] (n + 1) (fun gg i wr => ∃ k : Nat, k ≤ n ∧ gg = n + 1 - k ∧ i = .int .i64 (k : Nat) ∧ (∀ (j : Nat) (hj : j < ws.length), j < k → seq ws[j].va nm = false) ∧ Below w.heap.size w wr)
 case atStart => exact ⟨0, by omega, by omega, rfl, fun j _ h => by omega, Below.refl _ _⟩
 case round =>
  obtain ⟨k, hk, rfl, rfl, hno, hB⟩ := hrel
  have HB := hid hB
  by_cases hlt : k < n
  . have hkc : k < ws.length := by have := HN.out; omega
    obtain ⟨g, off, rfl, hrd⟩ := HAT.out (by omega)
    obtain ⟨A, r1, o1⟩ := hrd wr hB k hkc
    obtain ⟨vc, z1, o2⟩ := rdP o1
    obtain ⟨up, un, uc, hu⟩ := zAC o2
    have hAz : A.length = 18 := o1.1.symm
    have hAO : A.all (·.oneCell') = true := by rw [z1, hu]; rfl
    have ZA : Hid ((Tryz.prog.info? 48).map (·.size) = some A.length) := by show _ = _; rw [hAz]; kernel_rfl
    have HCM := hid (eqVr_any A ws[k].va nm b wr (by rw [z1]; rfl) ((hB.cell (p := ⟨b, 0, none⟩) (World.block_lt_of_cell? _ _ HNM.out)).trans HNM.out) hAz hAO)
    have HNO := hid hno
    obtain ⟨q, hq⟩ : ∃ q, seq ws[k].va nm = q := ⟨_, rfl⟩
    have HQK : Hid (seq ws[k].va nm = q) := hq
    rw [hq] at HCM
    have X1_ := hid r1
    have i1 : (0 : Int) ≤ (k : Int) := by omega
    have i2 : (k : Int) < (n : Int) := by omega
    clear hno hB hrd o1 o2 z1 r1 hq hu hAz hAO
    cases q with
    | true =>
     go_wp2_with (first
      | ((with_reducible refine gLq ?_); refine wpList_load_mid (by rfl) 48 _ (by rfl) g (off + k * 18) (by rfl) A _ X1_.out Tryz.underlying48 rfl ZA.out ?_)
      | (go_at_call 117; refine HCM.out.mono ?_; rintro e w2 ⟨rfl, hb2⟩; have HB2 := hid (zAA HB.out hb2 HB.out.size); clear hb2))
     go_ret
     exact ⟨zAG (by show (k : Int) = ixq _ _ _; rw [zCX (q := fun t : Pt => seq t.va nm) ws 0 k hkc (fun j hj => HNO.out j (by omega) hj) (by exact HQK.out)]; simp), HB2.out⟩
    | false =>
     go_wp2_with (first
      | ((with_reducible refine gLq ?_); refine wpList_load_mid (by rfl) 48 _ (by rfl) g (off + k * 18) (by rfl) A _ X1_.out Tryz.underlying48 rfl ZA.out ?_)
      | (go_at_call 117; refine HCM.out.mono ?_; rintro e w2 ⟨rfl, hb2⟩; have HB2 := hid (zAA HB.out hb2 HB.out.size); clear hb2))
     go_roundg (n + 1 - (k + 1))
     case rel =>
      refine ⟨k + 1, by omega, rfl, by go_num, fun j hj hjk => ?_, HB2.out⟩
      by_cases c : j < k
      . exact HNO.out j hj c
      . obtain rfl : j = k := by omega
        exact HQK.out
     case measure => omega
  . obtain rfl : k = n := by omega
    have HR := hid (show ptq ws nm = -1 from zCB _ _ (fun x hx => by
     obtain ⟨j, hj, rfl⟩ := List.getElem_of_mem hx
     exact hno j hj (by have := HN.out; omega)))
    clear hno hB
    go_wp2_with fail
    go_ret
    exact ⟨zAG HR.out.symm, HB.out⟩
theorem zIY : ∀ args w, (callFunc 115 args).run Tryz.prog w = .ok (.enter 115 args) w := enters_of Tryz.func115 (by kernel_rfl) rfl
theorem find_of (sp : List Pt) (v : Value) (nm : ByteArray) (b : Nat) (w : World) (h : Rd w (.row 48 18 (sp.map encP)) v) (hn : w.cell? ⟨b, 0, none⟩ = some v) :
  Calls Tryz.prog 115 #[.string nm, .pointer (some ⟨b, 0, none⟩)] w fun e w' => e = .returned (.int .i64 (ptq sp nm)) ∧ Below w.heap.size w w' := by
 have hb : Below w.heap.size w (w.alloc (.cells #[.string nm] 9)) := (Below.refl _ _).alloc (Nat.le_refl _) _
 have HI := hid (zF8 sp v nm w.heap.size _ (h.later hb) (by go_simp))
 have HB := hid hb
 obtain ⟨p, m, c, rfl⟩ := zAC h
 have c1 := (hb.cell (p := ⟨b, 0, none⟩) (World.block_lt_of_cell? _ _ hn)).trans hn
 obtain ⟨x, hx⟩ : ∃ x, ptq sp nm = x := ⟨_, rfl⟩
 rw [hx] at HI ⊢
 clear hb h hn hx
 go_enter Tryz.func115, Tryz.ntmps115
 go_wp2_with (go_at_call 116; refine HI.out.mono ?_; rintro e w2 ⟨rfl, hb2⟩; have HB2 := hid (zAA HB.out hb2 HB.out.size); clear hb2)
 go_ret
 exact ⟨rfl, HB2.out⟩
theorem opts_at {os : List Op3} {v : Value} {w : World} (h : Rd w (.row 63 3 (os.map encQ)) v) : B8.OptsAt w v os.length (opZ os) := by
 obtain ⟨p, cap, rfl, hmx, hat⟩ := zAK lenQ h
 have hcap : os.length ≤ cap ∧ cap ≤ maxLen := by
  generalize hd : Dat.row 63 3 (os.map encQ) = d at h
  generalize hv : Value.slice p os.length cap = u at h
  cases h with
  | lit v => cases hd
  | nil e z q c h1 =>
   simp only [Value.slice.injEq] at hv
   exact ⟨by omega, by omega⟩
  | row e z l g off c xs h1 h2 h3 h4 h5 h6 =>
   simp only [Dat.row.injEq] at hd
   simp only [Value.slice.injEq] at hv
   exact ⟨by omega, by omega⟩
 refine ⟨p, cap, rfl, hcap.1, hcap.2, fun h0 => ?_⟩
 obtain ⟨g, off, rfl, hrd⟩ := hat h0
 refine ⟨g, off, rfl, fun i hi => ?_⟩
 obtain ⟨us, r1, o1⟩ := hrd w (Below.refl _ _) i hi
 have e := rdQ o1
 have ez : opZ os i = qo os[i] := by unfold opZ; rw [List.getD_eq_getElem?_getD, List.getElem?_eq_getElem hi]; rfl
 rw [ez]
 rw [e] at r1
 exact ⟨r1 0 _ rfl, r1 1 _ rfl, r1 2 _ rfl⟩
theorem zIM (pm : Nat → Nat) {x : Nat} (h : x < 4) : (#[.int .i64 (pm 0 : Nat), .int .i64 (pm 1 : Nat), .int .i64 (pm 2 : Nat), .int .i64 (pm 3 : Nat)] : Array Value)[x]? = some (.int .i64 (pm x : Nat)) := by
  rcases (by omega : x = 0 ∨ x = 1 ∨ x = 2 ∨ x = 3) with rfl | rfl | rfl | rfl <;> rfl
theorem zE1 {o : Nat → B8.Op3} : ∀ {n : Nat}, (∀ i, i < n → B8.optE (o i).r (o i).lo (o i).hi = 0) → B8.opE o n = 0
 | 0, _ => rfl
 | n + 1, h => by
  have ih := zE1 (o := o) (n := n) (fun i hi => h i (by omega))
  rw [B8.opE, ih, if_neg (by decide)]
  exact h n (by omega)
theorem zIH {os : List Op3} {v : Value} {w : World} (h : B8.OptsAt w v os.length (opZ os)) (ht : B8.Tab w) (ho : ∀ i, i < os.length → B8.optE (opZ os i).r (opZ os i).lo (opZ os i).hi = 0) (hr : B8.opR (opZ os) os.length = none) :
   Calls Tryz.prog 118 #[v] w fun e w' => e = .returned (.tuple #[.slice none 0 0, .int .i64 16]) ∧ Below w.heap.size w w' := by
 refine (B8.options_any v _ _ w h ht).mono ?_
 rintro e w' ⟨h1 | h1 | h1, hb⟩
 . exact absurd (zE1 ho) h1.1
 . exact ⟨h1.2.2, hb⟩
 . obtain ⟨_, R, V, h2, _⟩ := h1
   rw [hr] at h2; cases h2
theorem zJB {os : List Op3} {v : Value} {w : World} {R : Mx} (h : B8.OptsAt w v os.length (opZ os)) (ht : B8.Tab w) (ho : ∀ i, i < os.length → B8.optE (opZ os i).r (opZ os i).lo (opZ os i).hi = 0) (hr : B8.opR (opZ os) os.length = some R) :
   Calls Tryz.prog 118 #[v] w fun e w' => (∃ (bo co : Nat) (Go Co : Nat → Nat), e = .returned (.tuple #[.slice (some ⟨bo, 0, none⟩) 4 co, .int .i64 0]) ∧ OwnM w' w.heap.size bo 4 (fun _ => 4) Go Co R) ∧ Below w.heap.size w w' := by
 refine (B8.options_any v _ _ w h ht).mono ?_
 rintro e w' ⟨h1 | h1 | h1, hb⟩
 . exact absurd (zE1 ho) h1.1
 . rw [hr] at h1; cases h1.2.1
 . obtain ⟨_, R', V, h2, rfl, p, cap, b, G, C, rfl, h3, h4, h5, h6⟩ := h1
   rw [hr] at h2
   obtain rfl := Option.some.inj h2
   rw [h3 (by decide)]
   exact ⟨⟨b, cap, G, C, rfl, h6⟩, hb⟩
def Lres (w' : World) (e : Ending) (B b n : Nat) (G C : Nat → Nat) : Option Mx → Prop
  | none => e = .returned (.int .i64 16)
  | some M => e = .returned (.int .i64 0) ∧ OwnM w' B b n (fun _ => n) G C M
theorem zD9 (sp : List Pt) (ks : List Lk) (hlk : Lok sp ks) (n : Nat) (hsn : 2 * sp.length = n) (hn : n ≤ 12) (hn0 : 0 < n) (sv kv : Value) (b cap B : Nat) (G C : Nat → Nat) (Z : Mx) (w0 w : World) (h : OwnM w B b n (fun _ => n) G C Z)
  (hS : Rd w0 (.row 48 18 (sp.map encP)) sv) (hK : Rd w0 (.row 66 3 (ks.map encK)) kv) (ht : B8.Tab w0) (hb0 : Below w0.heap.size w0 w) (hB0 : w0.heap.size ≤ B) (hBw : B ≤ w.heap.size) (T0 : Option Mx) (hT0 : lks sp ks Z = T0) :
  Calls Tryz.prog 78 #[.slice (some ⟨b, 0, none⟩) n cap, sv, kv] w fun e w' => Lres w' e B b n G C T0 ∧ Below B w w' := by
 obtain ⟨p, cp, rfl, hmx, hat⟩ := zAK lenK hK
 obtain ⟨s1, s2, s3, hsv⟩ := zAC hS
 have HAT := hid hat
 have HO := hid h
 have HN12 := hid hn
 have HN0 := hid hn0
 have HSN := hid hsn
 have HOLD := hid (fun W (hW : Below B w W) => zE8 hb0 hB0 hW)
 have HBW := hid hBw
 have HLK := hid hlk
 have HSP := hid hS
 have HTB := hid ht
 have HT0 := hid hT0
 obtain ⟨nk, hnk⟩ : ∃ q, ks.length = q := ⟨_, rfl⟩
 have HNK := hid hnk
 obtain ⟨bS, hbS⟩ : ∃ x, w.heap.size = x := ⟨_, rfl⟩
 have HbS := hid hbS
 have HBS0 : Hid ((w.alloc (.cells #[sv] 49)).heap[w.heap.size]? = some (.cells #[sv] 49 (0, 0))) := heap_alloc_new _ _
 have HBA0 : Hid (Below B w (w.alloc (.cells #[sv] 49))) := (Below.refl _ _).alloc hBw _
 have HO0 := hid (h.of_below ((Below.refl w.heap.size w).alloc (Nat.le_refl _) (.cells #[sv] 49)))
 have HGS : Hid (∀ q, q < n → G q ≠ bS) := fun q hq => by have := (h.row q hq hn0).lt; omega
 rw [hnk] at hmx ⊢
 subst hsv
 clear hat h hb0 hB0 hS hK hnk hlk hBw ht hT0 hn0 hbS
 go_enter Tryz.func78, Tryz.ntmps78
 go_wp2_with fail
 have hbS := HbS.out
 rw [hbS] at HBS0 ⊢
 clear hbS
 go_loopg [22] (nk + 1) (fun gg io wr => ∃ (i : Nat) (M : Mx), i ≤ nk ∧ gg = nk + 1 - i ∧ io = .int .i64 (i : Nat) ∧ OwnM wr B b n (fun _ => n) G C M ∧ lks sp (ks.drop i) M = T0 ∧ Below B w wr ∧ wr.heap[bS]? = some (.cells #[.slice s1 s2 s3] 49 (0, 0)))
 case atStart => exact ⟨0, Z, by omega, by omega, rfl, HO0.out, HT0.out, HBA0.out, HBS0.out⟩
 case round =>
  obtain ⟨i, M, hi, rfl, rfl, hO1, hM1, hBr, hbs⟩ := hrel
  have HO1 := hid hO1
  have HM1 := hid hM1
  have HB1 := hid hBr
  have HBS1 := hid hbs
  clear hO1 hM1 hbs
  by_cases hin : i < nk
  . have hic : i < ks.length := by have := HNK.out; omega
    obtain ⟨g, off, rfl, hrd⟩ := HAT.out (by omega)
    obtain ⟨A, r1, o1⟩ := hrd wr (HOLD.out wr hBr) i hic
    obtain ⟨ov, z1, o2⟩ := rdK o1
    obtain ⟨up, un, uc, hu⟩ := zAC o2
    have hdrop : ks.drop i = ks[i] :: ks.drop (i + 1) := List.drop_eq_getElem_cons hic
    have hmem := List.getElem_mem hic
    obtain ⟨kk, hkk⟩ : ∃ k, ks[i] = k := ⟨_, rfl⟩
    rw [hkk] at hdrop z1 o2 hmem
    have HDR : Hid (∀ M', lk1 sp kk M = some M' → lks sp (ks.drop (i + 1)) M' = T0) := fun M' h => by
     have e := HM1.out
     rw [hdrop, lks, h] at e
     exact e
    have HDN : Hid (lk1 sp kk M = none → T0 = none) := fun h => by
     have e := HM1.out
     rw [hdrop, lks, h] at e
     exact e.symm
    have HOK := hid (HLK.out kk hmem).1
    have HOPT := hid (fun W (hW : Below wr.heap.size wr W) => And.intro (opts_at (o2.later hW)) (HTB.out.later (zAA (HOLD.out wr hBr) hW (HOLD.out wr hBr).size)))
    obtain ⟨kl, hkl⟩ : ∃ x, kk.l = x := ⟨_, rfl⟩
    obtain ⟨kr, hkr⟩ : ∃ x, kk.r = x := ⟨_, rfl⟩
    obtain ⟨os, hos⟩ : ∃ x, kk.o = x := ⟨_, rfl⟩
    have HOS := hid hos
    obtain ⟨pl, hpl⟩ : ∃ x, ptq sp kl = x := ⟨_, rfl⟩
    obtain ⟨pr, hpr⟩ : ∃ x, ptq sp kr = x := ⟨_, rfl⟩
    have HPL : Hid (ptq sp kk.l = pl) := by show _ = _; rw [hkl, hpl]
    have HPR : Hid (ptq sp kk.r = pr) := by show _ = _; rw [hkr, hpr]
    have HPKL := hid hpl
    have HPKR := hid hpr
    rw [hkl, hkr] at z1
    rw [hos] at HOK HOPT
    have HOVC : Hid (([.string kl, ov, .string kr] : List Value).all (·.oneCell') = true) := by show _ = _; rw [hu]; rfl
    rw [z1] at r1
    have XA := hid r1
    have i1 : (0 : Int) ≤ (i : Int) := by omega
    have i2 : (i : Int) < (nk : Int) := by omega
    have HIN := hid hin
    have HOV := hid hu
    obtain ⟨bL, hbL⟩ : ∃ x, wr.heap.size = x := ⟨_, rfl⟩
    have HbL := hid hbL
    have HFI := hid (fun W (hW : Below wr.heap.size wr W) nm => find_of sp (.slice s1 s2 s3) nm bS W (HSP.out.later (zAA (HOLD.out wr hBr) hW (HOLD.out wr hBr).size)) (by rw [zAB ((hW.block _ (zAE HBS1.out)).trans HBS1.out)]; rfl))
    clear hrd o1 o2 z1 r1 hu hkl hkr hos hpl hpr hdrop hmem hkk hic hBr hin hi hbL
    go_upto_region 5 with (first
     | ((with_reducible show wpList _ _ _ (Oper.mk _ (.load 66 _) _ _ _ _ :: _) _ _); refine wpList_load_mid (by rfl) 66 _ (by rfl) g (off + i * 3) (by rfl) [.string kl, ov, .string kr] _ XA.out Tryz.underlying66 rfl (by kernel_rfl) ?_)
     | ((with_reducible show wpList _ _ _ (Oper.mk _ (.store 66 _ _) _ _ _ _ :: _) _ _); refine zB2 (by rfl) 66 _ _ (by rfl) wr.heap.size 0 [.string ⟨#[]⟩, .slice none 0 0, .string ⟨#[]⟩] 66 (.agg #[.string kl, ov, .string kr]) [.string kl, ov, .string kr] (by rfl) (by rfl) (by rfl) (heap_alloc_new _ _) (Nat.le_refl 3) (by kernel_rfl) HOVC.out ?_; intro w6 hq1 hq2; have HBL6 : Hid (w6.heap[wr.heap.size]? = some (.cells #[.string kl, ov, .string kr] 66 (0, 0))) := hq1; have HBW6 : Hid (Below wr.heap.size wr w6) := zAP hq2; clear hq1 hq2))
    have HBW6' := HBW6
    have HB6 : Hid (Below B w w6) := zAA HB1.out HBW6.out (Nat.le_trans HBW.out HB1.out.size)
    have HO6 := hid (HO1.out.of_below HBW6.out)
    have HBS6 : Hid (w6.heap[bS]? = some (.cells #[.slice s1 s2 s3] 49 (0, 0))) := (HBW6.out.block _ (zAE HBS1.out)).trans HBS1.out
    have HFL := hid (fun W (hW : Below w6.heap.size w6 W) => HFI.out W (zAA HBW6.out hW HBW6.out.size) kl)
    have HFR := hid (fun W (hW : Below w6.heap.size w6 W) => HFI.out W (zAA HBW6.out hW HBW6.out.size) kr)
    rw [HPKL.out] at HFL
    rw [HPKR.out] at HFR
    have hbL := HbL.out
    rw [hbL] at HBL6 ⊢
    have HWR : Hid (bL < w6.heap.size) := zAE HBL6.out
    have HGL : Hid (∀ q, q < n → G q ≠ bL) := fun q hq => by have := (HO1.out.row q hq HN0.out).lt; omega
    clear hbL
    refine zFE (by kernel_rfl) (fun i9 w9 v => ([(fun w9 v => v = .func (.func 115) #[] #[.pointer (some ⟨bS, 0, none⟩)]), (fun w9 v => v = .pointer (some ⟨bL, 0, none⟩)), (fun w9 v => v = .string kl), (fun w9 v => v = .int .i64 pl), (fun w9 v => v = .func (.func 115) #[] #[.pointer (some ⟨bS, 0, none⟩)]), (fun w9 v => v = .pointer (some ⟨bL, 2, none⟩)), (fun w9 v => v = .string kr), (fun w9 v => v = .int .i64 pr), (fun w9 v => v = .int .i64 pl), (fun w9 v => v = .int .i64 pr)] : List (World → Value → Prop)).getD i9 (fun _ _ => True) w9 v) (fun W => Below w6.heap.size w6 W) 86 rfl (by kernel_rfl) (fun W W' => Below W.heap.size W W') ?hmon (Below.drew (Below.refl _ _)) (zAD.cons ?o0 (zAD.cons ?o1 (zAD.cons ?o2 (zAD.cons ?o3 (zAD.cons ?o4 (zAD.cons ?o5 (zAD.cons ?o6 (zAD.cons ?o7 (zAD.cons ?o8 (zAD.cons ?o9 zAD.nil)))))))))) ?hend
    case hmon =>
     intro q W W' v hb h
     rcases q with _ | _ | _ | _ | _ | _ | _ | _ | _ | _ | q
     . exact h
     . exact h
     . exact h
     . exact h
     . exact h
     . exact h
     . exact h
     . exact h
     . exact h
     . exact h
     . exact h
    case o0 =>
     intro a W hB hd ho
     have e7 : a.eval (.tmp 7) = .func (.func 115) #[] #[.pointer (some ⟨bS, 0, none⟩)] := ho 7 (by kernel_rfl)
     exact zA6 _ (by simp) _ e7 ⟨_, rfl, rfl, hB, Below.refl _ _⟩
    case o1 =>
     intro a W hB hd ho
     have e9 : a.eval (.tmp 9) = .pointer (some ⟨bL, 0, none⟩) := ho 9 (by kernel_rfl)
     exact zAM (.pointer (some ⟨bL, 0, none⟩)) (by unfold execOp; simp only [ev_c, e9]; go_simp) ⟨_, rfl, rfl, hB, Below.refl _ _⟩
    case o2 =>
     intro a W hB hd ho
     have e27 : a.eval (.tmp 27) = .pointer (some ⟨bL, 0, none⟩) := hd 1 27 (by kernel_rfl)
     have c9 : W.cell? ⟨bL, 0, none⟩ = some (.string kl) := by
       rw [zAB ((hB.block _ (zAE HBL6.out)).trans HBL6.out)]
       rfl
     exact zAM (.string kl) (by unfold execOp; simp only [ev_c, e27]; go_simp) ⟨_, rfl, rfl, hB, Below.refl _ _⟩
    case o3 =>
     intro a W hB hd ho
     have e26 : a.eval (.tmp 26) = .func (.func 115) #[] #[.pointer (some ⟨bS, 0, none⟩)] := hd 0 26 (by kernel_rfl)
     have e28 : a.eval (.tmp 28) = .string kl := hd 2 28 (by kernel_rfl)
     refine op_clo 115 zIY _ _ _ rfl (.pointer (some ⟨bS, 0, none⟩)) (.string kl) e26 e28 _ (HFL.out W hB) ?_
     rintro e W' ⟨rfl, hb⟩
     exact ⟨_, rfl, _, rfl, rfl, zAA hB hb hB.size, hb⟩
    case o4 =>
     intro a W hB hd ho
     have e7 : a.eval (.tmp 7) = .func (.func 115) #[] #[.pointer (some ⟨bS, 0, none⟩)] := ho 7 (by kernel_rfl)
     exact zA6 _ (by simp) _ e7 ⟨_, rfl, rfl, hB, Below.refl _ _⟩
    case o5 =>
     intro a W hB hd ho
     have e9 : a.eval (.tmp 9) = .pointer (some ⟨bL, 0, none⟩) := ho 9 (by kernel_rfl)
     exact zAM (.pointer (some ⟨bL, 2, none⟩)) (by unfold execOp; simp only [ev_c, e9]; go_simp) ⟨_, rfl, rfl, hB, Below.refl _ _⟩
    case o6 =>
     intro a W hB hd ho
     have e31 : a.eval (.tmp 31) = .pointer (some ⟨bL, 2, none⟩) := hd 5 31 (by kernel_rfl)
     have c9 : W.cell? ⟨bL, 2, none⟩ = some (.string kr) := by
       rw [zAB ((hB.block _ (zAE HBL6.out)).trans HBL6.out)]
       rfl
     exact zAM (.string kr) (by unfold execOp; simp only [ev_c, e31]; go_simp) ⟨_, rfl, rfl, hB, Below.refl _ _⟩
    case o7 =>
     intro a W hB hd ho
     have e30 : a.eval (.tmp 30) = .func (.func 115) #[] #[.pointer (some ⟨bS, 0, none⟩)] := hd 4 30 (by kernel_rfl)
     have e32 : a.eval (.tmp 32) = .string kr := hd 6 32 (by kernel_rfl)
     refine op_clo 115 zIY _ _ _ rfl (.pointer (some ⟨bS, 0, none⟩)) (.string kr) e30 e32 _ (HFR.out W hB) ?_
     rintro e W' ⟨rfl, hb⟩
     exact ⟨_, rfl, _, rfl, rfl, zAA hB hb hB.size, hb⟩
    case o8 =>
     intro a W hB hd ho
     have e29 : a.eval (.tmp 29) = .int .i64 pl := hd 3 29 (by kernel_rfl)
     exact zA6 _ (by simp) _ e29 ⟨_, rfl, rfl, hB, Below.refl _ _⟩
    case o9 =>
     intro a W hB hd ho
     have e33 : a.eval (.tmp 33) = .int .i64 pr := hd 7 33 (by kernel_rfl)
     exact zA6 _ (by simp) _ e33 ⟨_, rfl, rfl, hB, Below.refl _ _⟩
    case hend =>
     intro vs W hB hT
     have e0 : vs 0 = .func (.func 115) #[] #[.pointer (some ⟨bS, 0, none⟩)] := hT 0 (by decide)
     have e1 : vs 1 = .pointer (some ⟨bL, 0, none⟩) := hT 1 (by decide)
     have e2 : vs 2 = .string kl := hT 2 (by decide)
     have e3 : vs 3 = .int .i64 pl := hT 3 (by decide)
     have e4 : vs 4 = .func (.func 115) #[] #[.pointer (some ⟨bS, 0, none⟩)] := hT 4 (by decide)
     have e5 : vs 5 = .pointer (some ⟨bL, 2, none⟩) := hT 5 (by decide)
     have e6 : vs 6 = .string kr := hT 6 (by decide)
     have e7 : vs 7 = .int .i64 pr := hT 7 (by decide)
     have e8 : vs 8 = .int .i64 pl := hT 8 (by decide)
     have e9 : vs 9 = .int .i64 pr := hT 9 (by decide)
     simp only [List.toList_toArray, List.take_succ_cons, List.take_zero, fill, if_true, Act.put, List.setIfInBounds_toArray, List.set_cons_zero, List.set_cons_succ, e0, e1, e2, e3, e4, e5, e6, e7, e8, e9]
     have HBW7 := hid hB
     have HB7 : Hid (Below B w W) := zAA HB6.out hB (Nat.le_trans HBW.out HB6.out.size)
     have HO7 := hid (HO6.out.of_below hB)
     have HBS7 : Hid (W.heap[bS]? = some (.cells #[.slice s1 s2 s3] 49 (0, 0))) := (hB.block _ (zAE HBS6.out)).trans HBS6.out
     have HBL7 : Hid (W.heap[bL]? = some (.cells #[.string kl, ov, .string kr] 66 (0, 0))) := (hB.block _ (zAE HBL6.out)).trans HBL6.out
     clear hB hT e0 e1 e2 e3 e4 e5 e6 e7 e8 e9
     clear vs
     by_cases hpl : pl < 0
     . have d1 : decide (pl < 0) = true := by simpa using hpl
       have HTN := hid (HDR.out M (by unfold lk1; rw [HPL.out, if_pos (.inl hpl)]))
       clear hpl
       go_wp2_with fail
       go_roundg (nk + 1 - (i + 1))
       case rel => exact ⟨i + 1, M, HIN.out, rfl, by go_num, HO7.out, HTN.out, HB7.out, HBS7.out⟩
       case measure => have := HIN.out; omega
     . have d1 : decide (pl < 0) = false := by simpa using hpl
       by_cases hpr : pr < 0
       . have d2 : decide (pr < 0) = true := by simpa using hpr
         have HTN := hid (HDR.out M (by unfold lk1; rw [HPL.out, HPR.out, if_pos (.inr hpr)]))
         clear hpl hpr
         go_wp2_with fail
         go_roundg (nk + 1 - (i + 1))
         case rel => exact ⟨i + 1, M, HIN.out, rfl, by go_num, HO7.out, HTN.out, HB7.out, HBS7.out⟩
         case measure => have := HIN.out; omega
       . have d2 : decide (pr < 0) = false := by simpa using hpr
         obtain ⟨l, hl1, hl2, hl3⟩ := zCJ (sp := sp) (nm := kl) (by rw [HPKL.out]; exact hpl)
         obtain ⟨r', hr1, hr2, hr3⟩ := zCJ (sp := sp) (nm := kr) (by rw [HPKR.out]; exact hpr)
         rw [HPKL.out] at hl2
         rw [HPKR.out] at hr2
         clear hl3 hr3
         have q1 : W.cell? ⟨bL, 1, none⟩ = some ov := by rw [zAB HBL7.out]; rfl
         cases hopt : B8.opR (opZ os) os.length with
         | none =>
          have HTN : Hid (T0 = none) := HDN.out (by unfold lk1; rw [HPL.out, HPR.out, if_neg (by omega), HOS.out, hopt])
          have HOP := hid (zIH (HOPT.out W (zAA HBW6'.out HBW7.out HBW6'.out.size)).1 (HOPT.out W (zAA HBW6'.out HBW7.out HBW6'.out.size)).2 HOK.out hopt)
          clear hpl hpr hopt
          go_wp2_with (go_at_call 118; refine HOP.out.mono ?_; rintro e w8 ⟨rfl, hb8⟩; have HB8 := hid (zAA HB7.out hb8 (Nat.le_trans HBW.out HB7.out.size)); clear hb8)
          go_ret
          rw [HTN.out]
          exact ⟨rfl, HB8.out⟩
         | some R =>
          have HTN := hid (HDR.out (lwr (pm4 l r') R 4 M) (by unfold lk1; rw [HPL.out, HPR.out, if_neg (by omega), HOS.out, hopt, hl2, hr2]; rfl))
          have HOP := hid (zJB (HOPT.out W (zAA HBW6'.out HBW7.out HBW6'.out.size)).1 (HOPT.out W (zAA HBW6'.out HBW7.out HBW6'.out.size)).2 HOK.out hopt)
          have HPM : Hid (∀ q, pm4 l r' q < n) := fun q => by have := HSN.out; have := zIT (n := sp.length) hl1 hr1 q; omega
          have HSL := hid (fun W => B8.start_any l (by have := HSN.out; have := HN12.out; omega) W)
          have HEL := hid (fun W => B8.end_any l (by have := HSN.out; have := HN12.out; omega) W)
          have HSR := hid (fun W => B8.start_any r' (by have := HSN.out; have := HN12.out; omega) W)
          have HER := hid (fun W => B8.end_any r' (by have := HSN.out; have := HN12.out; omega) W)
          obtain ⟨pm, hpm⟩ : ∃ q, pm4 l r' = q := ⟨_, rfl⟩
          have hp0 : 2 * l = pm 0 := by rw [← hpm]; rfl
          have hp1 : 2 * l + 1 = pm 1 := by rw [← hpm]; rfl
          have hp2 : 2 * r' = pm 2 := by rw [← hpm]; rfl
          have hp3 : 2 * r' + 1 = pm 3 := by rw [← hpm]; rfl
          rw [hp0] at HSL
          rw [hp1] at HEL
          rw [hp2] at HSR
          rw [hp3] at HER
          rw [hpm] at HTN HPM
          subst hl2 hr2
          clear hpl hpr hopt hpm hp0 hp1 hp2 hp3 hl1 hr1
          go_upto_block 12 with (first
           | (go_at_call 118; refine HOP.out.mono ?_; rintro e w8 ⟨⟨bo, co, Go, Co, rfl, hO8⟩, hb8⟩; have HV8 := hid hO8; have HB78 := hid hb8; clear hb8 hO8)
           | (go_at_call_of 75 (Value.int IntKind.i64 (l : Int)); refine (HSL.out _).mono ?_; rintro e w8 ⟨rfl, rfl⟩)
           | (go_at_call_of 76 (Value.int IntKind.i64 (l : Int)); refine (HEL.out _).mono ?_; rintro e w8 ⟨rfl, rfl⟩)
           | (go_at_call_of 75 (Value.int IntKind.i64 (r' : Int)); refine (HSR.out _).mono ?_; rintro e w8 ⟨rfl, rfl⟩)
           | (go_at_call_of 76 (Value.int IntKind.i64 (r' : Int)); refine (HER.out _).mono ?_; rintro e w8 ⟨rfl, rfl⟩))
          have HNEW : Hid (Below w8.heap.size w8 (w8.alloc (.cells #[.int .i64 (pm 0 : Nat), .int .i64 (pm 1 : Nat), .int .i64 (pm 2 : Nat), .int .i64 (pm 3 : Nat)] 3))) := (Below.refl _ _).alloc (Nat.le_refl _) _
          have HBA9 : Hid ((w8.alloc (.cells #[.int .i64 (pm 0 : Nat), .int .i64 (pm 1 : Nat), .int .i64 (pm 2 : Nat), .int .i64 (pm 3 : Nat)] 3)).heap[w8.heap.size]? = some (.cells #[.int .i64 (pm 0 : Nat), .int .i64 (pm 1 : Nat), .int .i64 (pm 2 : Nat), .int .i64 (pm 3 : Nat)] 3 (0, 0))) := heap_alloc_new _ _
          have HB79 := hid (zAA HB78.out HNEW.out HB78.out.size)
          have HO9 := hid (HO7.out.of_below HB79.out)
          have HV9 := hid (HV8.out.of_below HNEW.out)
          have HBS9 := hid ((HB79.out.block _ (zAE HBS7.out)).trans HBS7.out)
          have HB9 : Hid (Below B w _) := zAA HB7.out HB79.out (Nat.le_trans HBW.out HB7.out.size)
          have HGG : Hid (∀ q, q < n → G q ≠ bo ∧ (∀ z, z < 4 → G q ≠ Go z) ∧ G q ≠ w8.heap.size ∧ G q ≠ bS) := fun q hq => by
           have h1 := (HO7.out.row q hq HN0.out).lt
           have h2 := HV8.out.bB
           have h3 := HB78.out.size
           exact ⟨by omega, fun z hz => by have := HV8.out.gB z hz (by decide); omega, by omega, HGS.out q hq⟩
          obtain ⟨bA, hbA⟩ : ∃ x, w8.heap.size = x := ⟨_, rfl⟩
          obtain ⟨SZ, hSZ⟩ : ∃ x, W.heap.size = x := ⟨_, rfl⟩
          rw [hSZ] at HV9
          rw [hbA] at HBA9 HGG ⊢
          have HCO := hid (fun z hz => (HV9.out.cp z hz).1)
          clear hSZ hbA HO7 HV8 HBS7 HB78 HB7 HBL7 q1
          go_loopg [60] 4 (fun gg io wi => ∃ (x : Nat), x ≤ 4 ∧ gg = 4 - x ∧ io = .int .i64 (x : Nat) ∧ OwnM wi B b n (fun _ => n) G C (lwr pm R x M) ∧ OwnM wi SZ bo 4 (fun _ => 4) Go Co R ∧ wi.heap[bA]? = some (.cells #[.int .i64 (pm 0 : Nat), .int .i64 (pm 1 : Nat), .int .i64 (pm 2 : Nat), .int .i64 (pm 3 : Nat)] 3 (0, 0)) ∧ wi.heap[bS]? = some (.cells #[.slice s1 s2 s3] 49 (0, 0)) ∧ Below B w wi)
          case atStart => exact ⟨0, by omega, by omega, rfl, HO9.out, HV9.out, HBA9.out, HBS9.out, HB9.out⟩
          case round =>
           obtain ⟨x, hx, rfl, rfl, hO, hV, hA, hS, hB⟩ := hrel
           clear HO9 HV9 HBA9 HBS9 HB9
           have HO1' := hid hO
           have HV1 := hid hV
           have HBA1 := hid hA
           have HBS1' := hid hS
           have HB1' := hid hB
           clear hO hV hA hS hB
           by_cases hx4 : x < 4
           . have x1 : (0 : Int) ≤ (x : Int) := by omega
             have x2 : (x : Int) < 4 := by omega
             obtain ⟨t0, t1, t2⟩ := HV1.out.top x hx4
             rw [t2 (by decide)] at t1
             have hcp := HCO.out x hx4
             obtain ⟨ZX, hZX⟩ : ∃ z, lwr pm R x M = z := ⟨_, rfl⟩
             have HZX := hid (show lwr pm R (x + 1) M = lwc pm R x 4 ZX by rw [lwr, hZX])
             rw [hZX] at HO1'
             have HX4 := hid hx4
             obtain ⟨gx, hgx⟩ : ∃ z, Go x = z := ⟨_, rfl⟩
             obtain ⟨cx, hcx⟩ : ∃ z, Co x = z := ⟨_, rfl⟩
             have HGX := hid hgx
             rw [hgx, hcx] at t1
             rw [hcx] at hcp
             clear t2 hZX hx hgx hcx hx4
             go_wp2_with fail
             clear t1
             go_loopg [67] 4 (fun gg io wi => ∃ (j : Nat), j ≤ 4 ∧ gg = 4 - j ∧ io = .int .i64 (j : Nat) ∧ OwnM wi B b n (fun _ => n) G C (lwc pm R x j ZX) ∧ OwnM wi SZ bo 4 (fun _ => 4) Go Co R ∧ wi.heap[bA]? = some (.cells #[.int .i64 (pm 0 : Nat), .int .i64 (pm 1 : Nat), .int .i64 (pm 2 : Nat), .int .i64 (pm 3 : Nat)] 3 (0, 0)) ∧ wi.heap[bS]? = some (.cells #[.slice s1 s2 s3] 49 (0, 0)) ∧ Below B w wi)
             case atStart => exact ⟨0, by omega, by omega, rfl, HO1'.out, HV1.out, HBA1.out, HBS1'.out, HB1'.out⟩
             case round =>
              obtain ⟨j, hj, rfl, rfl, hO, hV, hA, hS, hB⟩ := hrel
              clear HO1' HV1 HBA1 HBS1' HB1'
              have HO2 := hid hO
              have HV2 := hid hV
              have HBA := hid hA
              have HBS := hid hS
              have HB2 := hid hB
              clear hO hV hA hS hB
              by_cases hj4 : j < 4
              . have j1 : (0 : Int) ≤ (j : Int) := by omega
                have j2 : (j : Int) < 4 := by omega
                have t3 := (HV2.out.row x HX4.out (by decide)).cell (k := j) hj4
                rw [HGX.out] at t3
                obtain ⟨y, hy⟩ : ∃ z, R x j = z := ⟨_, rfl⟩
                rw [hy] at t3
                have HRY := hid hy
                obtain ⟨ZJ, hZJ⟩ : ∃ z, lwc pm R x j ZX = z := ⟨_, rfl⟩
                rw [hZJ] at HO2
                have HZJ := hid hZJ
                have HPX : Hid ((#[.int .i64 (pm 0 : Nat), .int .i64 (pm 1 : Nat), .int .i64 (pm 2 : Nat), .int .i64 (pm 3 : Nat)] : Array Value)[x]? = some (.int .i64 (pm x : Nat))) := zIM pm HX4.out
                have HQJ : Hid ((#[.int .i64 (pm 0 : Nat), .int .i64 (pm 1 : Nat), .int .i64 (pm 2 : Nat), .int .i64 (pm 3 : Nat)] : Array Value)[j]? = some (.int .i64 (pm j : Nat))) := zIM pm hj4
                have HPQ : Hid (pm x < n ∧ pm j < n) := ⟨HPM.out x, HPM.out j⟩
                obtain ⟨P, hP⟩ : ∃ z, pm x = z := ⟨_, rfl⟩
                obtain ⟨Q, hQ⟩ : ∃ z, pm j = z := ⟨_, rfl⟩
                have HPE := hid (And.intro hP hQ)
                rw [hP] at HPX HPQ
                rw [hQ] at HQJ HPQ
                have HJ4 : Hid (j + 1 ≤ 4) := hj4
                obtain ⟨WI, hWI⟩ : ∃ z, z = wr := ⟨_, rfl⟩
                subst hWI
                clear hy hZJ hP hQ hj4 hj
                go_wp2_with fail
                refine zAT (by kernel_rfl) (fun i9 w9 v => ([(fun w9 v => v = .slice (some ⟨b, 0, none⟩) n cap), (fun w9 v => v = .slice (some ⟨bA, 0, none⟩) 4 4), (fun w9 v => v = .int .i64 (x : Nat)), (fun w9 v => v = .pointer (some ⟨bA, x, none⟩)), (fun w9 v => v = .int .i64 (P : Nat)), (fun w9 v => v = .slice (some ⟨bA, 0, none⟩) 4 4), (fun w9 v => v = .int .i64 (j : Nat)), (fun w9 v => v = .pointer (some ⟨bA, j, none⟩)), (fun w9 v => v = .int .i64 (Q : Nat)), (fun w9 v => v = .int .i64 y)] : List (World → Value → Prop)).getD i9 (fun _ _ => True) w9 v) (fun W => Below WI.heap.size WI W) 86 10 rfl rfl (by kernel_rfl) (by kernel_rfl) (fun W W' => Below W.heap.size W W') ?hmon (Below.drew (Below.refl _ _)) (zAD.cons ?o0 (zAD.cons ?o1 (zAD.cons ?o2 (zAD.cons ?o3 (zAD.cons ?o4 (zAD.cons ?o5 (zAD.cons ?o6 (zAD.cons ?o7 (zAD.cons ?o8 (zAD.cons ?o9 zAD.nil)))))))))) ?hend
                case hmon =>
                 intro q W W' v hb h
                 rcases q with _ | _ | _ | _ | _ | _ | _ | _ | _ | _ | q
                 . exact h
                 . exact h
                 . exact h
                 . exact h
                 . exact h
                 . exact h
                 . exact h
                 . exact h
                 . exact h
                 . exact h
                 . exact h
                case o0 =>
                 intro a W hB hd ho
                 have e0 : a.eval (.tmp 0) = .slice (some ⟨b, 0, none⟩) n cap := ho 0 (by kernel_rfl)
                 exact zA6 _ (by simp) _ e0 ⟨_, rfl, rfl, hB, Below.refl _ _⟩
                case o1 =>
                 intro a W hB hd ho
                 have e14 : a.eval (.tmp 14) = .slice (some ⟨bA, 0, none⟩) 4 4 := ho 14 (by kernel_rfl)
                 exact zA6 _ (by simp) _ e14 ⟨_, rfl, rfl, hB, Below.refl _ _⟩
                case o2 =>
                 intro a W hB hd ho
                 have e15 : a.eval (.tmp 15) = .int .i64 (x : Nat) := ho 15 (by kernel_rfl)
                 exact zA6 _ (by simp) _ e15 ⟨_, rfl, rfl, hB, Below.refl _ _⟩
                case o3 =>
                 intro a W hB hd ho
                 have e73 : a.eval (.tmp 73) = .slice (some ⟨bA, 0, none⟩) 4 4 := hd 1 73 (by kernel_rfl)
                 have e74 : a.eval (.tmp 74) = .int .i64 (x : Nat) := hd 2 74 (by kernel_rfl)
                 exact zAM (.pointer (some ⟨bA, x, none⟩)) (by unfold execOp; simp only [ev_c, e73, e74]; go_simp) ⟨_, rfl, rfl, hB, Below.refl _ _⟩
                case o4 =>
                 intro a W hB hd ho
                 have e75 : a.eval (.tmp 75) = .pointer (some ⟨bA, x, none⟩) := hd 3 75 (by kernel_rfl)
                 have c9 : W.cell? ⟨bA, x, none⟩ = some (.int .i64 (P : Nat)) := by
                   rw [zAB ((hB.block _ (zAE HBA.out)).trans HBA.out)]
                   exact HPX.out
                 exact zAM (.int .i64 (P : Nat)) (by unfold execOp; simp only [ev_c, e75]; go_simp) ⟨_, rfl, rfl, hB, Below.refl _ _⟩
                case o5 =>
                 intro a W hB hd ho
                 have e14 : a.eval (.tmp 14) = .slice (some ⟨bA, 0, none⟩) 4 4 := ho 14 (by kernel_rfl)
                 exact zA6 _ (by simp) _ e14 ⟨_, rfl, rfl, hB, Below.refl _ _⟩
                case o6 =>
                 intro a W hB hd ho
                 have e17 : a.eval (.tmp 17) = .int .i64 (j : Nat) := ho 17 (by kernel_rfl)
                 exact zA6 _ (by simp) _ e17 ⟨_, rfl, rfl, hB, Below.refl _ _⟩
                case o7 =>
                 intro a W hB hd ho
                 have e77 : a.eval (.tmp 77) = .slice (some ⟨bA, 0, none⟩) 4 4 := hd 5 77 (by kernel_rfl)
                 have e78 : a.eval (.tmp 78) = .int .i64 (j : Nat) := hd 6 78 (by kernel_rfl)
                 exact zAM (.pointer (some ⟨bA, j, none⟩)) (by unfold execOp; simp only [ev_c, e77, e78]; go_simp) ⟨_, rfl, rfl, hB, Below.refl _ _⟩
                case o8 =>
                 intro a W hB hd ho
                 have e79 : a.eval (.tmp 79) = .pointer (some ⟨bA, j, none⟩) := hd 7 79 (by kernel_rfl)
                 have c9 : W.cell? ⟨bA, j, none⟩ = some (.int .i64 (Q : Nat)) := by
                   rw [zAB ((hB.block _ (zAE HBA.out)).trans HBA.out)]
                   exact HQJ.out
                 exact zAM (.int .i64 (Q : Nat)) (by unfold execOp; simp only [ev_c, e79]; go_simp) ⟨_, rfl, rfl, hB, Below.refl _ _⟩
                case o9 =>
                 intro a W hB hd ho
                 have e18 : a.eval (.tmp 18) = .int .i64 y := ho 18 (by kernel_rfl)
                 exact zA6 _ (by simp) _ e18 ⟨_, rfl, rfl, hB, Below.refl _ _⟩
                case hend =>
                 intro vs W o ho hB hT
                 have e0 : vs 0 = .slice (some ⟨b, 0, none⟩) n cap := hT 0 (by decide)
                 have e1 : vs 1 = .slice (some ⟨bA, 0, none⟩) 4 4 := hT 1 (by decide)
                 have e2 : vs 2 = .int .i64 (x : Nat) := hT 2 (by decide)
                 have e3 : vs 3 = .pointer (some ⟨bA, x, none⟩) := hT 3 (by decide)
                 have e4 : vs 4 = .int .i64 (P : Nat) := hT 4 (by decide)
                 have e5 : vs 5 = .slice (some ⟨bA, 0, none⟩) 4 4 := hT 5 (by decide)
                 have e6 : vs 6 = .int .i64 (j : Nat) := hT 6 (by decide)
                 have e7 : vs 7 = .pointer (some ⟨bA, j, none⟩) := hT 7 (by decide)
                 have e8 : vs 8 = .int .i64 (Q : Nat) := hT 8 (by decide)
                 have e9 : vs 9 = .int .i64 y := hT 9 (by decide)
                 cases (show some _ = some o from ho)
                 simp only [List.toList_toArray, List.take_succ_cons, List.take_zero, fill, if_true, Act.put, List.setIfInBounds_toArray, List.set_cons_zero, List.set_cons_succ, e0, e1, e2, e3, e4, e5, e6, e7, e8, e9]
                 refine zE5 74 zH2 _ _ rfl #[.slice (some ⟨b, 0, none⟩) n cap, .int .i64 (P : Nat), .int .i64 (Q : Nat), .int .i64 y] (by simp [Act.eval]) _ (B8.lower_any b n cap B P Q G C ZJ y W (HO2.out.of_below hB) HPQ.out.1 HPQ.out.2 HN12.out) ?_
                 rintro e W' ⟨rfl, hO3, hF3⟩
                 refine ⟨_, rfl, ?_⟩
                 have hgl := (HO2.out.row P HPQ.out.1 (by have := HPQ.out; omega)).lt
                 have HO3 : Hid (OwnM W' B b n (fun _ => n) G C (lwc pm R x (j + 1) ZX)) := by
                   show OwnM W' B b n (fun _ => n) G C (lowZ (lwc pm R x j ZX) (pm x) (pm j) (R x j))
                   rw [HZJ.out, HPE.out.1, HPE.out.2, HRY.out]
                   exact hO3
                 have HGN := HGG.out P HPQ.out.1
                 have HV3 : Hid (OwnM W' SZ bo 4 (fun _ => 4) Go Co R) := zI7 (HV2.out.of_below hB) (by decide) hF3 (fun c => HGN.1 c.symm) (fun q hq _ c => HGN.2.1 q hq c.symm)
                 have HBA3 : Hid (W'.heap[bA]? = some (.cells #[.int .i64 (pm 0 : Nat), .int .i64 (pm 1 : Nat), .int .i64 (pm 2 : Nat), .int .i64 (pm 3 : Nat)] 3 (0, 0))) := (hF3.block _ (by have := zAE HBA.out; have := hB.size; omega) (fun c => HGN.2.2.1 c.symm)).trans ((hB.block _ (zAE HBA.out)).trans HBA.out)
                 have HBS3 : Hid (W'.heap[bS]? = some (.cells #[.slice s1 s2 s3] 49 (0, 0))) := (hF3.block _ (by have := zAE HBS.out; have := hB.size; omega) (fun c => HGN.2.2.2 c.symm)).trans ((hB.block _ (zAE HBS.out)).trans HBS.out)
                 have HB3 : Hid (Below B w W') := zAU (zAA HB2.out hB (Nat.le_trans HBW.out HB2.out.size)) hF3 (HO2.out.gB P HPQ.out.1 (by have := HPQ.out; omega)) HBW.out
                 clear hB hT hO3 hF3 hgl HGN e0 e1 e2 e3 e4 e5 e6 e7 e8 e9
                 clear vs
                 go_wp2_with fail
                 go_roundg (4 - (j + 1))
                 case rel => exact ⟨j + 1, HJ4.out, rfl, by go_num, HO3.out, HV3.out, HBA3.out, HBS3.out, HB3.out⟩
                 case measure => have := HJ4.out; omega
              . obtain rfl : j = 4 := by omega
                have HO3 : Hid (OwnM wr B b n (fun _ => n) G C (lwr pm R (x + 1) M)) := by show OwnM _ _ _ _ _ _ _ _; rw [HZX.out]; exact HO2.out
                clear hj hj4
                go_wp2_with fail
                go_roundg (4 - (x + 1))
                case rel => exact ⟨x + 1, HX4.out, rfl, by go_num, HO3.out, HV2.out, HBA.out, HBS.out, HB2.out⟩
                case measure => have := HX4.out; omega
           . obtain rfl : x = 4 := by omega
             clear hx hx4
             go_wp2_with fail
             go_roundg (nk + 1 - (i + 1))
             case rel => exact ⟨i + 1, _, HIN.out, rfl, by go_num, HO1'.out, HTN.out, HB1'.out, HBS1'.out⟩
             case measure => have := HIN.out; omega
  . obtain rfl : i = nk := by omega
    have HTE : Hid (T0 = some M) := by
     have e := HM1.out
     rw [List.drop_of_length_le (by have := HNK.out; omega), lks] at e
     exact e.symm
    clear hBr
    go_wp2_with fail
    go_ret
    rw [HTE.out]
    exact ⟨⟨rfl, HO1.out⟩, HB1.out⟩
end Go.Proofs.YtnlmknbhppdliaaGreatDoor.Chk
namespace Go.Proofs.YtnlmknbhppdliaaGreatDoor.Chk
open Go.ChangeShapes Go.WideShapes Go.ChangeAt Go.RowKit Go.Maps
set_option linter.unusedVariables false
set_option linter.unusedSimpArgs false
set_option maxRecDepth 20000
def bok (ts : List Tp) (rs : List Rl) : Int := bkf (rck ts) ts rs
end Go.Proofs.YtnlmknbhppdliaaGreatDoor.Chk
namespace Go.Proofs.YtnlmknbhppdliaaGreatDoor.V4
open Go.ChangeShapes Go.WideShapes Go.ChangeAt Go.RowKit
set_option linter.unusedVariables false
set_option linter.unusedSimpArgs false
set_option maxRecDepth 20000
structure Vl where
  k : Int
  n : Int
  s : ByteArray
structure Fd where
  s : ByteArray
  k : Int
structure Ty where
  s : ByteArray
  fs : List Fd
def eqS (a b : ByteArray) : Bool := a.toList == b.toList
def vchk (v : Vl) : Int :=
  if v.k ≠ 1 ∧ v.k ≠ 2 then 3
  else if (v.k = 1 ∧ v.s.toList ≠ []) ∨ (v.k = 2 ∧ v.n ≠ 0) then 4
  else if 20 < v.s.size then 1
  else if v.n < -1125899906842624 ∨ 1125899906842624 < v.n then 2 else 0
def fst (f : Nat → Int) : Nat → Int
  | 0 => 0
  | n + 1 => if fst f n ≠ 0 then fst f n else f n
theorem fst_hit {f : Nat → Int} {k n : Nat} (h0 : fst f k = 0) (h1 : f k ≠ 0) (hk : k < n) : fst f n = f k := by
 induction n with
 | zero => omega
 | succ n ih =>
  unfold fst
  by_cases e : k = n
  . subst e; simp [h0]
  . have := ih (by omega)
    rw [if_pos (by rw [this]; exact h1), this]
theorem fst_step {f : Nat → Int} {k : Nat} (h0 : fst f k = 0) (h1 : f k = 0) : fst f (k + 1) = 0 := by
  unfold fst; simp [h0, h1]
theorem size_nil {s : ByteArray} (h : s.toList = []) : s.size = 0 := by
  rw [Lib.toList_data] at h
  have := congrArg List.length h
  simpa using this
def zEL (s : ByteArray) (i : Nat) : Int := ((s.data.toList.getD i 0).toNat : Int)
def isL (c : Int) : Prop := 97 ≤ c ∧ c ≤ 122
def isD (c : Int) : Prop := 48 ≤ c ∧ c ≤ 57
instance (c : Int) : Decidable (isL c) := by unfold isL; infer_instance
instance (c : Int) : Decidable (isD c) := by unfold isD; infer_instance
def sgn (s : ByteArray) (i : Nat) : Int := if isL (zEL s i) ∨ (i ≠ 0 ∧ isD (zEL s i)) then 0 else 4
def nchk (s : ByteArray) : Int := if s.size < 1 ∨ 10 < s.size then 1 else fst (sgn s) s.size
def fnd (name : ByteArray) : List Fd → Nat → Int
  | [], _ => -1
  | f :: l, k => if eqS f.s name = true then (k : Int) else fnd name l (k + 1)
def fchk (fs : List Fd) (i : Nat) : Int :=
  match fs[i]? with
  | none => 0
  | some f => if nchk f.s ≠ 0 then nchk f.s else if f.k ≠ 1 ∧ f.k ≠ 2 then 3 else if 0 ≤ fnd f.s (fs.take i) 0 then 7 else 0
def tchk (t : Ty) : Int := if nchk t.s ≠ 0 then nchk t.s else if 4 < t.fs.length then 1 else fst (fchk t.fs) t.fs.length
abbrev vV (v : Vl) : Value := .agg #[.int .i64 v.k, .int .i64 v.n, .string v.s]
def FieldsAt (w : World) (v : Value) (fs : List Fd) : Prop :=
  ∃ p cap, v = .slice p fs.length cap ∧ fs.length ≤ cap ∧ cap ≤ maxLen ∧ (0 < fs.length → ∃ g off, p = some ⟨g, off, none⟩ ∧ ∀ j (hj : j < fs.length), g < w.heap.size ∧ w.cell? ⟨g, off + j * 2, none⟩ = some (.string fs[j].s) ∧ w.cell? ⟨g, off + j * 2 + 1, none⟩ = some (.int .i64 fs[j].k))
theorem FieldsAt.below {w w' : World} {v : Value} {fs : List Fd} (h : FieldsAt w v fs) (b : Below w.heap.size w w') : FieldsAt w' v fs := by
  obtain ⟨p, cap, h1, hc, hm, h2⟩ := h
  refine ⟨p, cap, h1, hc, hm, fun h0 => ?_⟩
  obtain ⟨g, off, h3, h4⟩ := h2 h0
  refine ⟨g, off, h3, fun j hj => ?_⟩
  obtain ⟨a, b0, b1⟩ := h4 j hj
  exact ⟨Nat.lt_of_lt_of_le a b.size, (b.cell (p := ⟨g, off + j * 2, none⟩) a).trans b0, (b.cell (p := ⟨g, off + j * 2 + 1, none⟩) a).trans b1⟩
theorem zAA {B B' : Nat} {w w1 w2 : World} (h : Below B w w1) (h2 : Below B' w1 w2) (hb : B ≤ B') : Below B w w2 :=
  ⟨h2.os.trans h.os, h2.tape.trans h.tape, h2.output.trans h.output, Nat.le_trans h.size h2.size, fun k hk => (h2.block k (by omega)).trans (h.block k hk)⟩
theorem zAG {k : IntKind} {a b : Int} (h : a = b) : Ending.returned (.int k a) = .returned (.int k b) := by rw [h]
theorem vchk_eq (v : Vl) : vchk v = if v.k = 1 then (if v.s.toList ≠ [] then 4 else if v.n < -1125899906842624 ∨ 1125899906842624 < v.n then 2 else 0) else if v.k ≠ 2 then 3 else if v.n ≠ 0 then 4 else if 20 < v.s.size then 1 else 0 := by
 unfold vchk
 by_cases h1 : v.k = 1
 . by_cases h2 : v.s.toList = []
   . have := size_nil h2
     simp [h1, h2, this]
   . simp [h1, h2]
 . by_cases h2 : v.k = 2
   . by_cases h3 : v.n = 0
     . simp [h2, h3]
     . simp [h2, h3]
   . simp [h1, h2]
theorem check_any (v : Vl) (w : World) :
  Calls Tryz.prog 109 #[vV v] w fun e w' => e = .returned (.int .i64 (vchk v)) ∧ Below w.heap.size w w' := by
 obtain ⟨k, n, s⟩ := v
 unfold vV
 have hz : s.toList = [] → s.size = 0 := size_nil
 have HZ : Hid (s.toList = [] → s.size = 0) := hz
 clear hz
 go_enter Tryz.func109, Tryz.ntmps109
 go_wp2
 all_goals
  go_ret
  refine ⟨zAG ?_, (Below.refl _ _).alloc (Nat.le_refl _) _⟩
  have hz := HZ.out
  rw [vchk_eq]
  simp_all <;> omega
theorem zEM (s : ByteArray) (k : Nat) (h : k < s.size) : zEL s k = (s[k].toNat : Int) := by
  unfold zEL
  have h' : k < s.data.toList.length := by simpa using h
  rw [List.getD_eq_getElem?_getD, List.getElem?_eq_getElem h']
  rfl
theorem zFK (s : ByteArray) (k : Nat) (h : k < s.size) : sgn s k = if (97 ≤ (s[k].toNat : Int) ∧ (s[k].toNat : Int) ≤ 122) ∨ (k ≠ 0 ∧ 48 ≤ (s[k].toNat : Int) ∧ (s[k].toNat : Int) ≤ 57) then 0 else 4 := by
  unfold sgn isL isD
  rw [zEM s k h]
theorem zE2 {s : ByteArray} (h1 : 1 ≤ s.size) (h2 : s.size ≤ 10) : nchk s = fst (sgn s) s.size := by
  unfold nchk; rw [if_neg (by omega)]
def Say (b : Bool) (P : Prop) : Prop := b = true ↔ P
theorem zC6 (P : Prop) [Decidable P] : ∃ b : Bool, Say b P := ⟨decide P, by simp [Say]⟩
theorem Say.yes {P : Prop} (h : P) : Say true P := by simp [Say, h]
theorem Say.no {P : Prop} (h : ¬ P) : Say false P := by simp [Say, h]
theorem zA9 {a b : Bool} (h : a = b) : Ending.returned (.bool a) = .returned (.bool b) := by rw [h]
theorem zA7 (c : Int) (r : Bool) (h : Say r ((48 : Int) ≤ c ∧ c ≤ 57)) (w : World) :
  Calls Tryz.prog 124 #[.int .u8 c] w fun e w' => e = .returned (.bool r) ∧ w' = w := by
 have H : Hid (Say r ((48 : Int) ≤ c ∧ c ≤ 57)) := h
 clear h
 go_enter Tryz.func124, Tryz.ntmps124
 go_wp2
 all_goals
  go_ret
  exact ⟨zA9 (by have h := H.out; unfold Say at h; rw [Bool.eq_iff_iff, h]; simp <;> omega), rfl⟩
theorem zBT (c : Int) (r : Bool) (h : Say r ((97 : Int) ≤ c ∧ c ≤ 122)) (w : World) :
  Calls Tryz.prog 125 #[.int .u8 c] w fun e w' => e = .returned (.bool r) ∧ w' = w := by
 have H : Hid (Say r ((97 : Int) ≤ c ∧ c ≤ 122)) := h
 clear h
 go_enter Tryz.func125, Tryz.ntmps125
 go_wp2
 all_goals
  go_ret
  exact ⟨zA9 (by have h := H.out; unfold Say at h; rw [Bool.eq_iff_iff, h]; simp <;> omega), rfl⟩
theorem zCN      (s : ByteArray) (w : World) :
    Calls Tryz.prog 81 #[.string s] w fun e w' => e = .returned (.int .i64 (nchk s)) ∧ w' = w := by
  by_cases hsz : 1 ≤ s.size ∧ s.size ≤ 10
  . obtain ⟨h1, h2⟩ := hsz
    have hp : 0 < s.size := by omega
    have HE : Hid (nchk s = fst (sgn s) s.size) := zE2 h1 h2
    have HS : Hid (∀ k (h : k < s.size), sgn s k = if (97 ≤ (s[k].toNat : Int) ∧ (s[k].toNat : Int) ≤ 122) ∨ (k ≠ 0 ∧ 48 ≤ (s[k].toNat : Int) ∧ (s[k].toNat : Int) ≤ 57) then 0 else 4) := zFK s
    by_cases hd : (48 : Int) ≤ (s[0].toNat : Int) ∧ (s[0].toNat : Int) ≤ 57
    . have hx : fst (sgn s) s.size = 4 := by
        have e := zFK s 0 hp
        rw [if_neg (by omega)] at e
        rw [fst_hit (k := 0) rfl (by rw [e]; omega) hp, e]
      have HX : Hid (fst (sgn s) s.size = 4) := hx
      have HD : Hid ((48 : Int) ≤ (s[0].toNat : Int) ∧ (s[0].toNat : Int) ≤ 57) := hd
      clear hx hd
      go_enter Tryz.func81, Tryz.ntmps81
      go_wp2_with (go_at_call 124; refine (zA7 _ true (Say.yes HD.out) _).mono ?_; rintro e w' ⟨rfl, rfl⟩)
      go_ret
      exact ⟨zAG (by rw [HE.out, HX.out]), rfl⟩
    . have HD : Hid (¬ ((48 : Int) ≤ (s[0].toNat : Int) ∧ (s[0].toNat : Int) ≤ 57)) := hd
      clear hd
      go_enter Tryz.func81, Tryz.ntmps81
      go_wp2_with (go_at_call 124; refine (zA7 _ false (Say.no HD.out) _).mono ?_; rintro e w' ⟨rfl, rfl⟩)
      go_loop [17] (fun i => ∃ k : Nat, k ≤ s.size ∧ i = .int .i64 k ∧ fst (sgn s) k = 0) (fun i => s.size - (intOf i).toNat)
      case atStart => exact ⟨0, Nat.zero_le _, rfl, rfl⟩
      case round =>
        obtain ⟨k, hk, rfl, hf⟩ := hrel
        have HF : Hid (fst (sgn s) k = 0) := hf
        clear hf
        by_cases hlt : k < s.size
        . have HK : Hid (sgn s k = if (97 ≤ (s[k].toNat : Int) ∧ (s[k].toNat : Int) ≤ 122) ∨ (k ≠ 0 ∧ 48 ≤ (s[k].toNat : Int) ∧ (s[k].toNat : Int) ≤ 57) then 0 else 4) := HS.out k hlt
          have HD' : Hid (k = 0 → ¬ (48 ≤ (s[k].toNat : Int) ∧ (s[k].toNat : Int) ≤ 57)) := fun h => by subst h; exact HD.out
          obtain ⟨bl, hbl⟩ := zC6 ((97 : Int) ≤ (s[k].toNat : Int) ∧ (s[k].toNat : Int) ≤ 122)
          obtain ⟨bd, hbd⟩ := zC6 ((48 : Int) ≤ (s[k].toNat : Int) ∧ (s[k].toNat : Int) ≤ 57)
          have HL : Hid (Say bl ((97 : Int) ≤ (s[k].toNat : Int) ∧ (s[k].toNat : Int) ≤ 122)) := hbl
          have HDG : Hid (Say bd ((48 : Int) ≤ (s[k].toNat : Int) ∧ (s[k].toNat : Int) ≤ 57)) := hbd
          clear hbl hbd
          cases bl <;> cases bd
          all_goals go_wp2_with (first | (go_at_call 124; refine (zA7 _ _ HDG.out _).mono ?_; rintro e w' ⟨rfl, rfl⟩) | (go_at_call 125; refine (zBT _ _ HL.out _).mono ?_; rintro e w' ⟨rfl, rfl⟩))
          all_goals
            have hl := HL.out
            have hdg := HDG.out
            simp [Say] at hl hdg
            have e := HK.out
            have e2 := HD'.out
          . rw [if_neg (by omega)] at e
            go_ret
            exact ⟨zAG (by rw [HE.out, fst_hit HF.out (by rw [e]; omega) hlt, e]), rfl⟩
          all_goals
            rw [if_pos (by omega)] at e
            have HEE : Hid (sgn s k = 0) := e
            clear e e2 hl hdg
            go_round
            case rel => exact ⟨k + 1, by omega, by go_num, fst_step HF.out HEE.out⟩
            case measure => simp [intOf]; omega
        . obtain rfl : k = s.size := by omega
          go_wp2
          go_ret
          exact ⟨zAG (by rw [HE.out, HF.out]), rfl⟩
  . have he : nchk s = 1 := by unfold nchk; rw [if_pos (by omega)]
    have HE : Hid (nchk s = 1) := he
    clear he
    go_enter Tryz.func81, Tryz.ntmps81
    go_wp2
    all_goals first
      | (go_ret
         exact ⟨zAG (by rw [HE.out]), rfl⟩)
      | (exfalso; omega)
theorem zEW {X : World} {cs : Array Value} {t : TypeId} {g j : Nat} {v : Value} (hg : g = X.heap.size) (hv : cs[j]? = some v) : (X.alloc (.cells cs t)).cell? ⟨g, j, none⟩ = some v := by
  subst hg
  have h : (X.alloc (.cells cs t)).heap[X.heap.size]? = some (.cells cs t (0, 0)) := by first | exact heap_alloc_new X _ | exact _root_.Go.heap_alloc_new X _
  rw [cell_of_row _ _ _ _ t (0, 0) h]
  simpa using hv
end Go.Proofs.YtnlmknbhppdliaaGreatDoor.V4
