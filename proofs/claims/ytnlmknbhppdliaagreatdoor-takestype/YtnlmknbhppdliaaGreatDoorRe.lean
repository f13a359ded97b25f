/-
  A region that draws its order, in which a new block is made and stored into. A pattern of raw numbers.
-/
import Derived.Test.YtnlmknbhppdliaaGreatDoorA
import Derived.Test.YtnlmknbhppdliaaGreatDoorS
import Derived.Test.YtnlmknbhppdliaaGreatDoorKw
set_option maxHeartbeats 64000000
namespace Go.Proofs.YtnlmknbhppdliaaGreatDoor
open Go.ChangeShapes Go.WideShapes Go.ChangeAt Go.RowKit
set_option linter.unusedVariables false
set_option linter.unusedSimpArgs false
theorem zBA {P : Program} {Q : Exit → Act → World → Prop} {id : Nat} {ops : Array Oper} {a0 : Act} {w0 : World} (hm : P.follows .mixedOrders = true) (T : Nat → World → Value → Prop) (B : World → Prop) (s p : Nat) (dp : Tmp) (os : Oper) (hos : ops[s]? = some os) (hdp : depB ops os p dp = true) (hps : p ≠ s) (hw : waitB ops s p = true) (R : World → Value → Prop) (n : Nat) (hn : a0.tmps.size = n) (hp : zAW 0 ops.toList [] n = true)
   (Mo MoS : World → World → Prop) (hmon : ∀ k w w' v, Mo w w' → T k w v → T k w' v) (hmonR : ∀ w w' v, Mo w w' → R w v → R w' v) (hmonS : ∀ k w w' v, k ≠ s → MoS w w' → T k w v → T k w' v) (hB : B w0.drew)
   (hop : zAC (fun i o => i ≠ s → ∀ a w, B w → (∀ k d, depB ops o k d = true → T k w (a.eval (.tmp d))) → (∀ d, outB ops.toList d = true → a.eval (.tmp d) = a0.eval (.tmp d)) → Oper.wp P o a w (fun a' w' => ∃ v, a' = a.put o.dst v ∧ T i w' v ∧ B w' ∧ Mo w w') Q) 0 ops.toList)
   (hst : ∀ a w, B w → (∀ k d, depB ops os k d = true → T k w (a.eval (.tmp d))) → (∀ d, outB ops.toList d = true → a.eval (.tmp d) = a0.eval (.tmp d)) → Oper.wp P os a w (fun a' w' => ∃ v, a' = a.put os.dst v ∧ T s w' v ∧ B w' ∧ MoS w w' ∧ R w' (a.eval (.tmp dp))) Q)
   (hend : ∀ (vs : Nat → Value) w, B w → (∀ i, i < ops.size → T i w (vs i)) → R w (vs p) → Q .normal (fill vs (fun _ => true) 0 ops.toList a0) w) : (Code.region id ops true).wp P Q a0 w0 := by
 have hss : s < ops.size := (Array.getElem?_eq_some_iff.1 hos).1
 refine zFP hm (fun i vs w => T i w (vs i) ∧ (i = s → R w (vs p))) (fun _ w => B w) n hn hp hB ?_ ?_
 . have gen : ∀ (l : List Oper) (k : Nat), (∀ i o, l[i]? = some o → ops[k + i]? = some o) → zAC    (fun i o => i ≠ s → ∀ a w, B w → (∀ k d, depB ops o k d = true → T k w (a.eval (.tmp d))) → (∀ d, outB ops.toList d = true → a.eval (.tmp d) = a0.eval (.tmp d)) → Oper.wp P o a w (fun a' w' => ∃ v, a' = a.put o.dst v ∧ T i w' v ∧ B w' ∧ Mo w w') Q) k l →
     zAC (fun i o => ∀ a w vs, vs i = undef → B w → (∀ k d, depB ops o k d = true → a.eval (.tmp d) = vs k ∧ (T k w (vs k) ∧ (k = s → R w (vs p)))) → (∀ d, outB ops.toList d = true → a.eval (.tmp d) = a0.eval (.tmp d)) → Oper.wp P o a w (fun a' w' => ∃ v, a' = a.put o.dst v ∧ (T i w' (upv vs i v i) ∧ (i = s → R w' (upv vs i v p))) ∧ B w' ∧ ∀ j, j ≠ i → waitB ops j i = false → (T j w (vs j) ∧ (j = s → R w (vs p))) → (T j w' (upv vs i v j) ∧ (j = s → R w' (upv vs i v p)))) Q) k l := by
    intro l
    induction l with
    | nil => intro k _ _; trivial
    | cons x r ih =>
     intro k hk h
     refine ⟨?_, ih (k + 1) (fun i o ho => by rw [show k + 1 + i = k + (i + 1) by omega]; exact hk (i + 1) o (by simpa using ho)) h.2⟩
     intro a w vs hu hb hd hout
     have hx : ops[k]? = some x := by simpa using hk 0 x (by simp)
     have hd' : ∀ q d, depB ops x q d = true → T q w (a.eval (.tmp d)) := fun q d h => by rw [(hd q d h).1]; exact (hd q d h).2.1
     by_cases c : k = s
     . subst c
       rw [hos] at hx
       cases hx
       refine Oper.wp_mono ?_ (hst a w hb hd' hout)
       rintro a' w' ⟨v, rfl, h1, h2, h3, h4⟩
       refine ⟨v, rfl, ⟨by rw [upv_eq]; exact h1, fun _ => ?_⟩, h2, fun j hj _ hT => ⟨by rw [zH0 _ _ hj]; exact hmonS j w w' _ hj h3 hT.1, fun e => absurd e hj⟩⟩
       rw [zH0 _ _ hps, ← (hd p dp hdp).1]
       exact h4
     . refine Oper.wp_mono ?_ (h.1 c a w hb hd' hout)
       rintro a' w' ⟨v, rfl, h1, h2, h3⟩
       refine ⟨v, rfl, ⟨by rw [upv_eq]; exact h1, fun e => absurd e c⟩, h2, fun j hj hwj hT => ⟨by rw [zH0 _ _ hj]; exact hmon j w w' _ h3 hT.1, fun e => ?_⟩⟩
       subst e
       have hkp : p ≠ k := fun e => by rw [e, hwj] at hw; cases hw
       rw [zH0 _ _ hkp]
       exact hmonR w w' _ h3 (hT.2 rfl)
   exact gen ops.toList 0 (fun i o ho => by simpa using ho) hop
 . intro vs w hb hT
   exact hend vs w hb (fun i hi => (hT i hi).1) ((hT s hss).2 rfl)
end Go.Proofs.YtnlmknbhppdliaaGreatDoor
namespace Go.Proofs.YtnlmknbhppdliaaGreatDoor.Chk
open Go.ChangeShapes Go.WideShapes Go.ChangeAt Go.RowKit Go.Maps
set_option linter.unusedVariables false
set_option linter.unusedSimpArgs false
set_option maxRecDepth 20000
theorem rdCq {w : World} {c : Cn} {cs : List Value} (h : RdL w (encC c) cs) : ∃ v, cs = cnC c.k v c.l c.r ∧ Rd w (.row 46 14 c.sb) v := by
  obtain ⟨v0, r0, rfl, h0, h⟩ := RdL.one h
  obtain ⟨v1, r1, rfl, h1, h⟩ := RdL.one h
  obtain ⟨v2, r2, rfl, h2, h⟩ := RdL.one h
  obtain ⟨v3, r3, rfl, h3, h⟩ := RdL.one h
  obtain ⟨v4, r4, rfl, h4, h⟩ := RdL.one h
  obtain ⟨v5, r5, rfl, h5, h⟩ := RdL.one h
  obtain ⟨v6, r6, rfl, h6, h⟩ := RdL.one h
  obtain ⟨v7, r7, rfl, h7, h⟩ := RdL.one h
  obtain ⟨v8, r8, rfl, h8, h⟩ := RdL.one h
  obtain ⟨v9, r9, rfl, h9, h⟩ := RdL.one h
  obtain ⟨v10, r10, rfl, h10, h⟩ := RdL.one h
  obtain ⟨v11, r11, rfl, h11, h⟩ := RdL.one h
  obtain ⟨v12, r12, rfl, h12, h⟩ := RdL.one h
  obtain ⟨v13, r13, rfl, h13, h⟩ := RdL.one h
  rw [zAN h0, zAN h2, zAN h3, zAN h4, zAN h5, zAN h6, zAN h7, zAN h8, zAN h9, zAN h10, zAN h11, zAN h12, zAN h13, RdL.none h]
  exact ⟨v1, rfl, h1⟩
theorem whr_any (c : Cst) (hc : c.ok) (at_ : Nat) (kn : List ByteArray) (kv : Value) (w : World) (hk : Rd w (.row 9 1 (kn.map encS)) kv) (hl : kn.length ≤ 3) :
   Calls Tryz.prog 66 #[.agg #[.int .i64 c.ty, .int .i64 c.co, .int .i64 c.n, .int .i64 c.wi, .int .i64 c.si], .int .i64 (at_ : Nat), kv] w fun e w' => ∃ (sp : Option Addr) (sn sc : Nat), e = .returned (cnV (whC (pkd c.co 9).toNat at_ (pkd c.n 6) (othO kn c.n)).k (.slice sp sn sc) (whC (pkd c.co 9).toNat at_ (pkd c.n 6) (othO kn c.n)).l (whC (pkd c.co 9).toNat at_ (pkd c.n 6) (othO kn c.n)).r) ∧ KT w' w.heap.size isC (encC (whC (pkd c.co 9).toNat at_ (pkd c.n 6) (othO kn c.n))) (cnC (whC (pkd c.co 9).toNat at_ (pkd c.n 6) (othO kn c.n)).k (.slice sp sn sc) (whC (pkd c.co 9).toNat at_ (pkd c.n 6) (othO kn c.n)).l (whC (pkd c.co 9).toNat at_ (pkd c.n 6) (othO kn c.n)).r) ∧ Below w.heap.size w w' := by
 have fin : ∀ (X : Cn) e w', (∃ cs : List Value, e = Ending.returned (.agg cs.toArray) ∧ (∀ W : World, (∀ i, w.heap.size ≤ i → TB w' 46 i → W.heap[i]? = w'.heap[i]?) → RdL W (encC X) cs) ∧ Below w.heap.size w w') → ∃ (sp : Option Addr) (sn sc : Nat), e = .returned (cnV X.k (.slice sp sn sc) X.l X.r) ∧ KT w' w.heap.size isC (encC X) (cnC X.k (.slice sp sn sc) X.l X.r) ∧ Below w.heap.size w w' := by
   rintro X e w' ⟨cs, rfl, h1, h2⟩
   obtain ⟨v, rfl, h3⟩ := rdCq (h1 w' (fun _ _ _ => rfl))
   obtain ⟨sp, sn, sc, rfl⟩ := zAE h3
   exact ⟨sp, sn, sc, rfl, fun W hW => h1 W (fun i hi ht => hW i _ hi rfl ht), h2⟩
 obtain ⟨p, cap, rfl, _, hat⟩ := zAL lenS hk
 by_cases h0 : kn.length = 0
 . have e : othO kn c.n = numO (pkd c.n 6) := by unfold othO; rw [if_pos h0]
   rw [e, h0]
   exact (zGK c.ty c.co c.n c.wi c.si hc.n.1 hc.n.2 hc.co.1 hc.co.2 at_ w p cap).mono (fin _)
 . obtain ⟨g, off, rfl, hr⟩ := hat (by omega)
   have hq := zAQ c.n (m := (kn.length : Int)) (by omega)
   obtain ⟨q, hqq⟩ : ∃ q : Nat, pkd c.n (kn.length : Int) = (q : Int) := ⟨(pkd c.n (kn.length : Int)).toNat, by omega⟩
   have hql : q < kn.length := by omega
   obtain ⟨us, h1, h2⟩ := hr w (Below.refl _ _) q hql
   have h3 := rdS h2
   subst h3
   have hcell : w.cell? ⟨g, off + q, none⟩ = some (.string kn[q]) := by have := h1 0 _ rfl; simpa using this
   have e : othO kn c.n = ⟨3, 0, 0, txt [], kn[q], txt [110]⟩ := by
    unfold othO
    rw [if_neg h0, hqq, Int.toNat_natCast, List.getD_eq_getElem?_getD, List.getElem?_eq_getElem hql]
    rfl
   rw [e]
   exact (zGY c.ty c.co c.n c.wi c.si hc.n.1 hc.n.2 hc.co.1 hc.co.2 at_ w g off kn.length cap q kn[q] (by omega) hl hqq hcell).mono (fin _)
theorem ent_wh : ∀ args w, (callFunc 66 args).run Tryz.prog w = .ok (.enter 66 args) w := enters_of Tryz.func66 (by kernel_rfl) rfl
theorem zG3 : ∀ args w, (callFunc 38 args).run Tryz.prog w = .ok (.enter 38 args) w := enters_of Tryz.func38 (by kernel_rfl) rfl
theorem zGM : ∀ args w, (callFunc 40 args).run Tryz.prog w = .ok (.enter 40 args) w := enters_of Tryz.func40 (by kernel_rfl) rfl
theorem ent_bnd : ∀ args w, (callFunc 39 args).run Tryz.prog w = .ok (.enter 39 args) w := enters_of Tryz.func39 (by kernel_rfl) rfl
theorem res2s {P : Program} {fn : Func} {p a : Tmp} {ty : TypeId} (h : fn.results = #[.cell p ty, .tmp a]) (tmps : Array Value) (w : World) (g : Nat) (cs : List Value) (d : TypeDesc)
  (hp : tmps.getD p undef = .pointer (some ⟨g, 0, none⟩)) (hc : w.rangeAt g 0 cs) (hu : P.underlying ty = some d) (hd : d.isRow = true) (hi : (P.info? ty).map (·.size) = some cs.length) :
  (results fn tmps).run P w = .ok (.tuple #[.agg cs.toArray, tmps.getD a undef]) w := by
 have hp' : tmps[p]?.getD undef = .pointer (some ⟨g, 0, none⟩) := by simpa using hp
 simp [results, h, hp', asAddr, run_loadVar_mid w g 0 ty cs d hc hu hd hi]
theorem KT.pat {w : World} {n : Nat} {τ : Nat → Prop} {X : Cn} {v : Value} (nm ty : ByteArray) (x y : Int) (h : KT w n τ (encC X) (cnC X.k v X.l X.r))   : KT w n τ (encP ⟨nm, ty, X, x, y⟩) (ptC nm ty X.k v X.l X.r x y) :=
  KT.cons _ (KT.cons _ (KT.app (us := [.int .i64 x, .int .i64 y]) h (KT.lits w n τ [.int .i64 x, .int .i64 y])))
theorem pwA_lt (c : Cst) : pwA c < 4 := by
  have := zAQ c.ty (m := 4) (by decide)
  unfold pwA; omega
theorem pwA_eq (c : Cst) : pkd c.ty 4 = (pwA c : Int) := by
  have := zAQ c.ty (m := 4) (by decide)
  unfold pwA; omega
theorem Hp.fr {w0 W W' : World} {l : List (Nat × List Value × TypeId)} {b : Nat} (h : Hp w0 W l) (hf : Fr (fun i => i = b) W W') (hb : w0.heap.size ≤ b) (hn : ∀ i (hi : i < l.length), l[i].1 ≠ b) : Hp w0 W' l := ⟨zAG h.bel hf hb, fun i hi => (hf.block _ (zAD (h.b i hi)) (hn i hi)).trans (h.b i hi)⟩
theorem zGC (cs vs : List Value) (h : cs.length = vs.length) : ovr cs 0 vs = vs := by unfold ovr; simp [h]
theorem zET (nm : ByteArray) (c : Cst) (hc : c.ok) (kn : List ByteArray) (kv : Value) (w : World) (hk : Rd w (.row 9 1 (kn.map encS)) kv) (hl : kn.length ≤ 3) :
  Calls Tryz.prog 38 #[.string nm, .agg #[.int .i64 c.ty, .int .i64 c.co, .int .i64 c.n, .int .i64 c.wi, .int .i64 c.si], kv] w fun e w' => ∃ (sp : Option Addr) (sn sc : Nat), e = .returned (.tuple #[ptV nm (tyN (pwA c)) (pwC c kn).k (.slice sp sn sc) (pwC c kn).l (pwC c kn).r 0 0, .int .i64 (pwA c : Nat)]) ∧ KT w' w.heap.size isC (encC (pwC c kn)) (cnC (pwC c kn).k (.slice sp sn sc) (pwC c kn).l (pwC c kn).r) ∧ Below w.heap.size w w' := by
 have HWH := hid (fun W (hW : Below w.heap.size w W) => whr_any c hc (pwA c) kn kv W (hk.later hW) hl)
 have hj4 := pwA_lt c
 have hj := pwA_eq c
 obtain ⟨X, hX⟩ : ∃ X, pwC c kn = X := ⟨_, rfl⟩
 have hX' : whC (pkd c.co 9).toNat (pwA c) (pkd c.n 6) (othO kn c.n) = X := hX
 rw [hX'] at HWH
 rw [hX]
 obtain ⟨j, hjj⟩ : ∃ j, pwA c = j := ⟨_, rfl⟩
 rw [hjj] at HWH hj4 hj ⊢
 have HPT := hid (fun W => zAF c.ty 4 W hc.ty.1 hc.ty.2 (by decide) (by decide))
 rw [hj] at HPT
 obtain ⟨kp, kl, kc, rfl⟩ := zAE hk
 have hB0 := bxs2 w [.int .i64 c.ty, .int .i64 c.co, .int .i64 c.n, .int .i64 c.wi, .int .i64 c.si] pt0 117 48
 have HB := hid (show Hp w _ [(w.heap.size, [.int .i64 c.ty, .int .i64 c.co, .int .i64 c.n, .int .i64 c.wi, .int .i64 c.si], 117)] from ⟨hB0.bel, fun i hi => by rcases i with _ | i; exact hB0.b 0 (by simp); exact absurd hi (by simp)⟩)
 have HB2 := hid (hB0.b 1 (by simp))
 have c0 := hB0.c 0 (by simp) 0
 simp only [Nat.add_zero] at c0
 have i1 : (0 : Int) ≤ (j : Int) := by omega
 have i2 : (j : Int) < 4 := by omega
 clear hX hX' hjj hj hB0 hk hl hc
 go_enter Tryz.func38, Tryz.ntmps38
 go_wp2_with (go_at_call 9; refine (HPT.out _).mono ?_; rintro e w1 ⟨rfl, rfl⟩)
 refine zBA (by kernel_rfl) (fun i w9 v => ([(fun w9 v => v = .string nm), (fun w9 v => ∃ (b : Nat), v = .slice (some ⟨b, 0, none⟩) 4 4 ∧ w9.heap[b]? = some (.cells #[.string ⟨#[97]⟩, .string ⟨#[98]⟩, .string ⟨#[99]⟩, .string ⟨#[100]⟩] 9 (0, 0))), (fun w9 v => v = .int .i64 (j : Nat)), (fun w9 v => ∃ (b : Nat), v = .pointer (some ⟨b, j, none⟩) ∧ w9.heap[b]? = some (.cells #[.string ⟨#[97]⟩, .string ⟨#[98]⟩, .string ⟨#[99]⟩, .string ⟨#[100]⟩] 9 (0, 0))), (fun w9 v => v = .string (tyN j)), (fun w9 v => v = .agg #[.int .i64 c.ty, .int .i64 c.co, .int .i64 c.n, .int .i64 c.wi, .int .i64 c.si]), (fun w9 v => v = .int .i64 (j : Nat)), (fun w9 v => v = (.slice kp kl kc)), (fun w9 v => ∃ (sp : Option Addr) (sn sc : Nat), v = cnV X.k (.slice sp sn sc) X.l X.r ∧ KT w9 w.heap.size isC (encC X) (cnC X.k (.slice sp sn sc) X.l X.r)), (fun w9 v => ∃ (sp : Option Addr) (sn sc : Nat), v = ptV nm (tyN j) X.k (.slice sp sn sc) X.l X.r 0 0 ∧ KT w9 w.heap.size isC (encC X) (cnC X.k (.slice sp sn sc) X.l X.r)), (fun w9 v => v = .int .i64 (j : Nat)), (fun w9 v => True), (fun w9 v => v = .int .i64 (j : Nat))] : List (World → Value → Prop)).getD i (fun _ _ => True) w9 v) (fun W => Hp w W [(w.heap.size, [.int .i64 c.ty, .int .i64 c.co, .int .i64 c.n, .int .i64 c.wi, .int .i64 c.si], 117)] ∧ ∃ cs : List Value, cs.length = 18 ∧ W.heap[w.heap.size + 1]? = some (.cells cs.toArray 48 (0, 0))) 11 9 21 _ rfl (by kernel_rfl) (by decide) (by kernel_rfl) (fun w9 v => ∃ cs : List Value, v = .agg cs.toArray ∧ w9.heap[w.heap.size + 1]? = some (.cells cs.toArray 48 (0, 0))) 23 rfl (by kernel_rfl) (fun W W' => Below W.heap.size W W') (fun W W' => Fr (fun i => i = w.heap.size + 1) W W' ∧ TB W 48 (w.heap.size + 1)) ?hmon ?hmonR ?hmonS (⟨HB.out.next (Below.drew (Below.refl _ _)), _, rfl, HB2.out⟩) (zAC.cons ?o0 (zAC.cons ?o1 (zAC.cons ?o2 (zAC.cons ?o3 (zAC.cons ?o4 (zAC.cons ?o5 (zAC.cons ?o6 (zAC.cons ?o7 (zAC.cons ?o8 (zAC.cons ?o9 (zAC.cons ?o10 (zAC.cons ?o11 (zAC.cons ?o12 zAC.nil))))))))))))) ?hst ?hend
 case hmon =>
  intro q W W' v hb h
  rcases q with _ | _ | _ | _ | _ | _ | _ | _ | _ | _ | _ | _ | _ | q
  . exact h
  . obtain ⟨b, e, h1⟩ := h; exact ⟨b, e, (hb.block _ (zAD h1)).trans h1⟩
  . exact h
  . obtain ⟨b, e, h1⟩ := h; exact ⟨b, e, (hb.block _ (zAD h1)).trans h1⟩
  . exact h
  . exact h
  . exact h
  . exact h
  . obtain ⟨sp, sn, sc, e, h1⟩ := h; exact ⟨sp, sn, sc, e, h1.below hb⟩
  . obtain ⟨sp, sn, sc, e, h1⟩ := h; exact ⟨sp, sn, sc, e, h1.below hb⟩
  . exact h
  . exact h
  . exact h
  . exact h
 case hmonR =>
  intro W W' v hb h
  obtain ⟨cs, e, h1⟩ := h; exact ⟨cs, e, (hb.block _ (zAD h1)).trans h1⟩
 case hmonS =>
  intro q W W' v hks hb h
  rcases q with _ | _ | _ | _ | _ | _ | _ | _ | _ | _ | _ | _ | _ | q
  . exact h
  . obtain ⟨b, e, h1⟩ := h; exact ⟨b, e, (hb.1.block _ (zAD h1) (fun c9 => hb.2.ne ⟨_, h1⟩ (by decide) c9.symm)).trans h1⟩
  . exact h
  . obtain ⟨b, e, h1⟩ := h; exact ⟨b, e, (hb.1.block _ (zAD h1) (fun c9 => hb.2.ne ⟨_, h1⟩ (by decide) c9.symm)).trans h1⟩
  . exact h
  . exact h
  . exact h
  . exact h
  . obtain ⟨sp, sn, sc, e, h1⟩ := h; exact ⟨sp, sn, sc, e, h1.fr hb.1 hb.2 (by decide)⟩
  . obtain ⟨sp, sn, sc, e, h1⟩ := h; exact ⟨sp, sn, sc, e, h1.fr hb.1 hb.2 (by decide)⟩
  . exact h
  . exact h
  . exact h
  . exact h
 case o0 =>
  intro _ a W hB hd ho
  have e0 : a.eval (.tmp 0) = .string nm := ho 0 (by kernel_rfl)
  exact zA1 _ (by simp) _ e0 ⟨_, rfl, rfl, hB, Below.refl _ _⟩
 case o1 =>
  intro _ a W hB hd ho
  have hal : Below W.heap.size W (W.alloc (.cells #[.string ⟨#[97]⟩, .string ⟨#[98]⟩, .string ⟨#[99]⟩, .string ⟨#[100]⟩] 9)) := (Below.refl _ _).alloc (Nat.le_refl _) _
  refine zBT 84 4 _ rfl #[(0, .string ⟨#[97]⟩), (1, .string ⟨#[98]⟩), (2, .string ⟨#[99]⟩), (3, .string ⟨#[100]⟩)] (by simp [ev_c]) (.slice (some ⟨W.heap.size, 0, none⟩) 4 4) (W.alloc (.cells #[.string ⟨#[97]⟩, .string ⟨#[98]⟩, .string ⟨#[99]⟩, .string ⟨#[100]⟩] 9)) (by kernel_rfl) ⟨_, rfl, ⟨W.heap.size, rfl, heap_alloc_new _ _⟩, ⟨hB.1.next hal, hB.2.imp fun cs h9 => ⟨h9.1, (hal.block _ (zAD h9.2)).trans h9.2⟩⟩, hal⟩
 case o2 =>
  intro _ a W hB hd ho
  have e8 : a.eval (.tmp 8) = .int .i64 (j : Nat) := ho 8 (by kernel_rfl)
  exact zA1 _ (by simp) _ e8 ⟨_, rfl, rfl, hB, Below.refl _ _⟩
 case o3 =>
  intro _ a W hB hd ho
  obtain ⟨b, e13, h1⟩ : ∃ (b : Nat), a.eval (.tmp 13) = .slice (some ⟨b, 0, none⟩) 4 4 ∧ W.heap[b]? = some (.cells #[.string ⟨#[97]⟩, .string ⟨#[98]⟩, .string ⟨#[99]⟩, .string ⟨#[100]⟩] 9 (0, 0)) := hd 1 13 (by kernel_rfl)
  have e14 : a.eval (.tmp 14) = .int .i64 (j : Nat) := hd 2 14 (by kernel_rfl)
  exact zAK (.pointer (some ⟨b, j, none⟩)) (by unfold execOp; simp only [ev_c, e13, e14]; go_simp) ⟨_, rfl, ⟨b, rfl, h1⟩, hB, Below.refl _ _⟩
 case o4 =>
  intro _ a W hB hd ho
  obtain ⟨b, e15, h1⟩ : ∃ (b : Nat), a.eval (.tmp 15) = .pointer (some ⟨b, j, none⟩) ∧ W.heap[b]? = some (.cells #[.string ⟨#[97]⟩, .string ⟨#[98]⟩, .string ⟨#[99]⟩, .string ⟨#[100]⟩] 9 (0, 0)) := hd 3 15 (by kernel_rfl)
  have c9 : W.cell? ⟨b, j, none⟩ = some (.string (tyN j)) := by
    rw [zAB h1]
    rcases (by omega : j = 0 ∨ j = 1 ∨ j = 2 ∨ j = 3) with rfl | rfl | rfl | rfl <;> rfl
  exact zAK (.string (tyN j)) (by unfold execOp; simp only [ev_c, e15]; go_simp) ⟨_, rfl, rfl, hB, Below.refl _ _⟩
 case o5 =>
  intro _ a W hB hd ho
  have e4 : a.eval (.tmp 4) = .pointer (some ⟨w.heap.size, 0, none⟩) := ho 4 (by kernel_rfl)
  exact zBZ 117 _ rfl w.heap.size 0 e4 [.int .i64 c.ty, .int .i64 c.co, .int .i64 c.n, .int .i64 c.wi, .int .i64 c.si] _ (zAJ (hB.1.b 0 (by simp))) Tryz.underlying117 rfl (by kernel_rfl) ⟨_, rfl, rfl, hB, Below.refl _ _⟩
 case o6 =>
  intro _ a W hB hd ho
  have e8 : a.eval (.tmp 8) = .int .i64 (j : Nat) := ho 8 (by kernel_rfl)
  exact zA1 _ (by simp) _ e8 ⟨_, rfl, rfl, hB, Below.refl _ _⟩
 case o7 =>
  intro _ a W hB hd ho
  have e2 : a.eval (.tmp 2) = (.slice kp kl kc) := ho 2 (by kernel_rfl)
  exact zA1 _ (by simp) _ e2 ⟨_, rfl, rfl, hB, Below.refl _ _⟩
 case o8 =>
  intro _ a W hB hd ho
  have e17 : a.eval (.tmp 17) = .agg #[.int .i64 c.ty, .int .i64 c.co, .int .i64 c.n, .int .i64 c.wi, .int .i64 c.si] := hd 5 17 (by kernel_rfl)
  have e18 : a.eval (.tmp 18) = .int .i64 (j : Nat) := hd 6 18 (by kernel_rfl)
  have e19 : a.eval (.tmp 19) = (.slice kp kl kc) := hd 7 19 (by kernel_rfl)
  refine zA0 66 ent_wh _ _ rfl #[.agg #[.int .i64 c.ty, .int .i64 c.co, .int .i64 c.n, .int .i64 c.wi, .int .i64 c.si], .int .i64 (j : Nat), (.slice kp kl kc)] (by simp [e17, e18, e19]) _ (HWH.out W hB.1.bel) ?_
  rintro e W' ⟨sp, sn, sc, rfl, hkt, hal⟩
  exact ⟨_, rfl, _, rfl, ⟨sp, sn, sc, rfl, hkt.low hB.1.bel.size⟩, ⟨hB.1.next hal, hB.2.imp fun cs h9 => ⟨h9.1, (hal.block _ (zAD h9.2)).trans h9.2⟩⟩, hal⟩
 case o9 =>
  intro _ a W hB hd ho
  have e12 : a.eval (.tmp 12) = .string nm := hd 0 12 (by kernel_rfl)
  have e16 : a.eval (.tmp 16) = .string (tyN j) := hd 4 16 (by kernel_rfl)
  obtain ⟨sp, sn, sc, e20, hkt⟩ : ∃ (sp : Option Addr) (sn sc : Nat), a.eval (.tmp 20) = cnV X.k (.slice sp sn sc) X.l X.r ∧ KT W w.heap.size isC (encC X) (cnC X.k (.slice sp sn sc) X.l X.r) := hd 8 20 (by kernel_rfl)
  exact zCC 48 _ rfl #[(0, .string nm), (1, .string (tyN j)), (2, cnV X.k (.slice sp sn sc) X.l X.r)] (by simp [ev_c, e12, e16, e20]) (ptV nm (tyN j) X.k (.slice sp sn sc) X.l X.r 0 0) (by kernel_rfl) ⟨_, rfl, ⟨sp, sn, sc, rfl, hkt⟩, hB, Below.refl _ _⟩
 case o10 =>
  intro _ a W hB hd ho
  have e8 : a.eval (.tmp 8) = .int .i64 (j : Nat) := ho 8 (by kernel_rfl)
  exact zA1 _ (by simp) _ e8 ⟨_, rfl, rfl, hB, Below.refl _ _⟩
 case o11 =>
  intro h9; exact absurd rfl h9
 case o12 =>
  intro _ a W hB hd ho
  have e22 : a.eval (.tmp 22) = .int .i64 (j : Nat) := hd 10 22 (by kernel_rfl)
  exact zA1 _ (by simp) _ e22 ⟨_, rfl, rfl, hB, Below.refl _ _⟩
 case hst =>
  intro a W hB hd ho
  obtain ⟨sp, sn, sc, e21, hkt⟩ : ∃ (sp : Option Addr) (sn sc : Nat), a.eval (.tmp 21) = ptV nm (tyN j) X.k (.slice sp sn sc) X.l X.r 0 0 ∧ KT W w.heap.size isC (encC X) (cnC X.k (.slice sp sn sc) X.l X.r) := hd 9 21 (by kernel_rfl)
  have e6 : a.eval (.tmp 6) = .pointer (some ⟨w.heap.size + 1, 0, none⟩) := ho 6 (by kernel_rfl)
  obtain ⟨hb0, cs, hcs, hblk⟩ := hB
  refine op_st 48 _ _ rfl (w.heap.size + 1) 0 cs 48 (ptV nm (tyN j) X.k (.slice sp sn sc) X.l X.r 0 0) (ptC nm (tyN j) X.k (.slice sp sn sc) X.l X.r 0 0) e6 e21 (by rfl) hblk (by rw [hcs]; simp) (by kernel_rfl) (by rfl) ?_
  intro w5 h5 hf5
  have h5' : w5.heap[w.heap.size + 1]? = some (.cells (ptC nm (tyN j) X.k (.slice sp sn sc) X.l X.r 0 0).toArray 48 (0, 0)) := by rw [h5, zGC cs _ (by rw [hcs]; rfl)]
  exact ⟨undef, rfl, trivial, ⟨hb0.fr hf5 (by omega) (fun i hi => by rcases i with _ | i; (show w.heap.size ≠ w.heap.size + 1; omega); exact absurd hi (by simp)), _, rfl, h5'⟩, ⟨hf5, ⟨_, hblk⟩⟩, ⟨_, e21, h5'⟩⟩
 case hend =>
  intro vs W hB hT hR
  obtain ⟨sp, sn, sc, e9, hkt⟩ : ∃ (sp : Option Addr) (sn sc : Nat), vs 9 = ptV nm (tyN j) X.k (.slice sp sn sc) X.l X.r 0 0 ∧ KT W w.heap.size isC (encC X) (cnC X.k (.slice sp sn sc) X.l X.r) := hT 9 (by decide)
  have e12 : vs 12 = .int .i64 (j : Nat) := hT 12 (by decide)
  obtain ⟨cs, ec, hblk⟩ := hR
  rw [e9] at ec
  obtain rfl : cs = (ptC nm (tyN j) X.k (.slice sp sn sc) X.l X.r 0 0) := by
    have := congrArg Value.cells ec
    simpa [Value.cells] using this.symm
  have HBB := hid hblk
  have HKT := hid hkt
  have HBE := hid hB.1.bel
  simp only [List.toList_toArray, List.take_succ_cons, List.take_zero, fill, if_true, Act.put, List.setIfInBounds_toArray, List.set_cons_zero, List.set_cons_succ, e12]
  generalize vs 0 = v0
  generalize vs 1 = v1
  generalize vs 2 = v2
  generalize vs 3 = v3
  generalize vs 4 = v4
  generalize vs 5 = v5
  generalize vs 6 = v6
  generalize vs 7 = v7
  generalize vs 8 = v8
  generalize vs 9 = v9
  generalize vs 10 = v10
  clear hblk hkt hB hT e9 e12 ec vs
  go_wp2_with fail
  refine bodyPost_ret (res2s rfl _ _ (w.heap.size + 1) (ptC nm (tyN j) X.k (.slice sp sn sc) X.l X.r 0 0) _ (by rfl) (zAJ HBB.out) Tryz.underlying48 rfl (by kernel_rfl)) rfl ?_
  exact ⟨sp, sn, sc, rfl, HKT.out, HBE.out⟩
end Go.Proofs.YtnlmknbhppdliaaGreatDoor.Chk
