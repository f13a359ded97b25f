/-
  A region that draws its order, in which a new block is made and stored into. A pattern of raw numbers. Books of raw numbers may be: in plain words. Books of raw numbers may be: links, what is emitted, the whole.
-/
import Derived.Test.YtdihklfaiiclgaaDoorDt
import Derived.Test.YtdihklfaiiclgaaDoorF2
import Derived.Test.YtdihklfaiiclgaaDoorKw
namespace Go.Proofs.YtdihklfaiiclgaaDoor
open Go.ChangeShapes Go.WideShapes Go.ChangeAt Go.RowKit
set_option linter.unusedVariables false
set_option linter.unusedSimpArgs false
theorem wp_region_rel {P : Program} {Q : Exit → Act → World → Prop} {id : Nat} {ops : Array Oper} {a0 : Act} {w0 : World} (hm : P.follows .mixedOrders = true) (T : Nat → World → Value → Prop) (B : World → Prop) (s p : Nat) (dp : Tmp) (os : Oper) (hos : ops[s]? = some os) (hdp : depB ops os p dp = true) (hps : p ≠ s) (hw : waitB ops s p = true) (R : World → Value → Prop) (n : Nat) (hn : a0.tmps.size = n) (hp : plainOps 0 ops.toList [] n = true)
   (Mo MoS : World → World → Prop) (hmon : ∀ k w w' v, Mo w w' → T k w v → T k w' v) (hmonR : ∀ w w' v, Mo w w' → R w v → R w' v) (hmonS : ∀ k w w' v, k ≠ s → MoS w w' → T k w v → T k w' v) (hB : B w0.drew)
   (hop : AllOps (fun i o => i ≠ s → ∀ a w, B w → (∀ k d, depB ops o k d = true → T k w (a.eval (.tmp d))) → (∀ d, outB ops.toList d = true → a.eval (.tmp d) = a0.eval (.tmp d)) → Oper.wp P o a w (fun a' w' => ∃ v, a' = a.put o.dst v ∧ T i w' v ∧ B w' ∧ Mo w w') Q) 0 ops.toList)
   (hst : ∀ a w, B w → (∀ k d, depB ops os k d = true → T k w (a.eval (.tmp d))) → (∀ d, outB ops.toList d = true → a.eval (.tmp d) = a0.eval (.tmp d)) → Oper.wp P os a w (fun a' w' => ∃ v, a' = a.put os.dst v ∧ T s w' v ∧ B w' ∧ MoS w w' ∧ R w' (a.eval (.tmp dp))) Q)
   (hend : ∀ (vs : Nat → Value) w, B w → (∀ i, i < ops.size → T i w (vs i)) → R w (vs p) → Q .normal (fill vs (fun _ => true) 0 ops.toList a0) w) : (Code.region id ops true).wp P Q a0 w0 := by
 have hss : s < ops.size := (Array.getElem?_eq_some_iff.1 hos).1
 refine wp_region_vs hm (fun i vs w => T i w (vs i) ∧ (i = s → R w (vs p))) (fun _ w => B w) n hn hp hB ?_ ?_
 . have gen : ∀ (l : List Oper) (k : Nat), (∀ i o, l[i]? = some o → ops[k + i]? = some o) → AllOps (fun i o => i ≠ s → ∀ a w, B w → (∀ k d, depB ops o k d = true → T k w (a.eval (.tmp d))) → (∀ d, outB ops.toList d = true → a.eval (.tmp d) = a0.eval (.tmp d)) → Oper.wp P o a w (fun a' w' => ∃ v, a' = a.put o.dst v ∧ T i w' v ∧ B w' ∧ Mo w w') Q) k l →
     AllOps (fun i o => ∀ a w vs, vs i = undef → B w → (∀ k d, depB ops o k d = true → a.eval (.tmp d) = vs k ∧ (T k w (vs k) ∧ (k = s → R w (vs p)))) → (∀ d, outB ops.toList d = true → a.eval (.tmp d) = a0.eval (.tmp d)) → Oper.wp P o a w (fun a' w' => ∃ v, a' = a.put o.dst v ∧ (T i w' (upv vs i v i) ∧ (i = s → R w' (upv vs i v p))) ∧ B w' ∧ ∀ j, j ≠ i → waitB ops j i = false → (T j w (vs j) ∧ (j = s → R w (vs p))) → (T j w' (upv vs i v j) ∧ (j = s → R w' (upv vs i v p)))) Q) k l := by
    intro l
    induction l with
    | nil => intro k _ _; trivial
    | cons x r ih =>
     intro k hk h
     refine ⟨?_, ih (k + 1) (fun i o ho => by rw [show k + 1 + i = k + (i + 1) by omega]; exact hk (i + 1) o (by simpa using ho)) h.2⟩
     intro a w vs hu hb hd hout
     have hx : ops[k]? = some x := by simpa using hk 0 x (by simp)
     have hd' : ∀ q d, depB ops x q d = true → T q w (a.eval (.tmp d)) := fun q d h => by rw [(hd q d h).1]; exact (hd q d h).2.1
     by_cases c : k = s
     . subst c
       rw [hos] at hx
       cases hx
       refine Oper.wp_mono ?_ (hst a w hb hd' hout)
       rintro a' w' ⟨v, rfl, h1, h2, h3, h4⟩
       refine ⟨v, rfl, ⟨by rw [upv_eq]; exact h1, fun _ => ?_⟩, h2, fun j hj _ hT => ⟨by rw [upv_ne _ _ hj]; exact hmonS j w w' _ hj h3 hT.1, fun e => absurd e hj⟩⟩
       rw [upv_ne _ _ hps, ← (hd p dp hdp).1]
       exact h4
     . refine Oper.wp_mono ?_ (h.1 c a w hb hd' hout)
       rintro a' w' ⟨v, rfl, h1, h2, h3⟩
       refine ⟨v, rfl, ⟨by rw [upv_eq]; exact h1, fun e => absurd e c⟩, h2, fun j hj hwj hT => ⟨by rw [upv_ne _ _ hj]; exact hmon j w w' _ h3 hT.1, fun e => ?_⟩⟩
       subst e
       have hkp : p ≠ k := fun e => by rw [e, hwj] at hw; cases hw
       rw [upv_ne _ _ hkp]
       exact hmonR w w' _ h3 (hT.2 rfl)
   exact gen ops.toList 0 (fun i o ho => by simpa using ho) hop
 . intro vs w hb hT
   exact hend vs w hb (fun i hi => (hT i hi).1) ((hT s hss).2 rfl)
end Go.Proofs.YtdihklfaiiclgaaDoor
namespace Go.Proofs.YtdihklfaiiclgaaDoor.Chk
open Go.ChangeShapes Go.WideShapes Go.ChangeAt Go.RowKit Go.Maps
set_option linter.unusedVariables false
set_option linter.unusedSimpArgs false
set_option maxRecDepth 20000
theorem rdCq {w : World} {c : Cn} {cs : List Value} (h : RdL w (encC c) cs) : ∃ v, cs = cnC c.k v c.l c.r ∧ Rd w (.row 44 14 c.sb) v := by
  obtain ⟨v0, r0, rfl, h0, h⟩ := RdL.one h
  obtain ⟨v1, r1, rfl, h1, h⟩ := RdL.one h
  obtain ⟨v2, r2, rfl, h2, h⟩ := RdL.one h
  obtain ⟨v3, r3, rfl, h3, h⟩ := RdL.one h
  obtain ⟨v4, r4, rfl, h4, h⟩ := RdL.one h
  obtain ⟨v5, r5, rfl, h5, h⟩ := RdL.one h
  obtain ⟨v6, r6, rfl, h6, h⟩ := RdL.one h
  obtain ⟨v7, r7, rfl, h7, h⟩ := RdL.one h
  obtain ⟨v8, r8, rfl, h8, h⟩ := RdL.one h
  obtain ⟨v9, r9, rfl, h9, h⟩ := RdL.one h
  obtain ⟨v10, r10, rfl, h10, h⟩ := RdL.one h
  obtain ⟨v11, r11, rfl, h11, h⟩ := RdL.one h
  obtain ⟨v12, r12, rfl, h12, h⟩ := RdL.one h
  obtain ⟨v13, r13, rfl, h13, h⟩ := RdL.one h
  rw [rd_lit h0, rd_lit h2, rd_lit h3, rd_lit h4, rd_lit h5, rd_lit h6, rd_lit h7, rd_lit h8, rd_lit h9, rd_lit h10, rd_lit h11, rd_lit h12, rd_lit h13, RdL.none h]
  exact ⟨v1, rfl, h1⟩
theorem whr_any (c : Cst) (hc : c.ok) (at_ : Nat) (kn : List ByteArray) (kv : Value) (w : World) (hk : Rd w (.row 9 1 (kn.map encS)) kv) (hl : kn.length ≤ 3) :
   Calls Tryd.prog 31 #[.agg #[.int .i64 c.ty, .int .i64 c.co, .int .i64 c.n, .int .i64 c.wi, .int .i64 c.si], .int .i64 (at_ : Nat), kv] w fun e w' => ∃ (sp : Option Addr) (sn sc : Nat), e = .returned (cnV (whC (pkd c.co 9).toNat at_ (pkd c.n 6) (othO kn c.n)).k (.slice sp sn sc) (whC (pkd c.co 9).toNat at_ (pkd c.n 6) (othO kn c.n)).l (whC (pkd c.co 9).toNat at_ (pkd c.n 6) (othO kn c.n)).r) ∧ KT w' w.heap.size isC (encC (whC (pkd c.co 9).toNat at_ (pkd c.n 6) (othO kn c.n))) (cnC (whC (pkd c.co 9).toNat at_ (pkd c.n 6) (othO kn c.n)).k (.slice sp sn sc) (whC (pkd c.co 9).toNat at_ (pkd c.n 6) (othO kn c.n)).l (whC (pkd c.co 9).toNat at_ (pkd c.n 6) (othO kn c.n)).r) ∧ Below w.heap.size w w' := by
 have fin : ∀ (X : Cn) e w', (∃ cs : List Value, e = Ending.returned (.agg cs.toArray) ∧ (∀ W : World, (∀ i, w.heap.size ≤ i → TB w' 44 i → W.heap[i]? = w'.heap[i]?) → RdL W (encC X) cs) ∧ Below w.heap.size w w') → ∃ (sp : Option Addr) (sn sc : Nat), e = .returned (cnV X.k (.slice sp sn sc) X.l X.r) ∧ KT w' w.heap.size isC (encC X) (cnC X.k (.slice sp sn sc) X.l X.r) ∧ Below w.heap.size w w' := by
   rintro X e w' ⟨cs, rfl, h1, h2⟩
   obtain ⟨v, rfl, h3⟩ := rdCq (h1 w' (fun _ _ _ => rfl))
   obtain ⟨sp, sn, sc, rfl⟩ := rd_shape h3
   exact ⟨sp, sn, sc, rfl, fun W hW => h1 W (fun i hi ht => hW i _ hi rfl ht), h2⟩
 obtain ⟨p, cap, rfl, _, hat⟩ := rd_row lenS hk
 by_cases h0 : kn.length = 0
 . have e : othO kn c.n = numO (pkd c.n 6) := by unfold othO; rw [if_pos h0]
   rw [e, h0]
   exact (where_all_n c.ty c.co c.n c.wi c.si hc.n.1 hc.n.2 hc.co.1 hc.co.2 at_ w p cap).mono (fin _)
 . obtain ⟨g, off, rfl, hr⟩ := hat (by omega)
   have hq := pkd_in c.n (m := (kn.length : Int)) (by omega)
   obtain ⟨q, hqq⟩ : ∃ q : Nat, pkd c.n (kn.length : Int) = (q : Int) := ⟨(pkd c.n (kn.length : Int)).toNat, by omega⟩
   have hql : q < kn.length := by omega
   obtain ⟨us, h1, h2⟩ := hr w (Below.refl _ _) q hql
   have h3 := rdS h2
   subst h3
   have hcell : w.cell? ⟨g, off + q, none⟩ = some (.string kn[q]) := by have := h1 0 _ rfl; simpa using this
   have e : othO kn c.n = ⟨3, 0, 0, txt [], kn[q], txt [110]⟩ := by
    unfold othO
    rw [if_neg h0, hqq, Int.toNat_natCast, List.getD_eq_getElem?_getD, List.getElem?_eq_getElem hql]
    rfl
   rw [e]
   exact (where_all_p c.ty c.co c.n c.wi c.si hc.n.1 hc.n.2 hc.co.1 hc.co.2 at_ w g off kn.length cap q kn[q] (by omega) hl hqq hcell).mono (fin _)
theorem ent_wh : ∀ args w, (callFunc 31 args).run Tryd.prog w = .ok (.enter 31 args) w := enters_of Tryd.func31 (by kernel_rfl) rfl
theorem ent_pat : ∀ args w, (callFunc 16 args).run Tryd.prog w = .ok (.enter 16 args) w := enters_of Tryd.func16 (by kernel_rfl) rfl
theorem ent_opt : ∀ args w, (callFunc 18 args).run Tryd.prog w = .ok (.enter 18 args) w := enters_of Tryd.func18 (by kernel_rfl) rfl
theorem ent_bnd : ∀ args w, (callFunc 17 args).run Tryd.prog w = .ok (.enter 17 args) w := enters_of Tryd.func17 (by kernel_rfl) rfl
theorem res2s {P : Program} {fn : Func} {p a : Tmp} {ty : TypeId} (h : fn.results = #[.cell p ty, .tmp a]) (tmps : Array Value) (w : World) (g : Nat) (cs : List Value) (d : TypeDesc)
  (hp : tmps.getD p undef = .pointer (some ⟨g, 0, none⟩)) (hc : w.rangeAt g 0 cs) (hu : P.underlying ty = some d) (hd : d.isRow = true) (hi : (P.info? ty).map (·.size) = some cs.length) :
  (results fn tmps).run P w = .ok (.tuple #[.agg cs.toArray, tmps.getD a undef]) w := by
 have hp' : tmps[p]?.getD undef = .pointer (some ⟨g, 0, none⟩) := by simpa using hp
 simp [results, h, hp', asAddr, run_loadVar_mid w g 0 ty cs d hc hu hd hi]
theorem KT.pat {w : World} {n : Nat} {τ : Nat → Prop} {X : Cn} {v : Value} (nm ty : ByteArray) (x y : Int) (h : KT w n τ (encC X) (cnC X.k v X.l X.r))   : KT w n τ (encP ⟨nm, ty, X, x, y⟩) (ptC nm ty X.k v X.l X.r x y) :=
  KT.cons _ (KT.cons _ (KT.app (us := [.int .i64 x, .int .i64 y]) h (KT.lits w n τ [.int .i64 x, .int .i64 y])))
theorem pwA_lt (c : Cst) : pwA c < 4 := by
  have := pkd_in c.ty (m := 4) (by decide)
  unfold pwA; omega
theorem pwA_eq (c : Cst) : pkd c.ty 4 = (pwA c : Int) := by
  have := pkd_in c.ty (m := 4) (by decide)
  unfold pwA; omega
theorem Hp.fr {w0 W W' : World} {l : List (Nat × List Value × TypeId)} {b : Nat} (h : Hp w0 W l) (hf : Fr (fun i => i = b) W W') (hb : w0.heap.size ≤ b) (hn : ∀ i (hi : i < l.length), l[i].1 ≠ b) : Hp w0 W' l := ⟨below_fr h.bel hf hb, fun i hi => (hf.block _ (blk_lt (h.b i hi)) (hn i hi)).trans (h.b i hi)⟩
theorem ovrAll (cs vs : List Value) (h : cs.length = vs.length) : ovr cs 0 vs = vs := by unfold ovr; simp [h]
set_option maxHeartbeats 16000000 in
theorem patK_any (nm : ByteArray) (c : Cst) (hc : c.ok) (kn : List ByteArray) (kv : Value) (w : World) (hk : Rd w (.row 9 1 (kn.map encS)) kv) (hl : kn.length ≤ 3) :
  Calls Tryd.prog 16 #[.string nm, .agg #[.int .i64 c.ty, .int .i64 c.co, .int .i64 c.n, .int .i64 c.wi, .int .i64 c.si], kv] w fun e w' => ∃ (sp : Option Addr) (sn sc : Nat), e = .returned (.tuple #[ptV nm (tyN (pwA c)) (pwC c kn).k (.slice sp sn sc) (pwC c kn).l (pwC c kn).r 0 0, .int .i64 (pwA c : Nat)]) ∧ KT w' w.heap.size isC (encC (pwC c kn)) (cnC (pwC c kn).k (.slice sp sn sc) (pwC c kn).l (pwC c kn).r) ∧ Below w.heap.size w w' := by
 have HWH := hid (fun W (hW : Below w.heap.size w W) => whr_any c hc (pwA c) kn kv W (hk.later hW) hl)
 have hj4 := pwA_lt c
 have hj := pwA_eq c
 obtain ⟨X, hX⟩ : ∃ X, pwC c kn = X := ⟨_, rfl⟩
 have hX' : whC (pkd c.co 9).toNat (pwA c) (pkd c.n 6) (othO kn c.n) = X := hX
 rw [hX'] at HWH
 rw [hX]
 obtain ⟨j, hjj⟩ : ∃ j, pwA c = j := ⟨_, rfl⟩
 rw [hjj] at HWH hj4 hj ⊢
 have HPT := hid (fun W => picked_any c.ty 4 W hc.ty.1 hc.ty.2 (by decide) (by decide))
 rw [hj] at HPT
 obtain ⟨kp, kl, kc, rfl⟩ := rd_shape hk
 have hB0 := bxs2 w [.int .i64 c.ty, .int .i64 c.co, .int .i64 c.n, .int .i64 c.wi, .int .i64 c.si] pt0 73 46
 have HB := hid (show Hp w _ [(w.heap.size, [.int .i64 c.ty, .int .i64 c.co, .int .i64 c.n, .int .i64 c.wi, .int .i64 c.si], 73)] from ⟨hB0.bel, fun i hi => by rcases i with _ | i; exact hB0.b 0 (by simp); exact absurd hi (by simp)⟩)
 have HB2 := hid (hB0.b 1 (by simp))
 have c0 := hB0.c 0 (by simp) 0
 simp only [Nat.add_zero] at c0
 have i1 : (0 : Int) ≤ (j : Int) := by omega
 have i2 : (j : Int) < 4 := by omega
 clear hX hX' hjj hj hB0 hk hl hc
 go_enter Tryd.func16, Tryd.ntmps16
 go_wp2_with (go_at_call 6; refine (HPT.out _).mono ?_; rintro e w1 ⟨rfl, rfl⟩)
 refine wp_region_rel (by kernel_rfl) (fun i w9 v => ([(fun w9 v => v = .string nm), (fun w9 v => ∃ (b : Nat), v = .slice (some ⟨b, 0, none⟩) 4 4 ∧ w9.heap[b]? = some (.cells #[.string ⟨#[97]⟩, .string ⟨#[98]⟩, .string ⟨#[99]⟩, .string ⟨#[100]⟩] 9 (0, 0))), (fun w9 v => v = .int .i64 (j : Nat)), (fun w9 v => ∃ (b : Nat), v = .pointer (some ⟨b, j, none⟩) ∧ w9.heap[b]? = some (.cells #[.string ⟨#[97]⟩, .string ⟨#[98]⟩, .string ⟨#[99]⟩, .string ⟨#[100]⟩] 9 (0, 0))), (fun w9 v => v = .string (tyN j)), (fun w9 v => v = .agg #[.int .i64 c.ty, .int .i64 c.co, .int .i64 c.n, .int .i64 c.wi, .int .i64 c.si]), (fun w9 v => v = .int .i64 (j : Nat)), (fun w9 v => v = (.slice kp kl kc)), (fun w9 v => ∃ (sp : Option Addr) (sn sc : Nat), v = cnV X.k (.slice sp sn sc) X.l X.r ∧ KT w9 w.heap.size isC (encC X) (cnC X.k (.slice sp sn sc) X.l X.r)), (fun w9 v => ∃ (sp : Option Addr) (sn sc : Nat), v = ptV nm (tyN j) X.k (.slice sp sn sc) X.l X.r 0 0 ∧ KT w9 w.heap.size isC (encC X) (cnC X.k (.slice sp sn sc) X.l X.r)), (fun w9 v => v = .int .i64 (j : Nat)), (fun w9 v => True), (fun w9 v => v = .int .i64 (j : Nat))] : List (World → Value → Prop)).getD i (fun _ _ => True) w9 v) (fun W => Hp w W [(w.heap.size, [.int .i64 c.ty, .int .i64 c.co, .int .i64 c.n, .int .i64 c.wi, .int .i64 c.si], 73)] ∧ ∃ cs : List Value, cs.length = 18 ∧ W.heap[w.heap.size + 1]? = some (.cells cs.toArray 46 (0, 0))) 11 9 21 _ rfl (by kernel_rfl) (by decide) (by kernel_rfl) (fun w9 v => ∃ cs : List Value, v = .agg cs.toArray ∧ w9.heap[w.heap.size + 1]? = some (.cells cs.toArray 46 (0, 0))) 23 rfl (by kernel_rfl) (fun W W' => Below W.heap.size W W') (fun W W' => Fr (fun i => i = w.heap.size + 1) W W' ∧ TB W 46 (w.heap.size + 1)) ?hmon ?hmonR ?hmonS (⟨HB.out.next (Below.drew (Below.refl _ _)), _, rfl, HB2.out⟩) (AllOps.cons ?o0 (AllOps.cons ?o1 (AllOps.cons ?o2 (AllOps.cons ?o3 (AllOps.cons ?o4 (AllOps.cons ?o5 (AllOps.cons ?o6 (AllOps.cons ?o7 (AllOps.cons ?o8 (AllOps.cons ?o9 (AllOps.cons ?o10 (AllOps.cons ?o11 (AllOps.cons ?o12 AllOps.nil))))))))))))) ?hst ?hend
 case hmon =>
  intro q W W' v hb h
  rcases q with _ | _ | _ | _ | _ | _ | _ | _ | _ | _ | _ | _ | _ | q
  . exact h
  . obtain ⟨b, e, h1⟩ := h; exact ⟨b, e, (hb.block _ (blk_lt h1)).trans h1⟩
  . exact h
  . obtain ⟨b, e, h1⟩ := h; exact ⟨b, e, (hb.block _ (blk_lt h1)).trans h1⟩
  . exact h
  . exact h
  . exact h
  . exact h
  . obtain ⟨sp, sn, sc, e, h1⟩ := h; exact ⟨sp, sn, sc, e, h1.below hb⟩
  . obtain ⟨sp, sn, sc, e, h1⟩ := h; exact ⟨sp, sn, sc, e, h1.below hb⟩
  . exact h
  . exact h
  . exact h
  . exact h
 case hmonR =>
  intro W W' v hb h
  obtain ⟨cs, e, h1⟩ := h; exact ⟨cs, e, (hb.block _ (blk_lt h1)).trans h1⟩
 case hmonS =>
  intro q W W' v hks hb h
  rcases q with _ | _ | _ | _ | _ | _ | _ | _ | _ | _ | _ | _ | _ | q
  . exact h
  . obtain ⟨b, e, h1⟩ := h; exact ⟨b, e, (hb.1.block _ (blk_lt h1) (fun c9 => hb.2.ne ⟨_, h1⟩ (by decide) c9.symm)).trans h1⟩
  . exact h
  . obtain ⟨b, e, h1⟩ := h; exact ⟨b, e, (hb.1.block _ (blk_lt h1) (fun c9 => hb.2.ne ⟨_, h1⟩ (by decide) c9.symm)).trans h1⟩
  . exact h
  . exact h
  . exact h
  . exact h
  . obtain ⟨sp, sn, sc, e, h1⟩ := h; exact ⟨sp, sn, sc, e, h1.fr hb.1 hb.2 (by decide)⟩
  . obtain ⟨sp, sn, sc, e, h1⟩ := h; exact ⟨sp, sn, sc, e, h1.fr hb.1 hb.2 (by decide)⟩
  . exact h
  . exact h
  . exact h
  . exact h
 case o0 =>
  intro _ a W hB hd ho
  have e0 : a.eval (.tmp 0) = .string nm := ho 0 (by kernel_rfl)
  exact op_mv _ (by simp) _ e0 ⟨_, rfl, rfl, hB, Below.refl _ _⟩
 case o1 =>
  intro _ a W hB hd ho
  have hal : Below W.heap.size W (W.alloc (.cells #[.string ⟨#[97]⟩, .string ⟨#[98]⟩, .string ⟨#[99]⟩, .string ⟨#[100]⟩] 9)) := (Below.refl _ _).alloc (Nat.le_refl _) _
  refine op_bs 59 4 _ rfl #[(0, .string ⟨#[97]⟩), (1, .string ⟨#[98]⟩), (2, .string ⟨#[99]⟩), (3, .string ⟨#[100]⟩)] (by simp [ev_c]) (.slice (some ⟨W.heap.size, 0, none⟩) 4 4) (W.alloc (.cells #[.string ⟨#[97]⟩, .string ⟨#[98]⟩, .string ⟨#[99]⟩, .string ⟨#[100]⟩] 9)) (by kernel_rfl) ⟨_, rfl, ⟨W.heap.size, rfl, heap_alloc_new _ _⟩, ⟨hB.1.next hal, hB.2.imp fun cs h9 => ⟨h9.1, (hal.block _ (blk_lt h9.2)).trans h9.2⟩⟩, hal⟩
 case o2 =>
  intro _ a W hB hd ho
  have e8 : a.eval (.tmp 8) = .int .i64 (j : Nat) := ho 8 (by kernel_rfl)
  exact op_mv _ (by simp) _ e8 ⟨_, rfl, rfl, hB, Below.refl _ _⟩
 case o3 =>
  intro _ a W hB hd ho
  obtain ⟨b, e13, h1⟩ : ∃ (b : Nat), a.eval (.tmp 13) = .slice (some ⟨b, 0, none⟩) 4 4 ∧ W.heap[b]? = some (.cells #[.string ⟨#[97]⟩, .string ⟨#[98]⟩, .string ⟨#[99]⟩, .string ⟨#[100]⟩] 9 (0, 0)) := hd 1 13 (by kernel_rfl)
  have e14 : a.eval (.tmp 14) = .int .i64 (j : Nat) := hd 2 14 (by kernel_rfl)
  exact op_val (.pointer (some ⟨b, j, none⟩)) (by unfold execOp; simp only [ev_c, e13, e14]; go_simp) ⟨_, rfl, ⟨b, rfl, h1⟩, hB, Below.refl _ _⟩
 case o4 =>
  intro _ a W hB hd ho
  obtain ⟨b, e15, h1⟩ : ∃ (b : Nat), a.eval (.tmp 15) = .pointer (some ⟨b, j, none⟩) ∧ W.heap[b]? = some (.cells #[.string ⟨#[97]⟩, .string ⟨#[98]⟩, .string ⟨#[99]⟩, .string ⟨#[100]⟩] 9 (0, 0)) := hd 3 15 (by kernel_rfl)
  have c9 : W.cell? ⟨b, j, none⟩ = some (.string (tyN j)) := by
    rw [cell_of_blk h1]
    rcases (by omega : j = 0 ∨ j = 1 ∨ j = 2 ∨ j = 3) with rfl | rfl | rfl | rfl <;> rfl
  exact op_val (.string (tyN j)) (by unfold execOp; simp only [ev_c, e15]; go_simp) ⟨_, rfl, rfl, hB, Below.refl _ _⟩
 case o5 =>
  intro _ a W hB hd ho
  have e4 : a.eval (.tmp 4) = .pointer (some ⟨w.heap.size, 0, none⟩) := ho 4 (by kernel_rfl)
  exact op_ld 73 _ rfl w.heap.size 0 e4 [.int .i64 c.ty, .int .i64 c.co, .int .i64 c.n, .int .i64 c.wi, .int .i64 c.si] _ (range_blk (hB.1.b 0 (by simp))) Tryd.underlying73 rfl (by kernel_rfl) ⟨_, rfl, rfl, hB, Below.refl _ _⟩
 case o6 =>
  intro _ a W hB hd ho
  have e8 : a.eval (.tmp 8) = .int .i64 (j : Nat) := ho 8 (by kernel_rfl)
  exact op_mv _ (by simp) _ e8 ⟨_, rfl, rfl, hB, Below.refl _ _⟩
 case o7 =>
  intro _ a W hB hd ho
  have e2 : a.eval (.tmp 2) = (.slice kp kl kc) := ho 2 (by kernel_rfl)
  exact op_mv _ (by simp) _ e2 ⟨_, rfl, rfl, hB, Below.refl _ _⟩
 case o8 =>
  intro _ a W hB hd ho
  have e17 : a.eval (.tmp 17) = .agg #[.int .i64 c.ty, .int .i64 c.co, .int .i64 c.n, .int .i64 c.wi, .int .i64 c.si] := hd 5 17 (by kernel_rfl)
  have e18 : a.eval (.tmp 18) = .int .i64 (j : Nat) := hd 6 18 (by kernel_rfl)
  have e19 : a.eval (.tmp 19) = (.slice kp kl kc) := hd 7 19 (by kernel_rfl)
  refine op_cl 31 ent_wh _ _ rfl #[.agg #[.int .i64 c.ty, .int .i64 c.co, .int .i64 c.n, .int .i64 c.wi, .int .i64 c.si], .int .i64 (j : Nat), (.slice kp kl kc)] (by simp [e17, e18, e19]) _ (HWH.out W hB.1.bel) ?_
  rintro e W' ⟨sp, sn, sc, rfl, hkt, hal⟩
  exact ⟨_, rfl, _, rfl, ⟨sp, sn, sc, rfl, hkt.low hB.1.bel.size⟩, ⟨hB.1.next hal, hB.2.imp fun cs h9 => ⟨h9.1, (hal.block _ (blk_lt h9.2)).trans h9.2⟩⟩, hal⟩
 case o9 =>
  intro _ a W hB hd ho
  have e12 : a.eval (.tmp 12) = .string nm := hd 0 12 (by kernel_rfl)
  have e16 : a.eval (.tmp 16) = .string (tyN j) := hd 4 16 (by kernel_rfl)
  obtain ⟨sp, sn, sc, e20, hkt⟩ : ∃ (sp : Option Addr) (sn sc : Nat), a.eval (.tmp 20) = cnV X.k (.slice sp sn sc) X.l X.r ∧ KT W w.heap.size isC (encC X) (cnC X.k (.slice sp sn sc) X.l X.r) := hd 8 20 (by kernel_rfl)
  exact op_bd 46 _ rfl #[(0, .string nm), (1, .string (tyN j)), (2, cnV X.k (.slice sp sn sc) X.l X.r)] (by simp [ev_c, e12, e16, e20]) (ptV nm (tyN j) X.k (.slice sp sn sc) X.l X.r 0 0) (by kernel_rfl) ⟨_, rfl, ⟨sp, sn, sc, rfl, hkt⟩, hB, Below.refl _ _⟩
 case o10 =>
  intro _ a W hB hd ho
  have e8 : a.eval (.tmp 8) = .int .i64 (j : Nat) := ho 8 (by kernel_rfl)
  exact op_mv _ (by simp) _ e8 ⟨_, rfl, rfl, hB, Below.refl _ _⟩
 case o11 =>
  intro h9; exact absurd rfl h9
 case o12 =>
  intro _ a W hB hd ho
  have e22 : a.eval (.tmp 22) = .int .i64 (j : Nat) := hd 10 22 (by kernel_rfl)
  exact op_mv _ (by simp) _ e22 ⟨_, rfl, rfl, hB, Below.refl _ _⟩
 case hst =>
  intro a W hB hd ho
  obtain ⟨sp, sn, sc, e21, hkt⟩ : ∃ (sp : Option Addr) (sn sc : Nat), a.eval (.tmp 21) = ptV nm (tyN j) X.k (.slice sp sn sc) X.l X.r 0 0 ∧ KT W w.heap.size isC (encC X) (cnC X.k (.slice sp sn sc) X.l X.r) := hd 9 21 (by kernel_rfl)
  have e6 : a.eval (.tmp 6) = .pointer (some ⟨w.heap.size + 1, 0, none⟩) := ho 6 (by kernel_rfl)
  obtain ⟨hb0, cs, hcs, hblk⟩ := hB
  refine op_st 46 _ _ rfl (w.heap.size + 1) 0 cs 46 (ptV nm (tyN j) X.k (.slice sp sn sc) X.l X.r 0 0) (ptC nm (tyN j) X.k (.slice sp sn sc) X.l X.r 0 0) e6 e21 (by rfl) hblk (by rw [hcs]; simp) (by kernel_rfl) (by rfl) ?_
  intro w5 h5 hf5
  have h5' : w5.heap[w.heap.size + 1]? = some (.cells (ptC nm (tyN j) X.k (.slice sp sn sc) X.l X.r 0 0).toArray 46 (0, 0)) := by rw [h5, ovrAll cs _ (by rw [hcs]; rfl)]
  exact ⟨undef, rfl, trivial, ⟨hb0.fr hf5 (by omega) (fun i hi => by rcases i with _ | i; (show w.heap.size ≠ w.heap.size + 1; omega); exact absurd hi (by simp)), _, rfl, h5'⟩, ⟨hf5, ⟨_, hblk⟩⟩, ⟨_, e21, h5'⟩⟩
 case hend =>
  intro vs W hB hT hR
  obtain ⟨sp, sn, sc, e9, hkt⟩ : ∃ (sp : Option Addr) (sn sc : Nat), vs 9 = ptV nm (tyN j) X.k (.slice sp sn sc) X.l X.r 0 0 ∧ KT W w.heap.size isC (encC X) (cnC X.k (.slice sp sn sc) X.l X.r) := hT 9 (by decide)
  have e12 : vs 12 = .int .i64 (j : Nat) := hT 12 (by decide)
  obtain ⟨cs, ec, hblk⟩ := hR
  rw [e9] at ec
  obtain rfl : cs = (ptC nm (tyN j) X.k (.slice sp sn sc) X.l X.r 0 0) := by
    have := congrArg Value.cells ec
    simpa [Value.cells] using this.symm
  have HBB := hid hblk
  have HKT := hid hkt
  have HBE := hid hB.1.bel
  simp only [List.toList_toArray, List.take_succ_cons, List.take_zero, fill, if_true, Act.put, List.setIfInBounds_toArray, List.set_cons_zero, List.set_cons_succ, e12]
  generalize vs 0 = v0
  generalize vs 1 = v1
  generalize vs 2 = v2
  generalize vs 3 = v3
  generalize vs 4 = v4
  generalize vs 5 = v5
  generalize vs 6 = v6
  generalize vs 7 = v7
  generalize vs 8 = v8
  generalize vs 9 = v9
  generalize vs 10 = v10
  clear hblk hkt hB hT e9 e12 ec vs
  go_wp2_with fail
  refine bodyPost_ret (res2s rfl _ _ (w.heap.size + 1) (ptC nm (tyN j) X.k (.slice sp sn sc) X.l X.r 0 0) _ (by rfl) (range_blk HBB.out) Tryd.underlying46 rfl (by kernel_rfl)) rfl ?_
  exact ⟨sp, sn, sc, rfl, HKT.out, HBE.out⟩
theorem len_alN : ∀ k, (alN k).length = k
  | 0 => rfl
  | k + 1 => by rw [alN, List.length_append, len_alN k]; rfl
theorem len_pwWs (ws : List Cst) : ∀ k, (pwWs ws k).length = k
  | 0 => rfl
  | k + 1 => by rw [pwWs, List.length_append, len_pwWs ws k]; rfl
theorem len_pwTs (ns : List Cst) (kn : List ByteArray) : ∀ k, (pwTs ns kn k).length = k
  | 0 => rfl
  | k + 1 => by rw [pwTs, List.length_append, len_pwTs ns kn k]; rfl
theorem len_pwMs (ns : List Cst) (kn : List ByteArray) : ∀ k, (pwMs ns kn k).length = k
  | 0 => rfl
  | k + 1 => by rw [pwMs, List.length_append, len_pwMs ns kn k]; rfl
theorem len_pwUs (ns : List Cst) (al : List ByteArray) : ∀ k, (pwUs ns al k).length = k
  | 0 => rfl
  | k + 1 => by rw [pwUs, List.length_append, len_pwUs ns al k]; rfl
theorem len_pwBs (bs : List Bd6) (al : List ByteArray) : ∀ k, (pwBs bs al k).length = k
  | 0 => rfl
  | k + 1 => by rw [pwBs, List.length_append, len_pwBs bs al k]; rfl
theorem len_pwRs (l : List Plt) : ∀ k, (pwRs l k).length = k
  | 0 => rfl
  | k + 1 => by rw [pwRs, List.length_append, len_pwRs l k]; rfl
theorem vas_pwWs (ws : List Cst) : ∀ k, (pwWs ws k).map Pt.va = alN k
  | 0 => rfl
  | k + 1 => by rw [pwWs, alN, List.map_append, vas_pwWs ws k]; rfl
theorem get_pwWs (ws : List Cst) : ∀ k j, j < k → (pwWs ws k).getD j ⟨txt [], txt [], cn0, 0, 0⟩ = pwH ws j
 | 0, j, h => by omega
 | k + 1, j, h => by
  rw [pwWs, List.getD_eq_getElem?_getD]
  by_cases c : j < k
  . rw [List.getElem?_append_left (by rw [len_pwWs]; exact c), ← List.getD_eq_getElem?_getD]; exact get_pwWs ws k j c
  . obtain rfl : j = k := by omega
    rw [List.getElem?_append_right (by rw [len_pwWs]; omega), len_pwWs]; simp
theorem pwL_in (ws : List Cst) : 1 ≤ pwL ws ∧ pwL ws ≤ 3 := by unfold pwL; split <;> omega
theorem pwA_in (c : Cst) : pwA c < 4 := by
  have := pkd_in c.ty (m := 4) (by decide)
  unfold pwA; omega
theorem pwW_in (c : Cst) : pwW c = 0 ∨ pwW c = 1 ∨ pwW c = 2 := by
  have := pkd_in c.wi (m := 4) (by decide)
  unfold pwW; split <;> omega
theorem ixq_map {α β : Type} (f : α → β) (q : β → Bool) : ∀ (l : List α) (n : Nat), ixq (fun x => q (f x)) l n = ixq q (l.map f) n
  | [], _ => rfl
  | x :: r, n => by rw [List.map_cons, ixq, ixq, ixq_map f q r]
theorem ptq_map (l : List Pt) (n : ByteArray) : ptq l n = ixq (fun a => seq a n) (l.map Pt.va) 0 := ixq_map Pt.va (fun a => seq a n) l 0
theorem vnm_at : ∀ k, k ≤ 3 → ∀ j, j < k → ixq (fun a => seq a (vnm j)) (alN k) 0 = (j : Int) := by decide +kernel
theorem tyq_tyN : ∀ j, j < 4 → tyq kts (tyN j) = (j : Int) := by decide +kernel
theorem frn_v : ∀ j, j < 3 → frn (vnm j) = 0 := by decide +kernel
theorem frn_u : ∀ j, j < 2 → frn (unm j) = 0 := by decide +kernel
theorem frn_m : ∀ j, j < 2 → frn (mnm j) = 0 := by decide +kernel
theorem fck_n : ∀ j, j < 4 → j ≠ 2 → fck (kts.getD j ⟨txt [], []⟩).f (txt [110]) = (1, 0) := by decide +kernel
theorem emp0 : emp (txt []) = true := by kernel_rfl
theorem sdk_num (ts : List Tp) (kn : List Pt) (own : Tp) (k : Int) (h0 : 0 ≤ k) (h1 : k ≤ 120) : sdk ts kn own (numO k) = (1, 0) := by
  unfold sdk numO
  simp only [emp0]
  unfold vck
  simp only [emp0]
  simp
  omega
theorem sdkOwn (ts : List Tp) (kn : List Pt) (own : Tp) (n : ByteArray) : sdk ts kn own (ownO n) = fck own.f n := by
  unfold sdk ownO nzv
  simp only [emp0]
  simp
theorem sdk_oth (ws : List Cst) (own : Tp) (m j : Nat) (hm : m ≤ 3) (hj : j < m) (h2 : pwA (ws.getD j cst0) ≠ 2) : sdk kts (pwWs ws m) own ⟨3, 0, 0, txt [], vnm j, txt [110]⟩ = (1, 0) := by
  have e : ptq (pwWs ws m) (vnm j) = (j : Int) := by rw [ptq_map, vas_pwWs]; exact vnm_at m hm j hj
  unfold sdk nzv tyOf
  simp only [emp0, e]
  rw [Int.toNat_natCast, get_pwWs ws m j hj, show (pwH ws j).ty = tyN (pwA (ws.getD j cst0)) from rfl, tyq_tyN _ (pwA_in _), Int.toNat_natCast, fck_n _ (pwA_in _) h2]
  simp
theorem pwK_mem (ws : List Cst) : ∀ k nm, nm ∈ pwK ws k → ∃ j, j < k ∧ nm = vnm j ∧ pwA (ws.getD j cst0) ≠ 2
 | 0, nm, h => by cases h
 | k + 1, nm, h => by
  rw [pwK] at h
  split at h
  . obtain ⟨j, h1, h2, h3⟩ := pwK_mem ws k nm h
    exact ⟨j, by omega, h2, h3⟩
  . rename_i c
    rcases List.mem_append.1 h with h | h
    . obtain ⟨j, h1, h2, h3⟩ := pwK_mem ws k nm h
      exact ⟨j, by omega, h2, h3⟩
    . rw [List.mem_singleton] at h
      exact ⟨k, by omega, h, c⟩
theorem pwK_len (ws : List Cst) : ∀ k, (pwK ws k).length ≤ k
 | 0 => by simp [pwK]
 | k + 1 => by
  have := pwK_len ws k
  rw [pwK]; split
  . omega
  . simp; omega
theorem getD_mem {α : Type} {l : List α} {i : Nat} {d : α} (h : i < l.length) : l.getD i d ∈ l := by
  rw [List.getD_eq_getElem?_getD, List.getElem?_eq_getElem h]; exact List.getElem_mem h
theorem sdk_othO (ws : List Cst) (own : Tp) (m k : Nat) (hm : m ≤ 3) (hk : k ≤ m) (n : Int) : sdk kts (pwWs ws m) own (othO (pwK ws k) n) = (1, 0) := by
 unfold othO
 split
 . have := pkd_in n (m := 6) (by decide)
   exact sdk_num _ _ _ _ (by omega) (by omega)
 . rename_i c
   have := pkd_in n (m := ((pwK ws k).length : Int)) (by omega)
   obtain ⟨j, h1, h2, h3⟩ := pwK_mem ws k _ (getD_mem (l := pwK ws k) (i := (pkd n ((pwK ws k).length : Int)).toNat) (d := txt []) (by omega))
   rw [h2]
   exact sdk_oth ws own m j hm (by omega) h3
theorem cdk_cmp {ts : List Tp} {kn : List Pt} {own : Tp} {n : Nat} {k : Int} {a b : Opd} {q : Int} (h4 : 4 ≤ k) (h7 : k ≤ 7) (ha : sdk ts kn own a = (q, 0)) (hb : sdk ts kn own b = (q, 0)) : cdk ts kn own (n + 1) (cmpC k a b) = (1, 0) := by
  unfold cdk cmpC
  simp only [ha, hb]
  rw [if_neg (by omega), if_pos (by omega)]
  simp
theorem cdk_two {ts : List Tp} {kn : List Pt} {own : Tp} {n : Nat} {k p q : Int} {a b : Cn} (hk : k = 1 ∨ k = 2) (ha : cdk ts kn own n a = (p, 0)) (hb : cdk ts kn own n b = (q, 0)) (hp : p ≤ 6) (hq : q ≤ 6) (hp0 : 0 ≤ p) : cdk ts kn own (n + 1) (grpC k [a, b]) = (p + q, 0) := by
  unfold cdk
  rw [show (grpC k [a, b]).k = k from rfl, show (grpC k [a, b]).l = opd0 from rfl, show (grpC k [a, b]).r = opd0 from rfl, show (grpC k [a, b]).sb.length = 2 from rfl, subs_grp, if_neg (by omega), if_neg (by omega), if_neg (by rw [show eqz opd0 = true from by kernel_rfl]; simp), if_neg (by omega)]
  simp only [cgo, ha, hb]
  rw [if_neg (by simp), if_neg (by omega), if_neg (by simp), if_neg (by omega)]
  simp
theorem cdk_not {ts : List Tp} {kn : List Pt} {own : Tp} {n : Nat} {p : Int} {a : Cn} (ha : cdk ts kn own n a = (p, 0)) (hp : p ≤ 6) : cdk ts kn own (n + 1) (grpC 3 [a]) = (p, 0) := by
  unfold cdk
  rw [show (grpC 3 [a]).k = 3 from rfl, show (grpC 3 [a]).l = opd0 from rfl, show (grpC 3 [a]).r = opd0 from rfl, show (grpC 3 [a]).sb.length = 1 from rfl, subs_grp, if_neg (by omega), if_neg (by omega), if_neg (by rw [show eqz opd0 = true from by kernel_rfl]; simp), if_neg (by omega)]
  simp only [cgo, ha]
  rw [if_neg (by simp), if_neg (by omega)]
  simp
theorem sdk_tx (ts : List Tp) (kn : List Pt) (own : Tp) : sdk ts kn own ⟨1, 2, 0, txt [120], txt [], txt []⟩ = (2, 0) := by
  unfold sdk vck
  simp only [emp0]
  rw [show (txt [120]).size = 1 from by kernel_rfl]
  simp
theorem fck_s : fck (kts.getD 1 ⟨txt [], []⟩).f (txt [115]) = (2, 0) := by kernel_rfl
theorem wh_ok {kn : List Pt} {j : Nat} (hj : j < 4) (co : Nat) (k : Int) (h0 : 0 ≤ k) (h1 : k ≤ 5) (ot : Opd) (ho : ∀ own, sdk kts kn own ot = (1, 0)) : noc (whC co j k ot) = true ∨ (cdk kts kn (kts.getD j ⟨txt [], []⟩) 8 (whC co j k ot)).2 = 0 := by
 have hn : ∀ own q, 0 ≤ q → q ≤ 120 → sdk kts kn own (numO q) = (1, 0) := fun own q a b => sdk_num _ _ _ _ a b
 by_cases h2 : j = 2
 . unfold whC; rw [if_pos h2]; exact .inl (by kernel_rfl)
 . have hN : sdk kts kn (kts.getD j ⟨txt [], []⟩) nO = (1, 0) := by unfold nO; rw [sdkOwn]; exact fck_n j hj h2
   have hK := hn (kts.getD j ⟨txt [], []⟩) k h0 (by omega)
   unfold whC
   rw [if_neg h2]
   split
   . exact .inr (by rw [cdk_cmp (by decide) (by decide) hK hN])
   . split
     . exact .inr (by rw [cdk_cmp (by decide) (by decide) hN (ho _)])
     . split
       . exact .inr (by rw [cdk_cmp (by decide) (by decide) hN (ho _)])
       . split
         . exact .inr (by rw [cdk_two (p := 1) (q := 1) (by decide) (cdk_cmp (by decide) (by decide) hN hK) (cdk_cmp (by decide) (by decide) hN (hn _ 1 (by decide) (by decide))) (by decide) (by decide) (by decide)])
         . split
           . exact .inr (by rw [cdk_two (p := 1) (q := 1) (by decide) (cdk_cmp (by decide) (by decide) (ho _) hN) (cdk_not (cdk_cmp (by decide) (by decide) hN hK) (by decide)) (by decide) (by decide) (by decide)])
           . split
             . split
               . rename_i c
                 subst c
                 exact .inr (by rw [cdk_cmp (q := 2) (by decide) (by decide) (by rw [sdkOwn]; exact fck_s) (sdk_tx _ _ _)])
               . exact .inr (by rw [cdk_cmp (by decide) (by decide) hN (ho _)])
             . exact .inl (by kernel_rfl)
theorem pck_pw {kn : List Pt} {ah : List ByteArray} {nm : ByteArray} {c : Cst} {K : List ByteArray} {w n part : Int} (h1 : frn nm = 0) (h2 : ah.any (fun a => seq a nm) = false) (h3 : ¬ wbad part w n) (h4 : ¬ rbad w n) (ho : ∀ own, sdk kts kn own (othO K c.n) = (1, 0)) : pck kts kn ah (pwP nm c K w n) part = 0 := by
 have hj := pwA_in c
 have hk := pkd_in c.n (m := 6) (by decide)
 have hw := wh_ok (kn := kn) hj (pkd c.co 9).toNat (pkd c.n 6) hk.1 (by omega) _ ho
 unfold pck
 show (if frn nm ≠ 0 then frn nm else if ah.any (fun a => seq a nm) = true then 7 else if tyq kts (tyN (pwA c)) < 0 then 6 else if wbad part w n then 4 else if rbad w n then 2 else if noc (pwC c K) = true then 0 else (cdk kts kn (kts.getD (tyq kts (tyN (pwA c))).toNat ⟨txt [], []⟩) 8 (pwC c K)).2) = 0
 rw [h1, h2, tyq_tyN _ hj, if_neg (by decide), if_neg (by decide), if_neg (by omega), if_neg h3, if_neg h4, Int.toNat_natCast]
 rcases (show noc (pwC c K) = true ∨ (cdk kts kn (kts.getD (pwA c) ⟨txt [], []⟩) 8 (pwC c K)).2 = 0 from hw) with hw | hw
 . rw [if_pos hw]
 . split
   . rfl
   . exact hw
theorem ahead_v : ∀ k, k < 3 → (alN k).any (fun a => seq a (vnm k)) = false := by decide +kernel
theorem win_ok (c : Cst) : ¬ wbad 0 (pwW c) (pwN c) ∧ ¬ rbad (pwW c) (pwN c) := by
  have h1 := pkd_in c.si (m := 20) (by decide)
  have h2 := pkd_in c.si (m := 4) (by decide)
  unfold wbad rbad pwN
  rcases pwW_in c with h | h | h <;> rw [h] <;> constructor <;> simp <;> omega
theorem wfs_pw (ws : List Cst) (N : Nat) (hN : N ≤ 3) : ∀ m k, k + m = N → wfs 0 kts (pwWs ws k) ((pwWs ws N).drop k) = 0
 | 0, k, h => by rw [List.drop_of_length_le (by rw [len_pwWs]; omega)]; rfl
 | m + 1, k, h => by
  have hd : (pwWs ws N).drop k = pwH ws k :: (pwWs ws N).drop (k + 1) := by
   rw [List.drop_eq_getElem_cons (by rw [len_pwWs]; omega)]
   congr 1
   have := get_pwWs ws N k (by omega)
   rw [List.getD_eq_getElem?_getD, List.getElem?_eq_getElem (by rw [len_pwWs]; omega)] at this
   exact this
  have hp : pck kts (pwWs ws k) ((pwWs ws k).map Pt.va) (pwH ws k) 0 = 0 := pck_pw (frn_v k (by omega)) (by rw [vas_pwWs]; exact ahead_v k (by omega)) (win_ok _).1 (win_ok _).2 (fun own => sdk_othO ws own k k (by omega) (Nat.le_refl _) _)
  rw [hd, wfs, hp, if_neg (by decide)]
  have := wfs_pw ws N hN m (k + 1) (by omega)
  rw [pwWs] at this
  exact this
theorem nots_ok : ¬ wbad 1 0 0 ∧ ¬ rbad 0 0 := by decide
theorem alN_u : ∀ k, k ≤ 3 → ((alN k).any (fun a => seq a (unm 0)) = false ∧ (alN k ++ [unm 0]).any (fun a => seq a (unm 1)) = false) := by decide +kernel
theorem alN_m0 : ∀ k, k ≤ 3 → (∀ b, b ≤ 2 → ((alN k ++ (List.range b).map unm).any (fun a => seq a (mnm 0)) = false ∧ (alN k ++ (List.range b).map unm ++ [mnm 0]).any (fun a => seq a (mnm 1)) = false)) := by decide +kernel
theorem nfs_pw (ws ns : List Cst) (N : Nat) (hN : N ≤ 3) (b : Nat) (hb : b ≤ 2) : nfs 0 kts (pwWs ws N) (alN N) (pwTs ns (pwK ws N) b) = 0 := by
 have hp : ∀ i, i < 2 → ∀ ah : List ByteArray, ah.any (fun a => seq a (unm i)) = false → pck kts (pwWs ws N) ah (pwT ns (pwK ws N) i) 1 = 0 := fun i hi ah ha => pck_pw (frn_u i hi) ha nots_ok.1 nots_ok.2 (fun own => sdk_othO ws own N N hN (Nat.le_refl _) _)
 obtain ⟨a0, a1⟩ := alN_u N hN
 rcases (by omega : b = 0 ∨ b = 1 ∨ b = 2) with rfl | rfl | rfl
 . rfl
 . show nfs 0 kts (pwWs ws N) (alN N) [pwT ns (pwK ws N) 0] = 0
   simp only [nfs, hp 0 (by decide) _ a0]
   rfl
 . show nfs 0 kts (pwWs ws N) (alN N) [pwT ns (pwK ws N) 0, pwT ns (pwK ws N) 1] = 0
   have e : (pwT ns (pwK ws N) 0).va = unm 0 := rfl
   simp only [nfs, hp 0 (by decide) _ a0, e, hp 1 (by decide) _ a1]
   rfl
theorem vas_pwTs (ns : List Cst) (kn : List ByteArray) (b : Nat) (hb : b ≤ 2) : (pwTs ns kn b).map Pt.va = (List.range b).map unm := by
  rcases (by omega : b = 0 ∨ b = 1 ∨ b = 2) with rfl | rfl | rfl <;> rfl
theorem many_win (c : Cst) : ¬ wbad 2 1 (pkd c.si 20) ∧ ¬ rbad 1 (pkd c.si 20) := by
  have h1 := pkd_in c.si (m := 20) (by decide)
  unfold wbad rbad
  constructor <;> simp <;> omega
theorem mck_pw (ws ms : List Cst) (N : Nat) (hN : N ≤ 3) (i : Nat) (hi : i < 2) (ah : List ByteArray) (ha : ah.any (fun a => seq a (mnm i)) = false) : mck kts (pwWs ws N) ah (pwM ms (pwK ws N) i) = 0 := by
 have hp : pck kts (pwWs ws N) ah (pwM ms (pwK ws N) i).p 2 = 0 := pck_pw (frn_m i hi) ha (many_win _).1 (many_win _).2 (fun own => sdk_othO ws own N N hN (Nat.le_refl _) _)
 have h3 := pkd_in (ms.getD i cst0).n (m := 3) (by decide)
 have hj := pwA_in (ms.getD i cst0)
 have hb : mbad (pwM ms (pwK ws N) i) = false := by
   unfold mbad pwM
   simp only
   have q1 : decide (1 ≤ 1 + pkd (ms.getD i cst0).n 3) = true := decide_eq_true (by omega)
   have q2 : decide (1 + pkd (ms.getD i cst0).n 3 ≤ 120) = true := decide_eq_true (by omega)
   have q3 : decide (0 ≤ 1 + pkd (ms.getD i cst0).n 3) = true := decide_eq_true (by omega)
   have q4 : decide (1 + pkd (ms.getD i cst0).n 3 ≤ 1125899906842624) = true := decide_eq_true (by omega)
   rw [q1, q2, q3, q4]
   simp
 unfold mck
 rw [hb, hp, if_neg (by decide), if_neg (by decide)]
 by_cases c2 : pwA (ms.getD i cst0) = 2
 . have e : (pwM ms (pwK ws N) i).f = txt [] := by unfold pwM; simp only; rw [if_pos c2]
   rw [e, emp0, if_pos rfl]
 . by_cases c1 : pkd (ms.getD i cst0).wi 2 = 1
   . have e : (pwM ms (pwK ws N) i).f = txt [110] := by unfold pwM; simp only; rw [if_neg c2, if_pos c1]
     rw [e, show emp (txt [110]) = false from by kernel_rfl, if_neg (by decide), show (pwM ms (pwK ws N) i).p.ty = tyN (pwA (ms.getD i cst0)) from rfl, tyq_tyN _ hj, Int.toNat_natCast]
     unfold sck
     rw [fck_n _ hj c2]
     rfl
   . have e : (pwM ms (pwK ws N) i).f = txt [] := by unfold pwM; simp only; rw [if_neg c2, if_neg c1]
     rw [e, emp0, if_pos rfl]
theorem mfs_pw (ws ms : List Cst) (N : Nat) (hN : N ≤ 3) (b : Nat) (hb : b ≤ 2) (t : Nat) (ht : t ≤ 2) : mfs 0 kts (pwWs ws N) (alN N ++ (List.range t).map unm) (pwMs ms (pwK ws N) b) = 0 := by
 obtain ⟨a0, a1⟩ := alN_m0 N hN t ht
 rcases (by omega : b = 0 ∨ b = 1 ∨ b = 2) with rfl | rfl | rfl
 . rfl
 . show mfs 0 kts (pwWs ws N) (alN N ++ (List.range t).map unm) [pwM ms (pwK ws N) 0] = 0
   simp only [mfs, mck_pw ws ms N hN 0 (by decide) _ a0]
   rfl
 . show mfs 0 kts (pwWs ws N) (alN N ++ (List.range t).map unm) [pwM ms (pwK ws N) 0, pwM ms (pwK ws N) 1] = 0
   have e : (pwM ms (pwK ws N) 0).p.va = mnm 0 := rfl
   simp only [mfs, mck_pw ws ms N hN 0 (by decide) _ a0, e, mck_pw ws ms N hN 1 (by decide) _ a1]
   rfl
theorem opRl_in (r : Int) : 1 ≤ opRl r ∧ opRl r ≤ 13 := by
  have := pkd_in r (m := 13) (by decide)
  unfold opRl; omega
theorem opLo0_in (l : Int) : 0 ≤ opLo0 l ∧ opLo0 l ≤ 5 := by
  have := pkd_in l (m := 6) (by decide)
  unfold opLo0; split <;> omega
theorem opLo_in (r l : Int) : 0 ≤ opLo r l ∧ opLo r l ≤ opLo0 l := by
  have := opLo0_in l
  unfold opLo; split <;> omega
theorem opHi_in (l h : Int) : opHi l h = -1 ∨ (opLo0 l ≤ opHi l h ∧ opHi l h ≤ 13) := by
  have := opLo0_in l
  have h9 := pkd_in h (m := 9) (by decide)
  unfold opHi; split <;> omega
theorem ock_ok {r lo hi : Int} (h1 : 1 ≤ r ∧ r ≤ 13) (h2 : 0 ≤ lo ∧ lo ≤ 5) (h3 : hi = -1 ∨ (lo ≤ hi ∧ hi ≤ 20)) : ock r lo hi = 0 := by
  unfold ock
  rw [if_neg (by omega), if_neg (by omega), if_neg (by omega)]
theorem ock_op (r l h : Int) : ock (opRl r) (opLo r l) (opHi l h) = 0 := by
  have := opLo0_in l
  have h1 := opLo_in r l
  have h2 := opHi_in l h
  exact ock_ok (opRl_in r) (by omega) (by omega)
theorem ock_bn (c : Cst) : ock (bnO c).r (bnO c).lo (bnO c).hi = 0 := by
  have := opLo0_in c.si
  have h1 := opLo_in (bRl c.wi - 1) c.si
  have h2 := opHi_in c.si c.co
  refine ock_ok (opRl_in _) (by unfold bnO; simp only; omega) ?_
  unfold bnO
  simp only
  split <;> omega
theorem ofs_S (b : Bd6) : ofs (opS b) = 0 ∧ 1 ≤ (opS b).length ∧ (opS b).length ≤ 6 := by
 have e1 : ock (opB b).r (opB b).lo (opB b).hi = 0 := ock_op _ _ _
 unfold opS
 split
 . refine ⟨?_, by simp, by simp⟩
   simp only [ofs, e1, ock_op]
   rfl
 . refine ⟨?_, by simp, by simp⟩
   simp only [ofs, e1]
   rfl
theorem alN_get : ∀ k, k ≤ 3 → ∀ j, j < k → (alN k).getD j (txt []) = vnm j := by
 intro k hk j hj
 rcases (by omega : k = 0 ∨ k = 1 ∨ k = 2 ∨ k = 3) with rfl | rfl | rfl | rfl
 . omega
 . obtain rfl : j = 0 := by omega
   rfl
 . rcases (by omega : j = 0 ∨ j = 1) with rfl | rfl <;> rfl
 . rcases (by omega : j = 0 ∨ j = 1 ∨ j = 2) with rfl | rfl | rfl <;> rfl
theorem pick_v {k : Nat} (hk : k ≤ 3) {i : Int} (h0 : 0 ≤ i) (h1 : i < (k : Int)) : pick (alN k) i = vnm i.toNat := alN_get k hk _ (by omega)
theorem seq_uv : ∀ i, i < 2 → ∀ j, j < 3 → seq (unm i) (vnm j) = false := by decide +kernel
theorem seq_vv : ∀ i, i < 3 → ∀ j, j < 3 → i ≠ j → seq (vnm i) (vnm j) = false := by decide +kernel
theorem unm_at : ∀ b, b ≤ 2 → ∀ j, j < b → ixq (fun a => seq a (unm j)) ((List.range b).map unm) 0 = (j : Int) := by decide +kernel
theorem lck_u (ws ns : List Cst) (kn : List ByteArray) (N : Nat) (hN0 : 1 ≤ N) (hN : N ≤ 3) (b : Nat) (hb : b ≤ 2) (i : Nat) (hi : i < b) : lck (pwWs ws N) (pwTs ns kn b) (pwU ns (alN N) i).l (pwU ns (alN N) i).r (pwU ns (alN N) i).o = 0 := by
  have hp := pkd_in (ns.getD i cst0).n (m := (N : Int)) (by omega)
  have e1 : (pwU ns (alN N) i).r = vnm (pkd (ns.getD i cst0).n (N : Int)).toNat := by unfold pwU; simp only; rw [len_alN, pick_v hN hp.1 hp.2]
  have e2 : (pwU ns (alN N) i).l = unm i := rfl
  have e3 : (pwU ns (alN N) i).o = [bnO (ns.getD i cst0)] := rfl
  rw [e1, e2, e3]
  generalize hq : (pkd (ns.getD i cst0).n (N : Int)).toNat = q
  have hqN : q < N := by omega
  have a1 : ptq (pwWs ws N) (vnm q) = (q : Int) := by rw [ptq_map, vas_pwWs]; exact vnm_at N hN q hqN
  have a2 : ptq (pwTs ns kn b) (unm i) = (i : Int) := by rw [ptq_map, vas_pwTs ns kn b hb]; exact unm_at b hb i hi
  unfold lck
  rw [a1, a2, seq_uv i (by omega) q (by omega), if_neg (by omega), if_neg (by rintro (c | c); cases c; omega), if_neg (by simp)]
  simp only [ofs, ock_bn]
  rfl
theorem lck_b (ws : List Cst) (ns : List Pt) (N : Nat) (hN0 : 2 ≤ N) (hN : N ≤ 3) (b : Bd6) : lck (pwWs ws N) ns (pwBl b (alN N)).l (pwBl b (alN N)).r (pwBl b (alN N)).o = 0 := by
 have hl := pkd_in b.l (m := (N : Int)) (by omega)
 have hr := pkd_in b.r (m := (N : Int) - 1) (by omega)
 have e1 : (pwBl b (alN N)).l = vnm (pkd b.l (N : Int)).toNat := by unfold pwBl; simp only; rw [len_alN, pick_v hN hl.1 hl.2]
 obtain ⟨q, hq⟩ : ∃ q, (pkd b.l (N : Int) + 1 + pkd b.r ((N : Int) - 1)) % (N : Int) = q := ⟨_, rfl⟩
 have hq0 : 0 ≤ q := by rw [← hq]; exact Int.emod_nonneg _ (by omega)
 have hq1 : q < (N : Int) := by rw [← hq]; exact Int.emod_lt_of_pos _ (by omega)
 have hne : q ≠ pkd b.l (N : Int) := by
  rcases (by omega : N = 2 ∨ N = 3) with rfl | rfl <;> simp at hq hl hr ⊢ <;> omega
 have e2 : (pwBl b (alN N)).r = vnm q.toNat := by unfold pwBl; simp only; rw [len_alN, hq, pick_v hN hq0 hq1]
 obtain ⟨o1, o2, o3⟩ := ofs_S b
 have e3 : (pwBl b (alN N)).o = opS b := rfl
 rw [e1, e2, e3]
 generalize hl' : (pkd b.l (N : Int)).toNat = l
 generalize hr' : q.toNat = r
 have hlN : l < N := by omega
 have hrN : r < N := by omega
 have a1 : ptq (pwWs ws N) (vnm l) = (l : Int) := by rw [ptq_map, vas_pwWs]; exact vnm_at N hN l hlN
 have a2 : ptq (pwWs ws N) (vnm r) = (r : Int) := by rw [ptq_map, vas_pwWs]; exact vnm_at N hN r hrN
 unfold lck
 rw [a1, a2, seq_vv l (by omega) r (by omega) (by omega), if_neg (by omega), if_neg (by rintro (c | c); cases c; omega), if_neg (by omega)]
 exact o1
theorem lfs_app (ws ns : List Pt) : ∀ (l r : List Lk), lfs 0 ws ns l = 0 → lfs 0 ws ns r = 0 → lfs 0 ws ns (l ++ r) = 0
 | [], r, _, h => h
 | x :: l, r, h, h2 => by
  rw [lfs] at h
  rw [List.cons_append, lfs]
  split at h
  . rename_i c; exact absurd h c
  . rename_i c
    rw [if_neg c]
    exact lfs_app ws ns l r h h2
theorem lfs_one {ws ns : List Pt} {x : Lk} (h : lck ws ns x.l x.r x.o = 0) : lfs 0 ws ns [x] = 0 := by
  rw [lfs, h]; rfl
theorem lfs_u (ws ns : List Cst) (kn : List ByteArray) (N : Nat) (hN0 : 1 ≤ N) (hN : N ≤ 3) (b : Nat) (hb : b ≤ 2) : ∀ k, k ≤ b → lfs 0 (pwWs ws N) (pwTs ns kn b) (pwUs ns (alN N) k) = 0
  | 0, _ => rfl
  | k + 1, h => by rw [pwUs]; exact lfs_app _ _ _ _ (lfs_u ws ns kn N hN0 hN b hb k (by omega)) (lfs_one (lck_u ws ns kn N hN0 hN b hb k (by omega)))
theorem lfs_b (ws : List Cst) (ns : List Pt) (bs : List Bd6) (N : Nat) (hN0 : 2 ≤ N) (hN : N ≤ 3) : ∀ k, lfs 0 (pwWs ws N) ns (pwBs bs (alN N) k) = 0
  | 0 => rfl
  | k + 1 => by rw [pwBs]; exact lfs_app _ _ _ _ (lfs_b ws ns bs N hN0 hN k) (lfs_one (lck_b ws ns N hN0 hN _))
theorem eck_pw (ws : List Cst) (e : Int) (N : Nat) (hN : N ≤ 3) : eck kts (pwWs ws N) (pwE e (pwK ws N)).ty (pwE e (pwK ws N)).v = 0 := by
 unfold pwE
 by_cases c : pkd e 3 = 0
 . rw [if_pos c]; unfold eck; simp only [emp0]; simp
 . rw [if_neg c]
   have h9 := pkd_in e (m := 9) (by decide)
   have ho : ∀ own, sdk kts (pwWs ws N) own (if (pwK ws N).length ≠ 0 ∧ pkd e 3 = 2 then ⟨3, 0, 0, txt [], (pwK ws N).getD 0 (txt []), txt [110]⟩ else numO (pkd e 9)) = (1, 0) := by
    intro own
    split
    . rename_i d
      obtain ⟨j, h1, h2, h3⟩ := pwK_mem ws N _ (getD_mem (l := pwK ws N) (i := 0) (d := txt []) (by omega))
      rw [h2]
      exact sdk_oth ws own N j hN h1 h3
    . exact sdk_num _ _ _ _ (by omega) (by omega)
   have hk : (if (pwK ws N).length ≠ 0 ∧ pkd e 3 = 2 then (⟨3, 0, 0, txt [], (pwK ws N).getD 0 (txt []), txt [110]⟩ : Opd) else numO (pkd e 9)).k ≠ 2 := by split <;> simp [numO]
   generalize (if (pwK ws N).length ≠ 0 ∧ pkd e 3 = 2 then (⟨3, 0, 0, txt [], (pwK ws N).getD 0 (txt []), txt [110]⟩ : Opd) else numO (pkd e 9)) = o at ho hk
   unfold eck
   simp only
   have q2 : tyq kts (txt [101]) = 4 := by kernel_rfl
   have q1 : emp (txt [101]) = false := by kernel_rfl
   rw [q1, q2, if_neg (by decide), if_neg (by decide), show (4 : Int).toNat = 4 from rfl, show (kts.getD 4 ⟨txt [], []⟩).f = [⟨txt [110], 1⟩] from rfl, if_neg (by simp)]
   simp only [evs, ho]
   rw [if_neg hk]
   simp
theorem pwB_in (p : Plt) : min p.t.length 2 + pwB p ≤ 6 := by unfold pwB; split <;> omega
theorem rck_pw {nm : ByteArray} (hn : frn nm = 0) (p : Plt) : rck kts (pwR nm p) = 0 := by
 have hL := pwL_in p.w
 have hz : szs (pwR nm p) := by
  have := pwB_in p
  unfold szs pwR
  simp only [len_pwWs, len_pwTs, len_pwMs, List.length_append, len_pwUs, len_pwBs]
  omega
 rw [rck_parts kts (pwR nm p) hn hz]
 have h1 : wfs 0 kts [] (pwR nm p).w = 0 := wfs_pw p.w (pwL p.w) hL.2 (pwL p.w) 0 (by omega)
 have h2 : nfs 0 kts (pwR nm p).w ((pwR nm p).w.map Pt.va) (pwR nm p).t = 0 := by
  show nfs 0 kts (pwWs p.w (pwL p.w)) ((pwWs p.w (pwL p.w)).map Pt.va) _ = 0
  rw [vas_pwWs]
  exact nfs_pw p.w p.t (pwL p.w) hL.2 _ (by omega)
 have h3 : mfs 0 kts (pwR nm p).w ((pwR nm p).w.map Pt.va ++ (pwR nm p).t.map Pt.va) (pwR nm p).m = 0 := by
  show mfs 0 kts (pwWs p.w (pwL p.w)) ((pwWs p.w (pwL p.w)).map Pt.va ++ (pwTs p.t (pwK p.w (pwL p.w)) (min p.t.length 2)).map Pt.va) _ = 0
  rw [vas_pwWs, vas_pwTs _ _ _ (by omega)]
  exact mfs_pw p.w p.m (pwL p.w) hL.2 _ (by omega) _ (by omega)
 have h4 : lfs 0 (pwR nm p).w (pwR nm p).t (pwR nm p).k = 0 := by
  refine lfs_app _ _ _ _ (lfs_u p.w p.t _ (pwL p.w) hL.1 hL.2 _ (by omega) _ (Nat.le_refl _)) ?_
  by_cases c : pwL p.w = 1
  . have : pwB p = 0 := by unfold pwB; rw [if_pos c]
    rw [this]
    rfl
  . exact lfs_b p.w _ p.b (pwL p.w) (by omega) hL.2 _
 rw [h1, h2, h3, h4]
 simp only [ne_eq, not_true_eq_false, if_false]
 exact eck_pw p.w p.e (pwL p.w) hL.2
theorem frn_r : ∀ i, i < 4 → frn (rnm i) = 0 := by decide +kernel
theorem nms_pwRs (l : List Plt) : ∀ k, (pwRs l k).map Rl.n = (List.range k).map rnm
  | 0 => rfl
  | k + 1 => by rw [pwRs, List.map_append, nms_pwRs l k, List.range_succ, List.map_append]; rfl
theorem twice_r : ∀ k, k ≤ 4 → (k < 4 → ((List.range k).map rnm).any (fun d => seq d (rnm k)) = false) ∧ ((List.range k).map rnm).any (fun d => seq d hrd.n) = false := by decide +kernel
theorem rks_pw (l : List Plt) (n : Nat) (hn : n ≤ 4) (r : List Rl) : ∀ m k, k + m = n → rks (rck kts) (pwRs l k) ((pwRs l n).drop k ++ r) = rks (rck kts) (pwRs l n) r
 | 0, k, h => by
  obtain rfl : k = n := by omega
  rw [List.drop_of_length_le (by rw [len_pwRs]; omega)]; rfl
 | m + 1, k, h => by
  have hg : ∀ n k, k < n → ∃ hk : k < (pwRs l n).length, (pwRs l n)[k] = pwR (rnm k) (l.getD k plt0) := by
   intro n
   induction n with
   | zero => intro k hk; omega
   | succ n ih =>
    intro k hk
    refine ⟨by rw [len_pwRs]; exact hk, ?_⟩
    by_cases c : k < n
    . obtain ⟨h1, h2⟩ := ih k c
      simp only [pwRs]
      rw [List.getElem_append_left h1]
      exact h2
    . obtain rfl : k = n := by omega
      simp only [pwRs]
      rw [List.getElem_append_right (by rw [len_pwRs]; omega)]
      simp [len_pwRs]
  obtain ⟨hk1, hk2⟩ := hg n k (by omega)
  have ht : (pwRs l k).any (fun d => seq d.n (pwR (rnm k) (l.getD k plt0)).n) = false := by
   have := (twice_r k (by omega)).1 (by omega)
   rw [← nms_pwRs l k, List.any_map] at this
   exact this
  rw [List.drop_eq_getElem_cons hk1, hk2, List.cons_append, rks, rck_pw (frn_r k (by omega)), ht, if_neg (by decide), if_neg (by decide)]
  exact rks_pw l n hn r m (k + 1) (by omega)
theorem len_bk (l : List Plt) : (pwBk l).length = min l.length 4 + 1 := by unfold pwBk; rw [List.length_append, len_pwRs]; rfl
theorem rks_bk (l : List Plt) : rks (rck kts) [] (pwBk l) = 0 := by
 have h := rks_pw l (min l.length 4) (by omega) [hrd] (min l.length 4) 0 (by omega)
 unfold pwBk
 rw [List.drop_zero] at h
 refine h.trans ?_
 have ht : (pwRs l (min l.length 4)).any (fun d => seq d.n hrd.n) = false := by
  have := (twice_r (min l.length 4) (by omega)).2
  rw [← nms_pwRs l, List.any_map] at this
  exact this
 rw [rks, ht, show rck kts hrd = 0 from by kernel_rfl, if_neg (by decide), if_neg (by decide), rks]
theorem sz_nm : (∀ j, (vnm j).size ≤ maxLen) ∧ (∀ j, (unm j).size ≤ maxLen) ∧ (txt []).size ≤ maxLen := by
 refine ⟨fun j => ?_, fun j => ?_, by decide⟩
 . unfold vnm; split
   . decide
   . split <;> decide
 . unfold unm; split <;> decide
theorem wsz_cmp {k : Int} {a b : Opd} (h1 : a.va.size ≤ maxLen) (h2 : b.va.size ≤ maxLen) : Wsz (cmpC k a b) := .mk _ [] rfl h1 h2 (fun x hx => by cases hx)
theorem wsz_grp {k : Int} {l : List Cn} (h : ∀ x, x ∈ l → Wsz x) : Wsz (grpC k l) := .mk _ l rfl (by show (txt []).size ≤ maxLen; decide) (by show (txt []).size ≤ maxLen; decide) h
theorem wsz_0 : Wsz cn0 := .mk _ [] rfl (by decide) (by decide) (fun x hx => by cases hx)
theorem wsz_wh (co at_ : Nat) (k : Int) (ot : Opd) (h : ot.va.size ≤ maxLen) : Wsz (whC co at_ k ot) := by
 have hn : nO.va.size ≤ maxLen := by decide
 have hk : ∀ q, (numO q).va.size ≤ maxLen := fun q => by show (txt []).size ≤ maxLen; decide
 unfold whC
 split
 . exact wsz_0
 . split
   . exact wsz_cmp (hk _) hn
   . split
     . exact wsz_cmp hn h
     . split
       . exact wsz_cmp hn h
       . split
         . exact wsz_grp (fun x hx => by
             rcases List.mem_cons.1 hx with rfl | hx
             . exact wsz_cmp hn (hk _)
             . rw [List.mem_singleton.1 hx]; exact wsz_cmp hn (hk _))
         . split
           . exact wsz_grp (fun x hx => by
               rcases List.mem_cons.1 hx with rfl | hx
               . exact wsz_cmp h hn
               . rw [List.mem_singleton.1 hx]
                 exact wsz_grp (fun y hy => by rw [List.mem_singleton.1 hy]; exact wsz_cmp hn (hk _)))
           . split
             . split
               . exact wsz_cmp (by show (txt []).size ≤ maxLen; decide) (by show (txt []).size ≤ maxLen; decide)
               . exact wsz_cmp hn h
             . exact wsz_0
theorem sz_getD {l : List ByteArray} (h : ∀ x, x ∈ l → x.size ≤ maxLen) (i : Nat) : (l.getD i (txt [])).size ≤ maxLen := by
  by_cases c : i < l.length
  . exact h _ (getD_mem c)
  . rw [List.getD_eq_getElem?_getD, List.getElem?_eq_none (by omega)]; exact sz_nm.2.2
theorem sz_K (ws : List Cst) (k : Nat) : ∀ x, x ∈ pwK ws k → x.size ≤ maxLen := fun x hx => by
  obtain ⟨j, _, rfl, _⟩ := pwK_mem ws k x hx
  exact sz_nm.1 j
theorem sz_al (k : Nat) : ∀ x, x ∈ alN k → x.size ≤ maxLen := by
 induction k with
 | zero => intro x hx; cases hx
 | succ k ih =>
  intro x hx
  rw [alN] at hx
  rcases List.mem_append.1 hx with hx | hx
  . exact ih x hx
  . rw [List.mem_singleton.1 hx]; exact sz_nm.1 k
theorem wsz_pw (c : Cst) (ws : List Cst) (k : Nat) : Wsz (pwC c (pwK ws k)) := by
  refine wsz_wh _ _ _ _ ?_
  unfold othO
  split
  . exact sz_nm.2.2
  . exact sz_getD (sz_K ws k) _
theorem szr_pw (nm : ByteArray) (p : Plt) : Szr (pwR nm p) := by
 refine ⟨?_, ?_, ?_, ?_, ?_⟩
 . show ∀ t, t ∈ pwWs p.w (pwL p.w) → Wsz t.c
   generalize pwL p.w = k
   induction k with
   | zero => intro t ht; cases ht
   | succ k ih =>
     intro t ht
     rw [pwWs] at ht
     rcases List.mem_append.1 ht with ht | ht
     . exact ih t ht
     . rw [List.mem_singleton.1 ht]; exact wsz_pw _ _ _
 . show ∀ t, t ∈ pwTs p.t (pwK p.w (pwL p.w)) (min p.t.length 2) → Wsz t.c
   generalize min p.t.length 2 = k
   induction k with
   | zero => intro t ht; cases ht
   | succ k ih =>
     intro t ht
     rw [pwTs] at ht
     rcases List.mem_append.1 ht with ht | ht
     . exact ih t ht
     . rw [List.mem_singleton.1 ht]; exact wsz_pw _ _ _
 . show ∀ t, t ∈ pwMs p.m (pwK p.w (pwL p.w)) (min p.m.length 2) → Wsz t.p.c
   generalize min p.m.length 2 = k
   induction k with
   | zero => intro t ht; cases ht
   | succ k ih =>
     intro t ht
     rw [pwMs] at ht
     rcases List.mem_append.1 ht with ht | ht
     . exact ih t ht
     . rw [List.mem_singleton.1 ht]; exact wsz_pw _ _ _
 . show ∀ x, x ∈ pwUs p.t (alN (pwL p.w)) (min p.t.length 2) ++ pwBs p.b (alN (pwL p.w)) (pwB p) → x.l.size ≤ maxLen ∧ x.r.size ≤ maxLen
   intro x hx
   rcases List.mem_append.1 hx with hx | hx
   . revert hx
     generalize min p.t.length 2 = k
     induction k with
     | zero => intro ht; cases ht
     | succ k ih =>
       intro ht
       rw [pwUs] at ht
       rcases List.mem_append.1 ht with ht | ht
       . exact ih ht
       . rw [List.mem_singleton.1 ht]; exact ⟨sz_nm.2.1 k, sz_getD (sz_al _) _⟩
   . revert hx
     generalize pwB p = k
     induction k with
     | zero => intro ht; cases ht
     | succ k ih =>
       intro ht
       rw [pwBs] at ht
       rcases List.mem_append.1 ht with ht | ht
       . exact ih ht
       . rw [List.mem_singleton.1 ht]; exact ⟨sz_getD (sz_al _) _, sz_getD (sz_al _) _⟩
 . show ∀ o, o ∈ (pwE p.e (pwK p.w (pwL p.w))).v → o.va.size ≤ maxLen
   intro o ho
   unfold pwE at ho
   split at ho
   . cases ho
   . rw [List.mem_singleton.1 ho]
     split
     . exact sz_getD (sz_K _ _) _
     . exact sz_nm.2.2
theorem szr_hrd : Szr hrd := by
 refine ⟨?_, ?_, ?_, ?_, ?_⟩
 . intro t ht
   rw [show hrd.w = [⟨txt [120], txt [101], cmpC 6 (numO 1) nO, 1, 3⟩] from rfl] at ht
   rw [List.mem_singleton.1 ht]
   exact wsz_cmp (by decide) (by decide)
 . intro t ht; cases ht
 . intro t ht; cases ht
 . intro t ht; cases ht
 . intro t ht; cases ht
theorem szr_bk (l : List Plt) : ∀ x, x ∈ pwBk l → Szr x := by
 have h : ∀ k, ∀ x, x ∈ pwRs l k → Szr x := by
   intro k
   induction k with
   | zero => intro x hx; cases hx
   | succ k ih =>
    intro x hx
    rw [pwRs] at hx
    rcases List.mem_append.1 hx with hx | hx
    . exact ih x hx
    . rw [List.mem_singleton.1 hx]; exact szr_pw _ _
 intro x hx
 unfold pwBk at hx
 rcases List.mem_append.1 hx with hx | hx
 . exact h _ x hx
 . rw [List.mem_singleton.1 hx]; exact szr_hrd
end Go.Proofs.YtdihklfaiiclgaaDoor.Chk
