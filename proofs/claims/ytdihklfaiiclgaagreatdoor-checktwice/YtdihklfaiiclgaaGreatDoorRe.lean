/-
  A region that draws its order, in which a new block is made and stored into. A pattern of raw numbers. Books of raw numbers may be: in plain words.
-/
import Derived.Test.YtdihklfaiiclgaaGreatDoorDt
import Derived.Test.YtdihklfaiiclgaaGreatDoorF2
import Derived.Test.YtdihklfaiiclgaaGreatDoorKw
namespace Go.Proofs.YtdihklfaiiclgaaGreatDoor
open Go.ChangeShapes Go.WideShapes Go.ChangeAt Go.RowKit
set_option linter.unusedVariables false
set_option linter.unusedSimpArgs false
theorem wp_region_rel {P : Program} {Q : Exit → Act → World → Prop} {id : Nat} {ops : Array Oper} {a0 : Act} {w0 : World} (hm : P.follows .mixedOrders = true) (T : Nat → World → Value → Prop) (B : World → Prop) (s p : Nat) (dp : Tmp) (os : Oper) (hos : ops[s]? = some os) (hdp : depB ops os p dp = true) (hps : p ≠ s) (hw : waitB ops s p = true) (R : World → Value → Prop) (n : Nat) (hn : a0.tmps.size = n) (hp : plainOps 0 ops.toList [] n = true)
   (Mo MoS : World → World → Prop) (hmon : ∀ k w w' v, Mo w w' → T k w v → T k w' v) (hmonR : ∀ w w' v, Mo w w' → R w v → R w' v) (hmonS : ∀ k w w' v, k ≠ s → MoS w w' → T k w v → T k w' v) (hB : B w0.drew)
   (hop : AllOps (fun i o => i ≠ s → ∀ a w, B w → (∀ k d, depB ops o k d = true → T k w (a.eval (.tmp d))) → (∀ d, outB ops.toList d = true → a.eval (.tmp d) = a0.eval (.tmp d)) → Oper.wp P o a w (fun a' w' => ∃ v, a' = a.put o.dst v ∧ T i w' v ∧ B w' ∧ Mo w w') Q) 0 ops.toList)
   (hst : ∀ a w, B w → (∀ k d, depB ops os k d = true → T k w (a.eval (.tmp d))) → (∀ d, outB ops.toList d = true → a.eval (.tmp d) = a0.eval (.tmp d)) → Oper.wp P os a w (fun a' w' => ∃ v, a' = a.put os.dst v ∧ T s w' v ∧ B w' ∧ MoS w w' ∧ R w' (a.eval (.tmp dp))) Q)
   (hend : ∀ (vs : Nat → Value) w, B w → (∀ i, i < ops.size → T i w (vs i)) → R w (vs p) → Q .normal (fill vs (fun _ => true) 0 ops.toList a0) w) : (Code.region id ops true).wp P Q a0 w0 := by
 have hss : s < ops.size := (Array.getElem?_eq_some_iff.1 hos).1
 refine wp_region_vs hm (fun i vs w => T i w (vs i) ∧ (i = s → R w (vs p))) (fun _ w => B w) n hn hp hB ?_ ?_
 . have gen : ∀ (l : List Oper) (k : Nat), (∀ i o, l[i]? = some o → ops[k + i]? = some o) → AllOps (fun i o => i ≠ s → ∀ a w, B w → (∀ k d, depB ops o k d = true → T k w (a.eval (.tmp d))) → (∀ d, outB ops.toList d = true → a.eval (.tmp d) = a0.eval (.tmp d)) → Oper.wp P o a w (fun a' w' => ∃ v, a' = a.put o.dst v ∧ T i w' v ∧ B w' ∧ Mo w w') Q) k l →
     AllOps (fun i o => ∀ a w vs, vs i = undef → B w → (∀ k d, depB ops o k d = true → a.eval (.tmp d) = vs k ∧ (T k w (vs k) ∧ (k = s → R w (vs p)))) → (∀ d, outB ops.toList d = true → a.eval (.tmp d) = a0.eval (.tmp d)) → Oper.wp P o a w (fun a' w' => ∃ v, a' = a.put o.dst v ∧ (T i w' (upv vs i v i) ∧ (i = s → R w' (upv vs i v p))) ∧ B w' ∧ ∀ j, j ≠ i → waitB ops j i = false → (T j w (vs j) ∧ (j = s → R w (vs p))) → (T j w' (upv vs i v j) ∧ (j = s → R w' (upv vs i v p)))) Q) k l := by
    intro l
    induction l with
    | nil => intro k _ _; trivial
    | cons x r ih =>
     intro k hk h
     refine ⟨?_, ih (k + 1) (fun i o ho => by rw [show k + 1 + i = k + (i + 1) by omega]; exact hk (i + 1) o (by simpa using ho)) h.2⟩
     intro a w vs hu hb hd hout
     have hx : ops[k]? = some x := by simpa using hk 0 x (by simp)
     have hd' : ∀ q d, depB ops x q d = true → T q w (a.eval (.tmp d)) := fun q d h => by rw [(hd q d h).1]; exact (hd q d h).2.1
     by_cases c : k = s
     . subst c
       rw [hos] at hx
       cases hx
       refine Oper.wp_mono ?_ (hst a w hb hd' hout)
       rintro a' w' ⟨v, rfl, h1, h2, h3, h4⟩
       refine ⟨v, rfl, ⟨by rw [upv_eq]; exact h1, fun _ => ?_⟩, h2, fun j hj _ hT => ⟨by rw [upv_ne _ _ hj]; exact hmonS j w w' _ hj h3 hT.1, fun e => absurd e hj⟩⟩
       rw [upv_ne _ _ hps, ← (hd p dp hdp).1]
       exact h4
     . refine Oper.wp_mono ?_ (h.1 c a w hb hd' hout)
       rintro a' w' ⟨v, rfl, h1, h2, h3⟩
       refine ⟨v, rfl, ⟨by rw [upv_eq]; exact h1, fun e => absurd e c⟩, h2, fun j hj hwj hT => ⟨by rw [upv_ne _ _ hj]; exact hmon j w w' _ h3 hT.1, fun e => ?_⟩⟩
       subst e
       have hkp : p ≠ k := fun e => by rw [e, hwj] at hw; cases hw
       rw [upv_ne _ _ hkp]
       exact hmonR w w' _ h3 (hT.2 rfl)
   exact gen ops.toList 0 (fun i o ho => by simpa using ho) hop
 . intro vs w hb hT
   exact hend vs w hb (fun i hi => (hT i hi).1) ((hT s hss).2 rfl)
end Go.Proofs.YtdihklfaiiclgaaGreatDoor
namespace Go.Proofs.YtdihklfaiiclgaaGreatDoor.Chk
open Go.ChangeShapes Go.WideShapes Go.ChangeAt Go.RowKit Go.Maps
set_option linter.unusedVariables false
set_option linter.unusedSimpArgs false
set_option maxRecDepth 20000
theorem rdCq {w : World} {c : Cn} {cs : List Value} (h : RdL w (encC c) cs) : ∃ v, cs = cnC c.k v c.l c.r ∧ Rd w (.row 48 14 c.sb) v := by
  obtain ⟨v0, r0, rfl, h0, h⟩ := RdL.one h
  obtain ⟨v1, r1, rfl, h1, h⟩ := RdL.one h
  obtain ⟨v2, r2, rfl, h2, h⟩ := RdL.one h
  obtain ⟨v3, r3, rfl, h3, h⟩ := RdL.one h
  obtain ⟨v4, r4, rfl, h4, h⟩ := RdL.one h
  obtain ⟨v5, r5, rfl, h5, h⟩ := RdL.one h
  obtain ⟨v6, r6, rfl, h6, h⟩ := RdL.one h
  obtain ⟨v7, r7, rfl, h7, h⟩ := RdL.one h
  obtain ⟨v8, r8, rfl, h8, h⟩ := RdL.one h
  obtain ⟨v9, r9, rfl, h9, h⟩ := RdL.one h
  obtain ⟨v10, r10, rfl, h10, h⟩ := RdL.one h
  obtain ⟨v11, r11, rfl, h11, h⟩ := RdL.one h
  obtain ⟨v12, r12, rfl, h12, h⟩ := RdL.one h
  obtain ⟨v13, r13, rfl, h13, h⟩ := RdL.one h
  rw [rd_lit h0, rd_lit h2, rd_lit h3, rd_lit h4, rd_lit h5, rd_lit h6, rd_lit h7, rd_lit h8, rd_lit h9, rd_lit h10, rd_lit h11, rd_lit h12, rd_lit h13, RdL.none h]
  exact ⟨v1, rfl, h1⟩
theorem whr_any (c : Cst) (hc : c.ok) (at_ : Nat) (kn : List ByteArray) (kv : Value) (w : World) (hk : Rd w (.row 9 1 (kn.map encS)) kv) (hl : kn.length ≤ 3) :
   Calls Tryz.prog 57 #[.agg #[.int .i64 c.ty, .int .i64 c.co, .int .i64 c.n, .int .i64 c.wi, .int .i64 c.si], .int .i64 (at_ : Nat), kv] w fun e w' => ∃ (sp : Option Addr) (sn sc : Nat), e = .returned (cnV (whC (pkd c.co 9).toNat at_ (pkd c.n 6) (othO kn c.n)).k (.slice sp sn sc) (whC (pkd c.co 9).toNat at_ (pkd c.n 6) (othO kn c.n)).l (whC (pkd c.co 9).toNat at_ (pkd c.n 6) (othO kn c.n)).r) ∧ KT w' w.heap.size isC (encC (whC (pkd c.co 9).toNat at_ (pkd c.n 6) (othO kn c.n))) (cnC (whC (pkd c.co 9).toNat at_ (pkd c.n 6) (othO kn c.n)).k (.slice sp sn sc) (whC (pkd c.co 9).toNat at_ (pkd c.n 6) (othO kn c.n)).l (whC (pkd c.co 9).toNat at_ (pkd c.n 6) (othO kn c.n)).r) ∧ Below w.heap.size w w' := by
 have fin : ∀ (X : Cn) e w', (∃ cs : List Value, e = Ending.returned (.agg cs.toArray) ∧ (∀ W : World, (∀ i, w.heap.size ≤ i → TB w' 48 i → W.heap[i]? = w'.heap[i]?) → RdL W (encC X) cs) ∧ Below w.heap.size w w') → ∃ (sp : Option Addr) (sn sc : Nat), e = .returned (cnV X.k (.slice sp sn sc) X.l X.r) ∧ KT w' w.heap.size isC (encC X) (cnC X.k (.slice sp sn sc) X.l X.r) ∧ Below w.heap.size w w' := by
   rintro X e w' ⟨cs, rfl, h1, h2⟩
   obtain ⟨v, rfl, h3⟩ := rdCq (h1 w' (fun _ _ _ => rfl))
   obtain ⟨sp, sn, sc, rfl⟩ := rd_shape h3
   exact ⟨sp, sn, sc, rfl, fun W hW => h1 W (fun i hi ht => hW i _ hi rfl ht), h2⟩
 obtain ⟨p, cap, rfl, _, hat⟩ := rd_row lenS hk
 by_cases h0 : kn.length = 0
 . have e : othO kn c.n = numO (pkd c.n 6) := by unfold othO; rw [if_pos h0]
   rw [e, h0]
   exact (where_all_n c.ty c.co c.n c.wi c.si hc.n.1 hc.n.2 hc.co.1 hc.co.2 at_ w p cap).mono (fin _)
 . obtain ⟨g, off, rfl, hr⟩ := hat (by omega)
   have hq := pkd_in c.n (m := (kn.length : Int)) (by omega)
   obtain ⟨q, hqq⟩ : ∃ q : Nat, pkd c.n (kn.length : Int) = (q : Int) := ⟨(pkd c.n (kn.length : Int)).toNat, by omega⟩
   have hql : q < kn.length := by omega
   obtain ⟨us, h1, h2⟩ := hr w (Below.refl _ _) q hql
   have h3 := rdS h2
   subst h3
   have hcell : w.cell? ⟨g, off + q, none⟩ = some (.string kn[q]) := by have := h1 0 _ rfl; simpa using this
   have e : othO kn c.n = ⟨3, 0, 0, txt [], kn[q], txt [110]⟩ := by
    unfold othO
    rw [if_neg h0, hqq, Int.toNat_natCast, List.getD_eq_getElem?_getD, List.getElem?_eq_getElem hql]
    rfl
   rw [e]
   exact (where_all_p c.ty c.co c.n c.wi c.si hc.n.1 hc.n.2 hc.co.1 hc.co.2 at_ w g off kn.length cap q kn[q] (by omega) hl hqq hcell).mono (fin _)
theorem ent_wh : ∀ args w, (callFunc 57 args).run Tryz.prog w = .ok (.enter 57 args) w := enters_of Tryz.func57 (by kernel_rfl) rfl
theorem ent_pat : ∀ args w, (callFunc 27 args).run Tryz.prog w = .ok (.enter 27 args) w := enters_of Tryz.func27 (by kernel_rfl) rfl
theorem ent_opt : ∀ args w, (callFunc 29 args).run Tryz.prog w = .ok (.enter 29 args) w := enters_of Tryz.func29 (by kernel_rfl) rfl
theorem ent_bnd : ∀ args w, (callFunc 28 args).run Tryz.prog w = .ok (.enter 28 args) w := enters_of Tryz.func28 (by kernel_rfl) rfl
theorem res2s {P : Program} {fn : Func} {p a : Tmp} {ty : TypeId} (h : fn.results = #[.cell p ty, .tmp a]) (tmps : Array Value) (w : World) (g : Nat) (cs : List Value) (d : TypeDesc)
  (hp : tmps.getD p undef = .pointer (some ⟨g, 0, none⟩)) (hc : w.rangeAt g 0 cs) (hu : P.underlying ty = some d) (hd : d.isRow = true) (hi : (P.info? ty).map (·.size) = some cs.length) :
  (results fn tmps).run P w = .ok (.tuple #[.agg cs.toArray, tmps.getD a undef]) w := by
 have hp' : tmps[p]?.getD undef = .pointer (some ⟨g, 0, none⟩) := by simpa using hp
 simp [results, h, hp', asAddr, run_loadVar_mid w g 0 ty cs d hc hu hd hi]
theorem KT.pat {w : World} {n : Nat} {τ : Nat → Prop} {X : Cn} {v : Value} (nm ty : ByteArray) (x y : Int) (h : KT w n τ (encC X) (cnC X.k v X.l X.r))   : KT w n τ (encP ⟨nm, ty, X, x, y⟩) (ptC nm ty X.k v X.l X.r x y) :=
  KT.cons _ (KT.cons _ (KT.app (us := [.int .i64 x, .int .i64 y]) h (KT.lits w n τ [.int .i64 x, .int .i64 y])))
theorem pwA_lt (c : Cst) : pwA c < 4 := by
  have := pkd_in c.ty (m := 4) (by decide)
  unfold pwA; omega
theorem pwA_eq (c : Cst) : pkd c.ty 4 = (pwA c : Int) := by
  have := pkd_in c.ty (m := 4) (by decide)
  unfold pwA; omega
theorem Hp.fr {w0 W W' : World} {l : List (Nat × List Value × TypeId)} {b : Nat} (h : Hp w0 W l) (hf : Fr (fun i => i = b) W W') (hb : w0.heap.size ≤ b) (hn : ∀ i (hi : i < l.length), l[i].1 ≠ b) : Hp w0 W' l := ⟨below_fr h.bel hf hb, fun i hi => (hf.block _ (blk_lt (h.b i hi)) (hn i hi)).trans (h.b i hi)⟩
theorem ovrAll (cs vs : List Value) (h : cs.length = vs.length) : ovr cs 0 vs = vs := by unfold ovr; simp [h]
set_option maxHeartbeats 16000000 in
theorem patK_any (nm : ByteArray) (c : Cst) (hc : c.ok) (kn : List ByteArray) (kv : Value) (w : World) (hk : Rd w (.row 9 1 (kn.map encS)) kv) (hl : kn.length ≤ 3) :
  Calls Tryz.prog 27 #[.string nm, .agg #[.int .i64 c.ty, .int .i64 c.co, .int .i64 c.n, .int .i64 c.wi, .int .i64 c.si], kv] w fun e w' => ∃ (sp : Option Addr) (sn sc : Nat), e = .returned (.tuple #[ptV nm (tyN (pwA c)) (pwC c kn).k (.slice sp sn sc) (pwC c kn).l (pwC c kn).r 0 0, .int .i64 (pwA c : Nat)]) ∧ KT w' w.heap.size isC (encC (pwC c kn)) (cnC (pwC c kn).k (.slice sp sn sc) (pwC c kn).l (pwC c kn).r) ∧ Below w.heap.size w w' := by
 have HWH := hid (fun W (hW : Below w.heap.size w W) => whr_any c hc (pwA c) kn kv W (hk.later hW) hl)
 have hj4 := pwA_lt c
 have hj := pwA_eq c
 obtain ⟨X, hX⟩ : ∃ X, pwC c kn = X := ⟨_, rfl⟩
 have hX' : whC (pkd c.co 9).toNat (pwA c) (pkd c.n 6) (othO kn c.n) = X := hX
 rw [hX'] at HWH
 rw [hX]
 obtain ⟨j, hjj⟩ : ∃ j, pwA c = j := ⟨_, rfl⟩
 rw [hjj] at HWH hj4 hj ⊢
 have HPT := hid (fun W => picked_any c.ty 4 W hc.ty.1 hc.ty.2 (by decide) (by decide))
 rw [hj] at HPT
 obtain ⟨kp, kl, kc, rfl⟩ := rd_shape hk
 have hB0 := bxs2 w [.int .i64 c.ty, .int .i64 c.co, .int .i64 c.n, .int .i64 c.wi, .int .i64 c.si] pt0 97 50
 have HB := hid (show Hp w _ [(w.heap.size, [.int .i64 c.ty, .int .i64 c.co, .int .i64 c.n, .int .i64 c.wi, .int .i64 c.si], 97)] from ⟨hB0.bel, fun i hi => by rcases i with _ | i; exact hB0.b 0 (by simp); exact absurd hi (by simp)⟩)
 have HB2 := hid (hB0.b 1 (by simp))
 have c0 := hB0.c 0 (by simp) 0
 simp only [Nat.add_zero] at c0
 have i1 : (0 : Int) ≤ (j : Int) := by omega
 have i2 : (j : Int) < 4 := by omega
 clear hX hX' hjj hj hB0 hk hl hc
 go_enter Tryz.func27, Tryz.ntmps27
 go_wp2_with (go_at_call 7; refine (HPT.out _).mono ?_; rintro e w1 ⟨rfl, rfl⟩)
 refine wp_region_rel (by kernel_rfl) (fun i w9 v => ([(fun w9 v => v = .string nm), (fun w9 v => ∃ (b : Nat), v = .slice (some ⟨b, 0, none⟩) 4 4 ∧ w9.heap[b]? = some (.cells #[.string ⟨#[97]⟩, .string ⟨#[98]⟩, .string ⟨#[99]⟩, .string ⟨#[100]⟩] 9 (0, 0))), (fun w9 v => v = .int .i64 (j : Nat)), (fun w9 v => ∃ (b : Nat), v = .pointer (some ⟨b, j, none⟩) ∧ w9.heap[b]? = some (.cells #[.string ⟨#[97]⟩, .string ⟨#[98]⟩, .string ⟨#[99]⟩, .string ⟨#[100]⟩] 9 (0, 0))), (fun w9 v => v = .string (tyN j)), (fun w9 v => v = .agg #[.int .i64 c.ty, .int .i64 c.co, .int .i64 c.n, .int .i64 c.wi, .int .i64 c.si]), (fun w9 v => v = .int .i64 (j : Nat)), (fun w9 v => v = (.slice kp kl kc)), (fun w9 v => ∃ (sp : Option Addr) (sn sc : Nat), v = cnV X.k (.slice sp sn sc) X.l X.r ∧ KT w9 w.heap.size isC (encC X) (cnC X.k (.slice sp sn sc) X.l X.r)), (fun w9 v => ∃ (sp : Option Addr) (sn sc : Nat), v = ptV nm (tyN j) X.k (.slice sp sn sc) X.l X.r 0 0 ∧ KT w9 w.heap.size isC (encC X) (cnC X.k (.slice sp sn sc) X.l X.r)), (fun w9 v => v = .int .i64 (j : Nat)), (fun w9 v => True), (fun w9 v => v = .int .i64 (j : Nat))] : List (World → Value → Prop)).getD i (fun _ _ => True) w9 v) (fun W => Hp w W [(w.heap.size, [.int .i64 c.ty, .int .i64 c.co, .int .i64 c.n, .int .i64 c.wi, .int .i64 c.si], 97)] ∧ ∃ cs : List Value, cs.length = 18 ∧ W.heap[w.heap.size + 1]? = some (.cells cs.toArray 50 (0, 0))) 11 9 21 _ rfl (by kernel_rfl) (by decide) (by kernel_rfl) (fun w9 v => ∃ cs : List Value, v = .agg cs.toArray ∧ w9.heap[w.heap.size + 1]? = some (.cells cs.toArray 50 (0, 0))) 23 rfl (by kernel_rfl) (fun W W' => Below W.heap.size W W') (fun W W' => Fr (fun i => i = w.heap.size + 1) W W' ∧ TB W 50 (w.heap.size + 1)) ?hmon ?hmonR ?hmonS (⟨HB.out.next (Below.drew (Below.refl _ _)), _, rfl, HB2.out⟩) (AllOps.cons ?o0 (AllOps.cons ?o1 (AllOps.cons ?o2 (AllOps.cons ?o3 (AllOps.cons ?o4 (AllOps.cons ?o5 (AllOps.cons ?o6 (AllOps.cons ?o7 (AllOps.cons ?o8 (AllOps.cons ?o9 (AllOps.cons ?o10 (AllOps.cons ?o11 (AllOps.cons ?o12 AllOps.nil))))))))))))) ?hst ?hend
 case hmon =>
  intro q W W' v hb h
  rcases q with _ | _ | _ | _ | _ | _ | _ | _ | _ | _ | _ | _ | _ | q
  . exact h
  . obtain ⟨b, e, h1⟩ := h; exact ⟨b, e, (hb.block _ (blk_lt h1)).trans h1⟩
  . exact h
  . obtain ⟨b, e, h1⟩ := h; exact ⟨b, e, (hb.block _ (blk_lt h1)).trans h1⟩
  . exact h
  . exact h
  . exact h
  . exact h
  . obtain ⟨sp, sn, sc, e, h1⟩ := h; exact ⟨sp, sn, sc, e, h1.below hb⟩
  . obtain ⟨sp, sn, sc, e, h1⟩ := h; exact ⟨sp, sn, sc, e, h1.below hb⟩
  . exact h
  . exact h
  . exact h
  . exact h
 case hmonR =>
  intro W W' v hb h
  obtain ⟨cs, e, h1⟩ := h; exact ⟨cs, e, (hb.block _ (blk_lt h1)).trans h1⟩
 case hmonS =>
  intro q W W' v hks hb h
  rcases q with _ | _ | _ | _ | _ | _ | _ | _ | _ | _ | _ | _ | _ | q
  . exact h
  . obtain ⟨b, e, h1⟩ := h; exact ⟨b, e, (hb.1.block _ (blk_lt h1) (fun c9 => hb.2.ne ⟨_, h1⟩ (by decide) c9.symm)).trans h1⟩
  . exact h
  . obtain ⟨b, e, h1⟩ := h; exact ⟨b, e, (hb.1.block _ (blk_lt h1) (fun c9 => hb.2.ne ⟨_, h1⟩ (by decide) c9.symm)).trans h1⟩
  . exact h
  . exact h
  . exact h
  . exact h
  . obtain ⟨sp, sn, sc, e, h1⟩ := h; exact ⟨sp, sn, sc, e, h1.fr hb.1 hb.2 (by decide)⟩
  . obtain ⟨sp, sn, sc, e, h1⟩ := h; exact ⟨sp, sn, sc, e, h1.fr hb.1 hb.2 (by decide)⟩
  . exact h
  . exact h
  . exact h
  . exact h
 case o0 =>
  intro _ a W hB hd ho
  have e0 : a.eval (.tmp 0) = .string nm := ho 0 (by kernel_rfl)
  exact op_mv _ (by simp) _ e0 ⟨_, rfl, rfl, hB, Below.refl _ _⟩
 case o1 =>
  intro _ a W hB hd ho
  have hal : Below W.heap.size W (W.alloc (.cells #[.string ⟨#[97]⟩, .string ⟨#[98]⟩, .string ⟨#[99]⟩, .string ⟨#[100]⟩] 9)) := (Below.refl _ _).alloc (Nat.le_refl _) _
  refine op_bs 68 4 _ rfl #[(0, .string ⟨#[97]⟩), (1, .string ⟨#[98]⟩), (2, .string ⟨#[99]⟩), (3, .string ⟨#[100]⟩)] (by simp [ev_c]) (.slice (some ⟨W.heap.size, 0, none⟩) 4 4) (W.alloc (.cells #[.string ⟨#[97]⟩, .string ⟨#[98]⟩, .string ⟨#[99]⟩, .string ⟨#[100]⟩] 9)) (by kernel_rfl) ⟨_, rfl, ⟨W.heap.size, rfl, heap_alloc_new _ _⟩, ⟨hB.1.next hal, hB.2.imp fun cs h9 => ⟨h9.1, (hal.block _ (blk_lt h9.2)).trans h9.2⟩⟩, hal⟩
 case o2 =>
  intro _ a W hB hd ho
  have e8 : a.eval (.tmp 8) = .int .i64 (j : Nat) := ho 8 (by kernel_rfl)
  exact op_mv _ (by simp) _ e8 ⟨_, rfl, rfl, hB, Below.refl _ _⟩
 case o3 =>
  intro _ a W hB hd ho
  obtain ⟨b, e13, h1⟩ : ∃ (b : Nat), a.eval (.tmp 13) = .slice (some ⟨b, 0, none⟩) 4 4 ∧ W.heap[b]? = some (.cells #[.string ⟨#[97]⟩, .string ⟨#[98]⟩, .string ⟨#[99]⟩, .string ⟨#[100]⟩] 9 (0, 0)) := hd 1 13 (by kernel_rfl)
  have e14 : a.eval (.tmp 14) = .int .i64 (j : Nat) := hd 2 14 (by kernel_rfl)
  exact op_val (.pointer (some ⟨b, j, none⟩)) (by unfold execOp; simp only [ev_c, e13, e14]; go_simp) ⟨_, rfl, ⟨b, rfl, h1⟩, hB, Below.refl _ _⟩
 case o4 =>
  intro _ a W hB hd ho
  obtain ⟨b, e15, h1⟩ : ∃ (b : Nat), a.eval (.tmp 15) = .pointer (some ⟨b, j, none⟩) ∧ W.heap[b]? = some (.cells #[.string ⟨#[97]⟩, .string ⟨#[98]⟩, .string ⟨#[99]⟩, .string ⟨#[100]⟩] 9 (0, 0)) := hd 3 15 (by kernel_rfl)
  have c9 : W.cell? ⟨b, j, none⟩ = some (.string (tyN j)) := by
    rw [cell_of_blk h1]
    rcases (by omega : j = 0 ∨ j = 1 ∨ j = 2 ∨ j = 3) with rfl | rfl | rfl | rfl <;> rfl
  exact op_val (.string (tyN j)) (by unfold execOp; simp only [ev_c, e15]; go_simp) ⟨_, rfl, rfl, hB, Below.refl _ _⟩
 case o5 =>
  intro _ a W hB hd ho
  have e4 : a.eval (.tmp 4) = .pointer (some ⟨w.heap.size, 0, none⟩) := ho 4 (by kernel_rfl)
  exact op_ld 97 _ rfl w.heap.size 0 e4 [.int .i64 c.ty, .int .i64 c.co, .int .i64 c.n, .int .i64 c.wi, .int .i64 c.si] _ (range_blk (hB.1.b 0 (by simp))) Tryz.underlying97 rfl (by kernel_rfl) ⟨_, rfl, rfl, hB, Below.refl _ _⟩
 case o6 =>
  intro _ a W hB hd ho
  have e8 : a.eval (.tmp 8) = .int .i64 (j : Nat) := ho 8 (by kernel_rfl)
  exact op_mv _ (by simp) _ e8 ⟨_, rfl, rfl, hB, Below.refl _ _⟩
 case o7 =>
  intro _ a W hB hd ho
  have e2 : a.eval (.tmp 2) = (.slice kp kl kc) := ho 2 (by kernel_rfl)
  exact op_mv _ (by simp) _ e2 ⟨_, rfl, rfl, hB, Below.refl _ _⟩
 case o8 =>
  intro _ a W hB hd ho
  have e17 : a.eval (.tmp 17) = .agg #[.int .i64 c.ty, .int .i64 c.co, .int .i64 c.n, .int .i64 c.wi, .int .i64 c.si] := hd 5 17 (by kernel_rfl)
  have e18 : a.eval (.tmp 18) = .int .i64 (j : Nat) := hd 6 18 (by kernel_rfl)
  have e19 : a.eval (.tmp 19) = (.slice kp kl kc) := hd 7 19 (by kernel_rfl)
  refine op_cl 57 ent_wh _ _ rfl #[.agg #[.int .i64 c.ty, .int .i64 c.co, .int .i64 c.n, .int .i64 c.wi, .int .i64 c.si], .int .i64 (j : Nat), (.slice kp kl kc)] (by simp [e17, e18, e19]) _ (HWH.out W hB.1.bel) ?_
  rintro e W' ⟨sp, sn, sc, rfl, hkt, hal⟩
  exact ⟨_, rfl, _, rfl, ⟨sp, sn, sc, rfl, hkt.low hB.1.bel.size⟩, ⟨hB.1.next hal, hB.2.imp fun cs h9 => ⟨h9.1, (hal.block _ (blk_lt h9.2)).trans h9.2⟩⟩, hal⟩
 case o9 =>
  intro _ a W hB hd ho
  have e12 : a.eval (.tmp 12) = .string nm := hd 0 12 (by kernel_rfl)
  have e16 : a.eval (.tmp 16) = .string (tyN j) := hd 4 16 (by kernel_rfl)
  obtain ⟨sp, sn, sc, e20, hkt⟩ : ∃ (sp : Option Addr) (sn sc : Nat), a.eval (.tmp 20) = cnV X.k (.slice sp sn sc) X.l X.r ∧ KT W w.heap.size isC (encC X) (cnC X.k (.slice sp sn sc) X.l X.r) := hd 8 20 (by kernel_rfl)
  exact op_bd 50 _ rfl #[(0, .string nm), (1, .string (tyN j)), (2, cnV X.k (.slice sp sn sc) X.l X.r)] (by simp [ev_c, e12, e16, e20]) (ptV nm (tyN j) X.k (.slice sp sn sc) X.l X.r 0 0) (by kernel_rfl) ⟨_, rfl, ⟨sp, sn, sc, rfl, hkt⟩, hB, Below.refl _ _⟩
 case o10 =>
  intro _ a W hB hd ho
  have e8 : a.eval (.tmp 8) = .int .i64 (j : Nat) := ho 8 (by kernel_rfl)
  exact op_mv _ (by simp) _ e8 ⟨_, rfl, rfl, hB, Below.refl _ _⟩
 case o11 =>
  intro h9; exact absurd rfl h9
 case o12 =>
  intro _ a W hB hd ho
  have e22 : a.eval (.tmp 22) = .int .i64 (j : Nat) := hd 10 22 (by kernel_rfl)
  exact op_mv _ (by simp) _ e22 ⟨_, rfl, rfl, hB, Below.refl _ _⟩
 case hst =>
  intro a W hB hd ho
  obtain ⟨sp, sn, sc, e21, hkt⟩ : ∃ (sp : Option Addr) (sn sc : Nat), a.eval (.tmp 21) = ptV nm (tyN j) X.k (.slice sp sn sc) X.l X.r 0 0 ∧ KT W w.heap.size isC (encC X) (cnC X.k (.slice sp sn sc) X.l X.r) := hd 9 21 (by kernel_rfl)
  have e6 : a.eval (.tmp 6) = .pointer (some ⟨w.heap.size + 1, 0, none⟩) := ho 6 (by kernel_rfl)
  obtain ⟨hb0, cs, hcs, hblk⟩ := hB
  refine op_st 50 _ _ rfl (w.heap.size + 1) 0 cs 50 (ptV nm (tyN j) X.k (.slice sp sn sc) X.l X.r 0 0) (ptC nm (tyN j) X.k (.slice sp sn sc) X.l X.r 0 0) e6 e21 (by rfl) hblk (by rw [hcs]; simp) (by kernel_rfl) (by rfl) ?_
  intro w5 h5 hf5
  have h5' : w5.heap[w.heap.size + 1]? = some (.cells (ptC nm (tyN j) X.k (.slice sp sn sc) X.l X.r 0 0).toArray 50 (0, 0)) := by rw [h5, ovrAll cs _ (by rw [hcs]; rfl)]
  exact ⟨undef, rfl, trivial, ⟨hb0.fr hf5 (by omega) (fun i hi => by rcases i with _ | i; (show w.heap.size ≠ w.heap.size + 1; omega); exact absurd hi (by simp)), _, rfl, h5'⟩, ⟨hf5, ⟨_, hblk⟩⟩, ⟨_, e21, h5'⟩⟩
 case hend =>
  intro vs W hB hT hR
  obtain ⟨sp, sn, sc, e9, hkt⟩ : ∃ (sp : Option Addr) (sn sc : Nat), vs 9 = ptV nm (tyN j) X.k (.slice sp sn sc) X.l X.r 0 0 ∧ KT W w.heap.size isC (encC X) (cnC X.k (.slice sp sn sc) X.l X.r) := hT 9 (by decide)
  have e12 : vs 12 = .int .i64 (j : Nat) := hT 12 (by decide)
  obtain ⟨cs, ec, hblk⟩ := hR
  rw [e9] at ec
  obtain rfl : cs = (ptC nm (tyN j) X.k (.slice sp sn sc) X.l X.r 0 0) := by
    have := congrArg Value.cells ec
    simpa [Value.cells] using this.symm
  have HBB := hid hblk
  have HKT := hid hkt
  have HBE := hid hB.1.bel
  simp only [List.toList_toArray, List.take_succ_cons, List.take_zero, fill, if_true, Act.put, List.setIfInBounds_toArray, List.set_cons_zero, List.set_cons_succ, e12]
  generalize vs 0 = v0
  generalize vs 1 = v1
  generalize vs 2 = v2
  generalize vs 3 = v3
  generalize vs 4 = v4
  generalize vs 5 = v5
  generalize vs 6 = v6
  generalize vs 7 = v7
  generalize vs 8 = v8
  generalize vs 9 = v9
  generalize vs 10 = v10
  clear hblk hkt hB hT e9 e12 ec vs
  go_wp2_with fail
  refine bodyPost_ret (res2s rfl _ _ (w.heap.size + 1) (ptC nm (tyN j) X.k (.slice sp sn sc) X.l X.r 0 0) _ (by rfl) (range_blk HBB.out) Tryz.underlying50 rfl (by kernel_rfl)) rfl ?_
  exact ⟨sp, sn, sc, rfl, HKT.out, HBE.out⟩
theorem len_alN : ∀ k, (alN k).length = k
  | 0 => rfl
  | k + 1 => by rw [alN, List.length_append, len_alN k]; rfl
theorem len_pwWs (ws : List Cst) : ∀ k, (pwWs ws k).length = k
  | 0 => rfl
  | k + 1 => by rw [pwWs, List.length_append, len_pwWs ws k]; rfl
theorem len_pwTs (ns : List Cst) (kn : List ByteArray) : ∀ k, (pwTs ns kn k).length = k
  | 0 => rfl
  | k + 1 => by rw [pwTs, List.length_append, len_pwTs ns kn k]; rfl
theorem len_pwMs (ns : List Cst) (kn : List ByteArray) : ∀ k, (pwMs ns kn k).length = k
  | 0 => rfl
  | k + 1 => by rw [pwMs, List.length_append, len_pwMs ns kn k]; rfl
theorem len_pwUs (ns : List Cst) (al : List ByteArray) : ∀ k, (pwUs ns al k).length = k
  | 0 => rfl
  | k + 1 => by rw [pwUs, List.length_append, len_pwUs ns al k]; rfl
theorem len_pwBs (bs : List Bd6) (al : List ByteArray) : ∀ k, (pwBs bs al k).length = k
  | 0 => rfl
  | k + 1 => by rw [pwBs, List.length_append, len_pwBs bs al k]; rfl
theorem len_pwRs (l : List Plt) : ∀ k, (pwRs l k).length = k
  | 0 => rfl
  | k + 1 => by rw [pwRs, List.length_append, len_pwRs l k]; rfl
theorem vas_pwWs (ws : List Cst) : ∀ k, (pwWs ws k).map Pt.va = alN k
  | 0 => rfl
  | k + 1 => by rw [pwWs, alN, List.map_append, vas_pwWs ws k]; rfl
theorem get_pwWs (ws : List Cst) : ∀ k j, j < k → (pwWs ws k).getD j ⟨txt [], txt [], cn0, 0, 0⟩ = pwH ws j
 | 0, j, h => by omega
 | k + 1, j, h => by
  rw [pwWs, List.getD_eq_getElem?_getD]
  by_cases c : j < k
  . rw [List.getElem?_append_left (by rw [len_pwWs]; exact c), ← List.getD_eq_getElem?_getD]; exact get_pwWs ws k j c
  . obtain rfl : j = k := by omega
    rw [List.getElem?_append_right (by rw [len_pwWs]; omega), len_pwWs]; simp
theorem pwL_in (ws : List Cst) : 1 ≤ pwL ws ∧ pwL ws ≤ 3 := by unfold pwL; split <;> omega
theorem pwA_in (c : Cst) : pwA c < 4 := by
  have := pkd_in c.ty (m := 4) (by decide)
  unfold pwA; omega
theorem pwW_in (c : Cst) : pwW c = 0 ∨ pwW c = 1 ∨ pwW c = 2 := by
  have := pkd_in c.wi (m := 4) (by decide)
  unfold pwW; split <;> omega
theorem ixq_map {α β : Type} (f : α → β) (q : β → Bool) : ∀ (l : List α) (n : Nat), ixq (fun x => q (f x)) l n = ixq q (l.map f) n
  | [], _ => rfl
  | x :: r, n => by rw [List.map_cons, ixq, ixq, ixq_map f q r]
theorem ptq_map (l : List Pt) (n : ByteArray) : ptq l n = ixq (fun a => seq a n) (l.map Pt.va) 0 := ixq_map Pt.va (fun a => seq a n) l 0
theorem vnm_at : ∀ k, k ≤ 3 → ∀ j, j < k → ixq (fun a => seq a (vnm j)) (alN k) 0 = (j : Int) := by decide +kernel
theorem tyq_tyN : ∀ j, j < 4 → tyq kts (tyN j) = (j : Int) := by decide +kernel
theorem frn_v : ∀ j, j < 3 → frn (vnm j) = 0 := by decide +kernel
theorem frn_u : ∀ j, j < 2 → frn (unm j) = 0 := by decide +kernel
theorem frn_m : ∀ j, j < 2 → frn (mnm j) = 0 := by decide +kernel
theorem fck_n : ∀ j, j < 4 → j ≠ 2 → fck (kts.getD j ⟨txt [], []⟩).f (txt [110]) = (1, 0) := by decide +kernel
theorem emp0 : emp (txt []) = true := by kernel_rfl
theorem sdk_num (ts : List Tp) (kn : List Pt) (own : Tp) (k : Int) (h0 : 0 ≤ k) (h1 : k ≤ 120) : sdk ts kn own (numO k) = (1, 0) := by
  unfold sdk numO
  simp only [emp0]
  unfold vck
  simp only [emp0]
  simp
  omega
theorem sdkOwn (ts : List Tp) (kn : List Pt) (own : Tp) (n : ByteArray) : sdk ts kn own (ownO n) = fck own.f n := by
  unfold sdk ownO nzv
  simp only [emp0]
  simp
theorem sdk_oth (ws : List Cst) (own : Tp) (m j : Nat) (hm : m ≤ 3) (hj : j < m) (h2 : pwA (ws.getD j cst0) ≠ 2) : sdk kts (pwWs ws m) own ⟨3, 0, 0, txt [], vnm j, txt [110]⟩ = (1, 0) := by
  have e : ptq (pwWs ws m) (vnm j) = (j : Int) := by rw [ptq_map, vas_pwWs]; exact vnm_at m hm j hj
  unfold sdk nzv tyOf
  simp only [emp0, e]
  rw [Int.toNat_natCast, get_pwWs ws m j hj, show (pwH ws j).ty = tyN (pwA (ws.getD j cst0)) from rfl, tyq_tyN _ (pwA_in _), Int.toNat_natCast, fck_n _ (pwA_in _) h2]
  simp
theorem pwK_mem (ws : List Cst) : ∀ k nm, nm ∈ pwK ws k → ∃ j, j < k ∧ nm = vnm j ∧ pwA (ws.getD j cst0) ≠ 2
 | 0, nm, h => by cases h
 | k + 1, nm, h => by
  rw [pwK] at h
  split at h
  . obtain ⟨j, h1, h2, h3⟩ := pwK_mem ws k nm h
    exact ⟨j, by omega, h2, h3⟩
  . rename_i c
    rcases List.mem_append.1 h with h | h
    . obtain ⟨j, h1, h2, h3⟩ := pwK_mem ws k nm h
      exact ⟨j, by omega, h2, h3⟩
    . rw [List.mem_singleton] at h
      exact ⟨k, by omega, h, c⟩
theorem pwK_len (ws : List Cst) : ∀ k, (pwK ws k).length ≤ k
 | 0 => by simp [pwK]
 | k + 1 => by
  have := pwK_len ws k
  rw [pwK]; split
  . omega
  . simp; omega
theorem getD_mem {α : Type} {l : List α} {i : Nat} {d : α} (h : i < l.length) : l.getD i d ∈ l := by
  rw [List.getD_eq_getElem?_getD, List.getElem?_eq_getElem h]; exact List.getElem_mem h
theorem sdk_othO (ws : List Cst) (own : Tp) (m k : Nat) (hm : m ≤ 3) (hk : k ≤ m) (n : Int) : sdk kts (pwWs ws m) own (othO (pwK ws k) n) = (1, 0) := by
 unfold othO
 split
 . have := pkd_in n (m := 6) (by decide)
   exact sdk_num _ _ _ _ (by omega) (by omega)
 . rename_i c
   have := pkd_in n (m := ((pwK ws k).length : Int)) (by omega)
   obtain ⟨j, h1, h2, h3⟩ := pwK_mem ws k _ (getD_mem (l := pwK ws k) (i := (pkd n ((pwK ws k).length : Int)).toNat) (d := txt []) (by omega))
   rw [h2]
   exact sdk_oth ws own m j hm (by omega) h3
theorem cdk_cmp {ts : List Tp} {kn : List Pt} {own : Tp} {n : Nat} {k : Int} {a b : Opd} {q : Int} (h4 : 4 ≤ k) (h7 : k ≤ 7) (ha : sdk ts kn own a = (q, 0)) (hb : sdk ts kn own b = (q, 0)) : cdk ts kn own (n + 1) (cmpC k a b) = (1, 0) := by
  unfold cdk cmpC
  simp only [ha, hb]
  rw [if_neg (by omega), if_pos (by omega)]
  simp
theorem cdk_two {ts : List Tp} {kn : List Pt} {own : Tp} {n : Nat} {k p q : Int} {a b : Cn} (hk : k = 1 ∨ k = 2) (ha : cdk ts kn own n a = (p, 0)) (hb : cdk ts kn own n b = (q, 0)) (hp : p ≤ 6) (hq : q ≤ 6) (hp0 : 0 ≤ p) : cdk ts kn own (n + 1) (grpC k [a, b]) = (p + q, 0) := by
  unfold cdk
  rw [show (grpC k [a, b]).k = k from rfl, show (grpC k [a, b]).l = opd0 from rfl, show (grpC k [a, b]).r = opd0 from rfl, show (grpC k [a, b]).sb.length = 2 from rfl, subs_grp, if_neg (by omega), if_neg (by omega), if_neg (by rw [show eqz opd0 = true from by kernel_rfl]; simp), if_neg (by omega)]
  simp only [cgo, ha, hb]
  rw [if_neg (by simp), if_neg (by omega), if_neg (by simp), if_neg (by omega)]
  simp
theorem cdk_not {ts : List Tp} {kn : List Pt} {own : Tp} {n : Nat} {p : Int} {a : Cn} (ha : cdk ts kn own n a = (p, 0)) (hp : p ≤ 6) : cdk ts kn own (n + 1) (grpC 3 [a]) = (p, 0) := by
  unfold cdk
  rw [show (grpC 3 [a]).k = 3 from rfl, show (grpC 3 [a]).l = opd0 from rfl, show (grpC 3 [a]).r = opd0 from rfl, show (grpC 3 [a]).sb.length = 1 from rfl, subs_grp, if_neg (by omega), if_neg (by omega), if_neg (by rw [show eqz opd0 = true from by kernel_rfl]; simp), if_neg (by omega)]
  simp only [cgo, ha]
  rw [if_neg (by simp), if_neg (by omega)]
  simp
theorem sdk_tx (ts : List Tp) (kn : List Pt) (own : Tp) : sdk ts kn own ⟨1, 2, 0, txt [120], txt [], txt []⟩ = (2, 0) := by
  unfold sdk vck
  simp only [emp0]
  rw [show (txt [120]).size = 1 from by kernel_rfl]
  simp
theorem fck_s : fck (kts.getD 1 ⟨txt [], []⟩).f (txt [115]) = (2, 0) := by kernel_rfl
theorem wh_ok {kn : List Pt} {j : Nat} (hj : j < 4) (co : Nat) (k : Int) (h0 : 0 ≤ k) (h1 : k ≤ 5) (ot : Opd) (ho : ∀ own, sdk kts kn own ot = (1, 0)) : noc (whC co j k ot) = true ∨ (cdk kts kn (kts.getD j ⟨txt [], []⟩) 8 (whC co j k ot)).2 = 0 := by
 have hn : ∀ own q, 0 ≤ q → q ≤ 120 → sdk kts kn own (numO q) = (1, 0) := fun own q a b => sdk_num _ _ _ _ a b
 by_cases h2 : j = 2
 . unfold whC; rw [if_pos h2]; exact .inl (by kernel_rfl)
 . have hN : sdk kts kn (kts.getD j ⟨txt [], []⟩) nO = (1, 0) := by unfold nO; rw [sdkOwn]; exact fck_n j hj h2
   have hK := hn (kts.getD j ⟨txt [], []⟩) k h0 (by omega)
   unfold whC
   rw [if_neg h2]
   split
   . exact .inr (by rw [cdk_cmp (by decide) (by decide) hK hN])
   . split
     . exact .inr (by rw [cdk_cmp (by decide) (by decide) hN (ho _)])
     . split
       . exact .inr (by rw [cdk_cmp (by decide) (by decide) hN (ho _)])
       . split
         . exact .inr (by rw [cdk_two (p := 1) (q := 1) (by decide) (cdk_cmp (by decide) (by decide) hN hK) (cdk_cmp (by decide) (by decide) hN (hn _ 1 (by decide) (by decide))) (by decide) (by decide) (by decide)])
         . split
           . exact .inr (by rw [cdk_two (p := 1) (q := 1) (by decide) (cdk_cmp (by decide) (by decide) (ho _) hN) (cdk_not (cdk_cmp (by decide) (by decide) hN hK) (by decide)) (by decide) (by decide) (by decide)])
           . split
             . split
               . rename_i c
                 subst c
                 exact .inr (by rw [cdk_cmp (q := 2) (by decide) (by decide) (by rw [sdkOwn]; exact fck_s) (sdk_tx _ _ _)])
               . exact .inr (by rw [cdk_cmp (by decide) (by decide) hN (ho _)])
             . exact .inl (by kernel_rfl)
theorem pck_pw {kn : List Pt} {ah : List ByteArray} {nm : ByteArray} {c : Cst} {K : List ByteArray} {w n part : Int} (h1 : frn nm = 0) (h2 : ah.any (fun a => seq a nm) = false) (h3 : ¬ wbad part w n) (h4 : ¬ rbad w n) (ho : ∀ own, sdk kts kn own (othO K c.n) = (1, 0)) : pck kts kn ah (pwP nm c K w n) part = 0 := by
 have hj := pwA_in c
 have hk := pkd_in c.n (m := 6) (by decide)
 have hw := wh_ok (kn := kn) hj (pkd c.co 9).toNat (pkd c.n 6) hk.1 (by omega) _ ho
 unfold pck
 show (if frn nm ≠ 0 then frn nm else if ah.any (fun a => seq a nm) = true then 7 else if tyq kts (tyN (pwA c)) < 0 then 6 else if wbad part w n then 4 else if rbad w n then 2 else if noc (pwC c K) = true then 0 else (cdk kts kn (kts.getD (tyq kts (tyN (pwA c))).toNat ⟨txt [], []⟩) 8 (pwC c K)).2) = 0
 rw [h1, h2, tyq_tyN _ hj, if_neg (by decide), if_neg (by decide), if_neg (by omega), if_neg h3, if_neg h4, Int.toNat_natCast]
 rcases (show noc (pwC c K) = true ∨ (cdk kts kn (kts.getD (pwA c) ⟨txt [], []⟩) 8 (pwC c K)).2 = 0 from hw) with hw | hw
 . rw [if_pos hw]
 . split
   . rfl
   . exact hw
theorem ahead_v : ∀ k, k < 3 → (alN k).any (fun a => seq a (vnm k)) = false := by decide +kernel
theorem win_ok (c : Cst) : ¬ wbad 0 (pwW c) (pwN c) ∧ ¬ rbad (pwW c) (pwN c) := by
  have h1 := pkd_in c.si (m := 20) (by decide)
  have h2 := pkd_in c.si (m := 4) (by decide)
  unfold wbad rbad pwN
  rcases pwW_in c with h | h | h <;> rw [h] <;> constructor <;> simp <;> omega
theorem wfs_pw (ws : List Cst) (N : Nat) (hN : N ≤ 3) : ∀ m k, k + m = N → wfs 0 kts (pwWs ws k) ((pwWs ws N).drop k) = 0
 | 0, k, h => by rw [List.drop_of_length_le (by rw [len_pwWs]; omega)]; rfl
 | m + 1, k, h => by
  have hd : (pwWs ws N).drop k = pwH ws k :: (pwWs ws N).drop (k + 1) := by
   rw [List.drop_eq_getElem_cons (by rw [len_pwWs]; omega)]
   congr 1
   have := get_pwWs ws N k (by omega)
   rw [List.getD_eq_getElem?_getD, List.getElem?_eq_getElem (by rw [len_pwWs]; omega)] at this
   exact this
  have hp : pck kts (pwWs ws k) ((pwWs ws k).map Pt.va) (pwH ws k) 0 = 0 := pck_pw (frn_v k (by omega)) (by rw [vas_pwWs]; exact ahead_v k (by omega)) (win_ok _).1 (win_ok _).2 (fun own => sdk_othO ws own k k (by omega) (Nat.le_refl _) _)
  rw [hd, wfs, hp, if_neg (by decide)]
  have := wfs_pw ws N hN m (k + 1) (by omega)
  rw [pwWs] at this
  exact this
theorem nots_ok : ¬ wbad 1 0 0 ∧ ¬ rbad 0 0 := by decide
theorem alN_u : ∀ k, k ≤ 3 → ((alN k).any (fun a => seq a (unm 0)) = false ∧ (alN k ++ [unm 0]).any (fun a => seq a (unm 1)) = false) := by decide +kernel
theorem alN_m0 : ∀ k, k ≤ 3 → (∀ b, b ≤ 2 → ((alN k ++ (List.range b).map unm).any (fun a => seq a (mnm 0)) = false ∧ (alN k ++ (List.range b).map unm ++ [mnm 0]).any (fun a => seq a (mnm 1)) = false)) := by decide +kernel
theorem nfs_pw (ws ns : List Cst) (N : Nat) (hN : N ≤ 3) (b : Nat) (hb : b ≤ 2) : nfs 0 kts (pwWs ws N) (alN N) (pwTs ns (pwK ws N) b) = 0 := by
 have hp : ∀ i, i < 2 → ∀ ah : List ByteArray, ah.any (fun a => seq a (unm i)) = false → pck kts (pwWs ws N) ah (pwT ns (pwK ws N) i) 1 = 0 := fun i hi ah ha => pck_pw (frn_u i hi) ha nots_ok.1 nots_ok.2 (fun own => sdk_othO ws own N N hN (Nat.le_refl _) _)
 obtain ⟨a0, a1⟩ := alN_u N hN
 rcases (by omega : b = 0 ∨ b = 1 ∨ b = 2) with rfl | rfl | rfl
 . rfl
 . show nfs 0 kts (pwWs ws N) (alN N) [pwT ns (pwK ws N) 0] = 0
   simp only [nfs, hp 0 (by decide) _ a0]
   rfl
 . show nfs 0 kts (pwWs ws N) (alN N) [pwT ns (pwK ws N) 0, pwT ns (pwK ws N) 1] = 0
   have e : (pwT ns (pwK ws N) 0).va = unm 0 := rfl
   simp only [nfs, hp 0 (by decide) _ a0, e, hp 1 (by decide) _ a1]
   rfl
theorem vas_pwTs (ns : List Cst) (kn : List ByteArray) (b : Nat) (hb : b ≤ 2) : (pwTs ns kn b).map Pt.va = (List.range b).map unm := by
  rcases (by omega : b = 0 ∨ b = 1 ∨ b = 2) with rfl | rfl | rfl <;> rfl
theorem many_win (c : Cst) : ¬ wbad 2 1 (pkd c.si 20) ∧ ¬ rbad 1 (pkd c.si 20) := by
  have h1 := pkd_in c.si (m := 20) (by decide)
  unfold wbad rbad
  constructor <;> simp <;> omega
theorem mck_pw (ws ms : List Cst) (N : Nat) (hN : N ≤ 3) (i : Nat) (hi : i < 2) (ah : List ByteArray) (ha : ah.any (fun a => seq a (mnm i)) = false) : mck kts (pwWs ws N) ah (pwM ms (pwK ws N) i) = 0 := by
 have hp : pck kts (pwWs ws N) ah (pwM ms (pwK ws N) i).p 2 = 0 := pck_pw (frn_m i hi) ha (many_win _).1 (many_win _).2 (fun own => sdk_othO ws own N N hN (Nat.le_refl _) _)
 have h3 := pkd_in (ms.getD i cst0).n (m := 3) (by decide)
 have hj := pwA_in (ms.getD i cst0)
 have hb : mbad (pwM ms (pwK ws N) i) = false := by
   unfold mbad pwM
   simp only
   have q1 : decide (1 ≤ 1 + pkd (ms.getD i cst0).n 3) = true := decide_eq_true (by omega)
   have q2 : decide (1 + pkd (ms.getD i cst0).n 3 ≤ 120) = true := decide_eq_true (by omega)
   have q3 : decide (0 ≤ 1 + pkd (ms.getD i cst0).n 3) = true := decide_eq_true (by omega)
   have q4 : decide (1 + pkd (ms.getD i cst0).n 3 ≤ 1125899906842624) = true := decide_eq_true (by omega)
   rw [q1, q2, q3, q4]
   simp
 unfold mck
 rw [hb, hp, if_neg (by decide), if_neg (by decide)]
 by_cases c2 : pwA (ms.getD i cst0) = 2
 . have e : (pwM ms (pwK ws N) i).f = txt [] := by unfold pwM; simp only; rw [if_pos c2]
   rw [e, emp0, if_pos rfl]
 . by_cases c1 : pkd (ms.getD i cst0).wi 2 = 1
   . have e : (pwM ms (pwK ws N) i).f = txt [110] := by unfold pwM; simp only; rw [if_neg c2, if_pos c1]
     rw [e, show emp (txt [110]) = false from by kernel_rfl, if_neg (by decide), show (pwM ms (pwK ws N) i).p.ty = tyN (pwA (ms.getD i cst0)) from rfl, tyq_tyN _ hj, Int.toNat_natCast]
     unfold sck
     rw [fck_n _ hj c2]
     rfl
   . have e : (pwM ms (pwK ws N) i).f = txt [] := by unfold pwM; simp only; rw [if_neg c2, if_neg c1]
     rw [e, emp0, if_pos rfl]
theorem mfs_pw (ws ms : List Cst) (N : Nat) (hN : N ≤ 3) (b : Nat) (hb : b ≤ 2) (t : Nat) (ht : t ≤ 2) : mfs 0 kts (pwWs ws N) (alN N ++ (List.range t).map unm) (pwMs ms (pwK ws N) b) = 0 := by
 obtain ⟨a0, a1⟩ := alN_m0 N hN t ht
 rcases (by omega : b = 0 ∨ b = 1 ∨ b = 2) with rfl | rfl | rfl
 . rfl
 . show mfs 0 kts (pwWs ws N) (alN N ++ (List.range t).map unm) [pwM ms (pwK ws N) 0] = 0
   simp only [mfs, mck_pw ws ms N hN 0 (by decide) _ a0]
   rfl
 . show mfs 0 kts (pwWs ws N) (alN N ++ (List.range t).map unm) [pwM ms (pwK ws N) 0, pwM ms (pwK ws N) 1] = 0
   have e : (pwM ms (pwK ws N) 0).p.va = mnm 0 := rfl
   simp only [mfs, mck_pw ws ms N hN 0 (by decide) _ a0, e, mck_pw ws ms N hN 1 (by decide) _ a1]
   rfl
end Go.Proofs.YtdihklfaiiclgaaGreatDoor.Chk
