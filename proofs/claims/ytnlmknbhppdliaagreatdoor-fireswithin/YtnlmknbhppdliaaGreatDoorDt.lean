/-
  Does an event come of one of its own type, by the program. Check, by the program. What events a pattern takes, by the program. The patterns of a part, and the whens that are asked, by the program. Takes, by the program.
-/
import Derived.BigQuiet
import Derived.Test.YtnlmknbhppdliaaGreatDoorDo
import Derived.Test.YtnlmknbhppdliaaGreatDoorDr
import Derived.Test.YtnlmknbhppdliaaGreatDoorCe
import Derived.Test.YtnlmknbhppdliaaGreatDoorXc
set_option maxHeartbeats 64000000
namespace Go.Proofs.YtnlmknbhppdliaaGreatDoor.Chk
open Go.ChangeShapes Go.WideShapes Go.ChangeAt Go.RowKit Go.Maps
set_option linter.unusedVariables false
set_option linter.unusedSimpArgs false
set_option maxRecDepth 20000
theorem step_st {P : Program} {ops : Array Oper} {o : Oper} {a : Act} {w : World} {K : Act → World → Prop} {Q : Exit → Act → World → Prop} {E : Prop} (hw : Region.wanted o (yielded ops a.tmps) = true) (ty : TypeId) (x y : Operand) (ho : o.op = .store ty x y)
  (b f : Nat) (cs : List Value) (T : TypeId) (v : Value) (vs : List Value) (hx : a.eval x = .pointer (some ⟨b, f, none⟩)) (hy : a.eval y = v) (hv : v.cells = vs.toArray) (hb : w.heap[b]? = some (.cells cs.toArray T (0, 0)))
  (hl : f + vs.length ≤ cs.length) (hi : (P.info? ty).map (·.size) = some vs.length) (h1 : vs.all (·.oneCell') = true)
  (h : ∀ w', w'.heap[b]? = some (.cells (ovr cs f vs).toArray T (0, 0)) → Fr (fun i => i = b) w w' → K (a.put o.dst undef) w') :
  if Region.wanted o (yielded ops a.tmps) = true then Oper.wp P o a w K Q else E := by
 rw [if_pos hw]
 unfold Oper.wp execOp
 simp only [ho, hx, hy, Instr.storeAt, Instr.sureAddr, Sem.run_bind, Sem.run_pure, Result.andThen_ok, zGU w b f ty v vs.toArray hv (zB8 hb f _ (by simpa using hl)) (by simpa using hi) (all_oneCell_toArray (List.all_eq_true.1 h1))]
 exact h _ (zB2 vs f cs w hb hl) ((Fr.refl (fun i => i = b) w).setCells (.inl rfl))
/-! The matrix in memory. -/
def mkM (M : Nat → Nat → Bool) : List Value := (List.range 36).map fun q => .bool (M (q / 6) (q % 6))
theorem zBS (M : Nat → Nat → Bool) : (mkM M).length = 36 := by simp [mkM]
theorem zEV (M : Nat → Nat → Bool) {i j : Nat} (hi : i < 6) (hj : j < 6) : (mkM M)[i * 6 + j]? = some (.bool (M i j)) := by
  unfold mkM
  rw [List.getElem?_map, List.getElem?_range (by omega)]
  simp only [Option.map_some]
  rw [show (i * 6 + j) / 6 = i by omega, show (i * 6 + j) % 6 = j by omega]
theorem zG2 {M N : Nat → Nat → Bool} (h : ∀ i j, i < 6 → j < 6 → M i j = N i j) : mkM M = mkM N := by
  unfold mkM
  refine List.map_congr_left fun q hq => ?_
  have := List.mem_range.1 hq
  rw [h _ _ (by omega) (by omega)]
theorem ovr_set (cs : List Value) (o : Nat) (v : Value) (h : o < cs.length) : ovr cs o [v] = cs.set o v := by
  rw [List.set_eq_take_append_cons_drop, if_pos h]
  rfl
def setM (M : Nat → Nat → Bool) (i j : Nat) : Nat → Nat → Bool := fun a b => if a = i ∧ b = j then true else M a b
theorem zGC (M : Nat → Nat → Bool) {i j : Nat} (hi : i < 6) (hj : j < 6) : ovr (mkM M) (i * 6 + j) [.bool true] = mkM (setM M i j) := by
 rw [ovr_set _ _ _ (by rw [zBS]; omega)]
 refine List.ext_getElem? fun q => ?_
 by_cases hq : q < 36
 . have hq1 : q / 6 < 6 := by omega
   have hq2 : q % 6 < 6 := by omega
   have e : q = q / 6 * 6 + q % 6 := by omega
   have g1 := zEV M hq1 hq2
   have g2 := zEV (setM M i j) hq1 hq2
   rw [← e] at g1 g2
   rw [g2, List.getElem?_set]
   by_cases c : i * 6 + j = q
   . rw [if_pos c, if_pos (by rw [zBS]; omega)]
     have : q / 6 = i ∧ q % 6 = j := by omega
     simp [setM, this]
   . rw [if_neg c, g1]
     have : ¬ (q / 6 = i ∧ q % 6 = j) := by omega
     simp [setM, this]
 . rw [List.getElem?_eq_none (by rw [List.length_set, zBS]; omega), List.getElem?_eq_none (by rw [zBS]; omega)]
structure Esc (w wr : World) (fb mb : Nat) (tv : Value) (M : Nat → Nat → Bool) : Prop where
  bel : Below w.heap.size w wr
  fc : wr.heap[fb]? = some (.cells [tv].toArray 25 (0, 0))
  mt : wr.heap[mb]? = some (.cells (mkM M).toArray 152 (0, 0))
  ne : fb ≠ mb
  lo : w.heap.size ≤ mb
theorem Esc.later {w wr W : World} {fb mb : Nat} {tv : Value} {M : Nat → Nat → Bool} (h : Esc w wr fb mb tv M) (hb : Below wr.heap.size wr W) : Esc w W fb mb tv M :=
  ⟨zAA h.bel hb h.bel.size, (hb.block _ (zAH h.fc)).trans h.fc, (hb.block _ (zAH h.mt)).trans h.mt, h.ne, h.lo⟩
theorem Esc.store {w wr W : World} {fb mb : Nat} {tv : Value} {M N : Nat → Nat → Bool} (h : Esc w wr fb mb tv M) (hf : Fr (fun i => i = mb) wr W) (hm : W.heap[mb]? = some (.cells (mkM N).toArray 152 (0, 0))) : Esc w W fb mb tv N :=
  ⟨zAP h.bel hf h.lo, (hf.block _ (zAH h.fc) h.ne).trans h.fc, hm, h.ne, h.lo⟩
theorem Esc.congr {w wr : World} {fb mb : Nat} {tv : Value} {M N : Nat → Nat → Bool} (h : Esc w wr fb mb tv M) (hc : ∀ i j, i < 6 → j < 6 → M i j = N i j) : Esc w wr fb mb tv N :=
  ⟨h.bel, h.fc, by rw [← zG2 hc]; exact h.mt, h.ne, h.lo⟩
theorem Esc.cell {w wr : World} {fb mb : Nat} {tv : Value} {M : Nat → Nat → Bool} (h : Esc w wr fb mb tv M) {i j : Nat} (hi : i < 6) (hj : j < 6) : wr.cell? ⟨mb, i * 6 + j, none⟩ = some (.bool (M i j)) := by
  rw [zAC h.mt, List.getElem?_toArray]
  exact zEV M hi hj
/-! Ways by one type more, cell by cell. -/
def stW (M : Nat → Nat → Bool) (b f t : Nat) : Nat → Nat → Bool := fun i j => if i < f ∨ (i = f ∧ j < t) then byy M b i j else M i j
theorem byy_col (M : Nat → Nat → Bool) (b i : Nat) : byy M b i b = M i b := by unfold byy; cases M i b <;> simp
theorem byy_row (M : Nat → Nat → Bool) (b j : Nat) : byy M b b j = M b j := by unfold byy; cases M b j <;> simp
theorem stW_fb (M : Nat → Nat → Bool) (b f t : Nat) : stW M b f t f b = M f b := by unfold stW; rw [byy_col]; simp
theorem stW_bt (M : Nat → Nat → Bool) (b f t : Nat) : stW M b f t b t = M b t := by unfold stW; rw [byy_row]; simp
theorem stW_ft (M : Nat → Nat → Bool) (b f t : Nat) : stW M b f t f t = M f t := by unfold stW; rw [if_neg (by omega)]
theorem stW_next (M : Nat → Nat → Bool) (b f t : Nat) (h : (M f b && M b t) = true) : ∀ i j, i < 6 → j < 6 → setM (stW M b f t) f t i j = stW M b f (t + 1) i j := fun i j _ _ => by
 unfold setM
 by_cases c : i = f ∧ j = t
 . obtain ⟨rfl, rfl⟩ := c
   rw [if_pos ⟨rfl, rfl⟩]
   unfold stW
   rw [if_pos (by omega)]
   unfold byy
   rw [h, Bool.or_true]
 . rw [if_neg c]
   unfold stW
   by_cases d : i < f ∨ (i = f ∧ j < t)
   . rw [if_pos d, if_pos (by omega)]
   . rw [if_neg d, if_neg (by omega)]
theorem zDO (M : Nat → Nat → Bool) (b f t : Nat) (h : (M f b && M b t) = false) : ∀ i j, i < 6 → j < 6 → stW M b f t i j = stW M b f (t + 1) i j := fun i j _ _ => by
 by_cases c : i = f ∧ j = t
 . obtain ⟨rfl, rfl⟩ := c
   rw [stW_ft]
   unfold stW
   rw [if_pos (by omega)]
   unfold byy
   rw [h, Bool.or_false]
 . unfold stW
   by_cases d : i < f ∨ (i = f ∧ j < t)
   . rw [if_pos d, if_pos (by omega)]
   . rw [if_neg d, if_neg (by omega)]
theorem stW_row (M : Nat → Nat → Bool) (b f : Nat) : ∀ i j, i < 6 → j < 6 → stW M b f 6 i j = stW M b (f + 1) 0 i j := fun i j _ hj => by
  unfold stW
  by_cases d : i < f ∨ (i = f ∧ j < 6)
  . rw [if_pos d, if_pos (by omega)]
  . rw [if_neg d, if_neg (by omega)]
theorem stW_end (M : Nat → Nat → Bool) (b : Nat) : ∀ i j, i < 6 → j < 6 → stW (wsh M b) b 6 0 i j = wsh M (b + 1) i j := fun i j hi _ => by
  unfold stW
  rw [if_pos (by omega), wsh]
theorem stW_zero (M : Nat → Nat → Bool) (b : Nat) : ∀ i j, i < 6 → j < 6 → M i j = stW M b 0 0 i j := fun i j _ _ => by
  unfold stW
  rw [if_neg (by omega)]
def edb (ts : List Tp) (x : Rl) (i j : Nat) : Bool := !(emp x.e.ty) && ((x.w ++ x.t ++ x.m.map Mn.p).any (fun p => tyq ts p.ty == (i : Int)) && tyq ts x.e.ty == (j : Int))
theorem edb_iff (ts : List Tp) (rs : List Rl) (i j : Nat) : (rs.any fun x => edb ts x i j) = true ↔ Edg ts rs i j := by
 rw [List.any_eq_true]
 constructor
 . rintro ⟨x, hx, h⟩
   unfold edb at h
   rw [Bool.and_eq_true, Bool.and_eq_true, List.any_eq_true] at h
   obtain ⟨h1, ⟨p, hp, h2⟩, h3⟩ := h
   exact ⟨x, hx, by simpa using h1, ⟨p, hp, by simpa using h2⟩, by simpa using h3⟩
 . rintro ⟨x, hx, h1, ⟨p, hp, h2⟩, h3⟩
   refine ⟨x, hx, ?_⟩
   unfold edb
   rw [Bool.and_eq_true, Bool.and_eq_true, List.any_eq_true]
   exact ⟨by simpa using h1, ⟨p, hp, by simpa using h2⟩, by simpa using h3⟩
theorem zFP {w w' : World} {g o : Nat} {l : List Value} (h : w.rangeAt g o l) (hb : w'.heap[g]? = w.heap[g]?) : w'.rangeAt g o l := fun j x hx => (World.cell?_of_block (a := ⟨g, o + j, none⟩) hb).trans (h j x hx)
def mq (M : Nat → Nat → Bool) (ts : List Tp) (ps : List Pt) (e : ByteArray) (q : Nat) : Nat → Nat → Bool := fun i j => M i j || ((ps.take q).any (fun p => tyq ts p.ty == (i : Int)) && tyq ts e == (j : Int))
theorem mq_step (M : Nat → Nat → Bool) (ts : List Tp) (ps : List Pt) (e : ByteArray) (q : Nat) (hq : q < ps.length) {i0 j0 : Nat} (h1 : tyq ts ps[q].ty = (i0 : Int)) (h2 : tyq ts e = (j0 : Int)) (i j : Nat) : setM (mq M ts ps e q) i0 j0 i j = mq M ts ps e (q + 1) i j := by
 unfold setM mq
 rw [List.take_succ_eq_append_getElem hq, List.any_append, h2]
 simp only [List.any_cons, List.any_nil, h1, Bool.or_false]
 by_cases c : i = i0
 . by_cases d : j = j0
   . subst c; subst d
     simp
   . have d' : ((j0 : Int) == (j : Int)) = false := by simp; omega
     rw [if_neg (fun x => d x.2), d']
     simp
 . have c' : ((i0 : Int) == (i : Int)) = false := by simp; omega
   rw [if_neg (fun x => c x.1), c', Bool.or_false]
theorem mq_zero (M : Nat → Nat → Bool) (ts : List Tp) (ps : List Pt) (e : ByteArray) (i j : Nat) : M i j = mq M ts ps e 0 i j := by simp [mq]
def mk (ts : List Tp) (rs : List Rl) (k : Nat) : Nat → Nat → Bool := fun i j => (rs.take k).any fun x => edb ts x i j
theorem mk_step (ts : List Tp) (rs : List Rl) (k : Nat) (hk : k < rs.length) (he : emp rs[k].e.ty = false) (i j : Nat) : mq (mk ts rs k) ts (rs[k].w ++ rs[k].t ++ rs[k].m.map Mn.p) rs[k].e.ty (rs[k].w ++ rs[k].t ++ rs[k].m.map Mn.p).length i j = mk ts rs (k + 1) i j := by
 have e2 : edb ts rs[k] i j = ((rs[k].w ++ rs[k].t ++ rs[k].m.map Mn.p).any (fun p => tyq ts p.ty == (i : Int)) && tyq ts rs[k].e.ty == (j : Int)) := by unfold edb; rw [he]; rfl
 have e : ((rs.take (k + 1)).any fun x => edb ts x i j) = ((rs.take k).any (fun x => edb ts x i j) || edb ts rs[k] i j) := by
  rw [List.take_succ_eq_append_getElem hk, List.any_append]
  simp only [List.any_cons, List.any_nil, Bool.or_false]
 unfold mq mk
 rw [List.take_length, e, e2]
theorem mk_skip (ts : List Tp) (rs : List Rl) (k : Nat) (hk : k < rs.length) (he : emp rs[k].e.ty = true) (i j : Nat) : mk ts rs k i j = mk ts rs (k + 1) i j := by
  unfold mk
  rw [List.take_succ_eq_append_getElem hk, List.any_append]
  simp [edb, he]
structure Bk2 (W : World) (c b : Nat) (A2 A : List Value) : Prop where
  p : W.heap[c]? = some (.cells A2.toArray 48 (0, 0))
  r : W.heap[b]? = some (.cells A.toArray 56 (0, 0))
theorem Bk2.later {w W : World} {c b : Nat} {A2 A : List Value} (h : Bk2 w c b A2 A) (hb : Below w.heap.size w W) : Bk2 W c b A2 A := ⟨(hb.block _ (zAH h.p)).trans h.p, (hb.block _ (zAH h.r)).trans h.r⟩
theorem Bk2.fr {w W : World} {c b mb : Nat} {A2 A : List Value} (h : Bk2 w c b A2 A) (hf : Fr (fun i => i = mb) w W) (h1 : c ≠ mb) (h2 : b ≠ mb) : Bk2 W c b A2 A := ⟨(hf.block _ (zAH h.p) h1).trans h.p, (hf.block _ (zAH h.r) h2).trans h.r⟩
theorem Bk2.cells {W : World} {c b : Nat} {A2 A : List Value} {pt et : ByteArray} (h : Bk2 W c b A2 A) (a1 : A2[1]? = some (.string pt)) (a5 : A[5]? = some (.string et)) : W.cell? ⟨c, 1, none⟩ = some (.string pt) ∧ W.cell? ⟨b, 5, none⟩ = some (.string et) := by
  rw [zAC h.p, zAC h.r, List.getElem?_toArray, List.getElem?_toArray]
  exact ⟨a1, a5⟩
theorem zDT (ts : List Tp) (rs : List Rl) (hok : ∀ x, x ∈ rs → Rok ts x) (hl : ts.length ≤ 6) (hz : ∀ x, x ∈ rs → x.w.length ≤ 100 ∧ x.t.length ≤ 100 ∧ x.m.length ≤ 100) (tv rv : Value) (w : World) (hT : Rd w (.row 59 2 (ts.map encY)) tv) (hR : Rd w (.row 56 7 (rs.map encR)) rv) (R : Bool) (hRR : edl (fun i j => rs.any fun x => edb ts x i j) = R) :
  Calls Tryz.prog 35 #[.agg #[tv, rv]] w fun e w' => e = .returned (.bool R) ∧ Below w.heap.size w w' := by
 obtain ⟨tp, tn, tc, rfl⟩ := zAB hT
 obtain ⟨rp, rc, rfl, hmx, _⟩ := zAG lenR hR
 have HTT := hid hT
 have HRD := hid hR
 have HOK := hid hok
 have HZ := hid hz
 have HLT := hid hl
 have HRR := hid hRR
 obtain ⟨n, hn⟩ : ∃ n, rs.length = n := ⟨_, rfl⟩
 have HN := hid hn
 rw [hn] at HRD hmx ⊢
 have HFD := hid (fun W => zCV tp tn tc W)
 have HFN := hid (fun (nm : ByteArray) (i : Nat) (hi : tyq ts nm = (i : Int)) W (hW : Below w.heap.size w W) (hc : W.cell? ⟨w.heap.size + 1, 0, none⟩ = some (.slice tp tn tc)) => (zA4 ts (.slice tp tn tc) nm (w.heap.size + 1) W (hT.later hW) hc).mono (fun e w' h => (⟨by rw [← hi]; exact h.1, h.2⟩ : e = .returned (.int .i64 (i : Int)) ∧ Below W.heap.size W w')))
 clear hT hR hok hz hl hRR hn
 go_enter Tryz.func35, Tryz.ntmps35
 go_wp2_with fail
 refine (HFD.out _).mono ?_
 rintro e w2 ⟨rfl, hw2⟩
 subst hw2
 go_wp2_with fail
 go_loopg [19] (n + 1) (fun gg i wr => ∃ k : Nat, k ≤ n ∧ gg = n + 1 - k ∧ i = .int .i64 (k : Nat) ∧ Esc w wr (w.heap.size + 1) (w.heap.size + 1 + 1) (.slice tp tn tc) (mk ts rs k))
 case atStart =>
  refine ⟨0, by omega, by omega, rfl, ?_⟩
  have hb0 : Below w.heap.size w (w.alloc (.cells #[.slice tp tn tc, .slice rp n rc] 28)) := (Below.refl _ _).alloc (Nat.le_refl _) _
  have hb1 := hb0.alloc hb0.size (.cells #[.slice tp tn tc] 25)
  have hb2 := hb1.alloc hb1.size (.cells (mkM (mk ts rs 0)).toArray 152)
  have hm : (mkM (mk ts rs 0)).toArray = Array.replicate 36 (.bool false) := by rw [show mk ts rs 0 = fun _ _ => false by funext i j; simp [mk]]; rfl
  refine ⟨hb2, ?_, ?_, by omega, by omega⟩
  . rw [Below.heap_alloc _ _ _ (by simp)]
    exact zC0 _ _ _
  . exact heap_3 _ _ _ _
 case round =>
  obtain ⟨k, hk, rfl, rfl, hE⟩ := hrel
  have HE := hid hE
  by_cases hlt : k < n
  . have hkc : k < rs.length := by have := HN.out; omega
    obtain ⟨p', cap', e0, _, hat⟩ := zAG lenR (HRD.out.later hE.bel)
    simp only [Value.slice.injEq] at e0
    obtain ⟨e01, hx0, e02⟩ := e0
    obtain ⟨g, off, e03, hrd⟩ := hat (by omega)
    obtain ⟨A, r1, o1⟩ := hrd wr (Below.refl _ _) k hkc
    obtain ⟨v1, v2, v3, v4, v5, z1, o1', o2, o3, o4, o5⟩ := rdR o1
    obtain ⟨a1, a2, a3, hu1⟩ := zAB o1'
    obtain ⟨b1, b2, b3, hu2⟩ := zAB o2
    obtain ⟨d1, d2, d3, hu3⟩ := zAB o3
    obtain ⟨f1, f2, f3, hu4⟩ := zAB o4
    obtain ⟨g1, g2, g3, hu5⟩ := zAB o5
    obtain rfl : rp = some ⟨g, off, none⟩ := e01.trans e03
    have hAz : A.length = 7 := o1.1.symm
    have hzk := HZ.out _ (List.getElem_mem hkc)
    have HPT : Hid (∀ W, Below wr.heap.size wr W → Calls Tryz.prog 62 #[.agg A.toArray] W (fun e w' => ∃ v, e = .returned v ∧ Rd w' (.row 48 18 ((rs[k].w ++ rs[k].t ++ rs[k].m.map Mn.p).map encP)) v ∧ Below W.heap.size W w' ∧ ∀ i, v.ownBlock = some i → W.heap.size ≤ i)) := fun W hW => by
     rw [z1]
     exact zD4 rs[k] v1 v2 v3 v4 v5 W (o1'.later hW) (o2.later hW) (o3.later hW) (o4.later hW) (o5.later hW) hzk.1 hzk.2.1 hzk.2.2
    have HAO : Hid (A.all (·.oneCell') = true) := by show _ = _; rw [z1, hu1, hu2, hu3, hu4, hu5]; rfl
    have ZA : Hid ((Tryz.prog.info? 56).map (·.size) = some A.length) := by show _ = _; rw [hAz]; kernel_rfl
    obtain ⟨ety, hety⟩ : ∃ x, rs[k].e.ty = x := ⟨_, rfl⟩
    have HET := hid hety
    have HA5 : Hid (A[5]? = some (.string ety)) := by show _ = _; rw [z1, ← hety]; rfl
    have HAL := hid hAz
    have X1_ := hid r1
    have i1 : (0 : Int) ≤ (k : Int) := by omega
    have i2 : (k : Int) < (n : Int) := by omega
    clear hE hat hrd r1 o1 hAz hx0 z1 hu1 hu2 hu3 hu4 hu5 o1' o2 o3 o4 o5 e01 e02 e03 hety hzk
    cases hem : emp ety with
    | true =>
     have q0 := zCE hem
     have HSK := hid (fun i j => mk_skip ts rs k hkc (by rw [HET.out]; exact hem) i j)
     clear hem
     go_wp2_with (first
       | ((with_reducible refine gLq ?_); refine wpList_load_mid (by rfl) 56 _ (by rfl) g (off + k * 7) (by rfl) A _ X1_.out Tryz.underlying56 rfl ZA.out ?_)
       | ((with_reducible refine gSq ?_); refine zA7 (by rfl) 56 _ _ (by rfl) wr.heap.size 0 _ 56 (.agg A.toArray) A (by rfl) (by rfl) (by rfl) (heap_alloc_new _ _) (by have := HAL.out; simp; omega) ZA.out HAO.out ?_; intro w1 hblk hfr; rw [zAT (by rw [HAL.out]; rfl)] at hblk; have XB : Hid (w1.rangeAt wr.heap.size 0 A) := zAE hblk; have HBK := hid hblk; have c5 : w1.cell? ⟨wr.heap.size, 5, none⟩ = some (.string ety) := by { rw [zAC hblk, List.getElem?_toArray]; exact HA5.out }; have HBW : Hid (Below wr.heap.size wr w1) := zAM hfr; clear hblk hfr))
     go_roundg (n + 1 - (k + 1))
     case rel => exact ⟨k + 1, by omega, rfl, by go_num, (HE.out.later HBW.out).congr (fun i j _ _ => HSK.out i j)⟩
     case measure => omega
    | false =>
     obtain ⟨q0, q1⟩ := zDI hem
     have HST := hid (fun i j => mk_step ts rs k hkc (by rw [HET.out]; exact hem) i j)
     obtain ⟨j0, hj0, hj1⟩ := (HOK.out _ (List.getElem_mem hkc)).2 (by rw [HET.out]; exact hem)
     rw [HET.out] at hj1
     have hps := (HOK.out _ (List.getElem_mem hkc)).1
     rw [HET.out] at HST
     obtain ⟨ps, hpq⟩ : ∃ ps, rs[k].w ++ rs[k].t ++ rs[k].m.map Mn.p = ps := ⟨_, rfl⟩
     rw [hpq] at HPT HST hps
     have HPS := hid hps
     have HJ0 : Hid (j0 < 6) := by have := HLT.out; show _ < _; omega
     have HJ1 := hid hj1
     clear hem hj0 hj1 hps hpq
     go_wp2_with (first
       | ((with_reducible refine gLq ?_); refine wpList_load_mid (by rfl) 56 _ (by rfl) g (off + k * 7) (by rfl) A _ X1_.out Tryz.underlying56 rfl ZA.out ?_)
       | ((with_reducible refine gSq ?_); refine zA7 (by rfl) 56 _ _ (by rfl) wr.heap.size 0 _ 56 (.agg A.toArray) A (by rfl) (by rfl) (by rfl) (heap_alloc_new _ _) (by have := HAL.out; simp; omega) ZA.out HAO.out ?_; intro w1 hblk hfr; rw [zAT (by rw [HAL.out]; rfl)] at hblk; have XB : Hid (w1.rangeAt wr.heap.size 0 A) := zAE hblk; have HBK := hid hblk; have c5 : w1.cell? ⟨wr.heap.size, 5, none⟩ = some (.string ety) := by { rw [zAC hblk, List.getElem?_toArray]; exact HA5.out }; have HBW : Hid (Below wr.heap.size wr w1) := zAM hfr; clear hblk hfr)
       | ((with_reducible refine gLq ?_); refine wpList_load_mid (by rfl) 56 _ (by rfl) wr.heap.size 0 (by rfl) A _ XB.out Tryz.underlying56 rfl ZA.out ?_))
     refine (HPT.out _ HBW.out).mono ?_
     rintro e w3 ⟨pv, rfl, hrd3, hb3, hown⟩
     obtain ⟨pp, pc, rfl, hpx, hat3⟩ := zAG lenP hrd3
     obtain ⟨np, hnp⟩ : ∃ np, ps.length = np := ⟨_, rfl⟩
     have HNP := hid hnp
     have HAT3 := hid hat3
     have HOWN := hid hown
     have HE3 := hid ((HE.out.later HBW.out).later hb3)
     have HBK3 : Hid (w3.heap[wr.heap.size]? = some (.cells A.toArray 56 (0, 0))) := (hb3.block _ (zAH HBK.out)).trans HBK.out
     have HS1 := hid HBW.out.size
     have HS3 := hid hb3.size
     rw [hnp] at hpx HST HOWN ⊢
     clear hrd3 hb3 hat3 hown hnp c5
     go_wp2_with fail
     obtain ⟨wo, hwo⟩ : ∃ wo, wo = wr := ⟨_, rfl⟩
     subst hwo
     go_loopg [30] (np + 1) (fun gg i wr => ∃ q : Nat, q ≤ np ∧ gg = np + 1 - q ∧ i = .int .i64 (q : Nat) ∧ Fr (fun i => i = (w.heap.size + 1 + 1)) w3 wr ∧ Esc w wr (w.heap.size + 1) (w.heap.size + 1 + 1) (.slice tp tn tc) (mq (mk ts rs k) ts ps ety q))
     case atStart => exact ⟨0, by omega, by omega, rfl, Fr.refl _ _, HE3.out.congr (fun i j _ _ => mq_zero _ _ _ _ i j)⟩
     case round =>
       obtain ⟨q, hq, rfl, rfl, hFr, hEq⟩ := hrel
       have HFR := hid hFr
       have HEQ := hid hEq
       by_cases hlq : q < np
       . have hqc : q < ps.length := by have := HNP.out; omega
         obtain ⟨g2, off2, e13, hrd2⟩ := HAT3.out (by omega)
         obtain ⟨A2, r2, o2⟩ := hrd2 w3 (Below.refl _ _) q hqc
         subst e13
         have hlo := HE.out.bel.size
         have hmbl : (w.heap.size + 1 + 1) < wo.heap.size := zAH HE.out.mt
         have hg2 : g2 ≠ (w.heap.size + 1 + 1) := by
           have := HOWN.out g2 rfl
           have := HS1.out
           omega
         have hb1n : wo.heap.size ≠ (w.heap.size + 1 + 1) := by omega
         obtain ⟨vc, z2, o3⟩ := rdP o2
         obtain ⟨up, un, uc, hu⟩ := zAB o3
         have hAz2 : A2.length = 18 := o2.1.symm
         have hg2l : g2 < w3.heap.size := World.block_lt_of_cell? _ ⟨g2, off2 + q * 18 + 0, none⟩ (r2 0 _ (by rw [z2]; rfl))
         have X2_ := hid (zFP r2 (hFr.block g2 hg2l hg2))
         have HRB : Hid (wr.heap[wo.heap.size]? = some (.cells A.toArray 56 (0, 0))) := (hFr.block _ (zAH HBK3.out) hb1n).trans HBK3.out
         have HAO2 : Hid (A2.all (·.oneCell') = true) := by show _ = _; rw [z2, hu]; rfl
         have ZA2 : Hid ((Tryz.prog.info? 48).map (·.size) = some A2.length) := by show _ = _; rw [hAz2]; kernel_rfl
         have HAL2 := hid hAz2
         obtain ⟨pty, hpty⟩ : ∃ x, ps[q].ty = x := ⟨_, rfl⟩
         have HA1 : Hid (A2[1]? = some (.string pty)) := by show _ = _; rw [z2, ← hpty]; rfl
         obtain ⟨i0, hi0, hi1⟩ := HPS.out _ (List.getElem_mem hqc)
         have HMS := hid (fun i j => mq_step (mk ts rs k) ts ps ety q hqc hi1 HJ1.out i j)
         rw [hpty] at hi1
         have hi6 : i0 < 6 := by have := HLT.out; omega
         have HIJ : Hid (i0 < 6 ∧ j0 < 6) := ⟨hi6, HJ0.out⟩
         have hmw : (w.heap.size + 1 + 1) < wr.heap.size := zAH hEq.mt
         have HN1 : Hid (wr.heap.size ≠ (w.heap.size + 1 + 1)) := by show _ ≠ _; omega
         have HN2 : Hid (wo.heap.size ≠ (w.heap.size + 1 + 1)) := hb1n
         have y1 : (0 : Int) ≤ (i0 : Int) := by omega
         have y2 : (i0 : Int) < 6 := by omega
         have y3 : (0 : Int) ≤ (j0 : Int) := by omega
         have y4 : (j0 : Int) < 6 := by have := HJ0.out; omega
         have i3 : (0 : Int) ≤ (q : Int) := by omega
         have i4 : (q : Int) < (np : Int) := by omega
         have HI1 := hid hi1
         clear hFr hEq hrd2 r2 o2 hlo hmbl hg2 hb1n z2 o3 hu hAz2 hg2l hpty hi0 hi1 hi6 hmw
         go_wp2_with (first
           | ((with_reducible refine gLq ?_); refine wpList_load_mid (by rfl) 48 _ (by rfl) g2 (off2 + q * 18) (by rfl) A2 _ X2_.out Tryz.underlying48 rfl ZA2.out ?_)
           | ((with_reducible refine gSq ?_); refine zA7 (by rfl) 48 _ _ (by rfl) wr.heap.size 0 _ 48 (.agg A2.toArray) A2 (by rfl) (by rfl) (by rfl) (heap_alloc_new _ _) (by have := HAL2.out; simp; omega) ZA2.out HAO2.out ?_; intro w4 hblk hfr; rw [zAT (by rw [HAL2.out]; rfl)] at hblk; have HBW4 : Hid (Below wr.heap.size wr w4) := zAM hfr; have HBB : Hid (Bk2 w4 wr.heap.size wo.heap.size A2 A) := ⟨hblk, (HBW4.out.block _ (zAH HRB.out)).trans HRB.out⟩; clear hblk hfr))
         have HE4 := hid (fun W (hW : Below w4.heap.size w4 W) => (HEQ.out.later HBW4.out).later hW)
         have HF1 := hid (fun W (hW : Below w4.heap.size w4 W) => HFN.out pty i0 HI1.out W (HE4.out W hW).bel (zAC (HE4.out W hW).fc 0))
         have HF2 := hid (fun W (hW : Below w4.heap.size w4 W) => HFN.out ety j0 HJ1.out W (HE4.out W hW).bel (zAC (HE4.out W hW).fc 0))
         refine zBC (S := (fun w' => w'.cell? ⟨wr.heap.size, 1, none⟩ = some (.string pty) ∧ w'.cell? ⟨wo.heap.size, 5, none⟩ = some (.string ety))) 12 #[false, false, false, false, false, false, false, false, false, false, false, false] rfl rfl (by kernel_rfl) ((HBB.out.later (Below.drew (Below.refl _ _))).cells HA1.out HA5.out) (fun hHeld => ?_)
         refine tkq (i := 0) (v := ?v1) rfl ?hy1 ?rest1; (case hy1 => intro w0 hSw; (try dsimp only at hSw); go_simp <;> (try (with_reducible rfl))); (try simp only [puts])
         refine tkq (i := 1) (v := ?v2) rfl ?hy2 ?rest2; (case hy2 => intro w0 hSw; (try dsimp only at hSw); go_simp <;> (try (with_reducible rfl))); (try simp only [puts])
         refine tkq (i := 2) (v := ?v3) rfl ?hy3 ?rest3; (case hy3 => intro w0 hSw; (try dsimp only at hSw); go_simp <;> (try (with_reducible rfl))); (try simp only [puts])
         refine tkq (i := 4) (v := ?v4) rfl ?hy4 ?rest4; (case hy4 => intro w0 hSw; (try dsimp only at hSw); go_simp <;> (try (with_reducible rfl))); (try simp only [puts])
         refine tkq (i := 5) (v := ?v5) rfl ?hy5 ?rest5; (case hy5 => intro w0 hSw; (try dsimp only at hSw); go_simp <;> (try (with_reducible rfl))); (try simp only [puts])
         refine tkq (i := 6) (v := ?v6) rfl ?hy6 ?rest6; (case hy6 => intro w0 hSw; (try dsimp only at hSw); go_simp <;> (try (with_reducible rfl))); (try simp only [puts])
         refine tkq (i := 7) (v := ?v7) rfl ?hy7 ?rest7; (case hy7 => intro w0 hSw; (try dsimp only at hSw); go_simp <;> (try (with_reducible rfl))); (try simp only [puts])
         refine wpAnyH_ready (rs := [3]) (by kernel_rfl) (by simp) ?_
         refine zAV rfl (fun K hK => ?_) AllReadyH.nil
         refine zA6 95 zDL (by rfl) _ _ _ (by rfl) (.pointer (some ⟨w.heap.size + 1, 0, none⟩)) (.string pty) (by rfl) (by rfl) _ (HF1.out _ (Below.drew (Below.refl _ _))) ?_
         rintro e w5 ⟨rfl, hb9⟩
         refine ⟨_, rfl, ?_⟩
         have HB5 : Hid (Below w4.heap.size w4 w5) := zAA (Below.drew (Below.refl _ _)) hb9 (Nat.le_refl _)
         clear hb9
         refine hK.out _ _ ((HBB.out.later HB5.out).cells HA1.out HA5.out) (fun hHeld => ?_)
         clear hK K
         (try simp only [puts])
         refine tkq (i := 9) (v := ?v8) rfl ?hy8 ?rest8; (case hy8 => intro w0 hSw; (try dsimp only at hSw); go_simp <;> (try (with_reducible rfl))); (try simp only [puts])
         refine wpAnyH_ready (rs := [8]) (by kernel_rfl) (by simp) ?_
         refine zAV rfl (fun K hK => ?_) AllReadyH.nil
         refine zA6 95 zDL (by rfl) _ _ _ (by rfl) (.pointer (some ⟨w.heap.size + 1, 0, none⟩)) (.string ety) (by rfl) (by rfl) _ (HF2.out _ (HB5.out)) ?_
         rintro e w6 ⟨rfl, hb9⟩
         refine ⟨_, rfl, ?_⟩
         have HB6 : Hid (Below w4.heap.size w4 w6) := zAA (HB5.out) hb9 HB5.out.size
         clear hb9
         refine hK.out _ _ ((HBB.out.later HB6.out).cells HA1.out HA5.out) (fun hHeld => ?_)
         clear hK K
         (try simp only [puts])
         refine tkq (i := 10) (v := ?v9) rfl ?hy9 ?rest9; (case hy9 => intro w0 hSw; (try dsimp only at hSw); go_simp <;> (try (with_reducible rfl))); (try simp only [puts])
         refine wpAnyH_ready (rs := [11]) (by kernel_rfl) (by simp) ?_
         refine zAV rfl (fun K hK => ?_) AllReadyH.nil
         refine step_st (by rfl) 4 _ _ (by rfl) (w.heap.size + 1 + 1) (i0 * 6 + j0) _ 152 (.bool true) [.bool true] (by rfl) (by rfl) (by rfl) (HE4.out _ HB6.out).mt (by rw [zBS]; have := HIJ.out; simp; omega) (by kernel_rfl) (by rfl) ?_
         intro w7 hm7 hf7
         have HB7 := hid ((HBB.out.later HB6.out).fr hf7 HN1.out HN2.out)
         rw [zGC _ HIJ.out.1 HIJ.out.2] at hm7
         have HE7 := hid (((HE4.out _ HB6.out).store hf7 hm7).congr (fun i j _ _ => HMS.out i j))
         have HF7 : Hid (Fr (fun i => i = (w.heap.size + 1 + 1)) w3 w7) := HFR.out.trans ((Fr.of_below HBW4.out).trans ((Fr.of_below HB6.out).trans hf7))
         clear hm7 hf7
         refine hK.out _ _ (HB7.out.cells HA1.out HA5.out) (fun hHeld => ?_)
         clear hK K
         (try simp only [puts])
         refine wpAnyH_done (by kernel_rfl) ?_ _
         go_wp2_with fail
         go_roundg (np + 1 - (q + 1))
         case rel => exact ⟨q + 1, by omega, rfl, by go_num, HF7.out, HE7.out⟩
         case measure => omega
       . obtain rfl : q = np := by omega
         clear hFr hEq
         go_wp2_with fail
         go_roundg (n + 1 - (k + 1))
         case rel => exact ⟨k + 1, by omega, rfl, by go_num, HEQ.out.congr (fun i j _ _ => HST.out i j)⟩
         case measure => omega
  . obtain rfl : k = n := by omega
    have hM0 : mk ts rs k = fun i j => rs.any fun x => edb ts x i j := by unfold mk; rw [List.take_of_length_le (by have := HN.out; omega)]
    rw [hM0] at hE
    clear HE
    obtain ⟨M0, hM0'⟩ : ∃ M0, (fun i j => rs.any fun x => edb ts x i j) = M0 := ⟨_, rfl⟩
    rw [hM0'] at hE HRR
    have HE := hid hE
    clear hE hM0 hM0'
    go_wp2_with fail
    go_loopg [47] 7 (fun gg i wr => ∃ b : Nat, b ≤ 6 ∧ gg = 7 - b ∧ i = .int .i64 (b : Nat) ∧ Esc w wr (w.heap.size + 1) (w.heap.size + 1 + 1) (.slice tp tn tc) (wsh M0 b))
    case atStart => exact ⟨0, by omega, by omega, rfl, HE.out⟩
    case round =>
     obtain ⟨b, hb, rfl, rfl, hE3⟩ := hrel
     have HE3 := hid hE3
     clear hE3
     by_cases hlb : b < 6
     . have n1b : (0 : Int) ≤ (b : Int) := by omega
       have n2b : (b : Int) < 6 := by omega
       go_wp2_with fail
       go_loopg [50] 7 (fun gg i wr => ∃ f : Nat, f ≤ 6 ∧ gg = 7 - f ∧ i = .int .i64 (f : Nat) ∧ Esc w wr (w.heap.size + 1) (w.heap.size + 1 + 1) (.slice tp tn tc) (stW (wsh M0 b) b f 0))
       case atStart => exact ⟨0, by omega, by omega, rfl, HE3.out.congr (stW_zero _ _)⟩
       case round =>
         obtain ⟨f, hf, rfl, rfl, hE4⟩ := hrel
         have HE4 := hid hE4
         by_cases hlf : f < 6
         . clear hE4
           have n1f : (0 : Int) ≤ (f : Int) := by omega
           have n2f : (f : Int) < 6 := by omega
           go_wp2_with fail
           go_loopg [53] 7 (fun gg i wr => ∃ t : Nat, t ≤ 6 ∧ gg = 7 - t ∧ i = .int .i64 (t : Nat) ∧ Esc w wr (w.heap.size + 1) (w.heap.size + 1 + 1) (.slice tp tn tc) (stW (wsh M0 b) b f t))
           case atStart => exact ⟨0, by omega, by omega, rfl, HE4.out⟩
           case round =>
            obtain ⟨t, ht, rfl, rfl, hE5⟩ := hrel
            have HE5 := hid hE5
            by_cases hlt : t < 6
            . have hc1 := hE5.cell hlf hlb
              have hc2 := hE5.cell hlb hlt
              rw [stW_fb] at hc1
              rw [stW_bt] at hc2
              have HFT : Hid (f < 6 ∧ t < 6) := ⟨hlf, hlt⟩
              obtain ⟨x1, hx1⟩ : ∃ x, wsh M0 b f b = x := ⟨_, rfl⟩
              obtain ⟨x2, hx2⟩ : ∃ x, wsh M0 b b t = x := ⟨_, rfl⟩
              have HX1 := hid hx1
              have HX2 := hid hx2
              rw [hx1] at hc1
              rw [hx2] at hc2
              have n1t : (0 : Int) ≤ (t : Int) := by omega
              have n2t : (t : Int) < 6 := by omega
              clear hE5 hx1 hx2
              cases x1 with
              | true =>
                cases x2 with
                | true =>
                 have HX : Hid ((wsh M0 b f b && wsh M0 b b t) = true) := by show _ = _; rw [HX1.out, HX2.out]; rfl
                 go_wp2_with ((with_reducible refine gSq ?_); refine wp_sq 4 (w.heap.size + 1 + 1) (f * 6 + t) _ 152 (.bool true) [.bool true] HE5.out.mt ?_ (hl := by rw [zBS]; have := HFT.out; simp; omega); intro w8 hm8 hf8; rw [zGC _ HFT.out.1 HFT.out.2] at hm8; have HE8 := hid (HE5.out.store hf8 hm8); clear hm8 hf8)
                 go_roundg (7 - (t + 1))
                 case rel => exact ⟨t + 1, by omega, rfl, by go_num, HE8.out.congr (stW_next _ _ _ _ HX.out)⟩
                 case measure => omega
                | false =>
                 have HX : Hid ((wsh M0 b f b && wsh M0 b b t) = false) := by show _ = _; rw [HX1.out, HX2.out]; rfl
                 go_wp2_with fail
                 go_roundg (7 - (t + 1))
                 case rel => exact ⟨t + 1, by omega, rfl, by go_num, HE5.out.congr (zDO _ _ _ _ HX.out)⟩
                 case measure => omega
              | false =>
                cases x2 with
                | true =>
                 have HX : Hid ((wsh M0 b f b && wsh M0 b b t) = false) := by show _ = _; rw [HX1.out, HX2.out]; rfl
                 go_wp2_with fail
                 go_roundg (7 - (t + 1))
                 case rel => exact ⟨t + 1, by omega, rfl, by go_num, HE5.out.congr (zDO _ _ _ _ HX.out)⟩
                 case measure => omega
                | false =>
                 have HX : Hid ((wsh M0 b f b && wsh M0 b b t) = false) := by show _ = _; rw [HX1.out, HX2.out]; rfl
                 go_wp2_with fail
                 go_roundg (7 - (t + 1))
                 case rel => exact ⟨t + 1, by omega, rfl, by go_num, HE5.out.congr (zDO _ _ _ _ HX.out)⟩
                 case measure => omega
            . obtain rfl : t = 6 := by omega
              have HE6 := hid (hE5.congr (stW_row _ _ _))
              clear hE5
              go_wp2_with fail
              go_roundg (7 - (f + 1))
              case rel => exact ⟨f + 1, by omega, rfl, by go_num, HE6.out⟩
              case measure => omega
         . obtain rfl : f = 6 := by omega
           have HE6 := hid (hE4.congr (stW_end _ _))
           clear hE4
           go_wp2_with fail
           go_roundg (7 - (b + 1))
           case rel => exact ⟨b + 1, by omega, rfl, by go_num, HE6.out⟩
           case measure => omega
     . obtain rfl : b = 6 := by omega
       go_wp2_with fail
       go_loopg [75] 7 (fun gg i wr => ∃ t : Nat, t ≤ 6 ∧ gg = 7 - t ∧ i = .int .i64 (t : Nat) ∧ Esc w wr (w.heap.size + 1) (w.heap.size + 1 + 1) (.slice tp tn tc) (wsh M0 6) ∧ ∀ s, s < t → wsh M0 6 s s = false)
       case atStart => exact ⟨0, by omega, by omega, rfl, HE3.out, fun s hs => by omega⟩
       case round =>
         obtain ⟨t, ht, rfl, rfl, hE5, hno⟩ := hrel
         have HE5 := hid hE5
         have HNO := hid hno
         by_cases hlt : t < 6
         . have hc1 := hE5.cell hlt hlt
           obtain ⟨x1, hx1⟩ : ∃ x, wsh M0 6 t t = x := ⟨_, rfl⟩
           have HX1 := hid hx1
           rw [hx1] at hc1
           have n1t : (0 : Int) ≤ (t : Int) := by omega
           have n2t : (t : Int) < 6 := by omega
           clear hE5 hno hx1
           cases x1 with
           | true =>
            have HRT : Hid (R = true) := by
              show _ = _
              rw [← HRR.out]
              unfold edl
              exact List.any_eq_true.2 ⟨t, List.mem_range.2 hlt, HX1.out⟩
            go_wp2_with fail
            go_ret
            exact ⟨by rw [HRT.out]; rfl, HE5.out.bel⟩
           | false =>
            go_wp2_with fail
            go_roundg (7 - (t + 1))
            case rel =>
              refine ⟨t + 1, by omega, rfl, by go_num, HE5.out, fun s hs => ?_⟩
              by_cases c : s < t
              . exact HNO.out s c
              . obtain rfl : s = t := by omega
                exact HX1.out
            case measure => omega
         . obtain rfl : t = 6 := by omega
           have HRT : Hid (R = false) := by
            show _ = _
            rw [← HRR.out]
            unfold edl
            rw [List.any_eq_false]
            intro s hs
            rw [HNO.out s (List.mem_range.1 hs)]
            decide
           clear hE5 hno
           go_wp2_with fail
           go_ret
           exact ⟨by rw [HRT.out]; rfl, HE5.out.bel⟩
theorem zHG : ∀ (l done : List Tp), tks done l = 0 → ∀ t, t ∈ l → tyk t.n t.f = 0
 | [], _, _, t, ht => by cases ht
 | y :: r, done, h, t, ht => by
  rw [zFL] at h
  split at h
  . rename_i c; exact absurd h c
  . rename_i c
    rcases List.mem_cons.1 ht with rfl | ht
    . have c' : tk1 done t = 0 := Classical.byContradiction c
      unfold tk1 at c'
      split at c'
      . rename_i d; exact absurd c' d
      . rename_i d; exact Classical.byContradiction d
    . exact zHG r _ h t ht
theorem zC7 {ts : List Tp} : ∀ (l done : List Rl), rks (rck ts) done l = 0 → ∀ x, x ∈ l → rck ts x = 0
 | [], _, _, t, ht => by cases ht
 | y :: r, done, h, t, ht => by
  rw [zFF] at h
  split at h
  . rename_i c; exact absurd h c
  . rename_i c
    rcases List.mem_cons.1 ht with rfl | ht
    . have c' : rk1 ts done t = 0 := Classical.byContradiction c
      unfold rk1 at c'
      split at c'
      . rename_i d; exact absurd c' d
      . rename_i d; exact Classical.byContradiction d
    . exact zC7 r _ h t ht
theorem zGR {ts : List Tp} {x : Rl} (h : rck ts x = 0) : Rok ts x ∧ szs x := by
 have h1 : frn x.n = 0 := by
   refine Classical.byContradiction fun c => ?_
   unfold rck at h
   rw [if_pos c] at h
   exact c h
 have h2 : szs x := by
   refine Classical.byContradiction fun c => ?_
   unfold rck at h
   rw [if_neg (fun d => d h1), if_pos c] at h
   omega
 refine ⟨?_, h2⟩
 rw [zCB ts x h1 h2] at h
 split at h
 . rename_i c; exact absurd h c
 . rename_i c1
   split at h
   . rename_i c; exact absurd h c
   . rename_i c2
     split at h
     . rename_i c; exact absurd h c
     . rename_i c3
       split at h
       . rename_i c; exact absurd h c
       . have a1 := zD2 x.w [] (Classical.byContradiction c1)
         have a2 := zEE x.t (x.w.map Pt.va) (Classical.byContradiction c2)
         have a3 := zEH x.m (x.w.map Pt.va ++ x.t.map Pt.va) (Classical.byContradiction c3)
         refine ⟨fun p hp => ?_, fun he => ?_⟩
         . rw [List.mem_append, List.mem_append] at hp
           rcases hp with (hp | hp) | hp
           . exact a1 p hp
           . exact a2 p hp
           . obtain ⟨m, hm, rfl⟩ := List.mem_map.1 hp
             exact a3 m hm
         . unfold eck at h
           rw [if_neg (by rw [he]; decide)] at h
           split at h
           . omega
           . rename_i c
             rcases zA2 (q := fun t : Tp => seq t.n x.e.ty) ts 0 with d | ⟨j, hj, d, _⟩
             . have d0 : tyq ts x.e.ty = -1 := d
               omega
             . exact ⟨j, hj, by show ixq _ _ _ = _; rw [d]; simp⟩
theorem check_any (ts : List Tp) (rs : List Rl) (hzz : ∀ r, r ∈ rs → Szr r) (tv rv : Value) (w : World) (hT : Rd w (.row 59 2 (ts.map encY)) tv) (hR : Rd w (.row 56 7 (rs.map encR)) rv) (htk : Tab w 0 kpl) (htr : Tab w 1 rll) :
   Calls Tryz.prog 15 #[.agg #[tv, rv]] w fun e w' => e = .returned (.int .i64 (bok ts rs)) ∧ Below w.heap.size w w' := by
 obtain ⟨tp, tc, rfl, _, _⟩ := zAG lenY hT
 obtain ⟨rp, rc, rfl, _, _⟩ := zAG lenR hR
 unfold bok bkf
 by_cases hs : 6 < ts.length ∨ 5 < rs.length
 . rw [if_pos hs]
   clear hT hR htk htr
   generalize ts.length = tn at *
   generalize rs.length = rn at *
   have HB : Hid (Below w.heap.size w (w.alloc (.cells #[.slice tp tn tc, .slice rp rn rc] 28))) := (Below.refl _ _).alloc (Nat.le_refl _) _
   by_cases h1 : 6 < tn
   . have d1 : decide ((tn : Int) > 6) = true := by simp; omega
     have d2 : (6 : Int) < (tn : Int) := by omega
     clear hs
     go_enter Tryz.func15, Tryz.ntmps15
     go_wp2_with fail
     go_ret
     exact ⟨rfl, HB.out⟩
   . have d1 : decide ((tn : Int) > 6) = false := by simp; omega
     have d2 : ¬ (6 : Int) < (tn : Int) := by omega
     have d3 : decide ((rn : Int) > 5) = true := by simp; omega
     have d4 : (5 : Int) < (rn : Int) := by omega
     clear hs
     go_enter Tryz.func15, Tryz.ntmps15
     go_wp2_with fail
     go_ret
     exact ⟨rfl, HB.out⟩
 . rw [if_neg hs]
   have HCT := hid (fun W (hW : Below w.heap.size w W) => zCQ ts _ W (hT.later hW) (zAF htk hW) (zAF htr hW) (by omega))
   have HCR := hid (fun (hz : tks [] ts = 0) W (hW : Below w.heap.size w W) => zCL ts (fun i hi => zHG ts [] hz _ (List.getElem_mem hi)) rs hzz _ _ W (hT.later hW) (hR.later hW) (zAF htk hW) (zAF htr hW) (by omega))
   have HIE := hid (fun (hz : tks [] ts = 0) (hr : rks (rck ts) [] rs = 0) (q : Bool) (hq : ts.any (fun t => cmo rs t.n rs.length t.n) = q) W (hW : Below w.heap.size w W) => zDT ts rs (fun x hx => (zGR (zC7 rs [] hr x hx)).1) (by omega) (fun x hx => by have h := (zGR (zC7 rs [] hr x hx)).2; unfold szs at h; omega) _ _ W (hT.later hW) (hR.later hW) q (by rw [← hq]; exact edl_eq (dst_of hz) (fun x hx => (zGR (zC7 rs [] hr x hx)).1) (by omega) (fun i j => edb_iff ts rs i j)))
   obtain ⟨qe, hqe⟩ : ∃ q, ts.any (fun t => cmo rs t.n rs.length t.n) = q := ⟨_, rfl⟩
   rw [hqe]
   have HIE2 := hid (fun hz hr => HIE.out hz hr qe hqe)
   clear HIE hqe hT hR htk htr hzz
   obtain ⟨E1, hE1⟩ : ∃ E, tks [] ts = E := ⟨_, rfl⟩
   obtain ⟨E2, hE2⟩ : ∃ E, rks (rck ts) [] rs = E := ⟨_, rfl⟩
   rw [hE1, hE2]
   rw [hE1] at HCT HCR HIE2
   rw [hE2] at HCR HIE2
   clear hE1 hE2
   obtain ⟨tn, htn⟩ : ∃ n, ts.length = n := ⟨_, rfl⟩
   obtain ⟨rn, hrn⟩ : ∃ n, rs.length = n := ⟨_, rfl⟩
   rw [htn] at HCT HCR HIE2 hs ⊢
   rw [hrn] at HCR HIE2 hs ⊢
   have d1 : decide ((tn : Int) > 6) = false := by simp; omega
   have d2 : ¬ (6 : Int) < (tn : Int) := by omega
   have d3 : decide ((rn : Int) > 5) = false := by simp; omega
   have d4 : ¬ (5 : Int) < (rn : Int) := by omega
   have HT : Hid (BlkT w (w.alloc (.cells [.slice tp tn tc, .slice rp rn rc].toArray 28)) [.slice tp tn tc, .slice rp rn rc] 28) := BlkT.start w _ _
   clear htn hrn hs
   by_cases h1 : E1 = 0
   . have HR0 := hid (HCR.out h1)
     have HI0 := hid (HIE2.out h1)
     clear HCR HIE2
     have HCR := HR0
     rw [if_neg (fun c => c h1)]
     subst h1
     by_cases h2 : E2 = 0
     . have HIE := hid (HI0.out h2)
       rw [if_neg (fun c => c h2)]
       subst h2
       clear HI0 HR0
       cases qe with
       | true =>
        rw [if_pos rfl]
        go_enter Tryz.func15, Tryz.ntmps15
        go_wp2_with fail
        refine (HCT.out _ HT.out.bel).mono ?_
        rintro e w1 ⟨rfl, hb1⟩
        have HT1 : Hid _ := HT.out.next hb1
        clear hb1
        have c0 : w1.cell? ⟨w.heap.size, 0, none⟩ = some (.slice tp tn tc) := HT1.out.c 0
        have c1 : w1.cell? ⟨w.heap.size, 1, none⟩ = some (.slice rp rn rc) := HT1.out.c 1
        go_wp2_with fail
        refine (HCR.out _ HT1.out.bel).mono ?_
        rintro e w2 ⟨rfl, hb2⟩
        have HT2 : Hid _ := HT1.out.next hb2
        clear hb2 c0 c1
        have c0 : w2.cell? ⟨w.heap.size, 0, none⟩ = some (.slice tp tn tc) := HT2.out.c 0
        have c1 : w2.cell? ⟨w.heap.size, 1, none⟩ = some (.slice rp rn rc) := HT2.out.c 1
        go_wp2_with fail
        refine (HIE.out _ HT2.out.bel).mono ?_
        rintro e w3 ⟨rfl, hb3⟩
        have HT3 : Hid _ := HT2.out.next hb3
        clear hb3 c0 c1
        go_wp2_with fail
        go_ret
        exact ⟨rfl, HT3.out.bel⟩
       | false =>
        rw [if_neg (by decide)]
        go_enter Tryz.func15, Tryz.ntmps15
        go_wp2_with fail
        refine (HCT.out _ HT.out.bel).mono ?_
        rintro e w1 ⟨rfl, hb1⟩
        have HT1 : Hid _ := HT.out.next hb1
        clear hb1
        have c0 : w1.cell? ⟨w.heap.size, 0, none⟩ = some (.slice tp tn tc) := HT1.out.c 0
        have c1 : w1.cell? ⟨w.heap.size, 1, none⟩ = some (.slice rp rn rc) := HT1.out.c 1
        go_wp2_with fail
        refine (HCR.out _ HT1.out.bel).mono ?_
        rintro e w2 ⟨rfl, hb2⟩
        have HT2 : Hid _ := HT1.out.next hb2
        clear hb2 c0 c1
        have c0 : w2.cell? ⟨w.heap.size, 0, none⟩ = some (.slice tp tn tc) := HT2.out.c 0
        have c1 : w2.cell? ⟨w.heap.size, 1, none⟩ = some (.slice rp rn rc) := HT2.out.c 1
        go_wp2_with fail
        refine (HIE.out _ HT2.out.bel).mono ?_
        rintro e w3 ⟨rfl, hb3⟩
        have HT3 : Hid _ := HT2.out.next hb3
        clear hb3 c0 c1
        go_wp2_with fail
        go_ret
        exact ⟨rfl, HT3.out.bel⟩
     . rw [if_pos h2]
       have d9 : (E2 != 0) = true := by simpa using h2
       clear h2 HI0 HR0
       go_enter Tryz.func15, Tryz.ntmps15
       go_wp2_with fail
       refine (HCT.out _ HT.out.bel).mono ?_
       rintro e w1 ⟨rfl, hb1⟩
       have HT1 : Hid _ := HT.out.next hb1
       clear hb1
       have c0 : w1.cell? ⟨w.heap.size, 0, none⟩ = some (.slice tp tn tc) := HT1.out.c 0
       have c1 : w1.cell? ⟨w.heap.size, 1, none⟩ = some (.slice rp rn rc) := HT1.out.c 1
       go_wp2_with fail
       refine (HCR.out _ HT1.out.bel).mono ?_
       rintro e w2 ⟨rfl, hb2⟩
       have HT2 : Hid _ := HT1.out.next hb2
       clear hb2 c0 c1
       go_wp2_with fail
       go_ret
       exact ⟨rfl, HT2.out.bel⟩
   . rw [if_pos h1]
     have d9 : (E1 != 0) = true := by simpa using h1
     clear h1 HCR HIE2
     go_enter Tryz.func15, Tryz.ntmps15
     go_wp2_with fail
     refine (HCT.out _ HT.out.bel).mono ?_
     rintro e w1 ⟨rfl, hb1⟩
     have HT1 : Hid _ := HT.out.next hb1
     clear hb1
     go_wp2_with fail
     go_ret
     exact ⟨rfl, HT1.out.bel⟩
theorem name_at {ts : List Tp} {tv : Value} {w : World} (h : Rd w (.row 59 2 (ts.map encY)) tv) {i : Nat} (hi : i < ts.length) : ∃ g off n c, tv = .slice (some ⟨g, off, none⟩) n c ∧ ((i : Nat) : Int) < (n : Int) ∧ ∀ W, Below w.heap.size w W → W.cell? ⟨g, off + i * 2, none⟩ = some (.string ts[i].n) := by
  obtain ⟨p, cap, rfl, _, hat⟩ := zAG lenY h
  obtain ⟨g, off, rfl, hrd⟩ := hat (by omega)
  refine ⟨g, off, _, _, rfl, by omega, fun W hW => ?_⟩
  obtain ⟨us, r1, o1⟩ := hrd W hW i hi
  obtain ⟨fv, z1, _⟩ := rdY o1
  rw [z1] at r1
  simpa using r1 0 _ rfl
theorem isOf_s (ts : List Tp) (tv : Value) (x : Ev) (u : Value) (A : List Value) (pty : ByteArray) (w : World) (hT : Rd w (.row 59 2 (ts.map encY)) tv) (hus : ∃ p n c, u = .slice p n c) (hA : A[1]? = some (.string pty)) (i : Nat) (hi : i < ts.length) (hx : x.t = (i : Int)) :
  Calls Tryz.prog 44 #[tv, evV x u, .agg A.toArray] w fun e w' => e = .returned (.bool (seq ts[i].n pty)) ∧ Below w.heap.size w w' := by
 obtain ⟨g, off, tn, tc, htv, hlt, hnm⟩ := name_at hT hi
 obtain ⟨up, un, uc, hu⟩ := hus
 subst htv hu
 obtain ⟨xn, xt, xs, xe, xv⟩ := x
 simp only at hx ⊢
 subst hx
 have hB : Bxs w ((w.alloc (.cells #[.int .i64 xn, .int .i64 (i : Nat), .int .i64 xs, .int .i64 xe, .slice up un uc] 35)).alloc (.cells A.toArray 48)) [([.int .i64 xn, .int .i64 (i : Nat), .int .i64 xs, .int .i64 xe, .slice up un uc], 35), (A, 48)] := bxs2 w _ _ _ _
 have t0 := hnm _ hB.bel
 have a1 : ((w.alloc (.cells #[.int .i64 xn, .int .i64 (i : Nat), .int .i64 xs, .int .i64 xe, .slice up un uc] 35)).alloc (.cells A.toArray 48)).cell? ⟨w.heap.size, 1, none⟩ = some (.int .i64 (i : Nat)) := hB.c 0 (by simp) 1
 have a2 : ((w.alloc (.cells #[.int .i64 xn, .int .i64 (i : Nat), .int .i64 xs, .int .i64 xe, .slice up un uc] 35)).alloc (.cells A.toArray 48)).cell? ⟨w.heap.size + 1, 1, none⟩ = some (.string pty) := by rw [hB.c 1 (by simp) 1]; exact hA
 obtain ⟨tnm, htnm⟩ : ∃ n, ts[i].n = n := ⟨_, rfl⟩
 rw [htnm] at t0 ⊢
 have HB := hid hB.bel
 have y1 : (0 : Int) ≤ (i : Int) := by omega
 have y2 : (i : Int) < (tn : Int) := hlt
 unfold seq
 clear hB hT hnm hA htnm hlt hi
 go_enter Tryz.func44, Tryz.ntmps44
 go_wp2_with fail
 go_quiet (fail)
 go_wp2_with fail
 go_ret
 exact ⟨rfl, zAJ HB.out _⟩
theorem zAQ {P : Program} {ops : Array Oper} {rest : List Oper} {op : Oper} {a : Act} {w : World} {Q : Exit → Act → World → Prop} (hw : Region.wanted op (yielded ops a.tmps) = true) (ty : TypeId) (x : Operand) (ho : op.op = .load ty x)
  (b o : Nat) (hx : a.eval x = .pointer (some ⟨b, o, none⟩)) (cs : List Value) (d : TypeDesc) (hc : w.rangeAt b o cs)
  (hu : P.underlying ty = some d) (hd : d.isRow = true) (hi : (P.info? ty).map (·.size) = some cs.length)
  (h : wpList P ops Q rest (a.put op.dst (.agg cs.toArray)) w) : wpList P ops Q (op :: rest) a w :=
 wpList_step fun K hK => by rw [if_pos hw]; exact wp_load_mid ty x ho b o hx cs d hc hu hd hi (hK _ _ h)
def tkb (ts : List Tp) (ws : List Pt) (own : Ev) (kn : List Ev) (p : Pt) : Bool := seq (ts.getD own.t.toNat dT).n p.ty && hld ts ws own kn 8 p.c
def Pok (ts : List Tp) (ws : List Pt) (p : Pt) : Prop := 0 ≤ tyq ts p.ty ∧ (p.c.k = 0 ∨ (cdk ts ws (ts.getD (tyq ts p.ty).toNat dT) 8 p.c).2 = 0)
theorem takes_s (ts : List Tp) (ws : List Pt) (own : Ev) (kn : List Ev) (tv ov wv kv : Value) (hk : Sok ts ws own kn) (hd : Dst ts) (p : Pt) (hp : Pok ts ws p) (hw : Wsz p.c) (A : List Value) (w : World) (hs : Scn w ts ws own kn tv ov wv kv) (hA : RdL w (encP p) A) :
  Calls Tryz.prog 27 #[snV tv own ov wv kv, .agg A.toArray] w fun e w' => e = .returned (.bool (tkb ts ws own kn p)) ∧ Below w.heap.size w w' := by
 obtain ⟨i, hi, e1, m1, m2⟩ := zED hk.ev
 clear m1 m2
 have et : ts.getD own.t.toNat dT = ts[i] := by rw [e1, Int.toNat_natCast]; exact zAS hi _
 obtain ⟨vc, z1, o2⟩ := rdP hA
 obtain ⟨CL, hCL⟩ : ∃ CL : List Value, cnC p.c.k vc p.c.l p.c.r = CL := ⟨_, rfl⟩
 have hA1 : A[1]? = some (.string p.ty) := by rw [z1]; rfl
 have hAC : ∃ B, A = [.string p.va, .string p.ty] ++ (CL ++ B) := ⟨[.int .i64 p.w, .int .i64 p.n], by rw [z1, ← hCL]; rfl⟩
 have hAz : A.length = 18 := hA.1.symm
 have hCz : CL.length = 14 := by rw [← hCL]; rfl
 have hIO := fun W (hW : Below w.heap.size w W) => isOf_s ts tv own ov A p.ty W (hs.later hW).rt (zAB hs.ro) hA1 i hi e1
 have hHO : seq ts[i].n p.ty = true → ∀ W, Below w.heap.size w W → Calls Tryz.prog 45 #[snV tv own ov wv kv, .agg CL.toArray] W fun e w' => e = .returned (.bool (hld ts ws own kn 8 p.c)) ∧ Below W.heap.size W w' := fun hq W hW => by
  rw [← hCL]
  rcases hp.2 with h0 | h0
  . have e : hld ts ws own kn 8 p.c = true := by rw [hld, if_pos h0]
    rw [e]
    exact zFS ts ws own kn tv ov wv kv p.c vc W (hs.later hW) (o2.later hW) h0
  . have e2 : tyq ts p.ty = (i : Int) := by rw [← zBR hq]; exact hd i hi
    refine zG8 ts ws own kn tv ov wv kv hk 8 p.c vc W (hs.later hW) (o2.later hW) hw ?_
    rw [e2, Int.toNat_natCast, zAS hi] at h0
    rw [et]
    exact h0
 unfold tkb
 rw [et]
 obtain ⟨q1, hq1⟩ : ∃ q, seq ts[i].n p.ty = q := ⟨_, rfl⟩
 obtain ⟨q2, hq2⟩ : ∃ q, hld ts ws own kn 8 p.c = q := ⟨_, rfl⟩
 rw [hq1] at hIO hHO ⊢
 rw [hq2] at hHO ⊢
 clear hk hd hp hw hA z1 o2 hCL hA1 hi e1 et hq1 hq2
 obtain ⟨B, hAB⟩ := hAC
 obtain ⟨tp, tn, tc, htv⟩ := zAB hs.rt
 obtain ⟨op, on2, oc, hov⟩ := zAB hs.ro
 obtain ⟨wp, wn, wc, hwv⟩ := zAB hs.rw
 obtain ⟨kp, kn2, kc, hkv⟩ := zAB hs.rk
 subst htv hov hwv hkv
 obtain ⟨on, ot, ost, oen, ovl⟩ := own
 simp only [snV, evV] at hIO hHO ⊢
 obtain ⟨UL, hUL⟩ : ∃ UL : List Value, [.slice tp tn tc, .int .i64 on, .int .i64 ot, .int .i64 ost, .int .i64 oen, .slice op on2 oc, .slice wp wn wc, .slice kp kn2 kc] = UL := ⟨_, rfl⟩
 obtain ⟨XL, hXL⟩ : ∃ XL : List Value, ([.int .i64 on, .int .i64 ot, .int .i64 ost, .int .i64 oen, .slice op on2 oc] : List Value) = XL := ⟨_, rfl⟩
 have hB : Bxs w (((w.alloc (.cells UL.toArray 100)).alloc (.cells A.toArray 48))) [(UL, 100), (A, 48)] := bxs2 w _ _ _ _
 have HIO : Hid (∀ W, Below w.heap.size w W → Calls Tryz.prog 44 #[.slice tp tn tc, .agg XL.toArray, .agg A.toArray] W fun e w' => e = .returned (.bool q1) ∧ Below W.heap.size W w') := fun W hW => by rw [← hXL]; exact hIO W hW
 have HHO : Hid (q1 = true → ∀ W, Below w.heap.size w W → Calls Tryz.prog 45 #[.agg UL.toArray, .agg CL.toArray] W fun e w' => e = .returned (.bool q2) ∧ Below W.heap.size W w') := fun hq W hW => by rw [← hUL]; exact hHO hq W hW
 have ZU : Hid ((Tryz.prog.info? 100).map (·.size) = some UL.length) := by show _ = _; rw [← hUL]; kernel_rfl
 have ZX : Hid ((Tryz.prog.info? 35).map (·.size) = some XL.length) := by show _ = _; rw [← hXL]; kernel_rfl
 have ZP : Hid ((Tryz.prog.info? 48).map (·.size) = some A.length) := by show _ = _; rw [hAz]; kernel_rfl
 have ZC : Hid ((Tryz.prog.info? 46).map (·.size) = some CL.length) := by show _ = _; rw [hCz]; kernel_rfl
 have hUX : UL = [.slice tp tn tc] ++ (XL ++ [.slice wp wn wc, .slice kp kn2 kc]) := by rw [← hUL, ← hXL]; rfl
 have cT : ((w.alloc (.cells UL.toArray 100)).alloc (.cells A.toArray 48)).cell? ⟨w.heap.size, 0, none⟩ = some (.slice tp tn tc) := by rw [show w.heap.size = w.heap.size + 0 from rfl, hB.c 0 (by simp) 0, ← hUL]; rfl
 have XE : Hid ((((w.alloc (.cells UL.toArray 100)).alloc (.cells A.toArray 48))).rangeAt w.heap.size 1 XL) := by
  have h := zBP (A := UL) (t := 100) (hB.b 0 (by simp)) (C := [Value.slice tp tn tc]) (B := XL ++ [Value.slice wp wn wc, Value.slice kp kn2 kc]) hUX rfl 5
  have e : (XL ++ [Value.slice wp wn wc, Value.slice kp kn2 kc]).take 5 = XL := by rw [← hXL]; rfl
  rw [e] at h
  exact h
 have XP := hid (hB.r 1 (by simp))
 have HXC : Hid (∀ W, Bxs w W [(UL, 100), (A, 48)] → W.rangeAt (w.heap.size + 1) 2 CL) := fun W h => by
  have h := zBP (A := A) (t := 48) (h.b 1 (by simp)) (C := [Value.string p.va, Value.string p.ty]) (B := CL ++ B) hAB rfl 14
  have e : (CL ++ B).take 14 = CL := by rw [List.take_append_of_le_length (by omega), List.take_of_length_le (by omega)]
  rw [e] at h
  exact h
 have hsv : (Value.agg #[.slice tp tn tc, .int .i64 on, .int .i64 ot, .int .i64 ost, .int .i64 oen, .slice op on2 oc, .slice wp wn wc, .slice kp kn2 kc]) = .agg UL.toArray := by rw [← hUL]
 rw [hsv]
 have HB := hid hB
 clear hB hs hIO hHO hUL hXL hAB hAz hCz hUX hsv
 cases q1 with
 | true =>
  have HH2 := hid (HHO.out rfl)
  go_enter Tryz.func27, Tryz.ntmps27
  go_wp2_with (first
    | ((with_reducible refine gLq ?_); refine wpList_load_mid (by rfl) 35 _ (by rfl) w.heap.size 1 (by rfl) XL _ XE.out Tryz.underlying35 rfl ZX.out ?_)
    | ((with_reducible refine gLq ?_); refine wpList_load_mid (by rfl) 48 _ (by rfl) (w.heap.size + 1) 0 (by rfl) A _ XP.out Tryz.underlying48 rfl ZP.out ?_))
  refine (HIO.out _ HB.out.bel).mono ?_
  rintro e w1 ⟨rfl, hb1⟩
  have HB1 := hid (HB.out.next hb1)
  clear hb1 cT XE XP
  have XS := hid (HB1.out.r 0 (by simp))
  have XC := hid (HXC.out _ HB1.out)
  go_wp2_with (first
    | ((with_reducible refine gLq ?_); refine zAQ (by rfl) 100 _ (by rfl) w.heap.size 0 (by rfl) UL _ XS.out Tryz.underlying100 rfl ZU.out ?_)
    | ((with_reducible refine gLq ?_); refine zAQ (by rfl) 46 _ (by rfl) (w.heap.size + 1) 2 (by rfl) CL _ XC.out Tryz.underlying46 rfl ZC.out ?_))
  refine (HH2.out _ HB1.out.bel).mono ?_
  rintro e w2 ⟨rfl, hb2⟩
  have HB2 := hid (HB1.out.next hb2)
  clear hb2
  go_wp2_with fail
  go_ret
  exact ⟨zAO (by simp), HB2.out.bel⟩
 | false =>
  go_enter Tryz.func27, Tryz.ntmps27
  go_wp2_with (first
    | ((with_reducible refine gLq ?_); refine wpList_load_mid (by rfl) 35 _ (by rfl) w.heap.size 1 (by rfl) XL _ XE.out Tryz.underlying35 rfl ZX.out ?_)
    | ((with_reducible refine gLq ?_); refine wpList_load_mid (by rfl) 48 _ (by rfl) (w.heap.size + 1) 0 (by rfl) A _ XP.out Tryz.underlying48 rfl ZP.out ?_))
  refine (HIO.out _ HB.out.bel).mono ?_
  rintro e w1 ⟨rfl, hb1⟩
  have HB1 := hid (HB.out.next hb1)
  clear hb1
  go_wp2_with fail
  go_ret
  exact ⟨zAO (by simp), HB1.out.bel⟩
def efs (ts : List Tp) : List Ev → Int
  | [] => 0
  | x :: r => if evk ts x ≠ 0 then evk ts x else efs ts r
theorem zGP {ts : List Tp} : ∀ (l : List Ev), efs ts l = 0 → ∀ x, x ∈ l → evk ts x = 0
 | [], _, x, hx => by cases hx
 | y :: r, h, x, hx => by
  rw [efs] at h
  split at h
  . rename_i c; exact absurd h c
  . rename_i c
    rcases List.mem_cons.1 hx with rfl | hx
    . exact Classical.byContradiction c
    . exact zGP r h x hx
def kfs (ts : List Tp) : List Ev → List Pt → Int
  | x :: r, p :: q => if seq (ts.getD x.t.toNat dT).n p.ty = true then kfs ts r q else 13
  | _, _ => 0
def knk (ts : List Tp) (ws : List Pt) (kn : List Ev) : Int := if kn.length ≠ ws.length then 4 else kfs ts kn ws
theorem kfs_ok {ts : List Tp} (hd : Dst ts) : ∀ (kn : List Ev) (ws : List Pt), kfs ts kn ws = 0 → (∀ x, x ∈ kn → evk ts x = 0) → ∀ j (hj : j < kn.length) (hw : j < ws.length), evk ts kn[j] = 0 ∧ tyq ts ws[j].ty = kn[j].t
 | [], _, _, _, j, hj, _ => by simp at hj
 | _ :: _, [], _, _, j, _, hw => by simp at hw
 | x :: r, p :: q, h, hk, j, hj, hw => by
  rw [kfs] at h
  split at h
  . rename_i c
    cases j with
    | zero =>
     have he := hk x (List.mem_cons_self ..)
     obtain ⟨i, hi, e1, _, _⟩ := zED he
     rw [e1, Int.toNat_natCast, zAS hi] at c
     exact ⟨he, by show tyq ts p.ty = x.t; rw [e1, ← zBR c]; exact hd i hi⟩
    | succ j => exact kfs_ok hd r q h (fun y hy => hk y (List.mem_cons_of_mem _ hy)) j (by simpa using hj) (by simpa using hw)
  . omega
theorem knk_ok {ts : List Tp} {ws : List Pt} {kn : List Ev} (hd : Dst ts) (h : knk ts ws kn = 0) (hk : ∀ x, x ∈ kn → evk ts x = 0) : Kok ts ws kn := by
 unfold knk at h
 split at h
 . omega
 . rename_i c
   exact ⟨Classical.byContradiction c, kfs_ok hd kn ws h hk⟩
theorem ent_isof : ∀ args w, (callFunc 44 args).run Tryz.prog w = .ok (.enter 44 args) w := enters_of Tryz.func44 (by kernel_rfl) rfl
theorem wp_bd {P : Program} {ops : Array Oper} {rest : List Oper} {op : Oper} {a : Act} {w : World} {Q : Exit → Act → World → Prop} (hgd : op.guard = none) (t : TypeId) (parts : Array (Nat × Operand)) (ho : op.op = .build t parts) (vals : Array (Nat × Value)) (hp : (parts.map fun x => (x.1, a.eval x.2)) = vals) (v : Value) (hv : ∀ w, (Instr.build t vals).run P w = .ok v w)
  (h : wpList P ops Q rest (a.put op.dst v) w) : wpList P ops Q (op :: rest) a w :=
 wpList_plain hgd fun K hK => by
  unfold Oper.wp execOp
  simp only [ho, Sem.run_bind, hp, hv, Result.andThen_ok, Sem.run_pure]
  exact hK _ _ h
theorem bd_sn (tp up ap kp : Option Addr) (tn tc un uc an ac kn2 kc : Nat) (xn xt xs xe : Int) (w : World) : (Instr.build 100 #[(0, .slice tp tn tc), (1, .agg #[.int .i64 xn, .int .i64 xt, .int .i64 xs, .int .i64 xe, .slice up un uc]), (2, .slice ap an ac), (3, .slice kp kn2 kc)]).run Tryz.prog w = .ok (.agg #[.slice tp tn tc, .int .i64 xn, .int .i64 xt, .int .i64 xs, .int .i64 xe, .slice up un uc, .slice ap an ac, .slice kp kn2 kc]) w := by kernel_rfl
end Go.Proofs.YtnlmknbhppdliaaGreatDoor.Chk
