/-
  Operations one by one: what each yields. A condition, by the reference. A pattern, by the reference. A link, by the reference. A rule, by the reference. Windows and links of a rule's spans, by the program. A rule that is wrong at once, by the reference; every rule.
-/
import Derived.Deep.CutBlock
import Derived.Deep.LoopGhost
import Derived.Test.YtnlmknbhppdliaaGreatDoorCc
set_option maxHeartbeats 64000000
namespace Go.Proofs.YtnlmknbhppdliaaGreatDoor.Chk
open Go.ChangeShapes Go.WideShapes Go.ChangeAt Go.RowKit Go.Maps
set_option linter.unusedVariables false
set_option linter.unusedSimpArgs false
set_option maxRecDepth 20000
section
variable {P : Program} {o : Oper} {a : Act} {w : World} {K : Act → World → Prop} {Q : Exit → Act → World → Prop}
theorem zAM (v : Value) (h : (execOp a.eval o).run P w = .ok (.value v) w) (hk : K (a.put o.dst v) w) : Oper.wp P o a w K Q := by
  unfold Oper.wp
  rw [h]
  exact hk
theorem op_bd (t : TypeId) (parts : Array (Nat × Operand)) (ho : o.op = .build t parts) (vals : Array (Nat × Value)) (hp : (parts.map fun x => (x.1, a.eval x.2)) = vals) (v : Value) (hv : (Instr.build t vals).run P w = .ok v w) (hk : K (a.put o.dst v) w) : Oper.wp P o a w K Q := by
  unfold Oper.wp execOp
  simp only [ho, Sem.run_bind, hp, hv, Result.andThen_ok, Sem.run_pure]
  exact hk
theorem zA6 (x : Operand) (ho : o.op = .move x ∨ o.op = .assign x) (v : Value) (hx : a.eval x = v) (hk : K (a.put o.dst v) w) : Oper.wp P o a w K Q := by
  unfold Oper.wp execOp
  rcases ho with ho | ho <;> (simp only [ho, hx, Sem.run_bind, Sem.run_pure, Result.andThen_ok]; exact hk)
theorem op_st (ty : TypeId) (x y : Operand) (ho : o.op = .store ty x y) (b f : Nat) (cs : List Value) (U : TypeId) (v : Value) (vs : List Value) (hx : a.eval x = .pointer (some ⟨b, f, none⟩)) (hy : a.eval y = v) (hv : v.cells = vs.toArray) (hb : w.heap[b]? = some (.cells cs.toArray U (0, 0)))
  (hl : f + vs.length ≤ cs.length) (hi : (P.info? ty).map (·.size) = some vs.length) (h1 : vs.all (·.oneCell') = true)
  (h : ∀ w', w'.heap[b]? = some (.cells (ovr cs f vs).toArray U (0, 0)) → Fr (fun i => i = b) w w' → K (a.put o.dst undef) w') : Oper.wp P o a w K Q := by
 unfold Oper.wp execOp
 simp only [ho, hx, hy, Instr.storeAt, Instr.sureAddr, Sem.run_bind, Sem.run_pure, Result.andThen_ok, zI3 w b f ty v vs.toArray hv (zCU hb f _ (by simpa using hl)) (by simpa using hi) (all_oneCell_toArray (List.all_eq_true.1 h1))]
 exact h _ (zCL vs f cs w hb hl) ((Fr.refl (fun i => i = b) w).setCells (.inl rfl))
theorem op_al (t : TypeId) (ho : o.op = .alloc t) (zs : List Value) (hz : (Instr.alloc t true (.tuple #[])).run P w = .ok (.pointer (some ⟨w.heap.size, 0, none⟩)) (w.alloc (.cells zs.toArray t))) (hk : K (a.put o.dst (.pointer (some ⟨w.heap.size, 0, none⟩))) (w.alloc (.cells zs.toArray t))) : Oper.wp P o a w K Q := by
  unfold Oper.wp execOp
  simp only [ho, Sem.run_bind, hz, Result.andThen_ok, Sem.run_pure]
  exact hk
theorem zAD.cons {f : Nat → Oper → Prop} {k : Nat} {x : Oper} {l : List Oper} (h : f k x) (r : zAD f (k + 1) l) : zAD f k (x :: l) := ⟨h, r⟩
theorem zAD.nil {f : Nat → Oper → Prop} {k : Nat} : zAD f k [] := trivial
theorem zE5 (f : FuncId) (he : ∀ args w, (callFunc f args).run P w = .ok (.enter f args) w) (xs : Array Operand) (ts : Array TypeId) (ho : o.op = .call { callee := .value (.func f), args := xs, argTypes := ts }) (us : Array Value) (hx : xs.map a.eval = us) (R : Ending → World → Prop) (hc : Calls P f us w R) (h : ∀ e w', R e w' → ∃ v, e = .returned v ∧ K (a.put o.dst v) w') : Oper.wp P o a w K Q := by
  unfold Oper.wp execOp
  have hf : a.eval (.func f) = Value.func (Fn.func f) #[] #[] := rfl
  simp [ho, resolve, invoke, Deferred.ofValue, hf, hx, he]
  refine hc.mono ?_
  intro e w' hr
  obtain ⟨v, rfl, hk⟩ := h e w' hr
  exact hk
end
theorem ev_c (a : Act) (v : Value) : a.eval (.const v) = v := rfl
theorem zBR {w : World} : ∀ (vs : List Value), RdL w (vs.map Dat.lit) vs
  | [] => RdL.nil _
  | v :: r => .cons (.lit _) (zBR r)
def wbad (part w n : Int) : Prop := (part = 0 ∧ ¬ (0 ≤ w ∧ w ≤ 2)) ∨ (part = 1 ∧ w ≠ 0) ∨ (part = 2 ∧ w ≠ 1) ∨ (w = 0 ∧ n ≠ 0)
def rbad (w n : Int) : Prop := (w = 1 ∧ ¬ (0 ≤ n ∧ n ≤ 1073741824)) ∨ (w = 2 ∧ ¬ (1 ≤ n ∧ n ≤ 120))
instance (part w n : Int) : Decidable (wbad part w n) := by unfold wbad; infer_instance
instance (w n : Int) : Decidable (rbad w n) := by unfold rbad; infer_instance
def pck (ts : List Tp) (kn : List Pt) (ah : List ByteArray) (p : Pt) (part : Int) : Int :=
  if frn p.va ≠ 0 then frn p.va
  else if ah.any (fun a => seq a p.va) = true then 7
  else if tyq ts p.ty < 0 then 6
  else if wbad part p.w p.n then 4
  else if rbad p.w p.n then 2
  else if noc p.c = true then 0
  else (cdk ts kn (ts.getD (tyq ts p.ty).toNat ⟨txt [], []⟩) 8 p.c).2
def ofs : List Op3 → Int
  | [] => 0
  | o :: r => if ock o.r o.lo o.hi ≠ 0 then ock o.r o.lo o.hi else ofs r
def lck (ws ns : List Pt) (kl kr : ByteArray) (os : List Op3) : Int :=
  if (ptq ws kl < 0 ∧ ptq ns kl < 0) ∨ (ptq ws kr < 0 ∧ ptq ns kr < 0) then 6
  else if seq kl kr = true ∨ (ptq ws kl < 0 ∧ ptq ws kr < 0) then 4
  else if ¬ (1 ≤ os.length ∧ os.length ≤ 6) then 1
  else ofs os
theorem rdQ {w : World} {o : Op3} {vs : List Value} (h : RdL w (encQ o) vs) : vs = [.int .i64 o.r, .int .i64 o.lo, .int .i64 o.hi] := by
  obtain ⟨v0, r0, rfl, h0, h⟩ := RdL.one h
  obtain ⟨v1, r1, rfl, h1, h⟩ := RdL.one h
  obtain ⟨v2, r2, rfl, h2, h⟩ := RdL.one h
  rw [zAN h0, zAN h1, zAN h2, RdL.none h]
def wfs (X : Int) (ts : List Tp) (done : List Pt) : List Pt → Int
  | [] => X
  | p :: r => if pck ts done (done.map Pt.va) p 0 ≠ 0 then pck ts done (done.map Pt.va) p 0 else wfs X ts (done ++ [p]) r
def nfs (X : Int) (ts : List Tp) (ws : List Pt) (ah : List ByteArray) : List Pt → Int
  | [] => X
  | p :: r => if pck ts ws ah p 1 ≠ 0 then pck ts ws ah p 1 else nfs X ts ws (ah ++ [p.va]) r
def mbad (m : Mn) : Bool := (emp m.f && !(decide (1 ≤ m.c) && decide (m.c ≤ 120))) || !(decide (0 ≤ m.c) && decide (m.c ≤ 1125899906842624))
def mck (ts : List Tp) (ws : List Pt) (ah : List ByteArray) (m : Mn) : Int :=
  if mbad m = true then 2
  else if pck ts ws ah m.p 2 ≠ 0 then pck ts ws ah m.p 2
  else if emp m.f = true then 0 else sck (ts.getD (tyq ts m.p.ty).toNat ⟨txt [], []⟩).f m.f
def mfs (X : Int) (ts : List Tp) (ws : List Pt) (ah : List ByteArray) : List Mn → Int
  | [] => X
  | m :: r => if mck ts ws ah m ≠ 0 then mck ts ws ah m else mfs X ts ws (ah ++ [m.p.va]) r
def lfs (X : Int) (ws ns : List Pt) : List Lk → Int
  | [] => X
  | k :: r => if lck ws ns k.l k.r k.o ≠ 0 then lck ws ns k.l k.r k.o else lfs X ws ns r
def szs (r : Rl) : Prop := 1 ≤ r.w.length ∧ r.w.length ≤ 3 ∧ r.t.length ≤ 2 ∧ r.m.length ≤ 2 ∧ r.k.length ≤ 6
instance (r : Rl) : Decidable (szs r) := by unfold szs; infer_instance
def rck (ts : List Tp) (r : Rl) : Int :=
  if frn r.n ≠ 0 then frn r.n else if ¬ szs r then 1
  else wfs (nfs (mfs (lfs (eck ts r.w r.e.ty r.e.v) r.w r.t r.k) ts r.w (r.w.map Pt.va ++ r.t.map Pt.va) r.m) ts r.w (r.w.map Pt.va) r.t) ts [] r.w
theorem zBI {ts : List Tp} {kn : List Pt} {ah : List ByteArray} {p : Pt} {part : Int} (h : pck ts kn ah p part = 0) : ∃ i, ∃ _ : i < ts.length, tyq ts p.ty = (i : Int) := by
 rcases zBF (q := fun t : Tp => seq t.n p.ty) ts 0 with c | ⟨i, hi, c, _⟩
 . exfalso
   have c0 : tyq ts p.ty = -1 := c
   unfold pck at h
   split at h
   . rename_i h1; exact h1 h
   . split at h
     . omega
     . rw [if_pos (by rw [c0]; decide)] at h
       omega
 . exact ⟨i, hi, by show ixq _ _ _ = _; rw [c]; simp⟩
theorem zHP {ts : List Tp} {kn : List Pt} {p : Pt} (h : zBU ts kn) (hp : ∃ i, ∃ _ : i < ts.length, tyq ts p.ty = (i : Int)) : zBU ts (kn ++ [p]) := fun j hj => by
 by_cases c : j < kn.length
 . rw [List.getElem_append_left c]
   exact h j c
 . have e : j = kn.length := by simp at hj; omega
   subst e
   simpa using hp
theorem rdK {w : World} {k : Lk} {vs : List Value} (h : RdL w (encK k) vs) : ∃ v, vs = [.string k.l, v, .string k.r] ∧ Rd w (.row 63 3 (k.o.map encQ)) v := by
  obtain ⟨v0, r0, rfl, h0, h⟩ := RdL.one h
  obtain ⟨v1, r1, rfl, h1, h⟩ := RdL.one h
  obtain ⟨v2, r2, rfl, h2, h⟩ := RdL.one h
  rw [zAN h0, zAN h2, RdL.none h]
  exact ⟨v1, rfl, h1⟩
theorem zBA {cs vs : List Value} (h : vs.length = cs.length) : ovr cs 0 vs = vs := by
  unfold ovr
  simp [h]
theorem zAP {w w1 : World} {o : Obj} (h : Fr (fun i => i = w.heap.size) (w.alloc o) w1) : Below w.heap.size w w1 :=
  ⟨h.os, h.tape, h.output, by have := h.size; simp at this; omega, fun k hk => (h.block k (by simp; omega) (by omega)).trans (Below.heap_alloc _ _ _ hk)⟩
theorem zDQ {w : World} {b : Nat} {A B : List Value} {x y : Value} {t : TypeId} (h : w.heap[b]? = some (.cells A.toArray t (0, 0))) (hA : A = x :: y :: B) : w.rangeAt b 2 B := fun j v hv => by
  rw [zAB h, hA]
  rw [List.getElem?_toArray, show 2 + j = j + 1 + 1 by omega]
  simpa using hv
theorem zAC {w : World} {e z : Nat} {l : List (List Dat)} {v : Value} (h : Rd w (.row e z l) v) : ∃ p n cap, v = .slice p n cap := by
  cases h with
  | nil e z p cap h => exact ⟨_, _, _, rfl⟩
  | row e z l g off cap xs h1 h2 h3 h4 h5 h6 => exact ⟨_, _, _, rfl⟩
theorem zEF {ts : List Tp} {ws : List Pt} {ah : List ByteArray} {m : Mn} (h : mbad m = true) : mck ts ws ah m = 2 := by unfold mck; rw [if_pos h]
theorem zJP {ts : List Tp} {ws : List Pt} {ah : List ByteArray} {m : Mn} (h : mbad m = false) (h2 : pck ts ws ah m.p 2 ≠ 0) : mck ts ws ah m = pck ts ws ah m.p 2 := by unfold mck; rw [if_neg (by rw [h]; decide), if_pos h2]
theorem mck_ok {ts : List Tp} {ws : List Pt} {ah : List ByteArray} {m : Mn} (h : mbad m = false) (h2 : pck ts ws ah m.p 2 = 0) : mck ts ws ah m = if emp m.f = true then 0 else sck (ts.getD (tyq ts m.p.ty).toNat ⟨txt [], []⟩).f m.f := by unfold mck; rw [if_neg (by rw [h]; decide), if_neg (fun c => c h2)]
end Go.Proofs.YtnlmknbhppdliaaGreatDoor.Chk
namespace Go.Proofs.YtnlmknbhppdliaaGreatDoor.Chk
open Go.ChangeShapes Go.WideShapes Go.ChangeAt Go.RowKit Go.Maps
open B8 (Mx OwnM New zA5 lowZ leaZ greZ neeZ Bnd Gd fw)
set_option linter.unusedVariables false
set_option linter.unusedSimpArgs false
set_option maxRecDepth 20000
theorem zJV : ∀ args w, (callFunc 76 args).run Tryz.prog w = .ok (.enter 76 args) w := enters_of Tryz.func76 (by kernel_rfl) rfl
theorem zH2 : ∀ args w, (callFunc 74 args).run Tryz.prog w = .ok (.enter 74 args) w := enters_of Tryz.func74 (by kernel_rfl) rfl
theorem zI7 {w w' : World} {B b n : Nat} {L G C : Nat → Nat} {Z : Mx} {X : Nat → Prop} (h : OwnM w B b n L G C Z) (hn : 0 < n) (hf : Fr X w w') (h1 : ¬ X b) (h2 : ∀ i, i < n → 0 < L i → ¬ X (G i)) : OwnM w' B b n L G C Z := by
  refine ⟨h.bB, h.gB, h.gb, h.inj, h.cp, fun i hi => ?_, fun i hi h0 => (h.row i hi h0).of_block (hf.block _ (h.row i hi h0).lt (h2 i hi h0))⟩
  obtain ⟨q, hq, hg⟩ := h.top i hi
  refine ⟨q, ?_, hg⟩
  have hb : b < w.heap.size := World.block_lt_of_cell? _ _ hq
  have e := hf.block b hb h1
  unfold World.cell? at hq ⊢
  rw [e]
  exact hq
theorem zAU {B : Nat} {a w w' : World} {x : Nat} (hb : Below B a w) (hf : Fr (fun i => i = x) w w') (hx : B ≤ x) (hs : B ≤ a.heap.size) : Below B a w' :=
  ⟨hf.os.trans hb.os, hf.tape.trans hb.tape, hf.output.trans hb.output, Nat.le_trans hb.size hf.size, fun k hk => (hf.block k (Nat.lt_of_lt_of_le (Nat.lt_of_lt_of_le hk hs) hb.size) (by omega)).trans (hb.block k hk)⟩
theorem zE8 {w0 w W : World} {B : Nat} (h0 : Below w0.heap.size w0 w) (hB : w0.heap.size ≤ B) (h : Below B w W) : Below w0.heap.size w0 W := zAA h0 h hB
theorem zCQ (ws : List Pt) (hw : Wok ws) (hl : ws.length ≤ 3) (v : Value) (b n cap B : Nat) (G C : Nat → Nat) (Z : Mx) (w0 w : World) (h : OwnM w B b n (fun _ => n) G C Z) (hz : ∀ a c, a < n → c < n → Z a c = b2 ws 0 0 a c) (hn : n ≤ 12) (hn2 : 2 * ws.length ≤ n) (hn0 : 0 < n)
  (hW : Rd w0 (.row 48 18 (ws.map encP)) v) (hb0 : Below w0.heap.size w0 w) (hB0 : w0.heap.size ≤ B) (hBw : B ≤ w.heap.size) :
  Calls Tryz.prog 77 #[.slice (some ⟨b, 0, none⟩) n cap, v] w fun e w' => e = .returned (.tuple #[]) ∧ (∃ Q : Mx, OwnM w' B b n (fun _ => n) G C Q ∧ ∀ a c, a < n → c < n → Q a c = bas ws a c) ∧ Below B w w' := by
 obtain ⟨p, cp, rfl, hmx, hat⟩ := zAK lenP hW
 have HAT := hid hat
 have HO := hid h
 have HZ := hid hz
 have HN12 := hid hn
 have HN2 := hid hn2
 have HN0 := hid hn0
 have HOLD := hid (fun W (hW : Below B w W) => zE8 hb0 hB0 hW)
 have HBW := hid hBw
 have HWK := hid hw
 obtain ⟨nw, hnw⟩ : ∃ q, ws.length = q := ⟨_, rfl⟩
 have HNW := hid hnw
 rw [hnw] at hmx ⊢
 rw [hnw] at hn2 hl
 clear hat h hz hb0 hB0 hW hnw hw hBw hmx
 go_enter Tryz.func77, Tryz.ntmps77
 go_wp2_with fail
 go_loopg [9] (nw + 1) (fun gg io wr => ∃ (i : Nat) (Q : Mx), i ≤ nw ∧ gg = nw + 1 - i ∧ io = .int .i64 (i : Nat) ∧ OwnM wr B b n (fun _ => n) G C Q ∧ (∀ a c, a < n → c < n → Q a c = b2 ws i 0 a c) ∧ Below B w wr)
 case atStart => exact ⟨0, Z, by omega, by omega, rfl, HO.out, HZ.out, Below.refl _ _⟩
 case round =>
  obtain ⟨i, Q, hi, rfl, rfl, hO1, hQ1, hBr⟩ := hrel
  have HO1 := hid hO1
  have HZ1 := hid hQ1
  have HB1 := hid hBr
  clear hO1 hQ1
  by_cases hin : i < nw
  . have hic : i < ws.length := by have := HNW.out; omega
    obtain ⟨g, off, rfl, hrd⟩ := HAT.out (by omega)
    obtain ⟨A, r1, o1⟩ := hrd wr (HOLD.out wr hBr) i hic
    obtain ⟨vc, z1, o2⟩ := rdP o1
    obtain ⟨up, un, uc, hu⟩ := zAC o2
    rw [hu] at z1
    have hwa : wAt ws i = ws[i] := by unfold wAt; rw [List.getD_eq_getElem?_getD, List.getElem?_eq_getElem hic]; rfl
    have HWI := hid (HWK.out i hic)
    have HSK := hid (b2_skip ws i)
    have HNX := hid (b2_next ws i)
    have HSS := hid (fun k hk => b2_step ws i k hk)
    rw [hwa] at HWI HSK HSS
    obtain ⟨va, hva⟩ : ∃ x, ws[i].va = x := ⟨_, rfl⟩
    obtain ⟨ty, hty⟩ : ∃ x, ws[i].ty = x := ⟨_, rfl⟩
    obtain ⟨ck, hck⟩ : ∃ x, ws[i].c.k = x := ⟨_, rfl⟩
    obtain ⟨ol, hol⟩ : ∃ x, ws[i].c.l = x := ⟨_, rfl⟩
    obtain ⟨or_, hor⟩ : ∃ x, ws[i].c.r = x := ⟨_, rfl⟩
    obtain ⟨pw, hpw⟩ : ∃ x, ws[i].w = x := ⟨_, rfl⟩
    obtain ⟨pn, hpn⟩ : ∃ x, ws[i].n = x := ⟨_, rfl⟩
    rw [hva, hty, hck, hol, hor, hpw, hpn] at z1
    rw [hpw, hpn] at HWI
    rw [hpw] at HSK
    rw [hpw, hpn] at HSS
    rw [z1] at r1
    have XA := hid r1
    have i1 : (0 : Int) ≤ (i : Int) := by omega
    have i2 : (i : Int) < (nw : Int) := by omega
    have HIN := hid hin
    obtain ⟨bP, hbP⟩ : ∃ x, wr.heap.size = x := ⟨_, rfl⟩
    have HGP : Hid (∀ j, j < n → G j ≠ bP) := fun j hj => by have := (HO1.out.row j hj (by have := HN0.out; omega)).lt; omega
    have HbP := hid hbP
    clear hrd o1 o2 z1 r1 hu hva hty hck hol hor hpw hpn hwa hic hBr hin hi hbP
    by_cases hp1 : pw = 1
    . have d1 : (pw != 1) = false := by simp [hp1]
      obtain ⟨hp2, hp3⟩ := HWI.out hp1
      have HP := hid (And.intro hp1 (And.intro hp2 hp3))
      clear hp1 hp2 hp3
      go_wp2_with (first
      | ((with_reducible show wpList _ _ _ (Oper.mk _ (.load 48 _) _ _ _ _ :: _) _ _); refine wpList_load_mid (by rfl) 48 _ (by rfl) g (off + i * 18) (by rfl) (ptC va ty ck (.slice up un uc) ol or_ pw pn) _ XA.out Tryz.underlying48 rfl (by kernel_rfl) ?_)
      | ((with_reducible show wpList _ _ _ (Oper.mk _ (.store 48 _ _) _ _ _ _ :: _) _ _); refine zBL 48 wr.heap.size 0 pt0 48 (ptC va ty ck (.slice up un uc) ol or_ pw pn) (heap_alloc_new _ _) ?_ (hl := Nat.le_refl 18); intro w6 hq1 hq2; have HBP1 : Hid (w6.heap[wr.heap.size]? = some (.cells (ptC va ty ck (.slice up un uc) ol or_ pw pn).toArray 48 (0, 0))) := hq1; have HBW6 : Hid (Below wr.heap.size wr w6) := zAP hq2; have q3 : w6.cell? ⟨wr.heap.size, 16, none⟩ = some (.int .i64 pw) := zAB HBP1.out 16; clear hq1 hq2))
      have hbP := HbP.out
      rw [hbP] at HBP1 ⊢
      clear hbP
      have HB6 : Hid (Below B w w6) := zAA HB1.out HBW6.out (Nat.le_trans HBW.out HB1.out.size)
      have HO6 := hid (HO1.out.of_below HBW6.out)
      go_loopg [19] nw (fun gg ko wi => ∃ (k : Nat) (Q : Mx), k ≤ nw ∧ gg = nw - k ∧ ko = .int .i64 (k : Nat) ∧ OwnM wi B b n (fun _ => n) G C Q ∧ (∀ a c, a < n → c < n → Q a c = b2 ws i k a c) ∧ Below B w wi ∧ wi.heap[bP]? = some (.cells (ptC va ty ck (.slice up un uc) ol or_ pw pn).toArray 48 (0, 0)))
      case atStart => exact ⟨0, Q, by omega, by omega, rfl, HO6.out, HZ1.out, HB6.out, HBP1.out⟩
      case round =>
       obtain ⟨k, Q2, hk, rfl, rfl, hO2, hQ2, hB2, hbl⟩ := hrel
       have HO2 := hid hO2
       have HZ2 := hid hQ2
       have HB2 := hid hB2
       have HBP2 := hid hbl
       clear hO2 hQ2 hB2 hbl
       by_cases hkn : k < nw
       . have HEK := hid (fun W => B8.end_any k (by omega) W)
         have HEI := hid (fun W => B8.end_any i (by have := HIN.out; omega) W)
         have HST := hid (HSS.out k (by have := HNW.out; omega) HP.out.1 HP.out.2.1 HP.out.2.2)
         have HKI : Hid (2 * k + 1 < n ∧ 2 * i + 1 < n) := by have := HIN.out; show _ ∧ _; omega
         obtain ⟨K, hK⟩ : ∃ K, 2 * k + 1 = K := ⟨_, rfl⟩
         obtain ⟨I, hI⟩ : ∃ K, 2 * i + 1 = K := ⟨_, rfl⟩
         rw [hK] at HEK
         rw [hI] at HEI
         rw [hK, hI] at HST HKI
         have HKW : Hid (k + 1 ≤ nw) := hkn
         have k2 : (k : Int) < (nw : Int) := by omega
         clear hK hI hkn hk
         obtain ⟨WI, hWI⟩ : ∃ x, x = wr := ⟨_, rfl⟩
         subst hWI
         go_wp2_with fail
         refine zAT (by kernel_rfl) (fun i9 w9 v => ([(fun w9 v => v = .slice (some ⟨b, 0, none⟩) n cap), (fun w9 v => v = .int .i64 (k : Nat)), (fun w9 v => v = .int .i64 (K : Nat)), (fun w9 v => v = .int .i64 (i : Nat)), (fun w9 v => v = .int .i64 (I : Nat)), (fun w9 v => v = .pointer (some ⟨bP, 17, none⟩)), (fun w9 v => v = .int .i64 pn)] : List (World → Value → Prop)).getD i9 (fun _ _ => True) w9 v) (fun W => Below WI.heap.size WI W) 32 7 rfl rfl (by kernel_rfl) (by kernel_rfl) (fun W W' => Below W.heap.size W W') ?hmon (Below.drew (Below.refl _ _)) (zAD.cons ?o0 (zAD.cons ?o1 (zAD.cons ?o2 (zAD.cons ?o3 (zAD.cons ?o4 (zAD.cons ?o5 (zAD.cons ?o6 zAD.nil))))))) ?hend
         case hmon =>
          intro q W W' v hb h
          rcases q with _ | _ | _ | _ | _ | _ | _ | q
          . exact h
          . exact h
          . exact h
          . exact h
          . exact h
          . exact h
          . exact h
          . exact h
         case o0 =>
          intro a W hB hd ho
          have e0 : a.eval (.tmp 0) = .slice (some ⟨b, 0, none⟩) n cap := ho 0 (by kernel_rfl)
          exact zA6 _ (by simp) _ e0 ⟨_, rfl, rfl, hB, Below.refl _ _⟩
         case o1 =>
          intro a W hB hd ho
          have e6 : a.eval (.tmp 6) = .int .i64 (k : Nat) := ho 6 (by kernel_rfl)
          exact zA6 _ (by simp) _ e6 ⟨_, rfl, rfl, hB, Below.refl _ _⟩
         case o2 =>
          intro a W hB hd ho
          have e23 : a.eval (.tmp 23) = .int .i64 (k : Nat) := hd 1 23 (by kernel_rfl)
          refine zE5 76 zJV _ _ rfl #[.int .i64 (k : Nat)] (by simp [e23]) _ (HEK.out W) ?_
          rintro e W' ⟨rfl, rfl⟩
          exact ⟨_, rfl, _, rfl, rfl, hB, Below.refl _ _⟩
         case o3 =>
          intro a W hB hd ho
          have e4 : a.eval (.tmp 4) = .int .i64 (i : Nat) := ho 4 (by kernel_rfl)
          exact zA6 _ (by simp) _ e4 ⟨_, rfl, rfl, hB, Below.refl _ _⟩
         case o4 =>
          intro a W hB hd ho
          have e25 : a.eval (.tmp 25) = .int .i64 (i : Nat) := hd 3 25 (by kernel_rfl)
          refine zE5 76 zJV _ _ rfl #[.int .i64 (i : Nat)] (by simp [e25]) _ (HEI.out W) ?_
          rintro e W' ⟨rfl, rfl⟩
          exact ⟨_, rfl, _, rfl, rfl, hB, Below.refl _ _⟩
         case o5 =>
          intro a W hB hd ho
          have e5 : a.eval (.tmp 5) = .pointer (some ⟨bP, 0, none⟩) := ho 5 (by kernel_rfl)
          exact zAM (.pointer (some ⟨bP, 17, none⟩)) (by unfold execOp; simp only [ev_c, e5]; go_simp) ⟨_, rfl, rfl, hB, Below.refl _ _⟩
         case o6 =>
          intro a W hB hd ho
          have e27 : a.eval (.tmp 27) = .pointer (some ⟨bP, 17, none⟩) := hd 5 27 (by kernel_rfl)
          have c9 : W.cell? ⟨bP, 17, none⟩ = some (.int .i64 pn) := by
            rw [zAB ((hB.block _ (zAE HBP2.out)).trans HBP2.out)]
            rfl
          exact zAM (.int .i64 pn) (by unfold execOp; simp only [ev_c, e27]; go_simp) ⟨_, rfl, rfl, hB, Below.refl _ _⟩
         case hend =>
          intro vs W o ho hB hT
          have e0 : vs 0 = .slice (some ⟨b, 0, none⟩) n cap := hT 0 (by decide)
          have e1 : vs 1 = .int .i64 (k : Nat) := hT 1 (by decide)
          have e2 : vs 2 = .int .i64 (K : Nat) := hT 2 (by decide)
          have e3 : vs 3 = .int .i64 (i : Nat) := hT 3 (by decide)
          have e4 : vs 4 = .int .i64 (I : Nat) := hT 4 (by decide)
          have e5 : vs 5 = .pointer (some ⟨bP, 17, none⟩) := hT 5 (by decide)
          have e6 : vs 6 = .int .i64 pn := hT 6 (by decide)
          cases (show some _ = some o from ho)
          simp only [List.toList_toArray, List.take_succ_cons, List.take_zero, fill, if_true, Act.put, List.setIfInBounds_toArray, List.set_cons_zero, List.set_cons_succ, e0, e1, e2, e3, e4, e5, e6]
          refine zE5 74 zH2 _ _ rfl #[.slice (some ⟨b, 0, none⟩) n cap, .int .i64 (K : Nat), .int .i64 (I : Nat), .int .i64 pn] (by simp [Act.eval]) _ (B8.lower_any b n cap B K I G C Q2 pn W (HO2.out.of_below hB) HKI.out.1 HKI.out.2 HN12.out) ?_
          rintro e W' ⟨rfl, hO3, hF3⟩
          refine ⟨_, rfl, ?_⟩
          have HO3 := hid hO3
          have HBP3 : Hid (W'.heap[bP]? = some (.cells (ptC va ty ck (.slice up un uc) ol or_ pw pn).toArray 48 (0, 0))) := (hF3.block _ (by have := zAE HBP2.out; have := hB.size; omega) (by have h7 := (HO2.out.row K HKI.out.1 (by have := HKI.out; omega)).lt; have h8 := HGP.out K HKI.out.1; exact fun c => h8 c.symm)).trans ((hB.block _ (zAE HBP2.out)).trans HBP2.out)
          have HB3 : Hid (Below B w W') := zAU (zAA HB2.out hB (Nat.le_trans HBW.out HB2.out.size)) hF3 (HO2.out.gB K HKI.out.1 (by have := HKI.out; omega)) HBW.out
          clear hB hT hO3 hF3 e0 e1 e2 e3 e4 e5 e6
          clear vs
          go_wp2_with fail
          go_roundg (nw - (k + 1))
          case rel =>
            refine ⟨k + 1, _, HKW.out, rfl, by go_num, HO3.out, fun a c ha hc => ?_, HB3.out, HBP3.out⟩
            have e1 := HZ2.out a c ha hc
            have e2 : ∀ a c, a < n → c < n → lowZ Q2 K I pn a c = lowZ (b2 ws i k) K I pn a c := fun a c ha hc => by
             unfold lowZ B8.upd
             rw [HZ2.out a c ha hc, HZ2.out K I HKI.out.1 HKI.out.2]
            rw [e2 a c ha hc]
            exact HST.out a c
          case measure => have := HKW.out; omega
       . obtain rfl : k = nw := by omega
         go_wp2_with fail
         go_roundg (k + 1 - (i + 1))
         case rel => exact ⟨i + 1, Q2, HIN.out, rfl, by go_num, HO2.out, fun a c ha hc => by rw [HZ2.out a c ha hc, ← HNX.out, HNW.out], HB2.out⟩
         case measure => have := HIN.out; omega
    . have d1 : (pw != 1) = true := by simpa using hp1
      have HSK2 := hid (HSK.out hp1)
      clear hp1
      go_wp2_with (first
      | ((with_reducible show wpList _ _ _ (Oper.mk _ (.load 48 _) _ _ _ _ :: _) _ _); refine wpList_load_mid (by rfl) 48 _ (by rfl) g (off + i * 18) (by rfl) (ptC va ty ck (.slice up un uc) ol or_ pw pn) _ XA.out Tryz.underlying48 rfl (by kernel_rfl) ?_)
      | ((with_reducible show wpList _ _ _ (Oper.mk _ (.store 48 _ _) _ _ _ _ :: _) _ _); refine zBL 48 wr.heap.size 0 pt0 48 (ptC va ty ck (.slice up un uc) ol or_ pw pn) (heap_alloc_new _ _) ?_ (hl := Nat.le_refl 18); intro w6 hq1 hq2; have HBP1 : Hid (w6.heap[wr.heap.size]? = some (.cells (ptC va ty ck (.slice up un uc) ol or_ pw pn).toArray 48 (0, 0))) := hq1; have HBW6 : Hid (Below wr.heap.size wr w6) := zAP hq2; have q3 : w6.cell? ⟨wr.heap.size, 16, none⟩ = some (.int .i64 pw) := zAB HBP1.out 16; clear hq1 hq2))
      go_roundg (nw + 1 - (i + 1))
      case rel => exact ⟨i + 1, Q, HIN.out, rfl, by go_num, HO1.out.of_below HBW6.out, fun a c ha hc => by rw [HZ1.out a c ha hc, HSK2.out], zAA HB1.out HBW6.out (Nat.le_trans HBW.out HB1.out.size)⟩
      case measure => have := HIN.out; omega
  . obtain rfl : i = nw := by omega
    clear hBr
    go_wp2_with fail
    refine bodyPost_end (results_none rfl _ _ _) rfl ?_
    exact ⟨rfl, ⟨Q, HO1.out, fun a c ha hc => by rw [HZ1.out a c ha hc]; unfold bas; rw [HNW.out]⟩, HB1.out⟩
end Go.Proofs.YtnlmknbhppdliaaGreatDoor.Chk
namespace Go.Proofs.YtnlmknbhppdliaaGreatDoor.Chk
open Go.ChangeShapes Go.WideShapes Go.ChangeAt Go.RowKit Go.Maps
set_option linter.unusedVariables false
set_option linter.unusedSimpArgs false
set_option maxRecDepth 20000
end Go.Proofs.YtnlmknbhppdliaaGreatDoor.Chk
