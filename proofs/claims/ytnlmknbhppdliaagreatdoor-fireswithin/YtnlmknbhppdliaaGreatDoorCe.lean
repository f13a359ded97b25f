/-
  Conditions, by the reference. Does a rule speak of a type? By the reference. What comes of what, by the reference. A type, by the reference. The first elements of a row that is only read. Conditions within conditions, by the reference. What a rule emits, by the reference. A book, by the reference. A condition, by the reference. A pattern, by the reference. A link, by the reference. A rule, by the reference. A rule that is wrong at once, by the reference; every rule. A book, by the reference. Values, names, types and events in plain words. What Check and the document say of a value. What Name and the document say of a name. What checkAll says of values, one by one. How two values compare. Compare, and what the document says of it. The walk of Compare, and of the law over it. Fields: which one has a name; what is wrong with one.
-/
import Derived.Deep.CutBlock
import Derived.Deep.LoopGhost
import Derived.Test.YtnlmknbhppdliaaGreatDoorRows
import Derived.Handy
import Derived.WalkSmall
import Derived.Deep.QuietTactic
import Derived.BigQuiet
import Derived.Deep.RegionHeld3
import Derived.Deep.RegionLaw
import Derived.OwnWalk
import Derived.Lib.Bytealg
import Derived.Test.YtnlmknbhppdliaaGreatDoorA
set_option maxHeartbeats 64000000
namespace Go.Proofs.YtnlmknbhppdliaaGreatDoor.Chk
open Go.ChangeShapes Go.WideShapes Go.ChangeAt Go.RowKit Go.Maps
set_option linter.unusedVariables false
set_option linter.unusedSimpArgs false
set_option maxRecDepth 20000
def eqz (o : Opd) : Bool := decide (o.k = 0) && decide (o.vk = 0) && decide (o.vi = 0) && emp o.vt && emp o.va && emp o.fd
def noc (c : Cn) : Bool := decide (c.k = 0) && decide (c.sb.length = 0) && eqz c.l && eqz c.r
def decO : List Dat → Option Opd
  | [.lit (.int .i64 a), .lit (.int .i64 b), .lit (.int .i64 c), .lit (.string x), .lit (.string y), .lit (.string z)] => some ⟨a, b, c, x, y, z⟩
  | _ => none
def decC : List Dat → Option Cn
  | .lit (.int .i64 k) :: .row _ _ sb :: rest => (match decO (rest.take 6), decO (rest.drop 6) with | some l, some r => some ⟨k, sb, l, r⟩ | _, _ => none)
  | _ => none
theorem decC_enc (c : Cn) : decC (encC c) = some c := rfl
def subs (c : Cn) : List Cn := c.sb.filterMap decC
theorem zHJ : ∀ cs : List Cn, (cs.map encC).filterMap decC = cs
  | [] => rfl
  | x :: r => by rw [List.map_cons, List.filterMap_cons, decC_enc, zHJ r]
theorem zHF {c : Cn} {cs : List Cn} (h : c.sb = cs.map encC) : subs c = cs := by
  unfold subs
  rw [h]
  exact zHJ cs
def cgo (f : Cn → Int × Int) : List Cn → Int → Int × Int
  | [], m => (m, 0)
  | x :: r, m => if (f x).2 ≠ 0 then (0, (f x).2) else if 12 < m + (f x).1 then (0, 1) else cgo f r (m + (f x).1)
def cdk (ts : List Tp) (kn : List Pt) (own : Tp) : Nat → Cn → Int × Int
  | 0, c => if 1 ≤ c.k ∧ c.k ≤ 7 then (0, 14) else (0, 3)
  | n + 1, c =>
    if ¬ (1 ≤ c.k ∧ c.k ≤ 7) then (0, 3)
    else if 3 < c.k then
      (if c.sb.length ≠ 0 then (0, 4)
       else if (sdk ts kn own c.l).2 ≠ 0 then (0, (sdk ts kn own c.l).2)
       else if (sdk ts kn own c.r).2 ≠ 0 then (0, (sdk ts kn own c.r).2)
       else if (sdk ts kn own c.l).1 ≠ (sdk ts kn own c.r).1 then (0, 13) else (1, 0))
    else if eqz c.l = false ∨ eqz c.r = false then (0, 4)
    else if (c.k = 3 ∧ c.sb.length ≠ 1) ∨ (c.k ≠ 3 ∧ c.sb.length < 2) then (0, 4)
    else cgo (cdk ts kn own n) (subs c) 0
structure Blk2 (w0 w : World) (us vs : List Value) (t1 t2 : TypeId) : Prop where
  bel : Below w0.heap.size w0 w
  b1 : w.heap[w0.heap.size]? = some (.cells us.toArray t1 (0, 0))
  b2 : w.heap[w0.heap.size + 1]? = some (.cells vs.toArray t2 (0, 0))
theorem Blk2.start (w : World) (us vs : List Value) (t1 t2 : TypeId) : Blk2 w ((w.alloc (.cells us.toArray t1)).alloc (.cells vs.toArray t2)) us vs t1 t2 :=
  ⟨((Below.refl _ _).alloc (Nat.le_refl _) _).alloc (by simp) _, (Below.heap_alloc _ _ _ (by simp)).trans (heap_alloc_new _ _), zC0 _ _ _⟩
section
variable {w0 w w' : World} {us vs : List Value} {t1 t2 : TypeId}
theorem Blk2.next (h : Blk2 w0 w us vs t1 t2) (hb : Below w.heap.size w w') : Blk2 w0 w' us vs t1 t2 := ⟨zAA h.bel hb h.bel.size, (hb.block _ (zAH h.b1)).trans h.b1, (hb.block _ (zAH h.b2)).trans h.b2⟩
theorem Blk2.drew (h : Blk2 w0 w us vs t1 t2) : Blk2 w0 w.drew us vs t1 t2 := ⟨h.bel.drew, h.b1, h.b2⟩
theorem Blk2.alloc (h : Blk2 w0 w us vs t1 t2) (o : Obj) : Blk2 w0 (w.alloc o) us vs t1 t2 := h.next ((Below.refl _ _).alloc (Nat.le_refl _) _)
theorem Blk2.c1 (h : Blk2 w0 w us vs t1 t2) (j : Nat) : w.cell? ⟨w0.heap.size, j, none⟩ = us[j]? := by rw [zAC h.b1]; simp
theorem Blk2.c2 (h : Blk2 w0 w us vs t1 t2) (j : Nat) : w.cell? ⟨w0.heap.size + 1, j, none⟩ = vs[j]? := by rw [zAC h.b2]; simp
end
theorem hid {p : Prop} (h : p) : Hid p := h
def CR (w : World) (r : Int × Int) (e : Ending) (w' : World) : Prop := ∃ m : Int, e = .returned (.tuple #[.int .i64 m, .int .i64 r.2]) ∧ (r.2 = 0 → m = r.1) ∧ Below w.heap.size w w'
theorem rdM {w : World} {m : Mn} {vs : List Value} (h : RdL w (encM m) vs) : ∃ us, vs = .int .i64 m.c :: .string m.f :: us ∧ RdL w (encP m.p) us := by
  obtain ⟨v0, r0, rfl, h0, h⟩ := RdL.one h
  obtain ⟨v1, r1, rfl, h1, h⟩ := RdL.one h
  rw [zAI h0, zAI h1]
  exact ⟨r1, rfl, h⟩
def spk (ws ns : List Pt) (ms : List Mn) (n : ByteArray) : Bool := ws.any (fun p => seq p.ty n) || ns.any (fun p => seq p.ty n) || ms.any (fun m => seq m.p.ty n)
theorem rdR {w : World} {r : Rl} {vs : List Value} (h : RdL w (encR r) vs) : ∃ v1 v2 v3 v4 v5, vs = [.string r.n, v1, v2, v3, v4, .string r.e.ty, v5] ∧ Rd w (.row 48 18 (r.w.map encP)) v1 ∧ Rd w (.row 48 18 (r.t.map encP)) v2 ∧ Rd w (.row 78 20 (r.m.map encM)) v3 ∧ Rd w (.row 66 3 (r.k.map encK)) v4 ∧ Rd w (.row 44 6 (r.e.v.map encO)) v5 := by
  obtain ⟨v0, r0, rfl, h0, h⟩ := RdL.one h
  obtain ⟨v1, r1, rfl, h1, h⟩ := RdL.one h
  obtain ⟨v2, r2, rfl, h2, h⟩ := RdL.one h
  obtain ⟨v3, r3, rfl, h3, h⟩ := RdL.one h
  obtain ⟨v4, r4, rfl, h4, h⟩ := RdL.one h
  obtain ⟨v5, r5, rfl, h5, h⟩ := RdL.one h
  obtain ⟨v6, r6, rfl, h6, h⟩ := RdL.one h
  rw [zAI h0, zAI h5, RdL.none h]
  exact ⟨v1, v2, v3, v4, v6, rfl, h1, h2, h3, h4, h6⟩
def cmo (rs : List Rl) (tt : ByteArray) : Nat → ByteArray → Bool
  | 0, _ => false
  | n + 1, nm => rs.any fun x => !(emp x.e.ty) && (spk x.w x.t x.m nm && (seq x.e.ty tt || cmo rs tt n x.e.ty))
def fdk (f : Fd) : Int := if nchk f.n ≠ 0 then nchk f.n else if 1 ≤ f.k ∧ f.k ≤ 2 then 0 else 3
def tfs (done : List Fd) : List Fd → Int
  | [] => 0
  | f :: r => if fdk f ≠ 0 then fdk f else if done.any (fun d => seq d.n f.n) = true then 7 else tfs (done ++ [f]) r
def tyk (n : ByteArray) (fs : List Fd) : Int := if nchk n ≠ 0 then nchk n else if 4 < fs.length then 1 else tfs [] fs
end Go.Proofs.YtnlmknbhppdliaaGreatDoor.Chk
namespace Go.Proofs.YtnlmknbhppdliaaGreatDoor.Chk
open Go.ChangeShapes Go.WideShapes Go.ChangeAt Go.RowKit Go.Maps
set_option linter.unusedVariables false
set_option linter.unusedSimpArgs false
end Go.Proofs.YtnlmknbhppdliaaGreatDoor.Chk
namespace Go.Proofs.YtnlmknbhppdliaaGreatDoor.Chk
open Go.ChangeShapes Go.WideShapes Go.ChangeAt Go.RowKit Go.Maps
set_option linter.unusedVariables false
set_option linter.unusedSimpArgs false
set_option maxRecDepth 20000
theorem zEL (f : Cn → Int × Int) (hf : ∀ x, 0 ≤ (f x).1 ∧ (f x).1 ≤ 12) : ∀ l m, 0 ≤ m ∧ m ≤ 12 → 0 ≤ (cgo f l m).1 ∧ (cgo f l m).1 ≤ 12
 | [], m, h => h
 | x :: r, m, h => by
  unfold cgo
  split
  . exact ⟨by simp, by simp⟩
  . split
    . exact ⟨by simp, by simp⟩
    . rename_i c
      exact zEL f hf r _ ⟨by have := (hf x).1; omega, by omega⟩
theorem zEP (ts : List Tp) (kn : List Pt) (own : Tp) : ∀ n c, 0 ≤ (cdk ts kn own n c).1 ∧ (cdk ts kn own n c).1 ≤ 12
 | 0, c => by unfold cdk; split <;> exact ⟨by simp, by simp⟩
 | n + 1, c => by
  unfold cdk
  repeat' split
  all_goals first
   | exact zEL _ (zEP ts kn own n) _ _ ⟨by decide, by decide⟩
   | exact ⟨by simp, by simp⟩
theorem zCI {w : World} {c : Cn} {vs : List Value} (h : RdL w (encC c) vs) : ∃ v, vs = cnC c.k v c.l c.r ∧ Rd w (.row 46 14 c.sb) v := by
  obtain ⟨v2, r2, rfl, h2, h⟩ := RdL.one h
  obtain ⟨v3, r3, rfl, h3, h⟩ := RdL.one h
  obtain ⟨a0, r4, rfl, g0, h⟩ := RdL.one h
  obtain ⟨a1, r4, rfl, g1, h⟩ := RdL.one h
  obtain ⟨a2, r4, rfl, g2, h⟩ := RdL.one h
  obtain ⟨a3, r4, rfl, g3, h⟩ := RdL.one h
  obtain ⟨a4, r4, rfl, g4, h⟩ := RdL.one h
  obtain ⟨a5, r4, rfl, g5, h⟩ := RdL.one h
  obtain ⟨b0, r4, rfl, k0, h⟩ := RdL.one h
  obtain ⟨b1, r4, rfl, k1, h⟩ := RdL.one h
  obtain ⟨b2, r4, rfl, k2, h⟩ := RdL.one h
  obtain ⟨b3, r4, rfl, k3, h⟩ := RdL.one h
  obtain ⟨b4, r4, rfl, k4, h⟩ := RdL.one h
  obtain ⟨b5, r4, rfl, k5, h⟩ := RdL.one h
  rw [zAI h2, zAI g0, zAI g1, zAI g2, zAI g3, zAI g4, zAI g5, zAI k0, zAI k1, zAI k2, zAI k3, zAI k4, zAI k5, RdL.none h]
  exact ⟨v3, rfl, h3⟩
theorem rdO {w : World} {o : Opd} {vs : List Value} (h : RdL w (encO o) vs) : vs = [.int .i64 o.k, .int .i64 o.vk, .int .i64 o.vi, .string o.vt, .string o.va, .string o.fd] := by
  obtain ⟨v0, r0, rfl, h0, h⟩ := RdL.one h
  obtain ⟨v1, r1, rfl, h1, h⟩ := RdL.one h
  obtain ⟨v2, r2, rfl, h2, h⟩ := RdL.one h
  obtain ⟨v3, r3, rfl, h3, h⟩ := RdL.one h
  obtain ⟨v4, r4, rfl, h4, h⟩ := RdL.one h
  obtain ⟨v5, r5, rfl, h5, h⟩ := RdL.one h
  rw [zAI h0, zAI h1, zAI h2, zAI h3, zAI h4, zAI h5, RdL.none h]
def evs (ts : List Tp) (ws : List Pt) (t : Tp) : List Opd → List Fd → Int
  | o :: r, f :: g => if o.k = 2 then 4 else if (sdk ts ws t o).2 ≠ 0 then (sdk ts ws t o).2 else if (sdk ts ws t o).1 ≠ f.k then 13 else evs ts ws t r g
  | _, _ => 0
def eck (ts : List Tp) (ws : List Pt) (ety : ByteArray) (vs : List Opd) : Int :=
  if emp ety = true then (if 0 < vs.length then 4 else 0)
  else if tyq ts ety < 0 then 6
  else if vs.length ≠ (ts.getD (tyq ts ety).toNat ⟨txt [], []⟩).f.length then 13
  else evs ts ws (ts.getD (tyq ts ety).toNat ⟨txt [], []⟩) vs (ts.getD (tyq ts ety).toNat ⟨txt [], []⟩).f
def tks (done : List Tp) : List Tp → Int
  | [] => 0
  | t :: r => if tyk t.n t.f ≠ 0 then tyk t.n t.f else if kpt t.n = true then 4 else if t.f.any (fun f => kpt f.n) = true then 4 else if 0 ≤ tyq done t.n then 7 else tks (done ++ [t]) r
def rks (rk : Rl → Int) (done : List Rl) : List Rl → Int
  | [] => 0
  | x :: r => if rk x ≠ 0 then rk x else if done.any (fun d => seq d.n x.n) = true then 7 else rks rk (done ++ [x]) r
def bkf (rk : Rl → Int) (ts : List Tp) (rs : List Rl) : Int :=
  if 6 < ts.length ∨ 5 < rs.length then 1
  else if tks [] ts ≠ 0 then tks [] ts
  else if rks rk [] rs ≠ 0 then rks rk [] rs
  else if ts.any (fun t => cmo rs t.n rs.length t.n) = true then 15 else 0
theorem zAX {ops : Array Oper} {o : Oper} {a : Act} {w : World} {K : Act → World → Prop} {Q : Exit → Act → World → Prop} {E : Prop} (f : FuncId) (he : ∀ args w, (callFunc f args).run Tryz.prog w = .ok (.enter f args) w) (hw : Region.wanted o (yielded ops a.tmps) = true) (x1 x2 : Operand) (ts : Array TypeId) (ho : o.op = .call { callee := .value (.func f), args := #[x1, x2], argTypes := ts }) (u1 u2 : Value) (h1 : a.eval x1 = u1) (h2 : a.eval x2 = u2)
  (R : Ending → World → Prop) (hc : Calls Tryz.prog f #[u1, u2] w R) (h : ∀ e w', R e w' → ∃ v, e = .returned v ∧ K (a.put o.dst v) w') :
  if Region.wanted o (yielded ops a.tmps) = true then Oper.wp Tryz.prog o a w K Q else E := by
 rw [if_pos hw]
 unfold Oper.wp execOp
 have hf : a.eval (.func f) = Value.func (Fn.func f) #[] #[] := rfl
 simp [ho, resolve, invoke, Deferred.ofValue, hf, h1, h2, he]
 refine hc.mono ?_
 intro e w' hr
 obtain ⟨v, rfl, hk⟩ := h e w' hr
 exact hk
def wbad (part w n : Int) : Prop := (part = 0 ∧ ¬ (0 ≤ w ∧ w ≤ 2)) ∨ (part = 1 ∧ w ≠ 0) ∨ (part = 2 ∧ w ≠ 1) ∨ (w = 0 ∧ n ≠ 0)
def rbad (w n : Int) : Prop := (w = 1 ∧ ¬ (0 ≤ n ∧ n ≤ 1073741824)) ∨ (w = 2 ∧ ¬ (1 ≤ n ∧ n ≤ 120))
instance (part w n : Int) : Decidable (wbad part w n) := by unfold wbad; infer_instance
instance (w n : Int) : Decidable (rbad w n) := by unfold rbad; infer_instance
def pck (ts : List Tp) (kn : List Pt) (ah : List ByteArray) (p : Pt) (part : Int) : Int :=
  if frn p.va ≠ 0 then frn p.va
  else if ah.any (fun a => seq a p.va) = true then 7
  else if tyq ts p.ty < 0 then 6
  else if wbad part p.w p.n then 4
  else if rbad p.w p.n then 2
  else if noc p.c = true then 0
  else (cdk ts kn (ts.getD (tyq ts p.ty).toNat ⟨txt [], []⟩) 8 p.c).2
def ofs : List Op3 → Int
  | [] => 0
  | o :: r => if ock o.r o.lo o.hi ≠ 0 then ock o.r o.lo o.hi else ofs r
def lck (ws ns : List Pt) (kl kr : ByteArray) (os : List Op3) : Int :=
  if (ptq ws kl < 0 ∧ ptq ns kl < 0) ∨ (ptq ws kr < 0 ∧ ptq ns kr < 0) then 6
  else if seq kl kr = true ∨ (ptq ws kl < 0 ∧ ptq ws kr < 0) then 4
  else if ¬ (1 ≤ os.length ∧ os.length ≤ 6) then 1
  else ofs os
theorem rdQ {w : World} {o : Op3} {vs : List Value} (h : RdL w (encQ o) vs) : vs = [.int .i64 o.r, .int .i64 o.lo, .int .i64 o.hi] := by
  obtain ⟨v0, r0, rfl, h0, h⟩ := RdL.one h
  obtain ⟨v1, r1, rfl, h1, h⟩ := RdL.one h
  obtain ⟨v2, r2, rfl, h2, h⟩ := RdL.one h
  rw [zAI h0, zAI h1, zAI h2, RdL.none h]
def wfs (X : Int) (ts : List Tp) (done : List Pt) : List Pt → Int
  | [] => X
  | p :: r => if pck ts done (done.map Pt.va) p 0 ≠ 0 then pck ts done (done.map Pt.va) p 0 else wfs X ts (done ++ [p]) r
def nfs (X : Int) (ts : List Tp) (ws : List Pt) (ah : List ByteArray) : List Pt → Int
  | [] => X
  | p :: r => if pck ts ws ah p 1 ≠ 0 then pck ts ws ah p 1 else nfs X ts ws (ah ++ [p.va]) r
def mbad (m : Mn) : Bool := (emp m.f && !(decide (1 ≤ m.c) && decide (m.c ≤ 120))) || !(decide (0 ≤ m.c) && decide (m.c ≤ 1125899906842624))
def mck (ts : List Tp) (ws : List Pt) (ah : List ByteArray) (m : Mn) : Int :=
  if mbad m = true then 2
  else if pck ts ws ah m.p 2 ≠ 0 then pck ts ws ah m.p 2
  else if emp m.f = true then 0 else sck (ts.getD (tyq ts m.p.ty).toNat ⟨txt [], []⟩).f m.f
def mfs (X : Int) (ts : List Tp) (ws : List Pt) (ah : List ByteArray) : List Mn → Int
  | [] => X
  | m :: r => if mck ts ws ah m ≠ 0 then mck ts ws ah m else mfs X ts ws (ah ++ [m.p.va]) r
def lfs (X : Int) (ws ns : List Pt) : List Lk → Int
  | [] => X
  | k :: r => if lck ws ns k.l k.r k.o ≠ 0 then lck ws ns k.l k.r k.o else lfs X ws ns r
def szs (r : Rl) : Prop := 1 ≤ r.w.length ∧ r.w.length ≤ 3 ∧ r.t.length ≤ 2 ∧ r.m.length ≤ 2 ∧ r.k.length ≤ 6
instance (r : Rl) : Decidable (szs r) := by unfold szs; infer_instance
def rck (ts : List Tp) (r : Rl) : Int :=
  if frn r.n ≠ 0 then frn r.n else if ¬ szs r then 1
  else wfs (nfs (mfs (lfs (eck ts r.w r.e.ty r.e.v) r.w r.t r.k) ts r.w (r.w.map Pt.va ++ r.t.map Pt.va) r.m) ts r.w (r.w.map Pt.va) r.t) ts [] r.w
theorem zA8 {ts : List Tp} {kn : List Pt} {ah : List ByteArray} {p : Pt} {part : Int} (h : pck ts kn ah p part = 0) : ∃ i, ∃ _ : i < ts.length, tyq ts p.ty = (i : Int) := by
 rcases zA2 (q := fun t : Tp => seq t.n p.ty) ts 0 with c | ⟨i, hi, c, _⟩
 . exfalso
   have c0 : tyq ts p.ty = -1 := c
   unfold pck at h
   split at h
   . rename_i h1; exact h1 h
   . split at h
     . omega
     . rw [if_pos (by rw [c0]; decide)] at h
       omega
 . exact ⟨i, hi, by show ixq _ _ _ = _; rw [c]; simp⟩
theorem zF3 {ts : List Tp} {kn : List Pt} {p : Pt} (h : zA9 ts kn) (hp : ∃ i, ∃ _ : i < ts.length, tyq ts p.ty = (i : Int)) : zA9 ts (kn ++ [p]) := fun j hj => by
 by_cases c : j < kn.length
 . rw [List.getElem_append_left c]
   exact h j c
 . have e : j = kn.length := by simp at hj; omega
   subst e
   simpa using hp
theorem rdK {w : World} {k : Lk} {vs : List Value} (h : RdL w (encK k) vs) : ∃ v, vs = [.string k.l, v, .string k.r] ∧ Rd w (.row 63 3 (k.o.map encQ)) v := by
  obtain ⟨v0, r0, rfl, h0, h⟩ := RdL.one h
  obtain ⟨v1, r1, rfl, h1, h⟩ := RdL.one h
  obtain ⟨v2, r2, rfl, h2, h⟩ := RdL.one h
  rw [zAI h0, zAI h2, RdL.none h]
  exact ⟨v1, rfl, h1⟩
theorem zAT {cs vs : List Value} (h : vs.length = cs.length) : ovr cs 0 vs = vs := by
  unfold ovr
  simp [h]
theorem zAM {w w1 : World} {o : Obj} (h : Fr (fun i => i = w.heap.size) (w.alloc o) w1) : Below w.heap.size w w1 :=
  ⟨h.os, h.tape, h.output, by have := h.size; simp at this; omega, fun k hk => (h.block k (by simp; omega) (by omega)).trans (Below.heap_alloc _ _ _ hk)⟩
theorem zCZ {w : World} {b : Nat} {A B : List Value} {x y : Value} {t : TypeId} (h : w.heap[b]? = some (.cells A.toArray t (0, 0))) (hA : A = x :: y :: B) : w.rangeAt b 2 B := fun j v hv => by
  rw [zAC h, hA]
  rw [List.getElem?_toArray, show 2 + j = j + 1 + 1 by omega]
  simpa using hv
theorem zAB {w : World} {e z : Nat} {l : List (List Dat)} {v : Value} (h : Rd w (.row e z l) v) : ∃ p n cap, v = .slice p n cap := by
  cases h with
  | nil e z p cap h => exact ⟨_, _, _, rfl⟩
  | row e z l g off cap xs h1 h2 h3 h4 h5 h6 => exact ⟨_, _, _, rfl⟩
theorem zC8 {ts : List Tp} {ws : List Pt} {ah : List ByteArray} {m : Mn} (h : mbad m = true) : mck ts ws ah m = 2 := by unfold mck; rw [if_pos h]
theorem zHE {ts : List Tp} {ws : List Pt} {ah : List ByteArray} {m : Mn} (h : mbad m = false) (h2 : pck ts ws ah m.p 2 ≠ 0) : mck ts ws ah m = pck ts ws ah m.p 2 := by unfold mck; rw [if_neg (by rw [h]; decide), if_pos h2]
theorem mck_ok {ts : List Tp} {ws : List Pt} {ah : List ByteArray} {m : Mn} (h : mbad m = false) (h2 : pck ts ws ah m.p 2 = 0) : mck ts ws ah m = if emp m.f = true then 0 else sck (ts.getD (tyq ts m.p.ty).toNat ⟨txt [], []⟩).f m.f := by unfold mck; rw [if_neg (by rw [h]; decide), if_neg (fun c => c h2)]
def bok (ts : List Tp) (rs : List Rl) : Int := bkf (rck ts) ts rs
end Go.Proofs.YtnlmknbhppdliaaGreatDoor.Chk
namespace Go.Proofs.YtnlmknbhppdliaaGreatDoor.V4
open Go.ChangeShapes Go.WideShapes Go.ChangeAt Go.RowKit
set_option linter.unusedVariables false
set_option linter.unusedSimpArgs false
set_option maxRecDepth 20000
structure Vl where
  k : Int
  n : Int
  s : ByteArray
structure Fd where
  s : ByteArray
  k : Int
structure Ty where
  s : ByteArray
  fs : List Fd
def eqS (a b : ByteArray) : Bool := a.toList == b.toList
def vchk (v : Vl) : Int :=
  if v.k ≠ 1 ∧ v.k ≠ 2 then 3
  else if (v.k = 1 ∧ v.s.toList ≠ []) ∨ (v.k = 2 ∧ v.n ≠ 0) then 4
  else if 20 < v.s.size then 1
  else if v.n < -1125899906842624 ∨ 1125899906842624 < v.n then 2 else 0
def fst (f : Nat → Int) : Nat → Int
  | 0 => 0
  | n + 1 => if fst f n ≠ 0 then fst f n else f n
theorem fst_hit {f : Nat → Int} {k n : Nat} (h0 : fst f k = 0) (h1 : f k ≠ 0) (hk : k < n) : fst f n = f k := by
 induction n with
 | zero => omega
 | succ n ih =>
  unfold fst
  by_cases e : k = n
  . subst e; simp [h0]
  . have := ih (by omega)
    rw [if_pos (by rw [this]; exact h1), this]
theorem fst_step {f : Nat → Int} {k : Nat} (h0 : fst f k = 0) (h1 : f k = 0) : fst f (k + 1) = 0 := by
  unfold fst; simp [h0, h1]
theorem fst_zero {f : Nat → Int} {n : Nat} (h : fst f n = 0) : ∀ k, k < n → f k = 0 := by
 induction n with
 | zero => intro k hk; omega
 | succ n ih =>
  unfold fst at h
  by_cases e : fst f n = 0
  . simp [e] at h
    intro k hk
    by_cases c : k = n
    . subst c; exact h
    . exact ih e k (by omega)
  . simp [e] at h
theorem size_nil {s : ByteArray} (h : s.toList = []) : s.size = 0 := by
  rw [Lib.toList_data] at h
  have := congrArg List.length h
  simpa using this
def zC9 (s : ByteArray) (i : Nat) : Int := ((s.data.toList.getD i 0).toNat : Int)
def isL (c : Int) : Prop := 97 ≤ c ∧ c ≤ 122
def isD (c : Int) : Prop := 48 ≤ c ∧ c ≤ 57
instance (c : Int) : Decidable (isL c) := by unfold isL; infer_instance
instance (c : Int) : Decidable (isD c) := by unfold isD; infer_instance
def sgn (s : ByteArray) (i : Nat) : Int := if isL (zC9 s i) ∨ (i ≠ 0 ∧ isD (zC9 s i)) then 0 else 4
def nchk (s : ByteArray) : Int := if s.size < 1 ∨ 10 < s.size then 1 else fst (sgn s) s.size
def fnd (name : ByteArray) : List Fd → Nat → Int
  | [], _ => -1
  | f :: l, k => if eqS f.s name = true then (k : Int) else fnd name l (k + 1)
def fchk (fs : List Fd) (i : Nat) : Int :=
  match fs[i]? with
  | none => 0
  | some f => if nchk f.s ≠ 0 then nchk f.s else if f.k ≠ 1 ∧ f.k ≠ 2 then 3 else if 0 ≤ fnd f.s (fs.take i) 0 then 7 else 0
def tchk (t : Ty) : Int := if nchk t.s ≠ 0 then nchk t.s else if 4 < t.fs.length then 1 else fst (fchk t.fs) t.fs.length
def vat (l : List Vl) (i : Nat) : Int := match l[i]? with | none => 0 | some v => vchk v
def kat (l : List Vl) (fs : List Fd) (i : Nat) : Int := match l[i]?, fs[i]? with | some v, some f => if v.k ≠ f.k then 13 else 0 | _, _ => 0
def fit (t : Ty) (l : List Vl) : Int :=
  if tchk t ≠ 0 then tchk t else if fst (vat l) l.length ≠ 0 then fst (vat l) l.length
  else if l.length ≠ t.fs.length then 13 else fst (kat l t.fs) l.length
abbrev vV (v : Vl) : Value := .agg #[.int .i64 v.k, .int .i64 v.n, .string v.s]
def FieldsAt (w : World) (v : Value) (fs : List Fd) : Prop :=
  ∃ p cap, v = .slice p fs.length cap ∧ fs.length ≤ cap ∧ cap ≤ maxLen ∧ (0 < fs.length → ∃ g off, p = some ⟨g, off, none⟩ ∧ ∀ j (hj : j < fs.length), g < w.heap.size ∧ w.cell? ⟨g, off + j * 2, none⟩ = some (.string fs[j].s) ∧ w.cell? ⟨g, off + j * 2 + 1, none⟩ = some (.int .i64 fs[j].k))
def ValsAt (w : World) (v : Value) (l : List Vl) : Prop :=
  ∃ p cap, v = .slice p l.length cap ∧ l.length ≤ cap ∧ cap ≤ maxLen ∧ (0 < l.length → ∃ g off, p = some ⟨g, off, none⟩ ∧ ∀ j (hj : j < l.length), g < w.heap.size ∧ w.cell? ⟨g, off + j * 3, none⟩ = some (.int .i64 l[j].k) ∧ w.cell? ⟨g, off + j * 3 + 1, none⟩ = some (.int .i64 l[j].n) ∧ w.cell? ⟨g, off + j * 3 + 2, none⟩ = some (.string l[j].s))
theorem FieldsAt.below {w w' : World} {v : Value} {fs : List Fd} (h : FieldsAt w v fs) (b : Below w.heap.size w w') : FieldsAt w' v fs := by
  obtain ⟨p, cap, h1, hc, hm, h2⟩ := h
  refine ⟨p, cap, h1, hc, hm, fun h0 => ?_⟩
  obtain ⟨g, off, h3, h4⟩ := h2 h0
  refine ⟨g, off, h3, fun j hj => ?_⟩
  obtain ⟨a, b0, b1⟩ := h4 j hj
  exact ⟨Nat.lt_of_lt_of_le a b.size, (b.cell (p := ⟨g, off + j * 2, none⟩) a).trans b0, (b.cell (p := ⟨g, off + j * 2 + 1, none⟩) a).trans b1⟩
theorem ValsAt.below {w w' : World} {v : Value} {fs : List Vl} (h : ValsAt w v fs) (b : Below w.heap.size w w') : ValsAt w' v fs := by
  obtain ⟨p, cap, h1, hc, hm, h2⟩ := h
  refine ⟨p, cap, h1, hc, hm, fun h0 => ?_⟩
  obtain ⟨g, off, h3, h4⟩ := h2 h0
  refine ⟨g, off, h3, fun j hj => ?_⟩
  obtain ⟨a, b0, b1, b2⟩ := h4 j hj
  exact ⟨Nat.lt_of_lt_of_le a b.size, (b.cell (p := ⟨g, off + j * 3, none⟩) a).trans b0, (b.cell (p := ⟨g, off + j * 3 + 1, none⟩) a).trans b1, (b.cell (p := ⟨g, off + j * 3 + 2, none⟩) a).trans b2⟩
theorem zAA {B B' : Nat} {w w1 w2 : World} (h : Below B w w1) (h2 : Below B' w1 w2) (hb : B ≤ B') : Below B w w2 :=
  ⟨h2.os.trans h.os, h2.tape.trans h.tape, h2.output.trans h.output, Nat.le_trans h.size h2.size, fun k hk => (h2.block k (by omega)).trans (h.block k hk)⟩
theorem zAD {k : IntKind} {a b : Int} (h : a = b) : Ending.returned (.int k a) = .returned (.int k b) := by rw [h]
theorem vchk_eq (v : Vl) : vchk v = if v.k = 1 then (if v.s.toList ≠ [] then 4 else if v.n < -1125899906842624 ∨ 1125899906842624 < v.n then 2 else 0) else if v.k ≠ 2 then 3 else if v.n ≠ 0 then 4 else if 20 < v.s.size then 1 else 0 := by
 unfold vchk
 by_cases h1 : v.k = 1
 . by_cases h2 : v.s.toList = []
   . have := size_nil h2
     simp [h1, h2, this]
   . simp [h1, h2]
 . by_cases h2 : v.k = 2
   . by_cases h3 : v.n = 0
     . simp [h2, h3]
     . simp [h2, h3]
   . simp [h1, h2]
theorem check_any (v : Vl) (w : World) :
  Calls Tryz.prog 109 #[vV v] w fun e w' => e = .returned (.int .i64 (vchk v)) ∧ Below w.heap.size w w' := by
 obtain ⟨k, n, s⟩ := v
 unfold vV
 have hz : s.toList = [] → s.size = 0 := size_nil
 have HZ : Hid (s.toList = [] → s.size = 0) := hz
 clear hz
 go_enter Tryz.func109, Tryz.ntmps109
 go_wp2
 all_goals
  go_ret
  refine ⟨zAD ?_, (Below.refl _ _).alloc (Nat.le_refl _) _⟩
  have hz := HZ.out
  rw [vchk_eq]
  simp_all <;> omega
theorem zDH (s : ByteArray) (k : Nat) (h : k < s.size) : zC9 s k = (s[k].toNat : Int) := by
  unfold zC9
  have h' : k < s.data.toList.length := by simpa using h
  rw [List.getD_eq_getElem?_getD, List.getElem?_eq_getElem h']
  rfl
theorem zEC (s : ByteArray) (k : Nat) (h : k < s.size) : sgn s k = if (97 ≤ (s[k].toNat : Int) ∧ (s[k].toNat : Int) ≤ 122) ∨ (k ≠ 0 ∧ 48 ≤ (s[k].toNat : Int) ∧ (s[k].toNat : Int) ≤ 57) then 0 else 4 := by
  unfold sgn isL isD
  rw [zDH s k h]
theorem zDU {s : ByteArray} (h1 : 1 ≤ s.size) (h2 : s.size ≤ 10) : nchk s = fst (sgn s) s.size := by
  unfold nchk; rw [if_neg (by omega)]
def Say (b : Bool) (P : Prop) : Prop := b = true ↔ P
theorem zBK (P : Prop) [Decidable P] : ∃ b : Bool, Say b P := ⟨decide P, by simp [Say]⟩
theorem Say.yes {P : Prop} (h : P) : Say true P := by simp [Say, h]
theorem Say.no {P : Prop} (h : ¬ P) : Say false P := by simp [Say, h]
theorem zAO {a b : Bool} (h : a = b) : Ending.returned (.bool a) = .returned (.bool b) := by rw [h]
theorem zAU (c : Int) (r : Bool) (h : Say r ((48 : Int) ≤ c ∧ c ≤ 57)) (w : World) :
  Calls Tryz.prog 124 #[.int .u8 c] w fun e w' => e = .returned (.bool r) ∧ w' = w := by
 have H : Hid (Say r ((48 : Int) ≤ c ∧ c ≤ 57)) := h
 clear h
 go_enter Tryz.func124, Tryz.ntmps124
 go_wp2
 all_goals
  go_ret
  exact ⟨zAO (by have h := H.out; unfold Say at h; rw [Bool.eq_iff_iff, h]; simp <;> omega), rfl⟩
theorem zBD (c : Int) (r : Bool) (h : Say r ((97 : Int) ≤ c ∧ c ≤ 122)) (w : World) :
  Calls Tryz.prog 125 #[.int .u8 c] w fun e w' => e = .returned (.bool r) ∧ w' = w := by
 have H : Hid (Say r ((97 : Int) ≤ c ∧ c ≤ 122)) := h
 clear h
 go_enter Tryz.func125, Tryz.ntmps125
 go_wp2
 all_goals
  go_ret
  exact ⟨zAO (by have h := H.out; unfold Say at h; rw [Bool.eq_iff_iff, h]; simp <;> omega), rfl⟩
theorem zB6      (s : ByteArray) (w : World) :
    Calls Tryz.prog 81 #[.string s] w fun e w' => e = .returned (.int .i64 (nchk s)) ∧ w' = w := by
  by_cases hsz : 1 ≤ s.size ∧ s.size ≤ 10
  . obtain ⟨h1, h2⟩ := hsz
    have hp : 0 < s.size := by omega
    have HE : Hid (nchk s = fst (sgn s) s.size) := zDU h1 h2
    have HS : Hid (∀ k (h : k < s.size), sgn s k = if (97 ≤ (s[k].toNat : Int) ∧ (s[k].toNat : Int) ≤ 122) ∨ (k ≠ 0 ∧ 48 ≤ (s[k].toNat : Int) ∧ (s[k].toNat : Int) ≤ 57) then 0 else 4) := zEC s
    by_cases hd : (48 : Int) ≤ (s[0].toNat : Int) ∧ (s[0].toNat : Int) ≤ 57
    . have hx : fst (sgn s) s.size = 4 := by
        have e := zEC s 0 hp
        rw [if_neg (by omega)] at e
        rw [fst_hit (k := 0) rfl (by rw [e]; omega) hp, e]
      have HX : Hid (fst (sgn s) s.size = 4) := hx
      have HD : Hid ((48 : Int) ≤ (s[0].toNat : Int) ∧ (s[0].toNat : Int) ≤ 57) := hd
      clear hx hd
      go_enter Tryz.func81, Tryz.ntmps81
      go_wp2_with (go_at_call 124; refine (zAU _ true (Say.yes HD.out) _).mono ?_; rintro e w' ⟨rfl, rfl⟩)
      go_ret
      exact ⟨zAD (by rw [HE.out, HX.out]), rfl⟩
    . have HD : Hid (¬ ((48 : Int) ≤ (s[0].toNat : Int) ∧ (s[0].toNat : Int) ≤ 57)) := hd
      clear hd
      go_enter Tryz.func81, Tryz.ntmps81
      go_wp2_with (go_at_call 124; refine (zAU _ false (Say.no HD.out) _).mono ?_; rintro e w' ⟨rfl, rfl⟩)
      go_loop [17] (fun i => ∃ k : Nat, k ≤ s.size ∧ i = .int .i64 k ∧ fst (sgn s) k = 0) (fun i => s.size - (intOf i).toNat)
      case atStart => exact ⟨0, Nat.zero_le _, rfl, rfl⟩
      case round =>
        obtain ⟨k, hk, rfl, hf⟩ := hrel
        have HF : Hid (fst (sgn s) k = 0) := hf
        clear hf
        by_cases hlt : k < s.size
        . have HK : Hid (sgn s k = if (97 ≤ (s[k].toNat : Int) ∧ (s[k].toNat : Int) ≤ 122) ∨ (k ≠ 0 ∧ 48 ≤ (s[k].toNat : Int) ∧ (s[k].toNat : Int) ≤ 57) then 0 else 4) := HS.out k hlt
          have HD' : Hid (k = 0 → ¬ (48 ≤ (s[k].toNat : Int) ∧ (s[k].toNat : Int) ≤ 57)) := fun h => by subst h; exact HD.out
          obtain ⟨bl, hbl⟩ := zBK ((97 : Int) ≤ (s[k].toNat : Int) ∧ (s[k].toNat : Int) ≤ 122)
          obtain ⟨bd, hbd⟩ := zBK ((48 : Int) ≤ (s[k].toNat : Int) ∧ (s[k].toNat : Int) ≤ 57)
          have HL : Hid (Say bl ((97 : Int) ≤ (s[k].toNat : Int) ∧ (s[k].toNat : Int) ≤ 122)) := hbl
          have HDG : Hid (Say bd ((48 : Int) ≤ (s[k].toNat : Int) ∧ (s[k].toNat : Int) ≤ 57)) := hbd
          clear hbl hbd
          cases bl <;> cases bd
          all_goals go_wp2_with (first | (go_at_call 124; refine (zAU _ _ HDG.out _).mono ?_; rintro e w' ⟨rfl, rfl⟩) | (go_at_call 125; refine (zBD _ _ HL.out _).mono ?_; rintro e w' ⟨rfl, rfl⟩))
          all_goals
            have hl := HL.out
            have hdg := HDG.out
            simp [Say] at hl hdg
            have e := HK.out
            have e2 := HD'.out
          . rw [if_neg (by omega)] at e
            go_ret
            exact ⟨zAD (by rw [HE.out, fst_hit HF.out (by rw [e]; omega) hlt, e]), rfl⟩
          all_goals
            rw [if_pos (by omega)] at e
            have HEE : Hid (sgn s k = 0) := e
            clear e e2 hl hdg
            go_round
            case rel => exact ⟨k + 1, by omega, by go_num, fst_step HF.out HEE.out⟩
            case measure => simp [intOf]; omega
        . obtain rfl : k = s.size := by omega
          go_wp2
          go_ret
          exact ⟨zAD (by rw [HE.out, HF.out]), rfl⟩
  . have he : nchk s = 1 := by unfold nchk; rw [if_pos (by omega)]
    have HE : Hid (nchk s = 1) := he
    clear he
    go_enter Tryz.func81, Tryz.ntmps81
    go_wp2
    all_goals first
      | (go_ret
         exact ⟨zAD (by rw [HE.out]), rfl⟩)
      | (exfalso; omega)
theorem vat_at {l : List Vl} {k : Nat} (h : k < l.length) : vat l k = vchk l[k] := by unfold vat; rw [List.getElem?_eq_getElem h]
theorem zBX (v : Value) (l : List Vl) (w : World) (hv : ValsAt w v l) :
  Calls Tryz.prog 68 #[v] w fun e w' => e = .returned (.int .i64 (fst (vat l) l.length)) ∧ Below w.heap.size w w' := by
 obtain ⟨p, cap, rfl, hcap, hmax, hp⟩ := hv
 obtain ⟨n, hnl⟩ : ∃ n, l.length = n := ⟨_, rfl⟩
 have HP : Hid (0 < l.length → ∃ g off, p = some ⟨g, off, none⟩ ∧ ∀ j (hj : j < l.length), g < w.heap.size ∧ w.cell? ⟨g, off + j * 3, none⟩ = some (.int .i64 l[j].k) ∧ w.cell? ⟨g, off + j * 3 + 1, none⟩ = some (.int .i64 l[j].n) ∧ w.cell? ⟨g, off + j * 3 + 2, none⟩ = some (.string l[j].s)) := hp
 have HNL : Hid (l.length = n) := hnl
 have hmx : (n : Int) ≤ 9223372036854775807 := by unfold maxLen at hmax; omega
 rw [hnl]
 clear hp hnl hcap hmax
 go_enter Tryz.func68, Tryz.ntmps68
 go_wp2
 go_loopw [8] (fun i wr => ∃ k : Nat, k ≤ n ∧ i = .int .i64 (k : Nat) ∧ fst (vat l) k = 0 ∧ Below w.heap.size w wr) (fun i _ => n + 1 - (intOf i).toNat)
 case atStart => exact ⟨0, by omega, rfl, rfl, Below.refl _ _⟩
 case round =>
  obtain ⟨k, hk, rfl, hf, hB⟩ := hrel
  have HF : Hid (fst (vat l) k = 0) := hf
  have HB : Hid (Below w.heap.size w wr) := hB
  by_cases hlt : k < n
  . have hkd : k < l.length := by have := HNL.out; omega
    obtain ⟨g, off, hg, hc⟩ := HP.out (by omega)
    obtain ⟨hgs, c0, c1, c2⟩ := hc k hkd
    subst hg
    have HV : Hid (vat l k = vchk l[k]) := vat_at hkd
    obtain ⟨d, hdk⟩ : ∃ d, l[k] = d := ⟨_, rfl⟩
    rw [hdk] at c0 c1 c2 HV
    have b0 : wr.cell? ⟨g, off + k * 3, none⟩ = some (.int .i64 d.k) := (hB.cell (p := ⟨g, off + k * 3, none⟩) hgs).trans c0
    have b1 : wr.cell? ⟨g, off + k * 3 + 1, none⟩ = some (.int .i64 d.n) := (hB.cell (p := ⟨g, off + k * 3 + 1, none⟩) hgs).trans c1
    have b2 : wr.cell? ⟨g, off + k * 3 + 2, none⟩ = some (.string d.s) := (hB.cell (p := ⟨g, off + k * 3 + 2, none⟩) hgs).trans c2
    have i1 : (0 : Int) ≤ (k : Int) := by omega
    have i2 : (k : Int) < (n : Int) := by omega
    have hne : wr.heap.size ≠ g := by have := hB.size; omega
    clear hc hdk c0 c1 c2 hgs hf hB hkd
    obtain ⟨r, hr⟩ : ∃ r, vchk d = r := ⟨_, rfl⟩
    have HR : Hid (vchk d = r) := hr
    clear hr
    by_cases hr0 : r = 0
    . subst hr0
      go_wp2_with (go_at_call 109; refine (check_any ⟨d.k, d.n, d.s⟩ _).mono ?_; rintro e w2 ⟨rfl, hb2⟩; rw [show vchk ⟨d.k, d.n, d.s⟩ = 0 from HR.out]; have HB2 : Hid (Below (wr.alloc (.cells #[.int .i64 d.k, .int .i64 d.n, .string d.s] 42)).heap.size (wr.alloc (.cells #[.int .i64 d.k, .int .i64 d.n, .string d.s] 42)) w2) := hb2; clear hb2)
      go_roundw
      case rel => exact ⟨k + 1, by omega, by go_num, fst_step HF.out (HV.out.trans HR.out), zAA (HB.out.alloc HB.out.size _) HB2.out (by simp; have := HB.out.size; omega)⟩
      case measure => simp [intOf]; omega
    . have hrb : (r == 0) = false := by simpa using hr0
      have hrd : (r != 0) = true := by simpa using hr0
      go_wp2_with (go_at_call 109; refine (check_any ⟨d.k, d.n, d.s⟩ _).mono ?_; rintro e w2 ⟨rfl, hb2⟩; rw [show vchk ⟨d.k, d.n, d.s⟩ = r from HR.out]; have HB2 : Hid (Below (wr.alloc (.cells #[.int .i64 d.k, .int .i64 d.n, .string d.s] 42)).heap.size (wr.alloc (.cells #[.int .i64 d.k, .int .i64 d.n, .string d.s] 42)) w2) := hb2; clear hb2)
      go_ret
      refine ⟨zAD ?_, zAA (HB.out.alloc HB.out.size _) HB2.out (by simp; have := HB.out.size; omega)⟩
      rw [fst_hit HF.out (by rw [HV.out, HR.out]; exact hr0) (by have := HNL.out; omega), HV.out, HR.out]
  . obtain rfl : k = n := by omega
    clear hf hB
    go_wp2
    go_ret
    refine ⟨zAD ?_, HB.out⟩
    exact HF.out.symm
def sgnI (x y : Int) : Int := if x < y then -1 else if y < x then 1 else 0
def ord (a b : Vl) : Int := if a.k = 2 then Lib.compareBytes a.s.data.toList b.s.data.toList else sgnI a.n b.n
def cmpE (a b : Vl) : Int := if vchk a ≠ 0 then vchk a else if vchk b ≠ 0 then vchk b else if a.k ≠ b.k then 13 else 0
def cmpV (a b : Vl) : Int := if cmpE a b ≠ 0 then 0 else ord a b
theorem zFX (a b : ByteArray) (w : World) :
  Calls Tryz.prog 144 #[.string a, .string b] w fun e w' => e = .returned (.int .i64 (Lib.compareBytes a.data.toList b.data.toList)) ∧ w' = w := by
 have c : ∀ w, Calls Tryz.prog 161 #[.string a, .string b] w fun e w' => e = .returned (.int .i64 (Lib.compareBytes a.data.toList b.data.toList)) ∧ w' = w := fun w => by
  go_enter Tryz.func161, Tryz.ntmps161
  go_wp2
  rw [run_callFunc_extern Tryz.func176 (by kernel_rfl) (by kernel_rfl) (by kernel_rfl) (e := Extern.BytealgCompare.compare) (by kernel_rfl), Lib.run_compareString]
  simp only [Result.andThen]
  rw [Oper.upon_value]
  go_wp2
  go_ret
  exact ⟨rfl, rfl⟩
 have C : Hid (∀ w, Calls Tryz.prog 161 #[.string a, .string b] w fun e w' => e = .returned (.int .i64 (Lib.compareBytes a.data.toList b.data.toList)) ∧ w' = w) := c
 clear c
 go_enter Tryz.func144, Tryz.ntmps144
 go_wp2_with (go_at_call 161; refine (C.out _).mono ?_; rintro e w ⟨rfl, rfl⟩)
 go_ret
 exact ⟨rfl, rfl⟩
theorem zFT (a b : Int) (w : World) :
  Calls Tryz.prog 145 #[.int .i64 a, .int .i64 b] w fun e w' => e = .returned (.int .i64 (sgnI a b)) ∧ w' = w := by
 go_enter Tryz.func145, Tryz.ntmps145
 go_wp2
 all_goals
  go_ret
  refine ⟨zAD ?_, rfl⟩
  unfold sgnI
  (repeat' split) <;> omega
theorem zHB (w : World) (o1 o2 : Obj) : Below w.heap.size w ((w.alloc o1).alloc o2) := ((Below.refl _ w).alloc (Nat.le_refl _) o1).alloc (by simp) o2
theorem zEZ (w : World) (o1 o2 o3 : Obj) : Below w.heap.size w (((w.alloc o1).alloc o2).alloc o3) := (zHB w o1 o2).alloc (by simp; omega) o3
theorem zDA {a b c d : Int} (h : a = c) (h2 : b = d) : Ending.returned (.tuple #[.int .i64 a, .int .i64 b]) = .returned (.tuple #[.int .i64 c, .int .i64 d]) := by rw [h, h2]
theorem vals_two {w : World} {g : Nat} (a b : Vl) (hg : g < w.heap.size) (c0 : w.cell? ⟨g, 0, none⟩ = some (.int .i64 a.k)) (c1 : w.cell? ⟨g, 1, none⟩ = some (.int .i64 a.n)) (c2 : w.cell? ⟨g, 2, none⟩ = some (.string a.s)) (c3 : w.cell? ⟨g, 3, none⟩ = some (.int .i64 b.k)) (c4 : w.cell? ⟨g, 4, none⟩ = some (.int .i64 b.n)) (c5 : w.cell? ⟨g, 5, none⟩ = some (.string b.s)) :
   ValsAt w (.slice (some ⟨g, 0, none⟩) 2 2) [a, b] := by
 refine ⟨_, 2, rfl, by simp, by unfold maxLen; omega, fun _ => ⟨g, 0, rfl, fun j hj => ⟨hg, ?_⟩⟩⟩
 have hj' : j = 0 ∨ j = 1 := by simp at hj; omega
 rcases hj' with rfl | rfl
 . exact ⟨c0, c1, c2⟩
 . exact ⟨c3, c4, c5⟩
theorem zAN {X : World} {cs : Array Value} {t : TypeId} {g j : Nat} {v : Value} (hg : g = X.heap.size) (hv : cs[j]? = some v) : (X.alloc (.cells cs t)).cell? ⟨g, j, none⟩ = some v := by
  subst hg
  have h : (X.alloc (.cells cs t)).heap[X.heap.size]? = some (.cells cs t (0, 0)) := by first | exact heap_alloc_new X _ | exact _root_.Go.heap_alloc_new X _
  rw [cell_of_row _ _ _ _ t (0, 0) h]
  simpa using hv
theorem fst_two (a b : Vl) : fst (vat [a, b]) 2 = if vchk a ≠ 0 then vchk a else vchk b := by
  simp [fst, vat]
theorem compare_any (a b : Vl) (w : World) :
   Calls Tryz.prog 111 #[vV a, vV b] w fun e w' => e = .returned (.tuple #[.int .i64 (cmpV a b), .int .i64 (cmpE a b)]) ∧ Below w.heap.size w w' := by
 obtain ⟨k, n, s⟩ := a
 obtain ⟨k', n', s'⟩ := b
 obtain ⟨r, hr⟩ : ∃ r, fst (vat [⟨k, n, s⟩, ⟨k', n', s'⟩]) 2 = r := ⟨_, rfl⟩
 have HR : Hid (fst (vat [⟨k, n, s⟩, ⟨k', n', s'⟩]) 2 = r) := hr
 have HV : Hid (cmpV ⟨k, n, s⟩ ⟨k', n', s'⟩ = if cmpE ⟨k, n, s⟩ ⟨k', n', s'⟩ ≠ 0 then 0 else ord ⟨k, n, s⟩ ⟨k', n', s'⟩) := rfl
 have HE : Hid (cmpE ⟨k, n, s⟩ ⟨k', n', s'⟩ = if r ≠ 0 then r else if k ≠ k' then 13 else 0) := by
   unfold cmpE
   rw [fst_two] at hr
   by_cases h : vchk ⟨k, n, s⟩ = 0
   . rw [if_neg (by simp [h])] at hr
     rw [if_neg (by simp [h]), hr]
     exact rfl
   . rw [if_pos h] at hr
     rw [if_pos h, ← hr]
     exact (if_pos h).symm
 clear hr
 unfold vV
 go_enter Tryz.func111, Tryz.ntmps111
 go_wp2_with fail
 refine (zBX _ [⟨k, n, s⟩, ⟨k', n', s'⟩] _ (vals_two ⟨k, n, s⟩ ⟨k', n', s'⟩ (by simp) (zAN (by simp) rfl) (zAN (by simp) rfl) (zAN (by simp) rfl) (zAN (by simp) rfl) (zAN (by simp) rfl) (zAN (by simp) rfl))).mono ?_
 rintro e w1 ⟨he1, hb1⟩
 have he1' : e = .returned (.int .i64 r) := he1.trans (zAD HR.out)
 subst he1'
 have HB1 : Hid (Below w.heap.size w w1) := zAA (zEZ w (.cells #[.int .i64 k, .int .i64 n, .string s] 42) (.cells #[.int .i64 k', .int .i64 n', .string s'] 42) _) hb1 (by simp; omega)
 have c0 : w1.cell? ⟨w.heap.size + 1 + 1, 0, none⟩ = some (.int .i64 k) := (hb1.cell (by simp)).trans (zAN (by simp) rfl)
 have c1 : w1.cell? ⟨w.heap.size + 1 + 1, 1, none⟩ = some (.int .i64 n) := (hb1.cell (by simp)).trans (zAN (by simp) rfl)
 have c2 : w1.cell? ⟨w.heap.size + 1 + 1, 2, none⟩ = some (.string s) := (hb1.cell (by simp)).trans (zAN (by simp) rfl)
 have c3 : w1.cell? ⟨w.heap.size + 1 + 1, 3, none⟩ = some (.int .i64 k') := (hb1.cell (by simp)).trans (zAN (by simp) rfl)
 have c4 : w1.cell? ⟨w.heap.size + 1 + 1, 4, none⟩ = some (.int .i64 n') := (hb1.cell (by simp)).trans (zAN (by simp) rfl)
 have c5 : w1.cell? ⟨w.heap.size + 1 + 1, 5, none⟩ = some (.string s') := (hb1.cell (by simp)).trans (zAN (by simp) rfl)
 clear hb1 he1
 by_cases hr0 : r = 0
 . subst hr0
   by_cases hkk : k = k'
   . subst hkk
     have he : cmpE ⟨k, n, s⟩ ⟨k, n', s'⟩ = 0 := by rw [HE.out]; simp
     have HE0 : Hid (cmpE ⟨k, n, s⟩ ⟨k, n', s'⟩ = 0) := he
     clear he
     by_cases hk2 : k = 2
     . subst hk2
       go_wp2_with (go_at_call 144; refine (zFX _ _ _).mono ?_; rintro e w2 ⟨rfl, rfl⟩)
       go_ret2
       exact ⟨zDA (by rw [HV.out, HE0.out]; simp [ord]) HE0.out.symm, HB1.out⟩
     . have hkb : (k == 2) = false := by simpa using hk2
       go_wp2_with (go_at_call 145; refine (zFT _ _ _).mono ?_; rintro e w2 ⟨rfl, rfl⟩)
       go_ret2
       exact ⟨zDA (by rw [HV.out, HE0.out]; simp [ord, hk2]) HE0.out.symm, HB1.out⟩
   . have he : cmpE ⟨k, n, s⟩ ⟨k', n', s'⟩ = 13 := by rw [HE.out]; simp [hkk]
     have HE0 : Hid (cmpE ⟨k, n, s⟩ ⟨k', n', s'⟩ = 13) := he
     clear he
     have hkb : (k == k') = false := by simpa using hkk
     have hkc : (k != k') = true := by simpa using hkk
     go_wp2
     go_ret2
     exact ⟨zDA (by rw [HV.out, HE0.out]; simp) HE0.out.symm, HB1.out⟩
 . have he : cmpE ⟨k, n, s⟩ ⟨k', n', s'⟩ = r := by rw [HE.out]; simp [hr0]
   have HE0 : Hid (cmpE ⟨k, n, s⟩ ⟨k', n', s'⟩ = r) := he
   clear he
   have hkb : (r == 0) = false := by simpa using hr0
   have hkc : (r != 0) = true := by simpa using hr0
   go_wp2
   go_ret2
   exact ⟨zDA (by rw [HV.out, HE0.out]; simp [hr0]) HE0.out.symm, HB1.out⟩
def anyS (name : ByteArray) (l : List Fd) : Bool := l.any fun f => eqS f.s name
theorem zEY (name : ByteArray) : ∀ (l : List Fd) (k : Nat), 0 ≤ fnd name l k ↔ anyS name l = true
 | [], k => by simp [fnd, anyS]
 | f :: l, k => by
  unfold fnd
  have ih := zEY name l (k + 1)
  unfold anyS at ih ⊢
  by_cases h : eqS f.s name = true
  . simp [h]
  . simp only [h, if_false, List.any_cons, Bool.false_or, Bool.not_eq_true] at *
    simpa [h] using ih
def fck (f : Fd) (ahead : List Fd) : Int :=
  if nchk f.s ≠ 0 then nchk f.s else if f.k ≠ 1 ∧ f.k ≠ 2 then 3 else if anyS f.s ahead = true then 7 else 0
theorem fchk_at {fs : List Fd} {k : Nat} (h : k < fs.length) : fchk fs k = fck fs[k] (fs.take k) := by
  unfold fchk fck
  rw [List.getElem?_eq_getElem h]
  simp only [zEY]
theorem fnd_hit {name : ByteArray} {l : List Fd} {k : Nat} (h : k < l.length) (he : eqS l[k].s name = true) : fnd name (l.drop k) k = k := by
  rw [List.drop_eq_getElem_cons h]
  unfold fnd
  rw [if_pos he]
theorem fnd_miss {name : ByteArray} {l : List Fd} {k : Nat} (h : k < l.length) (he : eqS l[k].s name = false) : fnd name (l.drop k) k = fnd name (l.drop (k + 1)) (k + 1) := by
  rw [List.drop_eq_getElem_cons h]
  conv => lhs; unfold fnd
  rw [if_neg (by simp [he])]
theorem fnd_end {name : ByteArray} {l : List Fd} : fnd name (l.drop l.length) l.length = -1 := by
  rw [List.drop_length]; rfl
theorem fnd_le (name : ByteArray) : ∀ (l : List Fd) (k : Nat), fnd name l k < 0 ∨ ((k : Int) ≤ fnd name l k ∧ fnd name l k < k + l.length)
 | [], k => by simp [fnd]
 | f :: l, k => by
  unfold fnd
  have ih := fnd_le name l (k + 1)
  split
  . right; simp; omega
  . rcases ih with h | h
    . left; exact h
    . right; simp; omega
theorem zA4 (v : Value) (l : List Fd) (name : ByteArray) (w : World) (hv : FieldsAt w v l) :
  Calls Tryz.prog 127 #[v, .string name] w fun e w' => e = .returned (.int .i64 (fnd name l 0)) ∧ Below w.heap.size w w' := by
 obtain ⟨p, cap, rfl, hcap, hmax, hp⟩ := hv
 obtain ⟨n, hnl⟩ : ∃ n, l.length = n := ⟨_, rfl⟩
 have HP : Hid (0 < l.length → ∃ g off, p = some ⟨g, off, none⟩ ∧ ∀ j (hj : j < l.length), g < w.heap.size ∧ w.cell? ⟨g, off + j * 2, none⟩ = some (.string l[j].s) ∧ w.cell? ⟨g, off + j * 2 + 1, none⟩ = some (.int .i64 l[j].k)) := hp
 have HNL : Hid (l.length = n) := hnl
 have hmx : (n : Int) ≤ 9223372036854775807 := by unfold maxLen at hmax; omega
 rw [hnl]
 clear hp hnl hcap hmax
 obtain ⟨R, hR⟩ : ∃ R, fnd name l 0 = R := ⟨_, rfl⟩
 have HR : Hid (fnd name l 0 = R) := hR
 rw [hR]
 clear hR
 go_enter Tryz.func127, Tryz.ntmps127
 go_wp2
 go_loopw [9] (fun i wr => ∃ k : Nat, k ≤ n ∧ i = .int .i64 (k : Nat) ∧ fnd name (l.drop k) k = R ∧ Below w.heap.size w wr) (fun i _ => n + 1 - (intOf i).toNat)
 case atStart => exact ⟨0, by omega, rfl, by rw [List.drop_zero]; exact HR.out, Below.refl _ _⟩
 case round =>
  obtain ⟨k, hk, rfl, hf, hB⟩ := hrel
  have HF : Hid (fnd name (l.drop k) k = R) := hf
  have HB : Hid (Below w.heap.size w wr) := hB
  by_cases hlt : k < n
  . have hkd : k < l.length := by have := HNL.out; omega
    obtain ⟨g, off, hg, hc⟩ := HP.out (by omega)
    obtain ⟨hgs, c0, c1⟩ := hc k hkd
    subst hg
    have HHit : Hid (eqS l[k].s name = true → R = k) := fun h => HF.out.symm.trans (fnd_hit hkd h)
    have HMiss : Hid (eqS l[k].s name = false → fnd name (l.drop (k + 1)) (k + 1) = R) := fun h => (fnd_miss hkd h).symm.trans HF.out
    obtain ⟨d, hdk⟩ : ∃ d, l[k] = d := ⟨_, rfl⟩
    rw [hdk] at c0 c1 HHit HMiss
    have b0 : wr.cell? ⟨g, off + k * 2, none⟩ = some (.string d.s) := (hB.cell (p := ⟨g, off + k * 2, none⟩) hgs).trans c0
    have b1 : wr.cell? ⟨g, off + k * 2 + 1, none⟩ = some (.int .i64 d.k) := (hB.cell (p := ⟨g, off + k * 2 + 1, none⟩) hgs).trans c1
    have i1 : (0 : Int) ≤ (k : Int) := by omega
    have i2 : (k : Int) < (n : Int) := by omega
    have hne : wr.heap.size ≠ g := by have := hB.size; omega
    clear hc hdk c0 c1 hgs hf hB hkd
    by_cases he : d.s.toList = name.toList
    . go_wp2
      go_ret
      exact ⟨zAD (HHit.out (by simp [eqS, he])).symm, HB.out.alloc HB.out.size _⟩
    . have heb : (d.s.toList == name.toList) = false := by simpa using he
      go_wp2
      go_roundw
      case rel => exact ⟨k + 1, by omega, by go_num, HMiss.out (by simp [eqS, he]), HB.out.alloc HB.out.size _⟩
      case measure => simp [intOf]; omega
  . obtain rfl : k = n := by omega
    have HX : Hid (R = -1) := by rw [← HF.out, ← HNL.out]; exact fnd_end
    clear hf hB
    go_wp2
    go_ret
    exact ⟨zAD HX.out.symm, HB.out⟩
theorem zCU (f : Fd) (v : Value) (l : List Fd) (w : World) (hv : FieldsAt w v l) :
   Calls Tryz.prog 82 #[.agg #[.string f.s, .int .i64 f.k], v] w fun e w' => e = .returned (.int .i64 (fck f l)) ∧ Below w.heap.size w w' := by
 obtain ⟨s, k⟩ := f
 obtain ⟨n, hn⟩ : ∃ n, nchk s = n := ⟨_, rfl⟩
 obtain ⟨a, ha⟩ : ∃ a, anyS s l = a := ⟨_, rfl⟩
 obtain ⟨R, hR⟩ : ∃ R, fnd s l 0 = R := ⟨_, rfl⟩
 have HA : Hid (0 ≤ R ↔ a = true) := by rw [← hR, ← ha]; exact zEY s l 0
 have HK : Hid (fck ⟨s, k⟩ l = if n ≠ 0 then n else if k ≠ 1 ∧ k ≠ 2 then 3 else if a = true then 7 else 0) := by subst hn ha; exact rfl
 have HV : Hid (FieldsAt w v l) := hv
 have H1 : Hid (∀ W, Calls Tryz.prog 81 #[.string s] W fun e w' => e = .returned (.int .i64 n) ∧ w' = W) := fun W => by rw [← hn]; exact zB6 _ _
 have H2 : Hid (∀ W, Below w.heap.size w W → Calls Tryz.prog 127 #[v, .string s] W fun e w' => e = .returned (.int .i64 R) ∧ Below W.heap.size W w') := fun W hb => by rw [← hR]; exact zA4 _ _ _ _ (HV.out.below hb)
 clear hn ha hR hv
 by_cases hn0 : n = 0
 . subst hn0
   by_cases hk : k ≠ 1 ∧ k ≠ 2
   . have he : fck ⟨s, k⟩ l = 3 := by rw [HK.out]; simp [hk.1, hk.2]
     have HE : Hid (fck ⟨s, k⟩ l = 3) := he
     clear he
     obtain ⟨k1, k2⟩ := hk
     have kb1 : (k == 1) = false := by simpa using k1
     have kb2 : (k == 2) = false := by simpa using k2
     go_enter Tryz.func82, Tryz.ntmps82
     go_wp2_with (first | (go_at_call 81; refine (H1.out _).mono ?_; rintro e w2 ⟨rfl, rfl⟩) | (go_at_call 126; go_in))
     go_ret
     exact ⟨zAD HE.out.symm, (Below.refl _ w).alloc (Nat.le_refl _) _⟩
   . have hk' : k = 1 ∨ k = 2 := by omega
     have he : fck ⟨s, k⟩ l = if 0 ≤ R then 7 else 0 := by
      rw [HK.out, if_neg (by simp), if_neg hk]
      by_cases c : 0 ≤ R
      . rw [if_pos c, if_pos (HA.out.1 c)]
      . rw [if_neg c, if_neg (fun h => c (HA.out.2 h))]
     have HE : Hid (fck ⟨s, k⟩ l = if 0 ≤ R then 7 else 0) := he
     clear he hk
     rcases hk' with rfl | rfl
     all_goals
      go_enter Tryz.func82, Tryz.ntmps82
      go_wp2_with (first | (go_at_call 81; refine (H1.out _).mono ?_; rintro e w2 ⟨rfl, rfl⟩) | (go_at_call 126; go_in) | (go_at_call 127; refine (H2.out _ ((Below.refl _ w).alloc (Nat.le_refl _) _)).mono ?_; rintro e w2 ⟨rfl, hb2⟩; have HB2 : Hid (Below w.heap.size w w2) := zAA ((Below.refl _ w).alloc (Nat.le_refl _) _) hb2 (by simp); clear hb2))
      all_goals
        go_ret
        exact ⟨zAD (by rw [HE.out]; first | rw [if_pos (by assumption)] | rw [if_neg (by omega)]), HB2.out⟩
 . have he : fck ⟨s, k⟩ l = n := by rw [HK.out]; simp [hn0]
   have HE : Hid (fck ⟨s, k⟩ l = n) := he
   clear he
   have kb1 : (n == 0) = false := by simpa using hn0
   have kb2 : (n != 0) = true := by simpa using hn0
   go_enter Tryz.func82, Tryz.ntmps82
   go_wp2_with (first | (go_at_call 81; refine (H1.out _).mono ?_; rintro e w2 ⟨rfl, rfl⟩))
   go_ret
   exact ⟨zAD HE.out.symm, (Below.refl _ w).alloc (Nat.le_refl _) _⟩
end Go.Proofs.YtnlmknbhppdliaaGreatDoor.V4
