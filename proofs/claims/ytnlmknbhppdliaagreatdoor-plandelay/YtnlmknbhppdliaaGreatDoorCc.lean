/-
  Values and sides, by the reference. Sides and conditions, by the reference. Options, and fields that are summed up, by the reference. Conditions, by the reference. Does a rule speak of a type? By the reference. What comes of what, by the reference. A type, by the reference. The first elements of a row that is only read. Conditions within conditions, by the reference. What a rule emits, by the reference. A book, by the reference. What a rule's whens, and a not, may be: the matrix of their spans, in plain words. A region that draws its order, by what each of its operations yields: one obligation an operation, whatever the order.
-/
import Derived.Deep.RegionHeld3
import Derived.Shelf.Abstract
import Derived.Orders
import Derived.Test.YtnlmknbhppdliaaGreatDoorPb
namespace Go.Proofs.YtnlmknbhppdliaaGreatDoor.Chk
open Go.ChangeShapes Go.WideShapes Go.ChangeAt Go.RowKit Go.Maps
set_option linter.unusedVariables false
set_option linter.unusedSimpArgs false
set_option maxRecDepth 20000
def emp (s : ByteArray) : Bool := s.toList == []
def vck (vk vi : Int) (vt : ByteArray) : Int :=
  if vk = 1 then (if emp vt = false then 4 else if -1125899906842624 ≤ vi ∧ vi ≤ 1125899906842624 then 0 else 2)
  else if vk = 2 then (if vi = 0 then (if 20 < vt.size then 1 else 0) else 4) else 3
theorem zCT {s : ByteArray} (h : emp s = true) : s.toList = [] := by simpa [emp] using h
theorem zEH {s : ByteArray} (h : emp s = false) : ¬ s.toList = [] ∧ (s.toList == []) = false := ⟨by simpa [emp] using h, h⟩
def fck (fs : List Fd) (n : ByteArray) : Int × Int := if fdq fs n < 0 then (0, 6) else ((fs.getD (fdq fs n).toNat ⟨txt [], 0⟩).k, 0)
def tyOf (ts : List Tp) (kn : List Pt) (va : ByteArray) : Tp := ts.getD (tyq ts (kn.getD (ptq kn va).toNat ⟨txt [], txt [], cn0, 0, 0⟩).ty).toNat ⟨txt [], []⟩
def nzv (o : Opd) : Bool := !(decide (o.vk = 0) && decide (o.vi = 0) && emp o.vt)
def sdk (ts : List Tp) (kn : List Pt) (own : Tp) (o : Opd) : Int × Int :=
  if ¬ (1 ≤ o.k ∧ o.k ≤ 3) then (0, 3)
  else if o.k = 1 then (if emp o.va = false ∨ emp o.fd = false then (0, 4) else (o.vk, vck o.vk o.vi o.vt))
  else if o.k = 2 then (if emp o.va = false ∨ nzv o = true then (0, 4) else fck own.f o.fd)
  else (if ptq kn o.va < 0 then (0, 6) else if nzv o = true then (0, 4) else fck (tyOf ts kn o.va).f o.fd)
theorem zEK {P : Program} {ops : Array Oper} {Q : Exit → Act → World → Prop} {S : World → Prop} {id : Nat} {a : Act} {w : World} (n : Nat) (l : Array Bool) (hn : ops.size = n) (hl : Array.replicate n false = l) (hm : P.follows .mixedOrders = true) (hS : S w.drew)
  (h : S w.drew → wpAnyH P .any ops Q S n l a w.drew) : (Code.region id ops true).wp P Q a w := by
 subst hn hl
 exact wp_region_held_drew hm hS h
theorem zJD     {P : Program} {ops : Array Oper} {Q : Exit → Act → World → Prop} {md : Region.Mode} {S : World → Prop} {i : Nat} {d : _} {op : _} {t : _} {p : _} {af : _} {gd : _} {v : Value} {fuel : Nat} {listed : Array Bool} {a : Act} {w : World} (hi : ops[i]? = some (Oper.mk d op t p af gd))
    (hs : Region.noSelect ops = true) (hf : Region.free md ops listed i = true) (hr : (Region.ready md ops listed).contains i = true) (hQ : ∀ c a w, Q (.panic c) (a.put d v) w → Q (.panic c) a w) (hy : YieldsIf P ops S (Oper.mk d op t p af gd) v a) (hS : S w)
    (h : wpAnyH P md ops Q S fuel (listed.setIfInBounds i true) (a.put d v) w) : wpAnyH P md ops Q S (fuel + 1) listed a w := wpAnyH_take hi hs hf hr hQ hy hS h
theorem gLq {P : Program} {ops : Array Oper} {Q : Exit → Act → World → Prop} {d : _} {T : TypeId} {x : Operand} {t : _} {p : _} {af : _} {gd : _} {r : List Oper} {a : Act} {w : World} (h : wpList P ops Q (Oper.mk d (.load T x) t p af gd :: r) a w) : wpList P ops Q (Oper.mk d (.load T x) t p af gd :: r) a w := h
theorem gSq {P : Program} {ops : Array Oper} {Q : Exit → Act → World → Prop} {d : _} {T : TypeId} {x y : Operand} {t : _} {p : _} {af : _} {gd : _} {r : List Oper} {a : Act} {w : World} (h : wpList P ops Q (Oper.mk d (.store T x y) t p af gd :: r) a w) : wpList P ops Q (Oper.mk d (.store T x y) t p af gd :: r) a w := h
theorem puts : (∀ (a : Act) (i : Nat) (v : Value), a.put (some i) v = { a with tmps := a.tmps.setIfInBounds i v }) ∧ (∀ (a : Act) (v : Value), a.put none v = a) ∧ (∀ (l : List Value) (i : Nat) (v : Value), l.toArray.setIfInBounds i v = (l.set i v).toArray) ∧ (∀ (x y : Value) (l : List Value), (x :: l).set 0 y = y :: l) ∧ (∀ (x y : Value) (l : List Value) (n : Nat), (x :: l).set (n + 1) y = x :: l.set n y) :=
  ⟨fun _ _ _ => rfl, fun _ _ => rfl, fun _ _ _ => by simp, fun _ _ _ => rfl, fun _ _ _ _ => rfl⟩
theorem tlq {P : Program} {ops : Array Oper} {Q : Exit → Act → World → Prop} {md : Region.Mode} {S : World → Prop} {i : Nat} {d : _} {op : _} {t : _} {p : _} {af : _} {gd : _} {v : Value} {fuel : Nat} {listed : Array Bool} {a : Act} {w : World} (hi : ops[i]? = some (Oper.mk d op t p af gd)) (hy : YieldsIf P ops S (Oper.mk d op t p af gd) v a)
    (h : wpAnyH P md ops Q S fuel (listed.setIfInBounds i true) (a.put d v) w) (hs : Region.noSelect ops = true := by kernel_rfl) (hf : Region.free md ops listed i = true := by kernel_rfl) (hr : (Region.ready md ops listed).contains i = true := by kernel_rfl) (hQ : ∀ c a w, Q (.panic c) (a.put d v) w → Q (.panic c) a w := by exact fun _ _ _ h => h) (hS : S w := by assumption) : wpAnyH P md ops Q S (fuel + 1) listed a w := zJD hi hs hf hr hQ hy hS h
theorem tkq {P : Program} {ops : Array Oper} {Q : Exit → Act → World → Prop} {md : Region.Mode} {S : World → Prop} {i : Nat} {d : _} {op : _} {t : _} {p : _} {af : _} {gd : _} {v : Value} {fuel : Nat} {listed : Array Bool} {a : Act} {w : World} (hi : ops[i]? = some (Oper.mk d op t p af gd)) (hy : ∀ w, S w → (execOp a.eval (Oper.mk d op t p af gd)).run P w = .ok (.value v) w)
    (h : wpAnyH P md ops Q S fuel (listed.setIfInBounds i true) (a.put d v) w) (hw : Region.wanted (Oper.mk d op t p af gd) (yielded ops a.tmps) = true := by rfl) (hs : Region.noSelect ops = true := by kernel_rfl) (hf : Region.free md ops listed i = true := by kernel_rfl) (hr : (Region.ready md ops listed).contains i = true := by kernel_rfl) (hQ : ∀ c a w, Q (.panic c) (a.put d v) w → Q (.panic c) a w := by exact fun _ _ _ h => h) (hS : S w := by assumption) : wpAnyH P md ops Q S (fuel + 1) listed a w := zJD hi hs hf hr hQ (Or.inl ⟨hw, hy⟩) hS h
theorem zB7     {P : Program} {ops : Array Oper} {Q : Exit → Act → World → Prop} {md : Region.Mode} {S : World → Prop} {i : Nat} {d : _} {op : _} {t : _} {p : _} {af : _} {gd : _} {fuel : Nat} {listed : Array Bool} {a : Act} {w : World} {rs : List Nat} (ho : ops[i]? = some (Oper.mk d op t p af gd))
    (h : ∀ K' : Act → World → Prop, Shut (∀ a w, S w → (S w → wpAnyH P md ops Q S fuel (listed.setIfInBounds i true) a w) → K' a w) → if Region.wanted (Oper.mk d op t p af gd) (yielded ops a.tmps) = true then Oper.wp P (Oper.mk d op t p af gd) a w K' Q else K' (a.put d undef) w)
    (hs : AllReadyH P md ops Q S fuel listed a w rs) : AllReadyH P md ops Q S fuel listed a w (i :: rs) := AllReadyH.cons ho h hs
def zBU (ts : List Tp) (kn : List Pt) : Prop := ∀ j (hj : j < kn.length), ∃ i, ∃ _ : i < ts.length, tyq ts kn[j].ty = (i : Int)
def ock (r lo hi : Int) : Int := if ¬ (1 ≤ r ∧ r ≤ 13) then 3 else if ¬ (0 ≤ lo ∧ lo ≤ 1073741824) ∨ ¬ (-1 ≤ hi ∧ hi ≤ 1073741824) then 2 else if hi ≠ -1 ∧ hi < lo then 11 else 0
def sck (fs : List Fd) (n : ByteArray) : Int := if (fck fs n).2 ≠ 0 then 6 else if (fck fs n).1 = 1 then 0 else 13
structure BlkT (w0 w : World) (us : List Value) (t : TypeId) : Prop where
  bel : Below w0.heap.size w0 w
  b1 : w.heap[w0.heap.size]? = some (.cells us.toArray t (0, 0))
theorem BlkT.start (w : World) (us : List Value) (t : TypeId) : BlkT w (w.alloc (.cells us.toArray t)) us t := ⟨(Below.refl _ _).alloc (Nat.le_refl _) _, heap_alloc_new _ _⟩
theorem BlkT.next {w0 w w' : World} {us : List Value} {t : TypeId} (h : BlkT w0 w us t) (hb : Below w.heap.size w w') : BlkT w0 w' us t := ⟨zAA h.bel hb h.bel.size, (hb.block _ (zAE h.b1)).trans h.b1⟩
theorem BlkT.c {w0 w : World} {us : List Value} {t : TypeId} (h : BlkT w0 w us t) (j : Nat) : w.cell? ⟨w0.heap.size, j, none⟩ = us[j]? := by rw [zAB h.b1]; simp
def eqz (o : Opd) : Bool := decide (o.k = 0) && decide (o.vk = 0) && decide (o.vi = 0) && emp o.vt && emp o.va && emp o.fd
def noc (c : Cn) : Bool := decide (c.k = 0) && decide (c.sb.length = 0) && eqz c.l && eqz c.r
def decO : List Dat → Option Opd
  | [.lit (.int .i64 a), .lit (.int .i64 b), .lit (.int .i64 c), .lit (.string x), .lit (.string y), .lit (.string z)] => some ⟨a, b, c, x, y, z⟩
  | _ => none
def decC : List Dat → Option Cn
  | .lit (.int .i64 k) :: .row _ _ sb :: rest => (match decO (rest.take 6), decO (rest.drop 6) with | some l, some r => some ⟨k, sb, l, r⟩ | _, _ => none)
  | _ => none
theorem decC_enc (c : Cn) : decC (encC c) = some c := rfl
def subs (c : Cn) : List Cn := c.sb.filterMap decC
theorem zH8 : ∀ cs : List Cn, (cs.map encC).filterMap decC = cs
  | [] => rfl
  | x :: r => by rw [List.map_cons, List.filterMap_cons, decC_enc, zH8 r]
theorem subs_of {c : Cn} {cs : List Cn} (h : c.sb = cs.map encC) : subs c = cs := by
  unfold subs
  rw [h]
  exact zH8 cs
def cgo (f : Cn → Int × Int) : List Cn → Int → Int × Int
  | [], m => (m, 0)
  | x :: r, m => if (f x).2 ≠ 0 then (0, (f x).2) else if 12 < m + (f x).1 then (0, 1) else cgo f r (m + (f x).1)
def cdk (ts : List Tp) (kn : List Pt) (own : Tp) : Nat → Cn → Int × Int
  | 0, c => if 1 ≤ c.k ∧ c.k ≤ 7 then (0, 14) else (0, 3)
  | n + 1, c =>
    if ¬ (1 ≤ c.k ∧ c.k ≤ 7) then (0, 3)
    else if 3 < c.k then
      (if c.sb.length ≠ 0 then (0, 4)
       else if (sdk ts kn own c.l).2 ≠ 0 then (0, (sdk ts kn own c.l).2)
       else if (sdk ts kn own c.r).2 ≠ 0 then (0, (sdk ts kn own c.r).2)
       else if (sdk ts kn own c.l).1 ≠ (sdk ts kn own c.r).1 then (0, 13) else (1, 0))
    else if eqz c.l = false ∨ eqz c.r = false then (0, 4)
    else if (c.k = 3 ∧ c.sb.length ≠ 1) ∨ (c.k ≠ 3 ∧ c.sb.length < 2) then (0, 4)
    else cgo (cdk ts kn own n) (subs c) 0
structure Blk2 (w0 w : World) (us vs : List Value) (t1 t2 : TypeId) : Prop where
  bel : Below w0.heap.size w0 w
  b1 : w.heap[w0.heap.size]? = some (.cells us.toArray t1 (0, 0))
  b2 : w.heap[w0.heap.size + 1]? = some (.cells vs.toArray t2 (0, 0))
theorem Blk2.start (w : World) (us vs : List Value) (t1 t2 : TypeId) : Blk2 w ((w.alloc (.cells us.toArray t1)).alloc (.cells vs.toArray t2)) us vs t1 t2 :=
  ⟨((Below.refl _ _).alloc (Nat.le_refl _) _).alloc (by simp) _, (Below.heap_alloc _ _ _ (by simp)).trans (heap_alloc_new _ _), zDU _ _ _⟩
section
variable {w0 w w' : World} {us vs : List Value} {t1 t2 : TypeId}
theorem Blk2.next (h : Blk2 w0 w us vs t1 t2) (hb : Below w.heap.size w w') : Blk2 w0 w' us vs t1 t2 := ⟨zAA h.bel hb h.bel.size, (hb.block _ (zAE h.b1)).trans h.b1, (hb.block _ (zAE h.b2)).trans h.b2⟩
theorem Blk2.drew (h : Blk2 w0 w us vs t1 t2) : Blk2 w0 w.drew us vs t1 t2 := ⟨h.bel.drew, h.b1, h.b2⟩
theorem Blk2.alloc (h : Blk2 w0 w us vs t1 t2) (o : Obj) : Blk2 w0 (w.alloc o) us vs t1 t2 := h.next ((Below.refl _ _).alloc (Nat.le_refl _) _)
theorem Blk2.c1 (h : Blk2 w0 w us vs t1 t2) (j : Nat) : w.cell? ⟨w0.heap.size, j, none⟩ = us[j]? := by rw [zAB h.b1]; simp
theorem Blk2.c2 (h : Blk2 w0 w us vs t1 t2) (j : Nat) : w.cell? ⟨w0.heap.size + 1, j, none⟩ = vs[j]? := by rw [zAB h.b2]; simp
end
theorem hid {p : Prop} (h : p) : Hid p := h
def CR (w : World) (r : Int × Int) (e : Ending) (w' : World) : Prop := ∃ m : Int, e = .returned (.tuple #[.int .i64 m, .int .i64 r.2]) ∧ (r.2 = 0 → m = r.1) ∧ Below w.heap.size w w'
theorem rdM {w : World} {m : Mn} {vs : List Value} (h : RdL w (encM m) vs) : ∃ us, vs = .int .i64 m.c :: .string m.f :: us ∧ RdL w (encP m.p) us := by
  obtain ⟨v0, r0, rfl, h0, h⟩ := RdL.one h
  obtain ⟨v1, r1, rfl, h1, h⟩ := RdL.one h
  rw [zAN h0, zAN h1]
  exact ⟨r1, rfl, h⟩
def spk (ws ns : List Pt) (ms : List Mn) (n : ByteArray) : Bool := ws.any (fun p => seq p.ty n) || ns.any (fun p => seq p.ty n) || ms.any (fun m => seq m.p.ty n)
theorem rdR {w : World} {r : Rl} {vs : List Value} (h : RdL w (encR r) vs) : ∃ v1 v2 v3 v4 v5, vs = [.string r.n, v1, v2, v3, v4, .string r.e.ty, v5] ∧ Rd w (.row 48 18 (r.w.map encP)) v1 ∧ Rd w (.row 48 18 (r.t.map encP)) v2 ∧ Rd w (.row 78 20 (r.m.map encM)) v3 ∧ Rd w (.row 66 3 (r.k.map encK)) v4 ∧ Rd w (.row 44 6 (r.e.v.map encO)) v5 := by
  obtain ⟨v0, r0, rfl, h0, h⟩ := RdL.one h
  obtain ⟨v1, r1, rfl, h1, h⟩ := RdL.one h
  obtain ⟨v2, r2, rfl, h2, h⟩ := RdL.one h
  obtain ⟨v3, r3, rfl, h3, h⟩ := RdL.one h
  obtain ⟨v4, r4, rfl, h4, h⟩ := RdL.one h
  obtain ⟨v5, r5, rfl, h5, h⟩ := RdL.one h
  obtain ⟨v6, r6, rfl, h6, h⟩ := RdL.one h
  rw [zAN h0, zAN h5, RdL.none h]
  exact ⟨v1, v2, v3, v4, v6, rfl, h1, h2, h3, h4, h6⟩
def cmo (rs : List Rl) (tt : ByteArray) : Nat → ByteArray → Bool
  | 0, _ => false
  | n + 1, nm => rs.any fun x => !(emp x.e.ty) && (spk x.w x.t x.m nm && (seq x.e.ty tt || cmo rs tt n x.e.ty))
def fdk (f : Fd) : Int := if nchk f.n ≠ 0 then nchk f.n else if 1 ≤ f.k ∧ f.k ≤ 2 then 0 else 3
def tfs (done : List Fd) : List Fd → Int
  | [] => 0
  | f :: r => if fdk f ≠ 0 then fdk f else if done.any (fun d => seq d.n f.n) = true then 7 else tfs (done ++ [f]) r
def tyk (n : ByteArray) (fs : List Fd) : Int := if nchk n ≠ 0 then nchk n else if 4 < fs.length then 1 else tfs [] fs
end Go.Proofs.YtnlmknbhppdliaaGreatDoor.Chk
namespace Go.Proofs.YtnlmknbhppdliaaGreatDoor.Chk
open Go.ChangeShapes Go.WideShapes Go.ChangeAt Go.RowKit Go.Maps
set_option linter.unusedVariables false
set_option linter.unusedSimpArgs false
end Go.Proofs.YtnlmknbhppdliaaGreatDoor.Chk
namespace Go.Proofs.YtnlmknbhppdliaaGreatDoor.Chk
open Go.ChangeShapes Go.WideShapes Go.ChangeAt Go.RowKit Go.Maps
set_option linter.unusedVariables false
set_option linter.unusedSimpArgs false
set_option maxRecDepth 20000
theorem zFJ (f : Cn → Int × Int) (hf : ∀ x, 0 ≤ (f x).1 ∧ (f x).1 ≤ 12) : ∀ l m, 0 ≤ m ∧ m ≤ 12 → 0 ≤ (cgo f l m).1 ∧ (cgo f l m).1 ≤ 12
 | [], m, h => h
 | x :: r, m, h => by
  unfold cgo
  split
  . exact ⟨by simp, by simp⟩
  . split
    . exact ⟨by simp, by simp⟩
    . rename_i c
      exact zFJ f hf r _ ⟨by have := (hf x).1; omega, by omega⟩
theorem zFV (ts : List Tp) (kn : List Pt) (own : Tp) : ∀ n c, 0 ≤ (cdk ts kn own n c).1 ∧ (cdk ts kn own n c).1 ≤ 12
 | 0, c => by unfold cdk; split <;> exact ⟨by simp, by simp⟩
 | n + 1, c => by
  unfold cdk
  repeat' split
  all_goals first
   | exact zFJ _ (zFV ts kn own n) _ _ ⟨by decide, by decide⟩
   | exact ⟨by simp, by simp⟩
theorem zJX {w : World} {c : Cn} {vs : List Value} (h : RdL w (encC c) vs) : ∃ v, vs = cnC c.k v c.l c.r ∧ Rd w (.row 46 14 c.sb) v := by
  obtain ⟨v2, r2, rfl, h2, h⟩ := RdL.one h
  obtain ⟨v3, r3, rfl, h3, h⟩ := RdL.one h
  obtain ⟨a0, r4, rfl, g0, h⟩ := RdL.one h
  obtain ⟨a1, r4, rfl, g1, h⟩ := RdL.one h
  obtain ⟨a2, r4, rfl, g2, h⟩ := RdL.one h
  obtain ⟨a3, r4, rfl, g3, h⟩ := RdL.one h
  obtain ⟨a4, r4, rfl, g4, h⟩ := RdL.one h
  obtain ⟨a5, r4, rfl, g5, h⟩ := RdL.one h
  obtain ⟨b0, r4, rfl, k0, h⟩ := RdL.one h
  obtain ⟨b1, r4, rfl, k1, h⟩ := RdL.one h
  obtain ⟨b2, r4, rfl, k2, h⟩ := RdL.one h
  obtain ⟨b3, r4, rfl, k3, h⟩ := RdL.one h
  obtain ⟨b4, r4, rfl, k4, h⟩ := RdL.one h
  obtain ⟨b5, r4, rfl, k5, h⟩ := RdL.one h
  rw [zAN h2, zAN g0, zAN g1, zAN g2, zAN g3, zAN g4, zAN g5, zAN k0, zAN k1, zAN k2, zAN k3, zAN k4, zAN k5, RdL.none h]
  exact ⟨v3, rfl, h3⟩
theorem rdO {w : World} {o : Opd} {vs : List Value} (h : RdL w (encO o) vs) : vs = [.int .i64 o.k, .int .i64 o.vk, .int .i64 o.vi, .string o.vt, .string o.va, .string o.fd] := by
  obtain ⟨v0, r0, rfl, h0, h⟩ := RdL.one h
  obtain ⟨v1, r1, rfl, h1, h⟩ := RdL.one h
  obtain ⟨v2, r2, rfl, h2, h⟩ := RdL.one h
  obtain ⟨v3, r3, rfl, h3, h⟩ := RdL.one h
  obtain ⟨v4, r4, rfl, h4, h⟩ := RdL.one h
  obtain ⟨v5, r5, rfl, h5, h⟩ := RdL.one h
  rw [zAN h0, zAN h1, zAN h2, zAN h3, zAN h4, zAN h5, RdL.none h]
def evs (ts : List Tp) (ws : List Pt) (t : Tp) : List Opd → List Fd → Int
  | o :: r, f :: g => if o.k = 2 then 4 else if (sdk ts ws t o).2 ≠ 0 then (sdk ts ws t o).2 else if (sdk ts ws t o).1 ≠ f.k then 13 else evs ts ws t r g
  | _, _ => 0
def eck (ts : List Tp) (ws : List Pt) (ety : ByteArray) (vs : List Opd) : Int :=
  if emp ety = true then (if 0 < vs.length then 4 else 0)
  else if tyq ts ety < 0 then 6
  else if vs.length ≠ (ts.getD (tyq ts ety).toNat ⟨txt [], []⟩).f.length then 13
  else evs ts ws (ts.getD (tyq ts ety).toNat ⟨txt [], []⟩) vs (ts.getD (tyq ts ety).toNat ⟨txt [], []⟩).f
def tks (done : List Tp) : List Tp → Int
  | [] => 0
  | t :: r => if tyk t.n t.f ≠ 0 then tyk t.n t.f else if kpt t.n = true then 4 else if t.f.any (fun f => kpt f.n) = true then 4 else if 0 ≤ tyq done t.n then 7 else tks (done ++ [t]) r
def rks (rk : Rl → Int) (done : List Rl) : List Rl → Int
  | [] => 0
  | x :: r => if rk x ≠ 0 then rk x else if done.any (fun d => seq d.n x.n) = true then 7 else rks rk (done ++ [x]) r
def bkf (rk : Rl → Int) (ts : List Tp) (rs : List Rl) : Int :=
  if 6 < ts.length ∨ 5 < rs.length then 1
  else if tks [] ts ≠ 0 then tks [] ts
  else if rks rk [] rs ≠ 0 then rks rk [] rs
  else if ts.any (fun t => cmo rs t.n rs.length t.n) = true then 15 else 0
theorem zHV {ops : Array Oper} {o : Oper} {a : Act} {w : World} {K : Act → World → Prop} {Q : Exit → Act → World → Prop} {E : Prop} (f : FuncId) (he : ∀ args w, (callFunc f args).run Tryz.prog w = .ok (.enter f args) w) (hw : Region.wanted o (yielded ops a.tmps) = true) (x1 x2 : Operand) (ts : Array TypeId) (ho : o.op = .call { callee := .value (.func f), args := #[x1, x2], argTypes := ts }) (u1 u2 : Value) (h1 : a.eval x1 = u1) (h2 : a.eval x2 = u2)
  (R : Ending → World → Prop) (hc : Calls Tryz.prog f #[u1, u2] w R) (h : ∀ e w', R e w' → ∃ v, e = .returned v ∧ K (a.put o.dst v) w') :
  if Region.wanted o (yielded ops a.tmps) = true then Oper.wp Tryz.prog o a w K Q else E := by
 rw [if_pos hw]
 unfold Oper.wp execOp
 have hf : a.eval (.func f) = Value.func (Fn.func f) #[] #[] := rfl
 simp [ho, resolve, invoke, Deferred.ofValue, hf, h1, h2, he]
 refine hc.mono ?_
 intro e w' hr
 obtain ⟨v, rfl, hk⟩ := h e w' hr
 exact hk
end Go.Proofs.YtnlmknbhppdliaaGreatDoor.Chk
namespace Go.Proofs.YtnlmknbhppdliaaGreatDoor.Chk
open B8 (Mx OwnM New zA5 lowZ leaZ greZ neeZ Bnd Gd fw)
set_option linter.unusedVariables false
set_option linter.unusedSimpArgs false
set_option maxRecDepth 20000
abbrev nob : Int := 1152921504606846976
def qo (o : Op3) : B8.Op3 := ⟨o.r, o.lo, o.hi⟩
def opZ (os : List Op3) : Nat → B8.Op3 := fun i => qo (os.getD i ⟨0, 0, 0⟩)
def pm4 (l r : Nat) : Nat → Nat := fun i => if i = 0 then 2 * l else if i = 1 then 2 * l + 1 else if i = 2 then 2 * r else 2 * r + 1
def lwc (pm : Nat → Nat) (R : Mx) (i : Nat) : Nat → Mx → Mx
  | 0, m => m
  | j + 1, m => lowZ (lwc pm R i j m) (pm i) (pm j) (R i j)
def lwr (pm : Nat → Nat) (R : Mx) : Nat → Mx → Mx
  | 0, m => m
  | i + 1, m => lwc pm R i 4 (lwr pm R i m)
def lk1 (sp : List Pt) (k : Lk) (m : Mx) : Option Mx :=
 if ptq sp k.l < 0 ∨ ptq sp k.r < 0 then some m
 else match B8.opR (opZ k.o) k.o.length with
  | none => none
  | some R => some (lwr (pm4 (ptq sp k.l).toNat (ptq sp k.r).toNat) R 4 m)
def lks (sp : List Pt) : List Lk → Mx → Option Mx
 | [], m => some m
 | k :: r, m => match lk1 sp k m with
  | none => none
  | some M => lks sp r M
def pt0' : Pt := ⟨txt [], txt [], cn0, 0, 0⟩
def wAt (ws : List Pt) (i : Nat) : Pt := ws.getD i pt0'
def b1 (k : Nat) : Mx := fun a b => if a = b then 0 else if a % 2 = 0 ∧ b = a + 1 ∧ a / 2 < k then 0 else nob
def b2 (ws : List Pt) (i k : Nat) : Mx := fun a b => if a = b then 0 else if a % 2 = 0 ∧ b = a + 1 then 0 else if a % 2 = 1 ∧ b % 2 = 1 ∧ a / 2 < ws.length ∧ (wAt ws (b / 2)).w = 1 ∧ (b / 2 < i ∨ (b / 2 = i ∧ a / 2 < k)) then (wAt ws (b / 2)).n else nob
def bas (ws : List Pt) : Mx := b2 ws ws.length 0
def Wok (ws : List Pt) : Prop := ∀ i, i < ws.length → (wAt ws i).w = 1 → 0 ≤ (wAt ws i).n ∧ (wAt ws i).n ≤ 1073741824
def Lok (sp : List Pt) (ks : List Lk) : Prop := ∀ k, k ∈ ks → (∀ i, i < k.o.length → B8.optE (opZ k.o i).r (opZ k.o i).lo (opZ k.o i).hi = 0) ∧ seq k.l k.r = false
def clo (n : Nat) : Option Mx → Option Mx
  | none => none
  | some M => if B8.ngb (fw M n) n = false then some (fw M n) else none
def rmx (ws sp : List Pt) (ks : List Lk) : Option Mx := clo (2 * sp.length) (lks sp ks (bas ws))
theorem b1_zero (a b : Nat) : b1 0 a b = B8.fre a b := by
  unfold b1 B8.fre
  by_cases c : a = b
  . rw [if_pos c, if_pos c]
  . rw [if_neg c, if_neg c, if_neg (by omega)]
theorem b1_step (k a b : Nat) : lowZ (b1 k) (2 * k) (2 * k + 1) 0 a b = b1 (k + 1) a b := by
 unfold lowZ B8.upd
 by_cases c : a = 2 * k ∧ b = 2 * k + 1
 . obtain ⟨rfl, rfl⟩ := c
   rw [if_pos ⟨rfl, rfl⟩]
   unfold b1
   rw [if_neg (by omega), if_neg (by omega), if_neg (by omega), if_pos (by omega)]
   decide
 . rw [if_neg c]
   unfold b1
   by_cases d : a = b
   . rw [if_pos d, if_pos d]
   . rw [if_neg d, if_neg d]
     by_cases e : a % 2 = 0 ∧ b = a + 1 ∧ a / 2 < k
     . rw [if_pos e, if_pos (by omega)]
     . rw [if_neg e, if_neg (by omega)]
theorem b2_zero (ws : List Pt) (n a b : Nat) (ha : a < 2 * n) : b1 n a b = b2 ws 0 0 a b := by
 unfold b1 b2
 by_cases c : a = b
 . rw [if_pos c, if_pos c]
 . rw [if_neg c, if_neg c]
   by_cases d : a % 2 = 0 ∧ b = a + 1
   . rw [if_pos d, if_pos (by omega)]
   . rw [if_neg d, if_neg (by omega), if_neg (by omega)]
theorem b2_skip (ws : List Pt) (i : Nat) (h : (wAt ws i).w ≠ 1) (a b : Nat) : b2 ws i 0 a b = b2 ws (i + 1) 0 a b := by
 unfold b2
 by_cases c : a = b
 . rw [if_pos c, if_pos c]
 . rw [if_neg c, if_neg c]
   by_cases d : a % 2 = 0 ∧ b = a + 1
   . rw [if_pos d, if_pos d]
   . rw [if_neg d, if_neg d]
     by_cases e : a % 2 = 1 ∧ b % 2 = 1 ∧ a / 2 < ws.length ∧ (wAt ws (b / 2)).w = 1 ∧ (b / 2 < i ∨ (b / 2 = i ∧ a / 2 < 0))
     . rw [if_pos e, if_pos (by omega)]
     . rw [if_neg e, if_neg (fun f => e ?_)]
       obtain ⟨f1, f2, f3, f4, f5⟩ := f
       refine ⟨f1, f2, f3, f4, ?_⟩
       by_cases g : b / 2 = i
       . rw [g] at f4; exact absurd f4 h
       . omega
theorem b2_next (ws : List Pt) (i a b : Nat) : b2 ws i ws.length a b = b2 ws (i + 1) 0 a b := by
 unfold b2
 by_cases c : a = b
 . rw [if_pos c, if_pos c]
 . rw [if_neg c, if_neg c]
   by_cases d : a % 2 = 0 ∧ b = a + 1
   . rw [if_pos d, if_pos d]
   . rw [if_neg d, if_neg d]
     by_cases e : a % 2 = 1 ∧ b % 2 = 1 ∧ a / 2 < ws.length ∧ (wAt ws (b / 2)).w = 1 ∧ (b / 2 < i ∨ (b / 2 = i ∧ a / 2 < ws.length))
     . rw [if_pos e, if_pos (by omega)]
     . rw [if_neg e, if_neg (by omega)]
theorem b2_step (ws : List Pt) (i k : Nat) (hk : k < ws.length) (h : (wAt ws i).w = 1) (h1 : 0 ≤ (wAt ws i).n) (h2 : (wAt ws i).n ≤ 1073741824) (a b : Nat) : lowZ (b2 ws i k) (2 * k + 1) (2 * i + 1) (wAt ws i).n a b = b2 ws i (k + 1) a b := by
 have e1 : (2 * i + 1) / 2 = i := by omega
 have e2 : (2 * k + 1) / 2 = k := by omega
 unfold lowZ B8.upd
 by_cases c : a = 2 * k + 1 ∧ b = 2 * i + 1
 . obtain ⟨rfl, rfl⟩ := c
   rw [if_pos ⟨rfl, rfl⟩]
   unfold b2
   by_cases d : k = i
   . subst d
     rw [if_pos rfl, if_pos rfl]
     omega
   . rw [if_neg (by omega), if_neg (by omega), if_neg (by omega), if_neg (by omega), if_neg (by omega), if_pos (by rw [e1, e2]; exact ⟨by omega, by omega, hk, h, .inr ⟨rfl, by omega⟩⟩), e1]
     unfold nob
     omega
 . rw [if_neg c]
   unfold b2
   by_cases d : a = b
   . rw [if_pos d, if_pos d]
   . rw [if_neg d, if_neg d]
     by_cases d : a % 2 = 0 ∧ b = a + 1
     . rw [if_pos d, if_pos d]
     . rw [if_neg d, if_neg d]
       by_cases e : a % 2 = 1 ∧ b % 2 = 1 ∧ a / 2 < ws.length ∧ (wAt ws (b / 2)).w = 1 ∧ (b / 2 < i ∨ (b / 2 = i ∧ a / 2 < k))
       . rw [if_pos e, if_pos (by omega)]
       . rw [if_neg e, if_neg (by omega)]
/-! ### What is told lies within -/
def Mok (n : Nat) (M : Mx) : Prop := (∀ i, i < n → M i i = 0) ∧ Bnd n 2147483648 M
theorem zGV {ws : List Pt} (n : Nat) (h : Wok ws) : Mok n (bas ws) := by
 constructor
 . intro i _
   unfold bas b2
   rw [if_pos rfl]
 . intro a b _ _
   unfold bas b2
   by_cases c : a = b
   . rw [if_pos c]; right; omega
   . rw [if_neg c]
     by_cases d : a % 2 = 0 ∧ b = a + 1
     . rw [if_pos d]; right; omega
     . rw [if_neg d]
       by_cases e : a % 2 = 1 ∧ b % 2 = 1 ∧ a / 2 < ws.length ∧ (wAt ws (b / 2)).w = 1 ∧ (b / 2 < ws.length ∨ (b / 2 = ws.length ∧ a / 2 < 0))
       . rw [if_pos e]
         have := h (b / 2) (by omega) e.2.2.2.1
         right; omega
       . rw [if_neg e]; left; rfl
theorem lw_ok {n : Nat} {M : Mx} {i k : Nat} {x : Int} (h : Mok n M) (hi : i < n) (hk : k < n) (hx : x = nob ∨ (-2147483648 ≤ x ∧ x ≤ 2147483648)) (hd : i = k → x = 0) : Mok n (lowZ M i k x) := by
 constructor
 . intro a ha
   unfold lowZ B8.upd
   split
   . rename_i c
     obtain ⟨rfl, rfl⟩ := c
     rw [h.1 a ha, hd rfl]
     rfl
   . exact h.1 a ha
 . intro a b ha hb
   have h1 := h.2 a b ha hb
   have h2 := h.2 i k hi hk
   unfold lowZ B8.upd
   unfold nob at hx
   split <;> omega
theorem zIT {l r n : Nat} (hl : l < n) (hr : r < n) (i : Nat) : pm4 l r i < 2 * n := by
 unfold pm4
 split
 . omega
 . split
   . omega
   . split <;> omega
theorem pm4_ne {l r : Nat} (h : l ≠ r) {i j : Nat} (hi : i < 4) (hj : j < 4) (e : pm4 l r i = pm4 l r j) : i = j := by
  unfold pm4 at e
  repeat' split at e
  all_goals omega
theorem lwc_ok {n l r i : Nat} {R : Mx} (hl : l < n) (hr : r < n) (hlr : l ≠ r) (hi : i < 4) (hd : ∀ j, j < 4 → R j j = 0) (hb : Bnd 4 2147483648 R) : ∀ {j : Nat} {M : Mx}, j ≤ 4 → Mok (2 * n) M → Mok (2 * n) (lwc (pm4 l r) R i j M)
 | 0, M, _, h => h
 | j + 1, M, hj, h => lw_ok (lwc_ok hl hr hlr hi hd hb (by omega) h) (zIT hl hr i) (zIT hl hr j) (hb i j hi (by omega)) (fun e => by
  have := pm4_ne hlr hi (by omega) e
  subst this
  exact hd i hi)
theorem lwr_ok {n l r : Nat} {R : Mx} (hl : l < n) (hr : r < n) (hlr : l ≠ r) (hd : ∀ j, j < 4 → R j j = 0) (hb : Bnd 4 2147483648 R) : ∀ {i : Nat} {M : Mx}, i ≤ 4 → Mok (2 * n) M → Mok (2 * n) (lwr (pm4 l r) R i M)
  | 0, M, _, h => h
  | i + 1, M, hi, h => lwc_ok hl hr hlr (by omega) hd hb (Nat.le_refl 4) (lwr_ok hl hr hlr hd hb (by omega) h)
theorem zCJ {sp : List Pt} {nm : ByteArray} (h : ¬ ptq sp nm < 0) : ∃ k : Nat, ∃ hk : k < sp.length, ptq sp nm = (k : Int) ∧ seq sp[k].va nm = true := by
  rcases zBF (q := fun p : Pt => seq p.va nm) sp 0 with e | ⟨k, hk, e, h2⟩
  . exact absurd (show ptq sp nm < 0 by unfold ptq; rw [e]; decide) h
  . exact ⟨k, hk, by unfold ptq; rw [e]; simp, h2⟩
theorem ptq_ne {sp : List Pt} {a b : ByteArray} {l r : Nat} (ha : ptq sp a = (l : Int)) (hb : ptq sp b = (r : Int)) (h : seq a b = false) : l ≠ r := by
  intro e
  subst e
  obtain ⟨k, hk, e1, h1⟩ := zCJ (sp := sp) (nm := a) (by omega)
  obtain ⟨j, hj, e2, h2⟩ := zCJ (sp := sp) (nm := b) (by omega)
  obtain rfl : k = j := by omega
  unfold seq at h h1 h2
  rw [beq_iff_eq] at h1 h2
  rw [← h1, h2] at h
  simp at h
theorem lk1_ok {sp : List Pt} {k : Lk} {m M : Mx} (ho : ∀ i, i < k.o.length → B8.optE (opZ k.o i).r (opZ k.o i).lo (opZ k.o i).hi = 0) (hn : seq k.l k.r = false) (h : Mok (2 * sp.length) m) (e : lk1 sp k m = some M) : Mok (2 * sp.length) M := by
 unfold lk1 at e
 by_cases c : ptq sp k.l < 0 ∨ ptq sp k.r < 0
 . rw [if_pos c] at e
   obtain rfl := Option.some.inj e
   exact h
 . rw [if_neg c] at e
   obtain ⟨l, hl, el, _⟩ := zCJ (sp := sp) (nm := k.l) (by omega)
   obtain ⟨r, hr, er, _⟩ := zCJ (sp := sp) (nm := k.r) (by omega)
   cases d : B8.opR (opZ k.o) k.o.length with
   | none => rw [d] at e; cases e
   | some R =>
    rw [d] at e
    obtain rfl := Option.some.inj e
    obtain ⟨d1, d2⟩ := B8.opR_own ho R d
    rw [el, er]
    exact lwr_ok hl hr (ptq_ne el er hn) d1 d2 (Nat.le_refl 4) h
theorem zFD {sp : List Pt} : ∀ {ks : List Lk} {m M : Mx}, Lok sp ks → Mok (2 * sp.length) m → lks sp ks m = some M → Mok (2 * sp.length) M
 | [], m, M, _, h, e => by obtain rfl := Option.some.inj e; exact h
 | k :: r, m, M, hl, h, e => by
  unfold lks at e
  cases d : lk1 sp k m with
  | none => rw [d] at e; cases e
  | some X =>
   rw [d] at e
   have hk := hl k (List.mem_cons_self ..)
   exact zFD (fun x hx => hl x (List.mem_cons_of_mem _ hx)) (lk1_ok hk.1 hk.2 h d) e
end Go.Proofs.YtnlmknbhppdliaaGreatDoor.Chk
namespace Go.Proofs.YtnlmknbhppdliaaGreatDoor
open Go.ChangeShapes Go.WideShapes Go.ChangeAt Go.RowKit
set_option linter.unusedVariables false
set_option linter.unusedSimpArgs false
def fill (vs : Nat → Value) (ls : Nat → Bool) : Nat → List Oper → Act → Act
  | _, [], a => a
  | k, o :: r, a => fill vs ls (k + 1) r (if ls k = true then a.put o.dst (vs k) else a)
def zAD (f : Nat → Oper → Prop) : Nat → List Oper → Prop
  | _, [] => True
  | k, o :: r => f k o ∧ zAD f (k + 1) r
def zAX : Nat → List Oper → List Tmp → Nat → Bool
  | _, [], _, _ => true
  | k, o :: r, used, n => o.guard.isNone && o.after.all (fun e => !(Region.binds .any e) || decide (e.on < k)) && (match o.dst with | none => zAX (k + 1) r used n | some d => !(used.contains d) && decide (d < n) && zAX (k + 1) r (d :: used) n)
def depB (ops : Array Oper) (o : Oper) (k : Nat) (d : Tmp) : Bool := o.after.any (fun e => e.on == k && Region.binds .any e) && (match ops[k]? with | none => false | some o' => o'.dst == some d)
def outB (ops : List Oper) (d : Tmp) : Bool := ops.all (fun o => o.dst != some d)
theorem zAD.at {f : Nat → Oper → Prop} : ∀ (l : List Oper) (k : Nat), zAD f k l → ∀ i o, l[i]? = some o → f (k + i) o
 | [], _, _, i, o, h => by simp at h
 | x :: r, k, hf, 0, o, h => by simp at h; subst h; exact hf.1
 | x :: r, k, hf, i + 1, o, h => by
  have := zAD.at r (k + 1) hf.2 i o (by simpa using h)
  rw [show k + (i + 1) = k + 1 + i by omega]
  exact this
theorem zBY : ∀ (l : List Oper) (k : Nat) (used : List Tmp) (n : Nat), zAX k l used n = true → ∀ (i : Nat) (o : Oper) (d : Tmp), l[i]? = some o → o.dst = some d → d ∉ used
 | [], _, _, _, _, i, o, d, h, _ => by simp at h
 | x :: r, k, used, n, hp, i, o, d, h, hd => by
  unfold zAX at hp
  simp only [Bool.and_eq_true] at hp
  cases i with
  | zero =>
   simp at h
   subst h
   rw [hd] at hp
   simp at hp
   exact hp.2.1.1
  | succ i =>
   have h' : r[i]? = some o := by simpa using h
   cases hx : x.dst with
   | none => rw [hx] at hp; exact zBY r (k + 1) used n hp.2 i o d h' hd
   | some e =>
    rw [hx] at hp
    simp only [Bool.and_eq_true] at hp
    have := zBY r (k + 1) (e :: used) n hp.2.2 i o d h' hd
    exact fun c => this (List.mem_cons_of_mem _ c)
theorem zB1 {x : Oper} {r : List Oper} {k : Nat} {used : List Tmp} {n : Nat} (hp : zAX k (x :: r) used n = true) : ∃ u, zAX (k + 1) r u n = true ∧ (∀ d, x.dst = some d → d ∈ u) := by
 unfold zAX at hp
 simp only [Bool.and_eq_true] at hp
 cases hx : x.dst with
 | none => rw [hx] at hp; exact ⟨used, hp.2, fun d h => by cases h⟩
 | some e =>
  rw [hx] at hp
  simp only [Bool.and_eq_true] at hp
  exact ⟨e :: used, hp.2.2, fun d h => by cases h; exact List.mem_cons_self ..⟩
theorem zBO : ∀ (l : List Oper) (k : Nat) (used : List Tmp) (n : Nat), zAX k l used n = true → ∀ (i : Nat) (o : Oper), l[i]? = some o → o.guard = none ∧ (∀ e ∈ o.after, Region.binds .any e = true → e.on < k + i) ∧ ∀ d, o.dst = some d → d < n
 | [], _, _, _, _, i, o, h => by simp at h
 | x :: r, k, used, n, hp, i, o, h => by
  cases i with
  | zero =>
   simp at h
   subst h
   unfold zAX at hp
   simp only [Bool.and_eq_true, Array.all_eq_true', decide_eq_true_eq, Option.isNone_iff_eq_none] at hp
   refine ⟨hp.1.1, fun e he hbd => by
    have h9 := hp.1.2 e he
    rw [hbd] at h9
    simpa using h9, fun d hd => ?_⟩
   rw [hd] at hp
   simp only [Bool.and_eq_true, decide_eq_true_eq] at hp
   exact hp.2.1.2
  | succ i =>
   obtain ⟨u, hu, _⟩ := zB1 hp
   have := zBO r (k + 1) u n hu i o (by simpa using h)
   exact ⟨this.1, fun e he hbd => by have := this.2.1 e he hbd; omega, this.2.2⟩
theorem put_size (a : Act) (d : Option Tmp) (v : Value) : (a.put d v).tmps.size = a.tmps.size := by cases d <;> simp [Act.put]
theorem put_get (a : Act) (d : Tmp) (v : Value) (h : d < a.tmps.size) : (a.put (some d) v).tmps.getD d undef = v := by simp [Act.put, h]
theorem put_far (a : Act) (x : Option Tmp) (d : Tmp) (v : Value) (h : x ≠ some d) : (a.put x v).tmps.getD d undef = a.tmps.getD d undef := by
 cases x with
 | none => rfl
 | some e =>
  have : e ≠ d := fun c => h (by rw [c])
  simp [Act.put, Array.getElem?_setIfInBounds_ne this]
theorem zB8 (vs : Nat → Value) (ls : Nat → Bool) (d : Tmp) : ∀ (l : List Oper) (k : Nat) (a : Act), (∀ o ∈ l, o.dst ≠ some d) → (fill vs ls k l a).tmps.getD d undef = a.tmps.getD d undef
 | [], _, _, _ => rfl
 | x :: r, k, a, h => by
  rw [fill, zB8 vs ls d r (k + 1) _ (fun o ho => h o (List.mem_cons_of_mem _ ho))]
  split
  . exact put_far a _ d _ (h x (List.mem_cons_self ..))
  . rfl
theorem zCM (vs : Nat → Value) (ls : Nat → Bool) (n : Nat) : ∀ (l : List Oper) (k : Nat) (used : List Tmp) (a : Act), zAX k l used n = true → a.tmps.size = n → ∀ (i : Nat) (o : Oper) (d : Tmp), l[i]? = some o → o.dst = some d → ls (k + i) = true → (fill vs ls k l a).tmps.getD d undef = vs (k + i)
 | [], _, _, _, _, _, i, o, d, h, _, _ => by simp at h
 | x :: r, k, used, a, hp, hn, i, o, d, h, hd, hl => by
  obtain ⟨u, hu, hm⟩ := zB1 hp
  cases i with
  | zero =>
   simp at h
   subst h
   have hlt := (zBO _ _ _ _ hp 0 x (by simp)).2.2 d hd
   rw [fill, if_pos (by simpa using hl), zB8 vs ls d r _ _ (fun o' ho' c => ?_), hd, put_get _ _ _ (by rw [hn]; exact hlt)]
   . simp
   . obtain ⟨j, hj⟩ := List.getElem?_of_mem ho'
     exact zBY r (k + 1) u n hu j o' d hj c (hm d hd)
  | succ i =>
   rw [fill, zCM vs ls n r (k + 1) u _ hu (by split <;> simp [put_size, hn]) i o d (by simpa using h) hd (by rw [show k + 1 + i = k + (i + 1) by omega]; exact hl)]
   rw [show k + 1 + i = k + (i + 1) by omega]
theorem zBJ {vs vs' : Nat → Value} {ls ls' : Nat → Bool} : ∀ (l : List Oper) (k : Nat) (a : Act), (∀ i, k ≤ i → ls i = ls' i ∧ vs i = vs' i) → fill vs ls k l a = fill vs' ls' k l a
 | [], _, _, _ => rfl
 | x :: r, k, a, h => by
  obtain ⟨e1, e2⟩ := h k (Nat.le_refl _)
  rw [fill, fill, e1, e2]
  exact zBJ r (k + 1) _ (fun i hi => h i (by omega))
theorem zC5 (vs : Nat → Value) (ls : Nat → Bool) (x : Option Tmp) (v : Value) : ∀ (l : List Oper) (k : Nat) (a : Act), (∀ o ∈ l, ∀ d, x = some d → o.dst ≠ some d) → fill vs ls k l (a.put x v) = (fill vs ls k l a).put x v
 | [], _, _, _ => rfl
 | y :: r, k, a, h => by
  rw [fill, fill]
  split
  . rw [Act.put_comm a v (vs k) (h y (List.mem_cons_self ..))]
    exact zC5 vs ls x v r (k + 1) _ (fun o ho => h o (List.mem_cons_of_mem _ ho))
  . exact zC5 vs ls x v r (k + 1) _ (fun o ho => h o (List.mem_cons_of_mem _ ho))
theorem zCC (vs : Nat → Value) (ls : Nat → Bool) (v : Value) (n : Nat) : ∀ (l : List Oper) (k : Nat) (used : List Tmp) (a : Act), zAX k l used n = true → ∀ i o, l[i]? = some o → ls (k + i) = false →
  fill (fun j => if j = k + i then v else vs j) (fun j => if j = k + i then true else ls j) k l a = (fill vs ls k l a).put o.dst v
 | [], _, _, _, _, i, o, h, _ => by simp at h
 | x :: r, k, used, a, hp, 0, o, h, hl => by
  simp at h
  subst h
  obtain ⟨u, hu, hm⟩ := zB1 hp
  have hl' : ls k = false := by simpa using hl
  rw [fill, fill, hl']
  simp only [Nat.add_zero, if_true, Bool.false_eq_true, if_false]
  rw [zBJ (vs' := vs) (ls' := ls) r (k + 1) _ (fun i hi => ⟨if_neg (by omega), if_neg (by omega)⟩)]
  exact zC5 vs ls x.dst v r (k + 1) a (fun o' ho' d hd c => by
   obtain ⟨j, hj⟩ := List.getElem?_of_mem ho'
   exact zBY r (k + 1) u n hu j o' d hj c (hm d hd))
 | x :: r, k, used, a, hp, i + 1, o, h, hl => by
  obtain ⟨u, hu, hm⟩ := zB1 hp
  have e : k + (i + 1) = k + 1 + i := by omega
  rw [fill, fill, e]
  simp only [show ¬ k = k + 1 + i by omega, if_false]
  exact zCC vs ls v n r (k + 1) u _ hu i o (by simpa using h) (by rw [← e]; exact hl)
theorem zC2 {ops : Array Oper} {listed : Array Bool} {used : List Tmp} {n : Nat} (hp : zAX 0 ops.toList used n = true) (hs : listed.size = ops.size) (hr : Region.ready .any ops listed = []) : ∀ i, i < ops.size → listed.getD i true = true := by
 intro i
 induction i using Nat.strongRecOn with
 | _ i ih =>
  intro hi
  refine Classical.byContradiction fun c => ?_
  have hf : listed.getD i true = false := by simpa using c
  have hm : i ∈ Region.ready .any ops listed := mem_ready.2 ⟨hf, ops[i], by simp [hi], fun e he hbd => by
   have h1 := (zBO _ _ _ _ hp i ops[i] (by simp [hi])).2.1 e he hbd
   have h2 := ih e.on (by omega) (by omega)
   have h3 : e.on < listed.size := by omega
   simp [h3] at h2 ⊢
   exact h2⟩
  rw [hr] at hm
  cases hm
def left (listed : Array Bool) : Nat := listed.toList.countP (fun b => !b)
theorem zB0 {listed : Array Bool} {i : Nat} (h : listed.getD i true = false) : left (listed.setIfInBounds i true) + 1 = left listed := by
  unfold left
  have hi : i < listed.size := Classical.byContradiction fun c => by simp [Nat.not_lt.1 c] at h
  have hv : listed.toList[i]'(by simpa using hi) = false := by simpa [hi] using h
  have hpos : 0 < listed.toList.countP (fun b => !b) := List.countP_pos_iff.2 ⟨_, List.getElem_mem (by simpa using hi), by rw [hv]; rfl⟩
  rw [Array.toList_setIfInBounds, List.countP_set (by simpa using hi), hv]
  simp only [Bool.not_false, if_true, Bool.not_true, Bool.false_eq_true, if_false]
  omega
theorem zFE {P : Program} {Q : Exit → Act → World → Prop} {id : Nat} {ops : Array Oper} {a0 : Act} {w0 : World} (hm : P.follows .mixedOrders = true) (T : Nat → World → Value → Prop) (B : World → Prop) (n : Nat) (hn : a0.tmps.size = n) (hp : zAX 0 ops.toList [] n = true)
  (Mo : World → World → Prop) (hmon : ∀ k w w' v, Mo w w' → T k w v → T k w' v) (hB : B w0.drew)
  (hop : zAD (fun i o => ∀ a w, B w → (∀ k d, depB ops o k d = true → T k w (a.eval (.tmp d))) → (∀ d, outB ops.toList d = true → a.eval (.tmp d) = a0.eval (.tmp d)) → Oper.wp P o a w (fun a' w' => ∃ v, a' = a.put o.dst v ∧ T i w' v ∧ B w' ∧ Mo w w') Q) 0 ops.toList)
  (hend : ∀ (vs : Nat → Value) w, B w → (∀ i, i < ops.size → T i w (vs i)) → Q .normal (fill vs (fun _ => true) 0 ops.toList a0) w) : (Code.region id ops true).wp P Q a0 w0 := by
 refine wp_region_any hm ?_
 have key : ∀ (fuel : Nat) (listed : Array Bool) (vs : Nat → Value) (w : World), listed.size = ops.size → left listed ≤ fuel → B w → (∀ i, i < ops.size → listed.getD i false = true → T i w (vs i)) → wpAny P .any ops Q fuel listed (fill vs (fun i => listed.getD i false) 0 ops.toList a0) w := by
  intro fuel
  induction fuel with
  | zero =>
   intro listed vs w hs hl hb hT
   have hall : ∀ i, i < ops.size → listed.getD i true = true := fun i hi => by
     refine Classical.byContradiction fun c => ?_
     have := zB0 (listed := listed) (i := i) (by simpa using c)
     omega
   have hr : Region.ready .any ops listed = [] := List.eq_nil_iff_forall_not_mem.2 fun i hi => by
     obtain ⟨h1, o, h2, _⟩ := mem_ready.1 hi
     have h3 : i < ops.size := (Array.getElem?_eq_some_iff.1 h2).1
     rw [hall i h3] at h1
     cases h1
   refine ⟨hr, ?_⟩
   have hf : ∀ i, i < ops.size → listed.getD i false = true := fun i hi => by
     have h := hall i hi
     have h3 : i < listed.size := by omega
     simp [h3] at h ⊢
     exact h
   have e : fill vs (fun i => listed.getD i false) 0 ops.toList a0 = fill vs (fun _ => true) 0 ops.toList a0 := by
     have : ∀ (l : List Oper) (k : Nat) (a : Act), k + l.length ≤ ops.size → fill vs (fun i => listed.getD i false) k l a = fill vs (fun _ => true) k l a := by
       intro l
       induction l with
       | nil => intro k a _; rfl
       | cons x r ih =>
         intro k a h
         simp at h
         rw [fill, fill, hf k (by omega)]
         exact ih (k + 1) _ (by omega)
     exact this _ _ _ (by simp)
   rw [e]
   exact hend vs w hb (fun i hi => hT i hi (hf i hi))
  | succ fuel ih =>
   intro listed vs w hs hl hb hT
   refine ⟨fun hr => ?_, fun i hi => ?_⟩
   . have hall := zC2 hp hs hr
     have hf : ∀ i, i < ops.size → listed.getD i false = true := fun i hi => by
       have h := hall i hi
       have h3 : i < listed.size := by omega
       simp [h3] at h ⊢
       exact h
     have e : fill vs (fun i => listed.getD i false) 0 ops.toList a0 = fill vs (fun _ => true) 0 ops.toList a0 := by
       have : ∀ (l : List Oper) (k : Nat) (a : Act), k + l.length ≤ ops.size → fill vs (fun i => listed.getD i false) k l a = fill vs (fun _ => true) k l a := by
         intro l
         induction l with
         | nil => intro k a _; rfl
         | cons x r ih =>
           intro k a h
           simp at h
           rw [fill, fill, hf k (by omega)]
           exact ih (k + 1) _ (by omega)
       exact this _ _ _ (by simp)
     rw [e]
     exact hend vs w hb (fun i hi => hT i hi (hf i hi))
   . obtain ⟨h1, o, h2, h3⟩ := mem_ready.1 hi
     have hio : i < ops.size := (Array.getElem?_eq_some_iff.1 h2).1
     have hil : i < listed.size := by omega
     have h2' : ops.toList[i]? = some o := by simpa using h2
     have hg := (zBO _ _ _ _ hp i o h2').1
     have hlf : listed.getD i false = false := by simp [hil] at h1 ⊢; exact h1
     unfold wpOp
     rw [h2]
     simp only
     rw [if_pos (by simp [Region.wanted, hg])]
     have hstep := zAD.at _ _ hop i o h2' (fill vs (fun i => listed.getD i false) 0 ops.toList a0) w hb (fun k d hd => ?_) (fun d hd => ?_)
     . refine .inl (Oper.wp_mono ?_ hstep)
       rintro a' w' ⟨v, rfl, hTi, hb', hbel⟩
       have e := zCC vs (fun i => listed.getD i false) v n ops.toList 0 [] a0 hp i o h2' (by simpa using hlf)
       rw [← e]
       have e2 : fill (fun j => if j = 0 + i then v else vs j) (fun j => if j = 0 + i then true else listed.getD j false) 0 ops.toList a0 = fill (fun j => if j = i then v else vs j) (fun j => (listed.setIfInBounds i true).getD j false) 0 ops.toList a0 := by
         refine zBJ _ _ _ fun j _ => ⟨?_, by simp⟩
         by_cases c : j = i
         . subst c; simp [hil]
         . rw [if_neg (by simpa using c), getD_set_ne false (Ne.symm c)]
       rw [e2]
       refine ih (listed.setIfInBounds i true) _ w' (by simpa using hs) (by have := zB0 h1; omega) hb' (fun j hj hl' => ?_)
       by_cases c : j = i
       . subst c; simpa using hTi
       . rw [if_neg c]
         rw [getD_set_ne false (Ne.symm c)] at hl'
         exact hmon j w w' _ hbel (hT j hj hl')
     . unfold depB at hd
       simp only [Bool.and_eq_true, Array.any_eq_true', beq_iff_eq] at hd
       obtain ⟨⟨e, he, rfl, hbd⟩, hdst⟩ := hd
       cases ho : ops[e.on]? with
       | none => rw [ho] at hdst; cases hdst
       | some o' =>
         rw [ho] at hdst
         simp only [beq_iff_eq] at hdst
         have hle := h3 e he hbd
         have := zCM vs (fun i => listed.getD i false) n ops.toList 0 [] a0 hp hn e.on o' d (by simpa using ho) hdst (by simpa using hle)
         rw [Nat.zero_add] at this
         show T e.on w ((fill vs (fun i => listed.getD i false) 0 ops.toList a0).tmps.getD d undef)
         rw [this]
         exact hT e.on (Array.getElem?_eq_some_iff.1 ho).1 hle
     . show (fill vs (fun i => listed.getD i false) 0 ops.toList a0).tmps.getD d undef = a0.tmps.getD d undef
       refine zB8 vs _ d _ _ _ fun o' ho' c => ?_
       unfold outB at hd
       have := List.all_eq_true.1 hd o' ho'
       simp [c] at this
 have hz : left (Array.replicate ops.size false) ≤ ops.size := by
  unfold left
  exact Nat.le_trans List.countP_le_length (by simp)
 have h := key ops.size (Array.replicate ops.size false) (fun _ => undef) w0.drew (by simp) hz hB (fun i hi h => by simp [hi] at h)
 have e : fill (fun _ => undef) (fun i => (Array.replicate ops.size false).getD i false) 0 ops.toList a0 = a0 := by
  have : ∀ (l : List Oper) (k : Nat) (a : Act), fill (fun _ => undef) (fun i => (Array.replicate ops.size false).getD i false) k l a = a := by
   intro l
   induction l with
   | nil => intro k a; rfl
   | cons x r ih =>
     intro k a
     rw [fill, ih, if_neg (by by_cases c : k < ops.size <;> simp [c])]
  exact this _ _ _
 rw [e] at h
 exact h
def lastB (ops : List Oper) : Bool := (List.range (ops.length - 1)).all fun k => (ops.drop (k + 1)).any fun o => o.after.any fun e => e.on == k && Region.binds .any e
def Shut1 (ops : Array Oper) (listed : Array Bool) : Prop := ∀ (j : Nat) (o : Oper), ops[j]? = some o → listed.getD j false = true → ∀ e ∈ o.after, Region.binds .any e = true → listed.getD e.on false = true
theorem last_all {ops : Array Oper} {listed : Array Bool} {m : Nat} {o : Oper} (hm : ops.size = m + 1) (hl : lastB ops.toList = true) (hc : Shut1 ops listed) (ho : ops[m]? = some o) (hr : ∀ e ∈ o.after, Region.binds .any e = true → listed.getD e.on false = true) : ∀ d k, k + d + 1 = m → listed.getD k false = true := by
 intro d
 induction d using Nat.strongRecOn with
 | _ d ih =>
  intro k hk
  unfold lastB at hl
  rw [List.all_eq_true] at hl
  have h1 := hl k (List.mem_range.2 (by simp [hm]; omega))
  simp only [List.any_eq_true, Array.any_eq_true', Bool.and_eq_true, beq_iff_eq] at h1
  obtain ⟨o', ho', e, he, hek, hb⟩ := h1
  obtain ⟨j, hj⟩ := List.getElem?_of_mem ho'
  rw [List.getElem?_drop] at hj
  have hjo : ops[k + 1 + j]? = some o' := by simpa using hj
  have hjs : k + 1 + j < ops.size := (Array.getElem?_eq_some_iff.1 hjo).1
  by_cases c : k + 1 + j = m
  . rw [c] at hjo
    rw [hjo] at ho
    cases ho
    have := hr e he hb
    rwa [hek] at this
  . have h2 := ih (d - 1 - j) (by omega) (k + 1 + j) (by omega)
    have := hc _ _ hjo h2 e he hb
    rwa [hek] at this
theorem zAT            {P : Program} {Q : Exit → Act → World → Prop} {id : Nat} {ops : Array Oper} {a0 : Act} {w0 : World} (hm : P.follows .mixedOrders = true) (T : Nat → World → Value → Prop) (B : World → Prop) (n m : Nat) (hn : a0.tmps.size = n) (hsz : ops.size = m + 1) (hp : zAX      0 ops.toList [] n = true) (hlb : lastB ops.toList = true)
    (Mo : World → World → Prop) (hmon : ∀ k w w' v, Mo w w' → T k w v → T k w' v) (hB : B w0.drew)
    (hop : zAD (fun i o => ∀ a w, B w → (∀ k d, depB ops o k d = true → T k w (a.eval (.tmp d))) → (∀ d, outB ops.toList d = true → a.eval (.tmp d) = a0.eval (.tmp d)) → Oper.wp P o a w (fun a' w' => ∃ v, a' = a.put o.dst v ∧ T i w' v ∧ B w' ∧ Mo w w') Q) 0 (ops.toList.take m))
    (hend : ∀ (vs : Nat → Value) w o, ops[m]? = some o → B w → (∀ i, i < m → T i w (vs i)) → Oper.wp P o (fill vs (fun _ => true) 0 (ops.toList.take m) a0) w (fun a' w' => Q .normal a' w') Q) : (Code.region id ops true).wp P Q a0 w0 := by
  refine wp_region_any hm ?_
  have fl : ∀ (vs : Nat → Value) (ls : Nat → Bool), (∀ i, i < m → ls i = true) → ls m = false → fill vs ls 0 ops.toList a0 = fill vs (fun _ => true) 0 (ops.toList.take m) a0 := by
    intro vs ls h1 h2
    have : ∀ (l : List Oper) (k : Nat) (a : Act), k + l.length = m + 1 → k ≤ m → fill vs ls k l a = fill vs (fun _ => true) k (l.take (m - k)) a := by
      intro l
      induction l with
      | nil => intro k a h hk; simp at h; omega
      | cons x r ih =>
        intro k a h hk
        simp at h
        by_cases c : k = m
        . subst c
          obtain rfl : r = [] := List.eq_nil_of_length_eq_zero (by omega)
          simp [fill, h2]
        . rw [show m - k = (m - (k + 1)) + 1 by omega, List.take_succ_cons, fill, fill, h1 k (by omega)]
          exact ih (k + 1) _ (by omega) (by omega)
    have := this ops.toList 0 a0 (by simp [hsz]) (by omega)
    simpa using this
  have key : ∀ (fuel : Nat) (listed : Array Bool) (vs : Nat → Value) (w : World), listed.size = ops.size → left listed ≤ fuel → Shut1 ops listed → listed.getD m false = false → B w → (∀ i, i < m → listed.getD i false = true → T i w (vs i)) → wpAny P .any ops Q fuel listed (fill vs (fun i => listed.getD i false) 0 ops.toList a0) w := by
    intro fuel
    induction fuel with
    | zero =>
      intro listed vs w hs hl hc hml hb hT
      have := zB0      (listed := listed) (i := m) (by have h3 : m < listed.size := by omega
                                                       simp [h3] at hml ⊢; exact hml)
      omega
    | succ fuel ih =>
      intro listed vs w hs hl hc hml hb hT
      refine ⟨fun hr => ?_, fun i hi => ?_⟩
      . have h := zC2 hp hs hr m (by omega)
        have h3 : m < listed.size := by omega
        simp [h3] at h hml
        rw [h] at hml
        cases hml
      . obtain ⟨h1, o, h2, h3⟩ := mem_ready.1 hi
        have hio : i < ops.size := (Array.getElem?_eq_some_iff.1 h2).1
        have hil : i < listed.size := by omega
        have h2' : ops.toList[i]? = some o := by simpa using h2
        have hg := (zBO _ _ _ _ hp i o h2').1
        have hlf : listed.getD i false = false := by simp [hil] at h1 ⊢; exact h1
        unfold wpOp
        rw [h2]
        simp only
        rw [if_pos (by simp [Region.wanted, hg])]
        by_cases cm : i = m
        . subst cm
          have hall : ∀ k, k < i → listed.getD k false = true := fun k hk => last_all hsz hlb hc h2 h3 (i - 1 - k) k (by omega)
          have e := fl vs (fun i => listed.getD i false) hall hml
          rw [e]
          refine .inl (Oper.wp_mono ?_ (hend vs w o h2 hb (fun j hj => hT j hj (hall j hj))))
          intro a' w' hq
          have hrd : Region.ready .any ops (listed.setIfInBounds i true) = [] := List.eq_nil_iff_forall_not_mem.2 fun j hj => by
            obtain ⟨q1, o', q2, _⟩ := mem_ready.1 hj
            have q3 : j < ops.size := (Array.getElem?_eq_some_iff.1 q2).1
            by_cases cj : j = i
            . subst cj; simp [hil] at q1
            . rw [getD_set_ne true (Ne.symm cj)] at q1
              have := hall j (by omega)
              have q4 : j < listed.size := by omega
              simp [q4] at this q1
              rw [this] at q1
              cases q1
          cases fuel with
          | zero => exact ⟨hrd, hq⟩
          | succ f => exact ⟨fun _ => hq, by rw [hrd]; intro i hi; cases hi⟩
        . have him : i < m := by omega
          have h2t : (ops.toList.take m)[i]? = some o := by rw [List.getElem?_take, if_pos him]; exact h2'
          have hstep := zAD.at _ _ hop i o h2t (fill vs (fun i => listed.getD i false) 0 ops.toList a0) w hb (fun k d hd => ?_) (fun d hd => ?_)
          . refine .inl (Oper.wp_mono ?_ hstep)
            rintro a' w' ⟨v, rfl, hTi, hb', hbel⟩
            have e := zCC vs (fun i => listed.getD i false) v n ops.toList 0 [] a0 hp i o h2' (by simpa using hlf)
            rw [← e]
            have e2 : fill (fun j => if j = 0 + i then v else vs j) (fun j => if j = 0 + i then true else listed.getD j false) 0 ops.toList a0 = fill (fun j => if j = i then v else vs j) (fun j => (listed.setIfInBounds i true).getD j false) 0 ops.toList a0 := by
              refine zBJ _ _ _ fun j _ => ⟨?_, by simp⟩
              by_cases c : j = i
              . subst c; simp [hil]
              . rw [if_neg (by simpa using c), getD_set_ne false (Ne.symm c)]
            rw [e2]
            refine ih (listed.setIfInBounds i true) _ w' (by simpa using hs) (by have := zB0 h1; omega) (fun j o' ho' hl' ed he hbd => ?_) (by rw [getD_set_ne false cm]; exact hml) hb' (fun j hj hl' => ?_)
            . by_cases ce : ed.on = i
              . rw [ce]; simp [hil]
              . rw [getD_set_ne false (Ne.symm ce)]
                by_cases c : j = i
                . subst c
                  rw [h2] at ho'
                  cases ho'
                  exact h3 ed he hbd
                . rw [getD_set_ne false (Ne.symm c)] at hl'
                  exact hc j o' ho' hl' ed he hbd
            . by_cases c : j = i
              . subst c; simpa using hTi
              . rw [if_neg c]
                rw [getD_set_ne false (Ne.symm c)] at hl'
                exact hmon j w w' _ hbel (hT j hj hl')
          . unfold depB at hd
            simp only [Bool.and_eq_true, Array.any_eq_true', beq_iff_eq] at hd
            obtain ⟨⟨e, he, rfl, hbd⟩, hdst⟩ := hd
            cases ho : ops[e.on]? with
            | none => rw [ho] at hdst; cases hdst
            | some o' =>
              rw [ho] at hdst
              simp only [beq_iff_eq] at hdst
              have hle := h3 e he hbd
              have := zCM vs (fun i => listed.getD i false) n ops.toList 0 [] a0 hp hn e.on o' d (by simpa using ho) hdst (by simpa using hle)
              rw [Nat.zero_add] at this
              show T e.on w ((fill vs (fun i => listed.getD i false) 0 ops.toList a0).tmps.getD d undef)
              rw [this]
              have hlt : e.on < i := by have := (zBO _ _ _ _ hp i o h2').2.1 e he hbd; omega
              exact hT e.on (by omega) hle
          . show (fill vs (fun i => listed.getD i false) 0 ops.toList a0).tmps.getD d undef = a0.tmps.getD d undef
            refine zB8 vs _ d _ _ _ fun o' ho' c => ?_
            unfold outB at hd
            have := List.all_eq_true.1 hd o' ho'
            simp [c] at this
  have hz : left (Array.replicate ops.size false) ≤ ops.size := by
    unfold left
    exact Nat.le_trans List.countP_le_length (by simp)
  have h := key ops.size (Array.replicate ops.size false) (fun _ => undef) w0.drew (by simp) hz (fun j o ho hl => by by_cases c : j < ops.size <;> simp [c] at hl) (by by_cases c : m < ops.size <;> simp [c]) hB (fun i hi h => by by_cases c : i < ops.size <;> simp [c] at h)
  have e : fill (fun _ => undef) (fun i => (Array.replicate ops.size false).getD i false) 0 ops.toList a0 = a0 := by
    have : ∀ (l : List Oper) (k : Nat) (a : Act), fill (fun _ => undef) (fun i => (Array.replicate ops.size false).getD i false) k l a = a := by
      intro l
      induction l with
      | nil => intro k a; rfl
      | cons x r ih =>
        intro k a
        rw [fill, ih, if_neg (by by_cases c : k < ops.size <;> simp [c])]
    exact this _ _ _
  rw [e] at h
  exact h
end Go.Proofs.YtnlmknbhppdliaaGreatDoor
