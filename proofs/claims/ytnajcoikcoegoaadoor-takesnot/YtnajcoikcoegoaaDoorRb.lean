/-
  Operations one by one: what each yields. Options, and fields that are summed up, by the reference. Does a rule speak of a type? By the reference. What comes of what, by the reference. A type, by the reference. The first elements of a row that is only read. What a rule emits, by the reference. A book, by the reference. A condition, by the reference. A pattern, by the reference. A link, by the reference. A rule, by the reference. A rule that is wrong at once, by the reference; every rule. A book, by the reference. Values, names, types and events in plain words. What Check and the document say of a value. What Name and the document say of a name.
-/
import Derived.Deep.CutBlock
import Derived.Deep.LoopGhost
import Derived.Test.YtnajcoikcoegoaaDoorRows
import Derived.Handy
import Derived.WalkSmall
import Derived.Deep.QuietTactic
import Derived.BigQuiet
import Derived.Deep.RegionHeld3
import Derived.Deep.RegionLaw
import Derived.OwnWalk
import Derived.Lib.Bytealg
import Derived.Test.YtnajcoikcoegoaaDoorA
import Derived.Test.YtnajcoikcoegoaaDoorKT
namespace Go.Proofs.YtnajcoikcoegoaaDoor.Chk
open Go.ChangeShapes Go.WideShapes Go.ChangeAt Go.RowKit Go.Maps
set_option linter.unusedVariables false
set_option linter.unusedSimpArgs false
set_option maxRecDepth 20000
section
variable {P : Program} {o : Oper} {a : Act} {w : World} {K : Act → World → Prop} {Q : Exit → Act → World → Prop}
theorem op_val (v : Value) (h : (execOp a.eval o).run P w = .ok (.value v) w) (hk : K (a.put o.dst v) w) : Oper.wp P o a w K Q := by
  unfold Oper.wp
  rw [h]
  exact hk
theorem op_bd (t : TypeId) (parts : Array (Nat × Operand)) (ho : o.op = .build t parts) (vals : Array (Nat × Value)) (hp : (parts.map fun x => (x.1, a.eval x.2)) = vals) (v : Value) (hv : (Instr.build t vals).run P w = .ok v w) (hk : K (a.put o.dst v) w) : Oper.wp P o a w K Q := by
  unfold Oper.wp execOp
  simp only [ho, Sem.run_bind, hp, hv, Result.andThen_ok, Sem.run_pure]
  exact hk
theorem op_bs (t : TypeId) (n : Nat) (parts : Array (Nat × Operand)) (ho : o.op = .buildSlice t n parts) (vals : Array (Nat × Value)) (hp : (parts.map fun x => (x.1, a.eval x.2)) = vals) (v : Value) (w' : World) (hv : (Instr.buildSlice t n vals).run P w = .ok v w') (hk : K (a.put o.dst v) w') : Oper.wp P o a w K Q := by
  unfold Oper.wp execOp
  simp only [ho, Sem.run_bind, hp, hv, Result.andThen_ok, Sem.run_pure]
  exact hk
theorem op_mv (x : Operand) (ho : o.op = .move x ∨ o.op = .assign x) (v : Value) (hx : a.eval x = v) (hk : K (a.put o.dst v) w) : Oper.wp P o a w K Q := by
  unfold Oper.wp execOp
  rcases ho with ho | ho <;> (simp only [ho, hx, Sem.run_bind, Sem.run_pure, Result.andThen_ok]; exact hk)
theorem op_ld (ty : TypeId) (x : Operand) (ho : o.op = .load ty x) (b f : Nat) (hx : a.eval x = .pointer (some ⟨b, f, none⟩)) (cs : List Value) (d : TypeDesc) (hc : w.rangeAt b f cs) (hu : P.underlying ty = some d) (hd : d.isRow = true) (hi : (P.info? ty).map (·.size) = some cs.length) (hk : K (a.put o.dst (.agg cs.toArray)) w) : Oper.wp P o a w K Q :=
  wp_load_mid ty x ho b f hx cs d hc hu hd hi hk
theorem op_st (ty : TypeId) (x y : Operand) (ho : o.op = .store ty x y) (b f : Nat) (cs : List Value) (U : TypeId) (v : Value) (vs : List Value) (hx : a.eval x = .pointer (some ⟨b, f, none⟩)) (hy : a.eval y = v) (hv : v.cells = vs.toArray) (hb : w.heap[b]? = some (.cells cs.toArray U (0, 0)))
    (hl : f + vs.length ≤ cs.length) (hi : (P.info? ty).map (·.size) = some vs.length) (h1 : vs.all (·.oneCell') = true)
    (h : ∀ w', w'.heap[b]? = some (.cells (ovr cs f vs).toArray U (0, 0)) → Fr (fun i => i = b) w w' → K (a.put o.dst undef) w') : Oper.wp P o a w K Q := by
  unfold Oper.wp execOp
  simp only [ho, hx, hy, Instr.storeAt, Instr.sureAddr, Sem.run_bind, Sem.run_pure, Result.andThen_ok, run_st w b f ty v vs.toArray hv (there_blk hb f _ (by simpa using hl)) (by simpa using hi) (all_oneCell_toArray (List.all_eq_true.1 h1))]
  exact h _ (blk_sets vs f cs w hb hl) ((Fr.refl (fun i => i = b) w).setCells (.inl rfl))
theorem op_al (t : TypeId) (ho : o.op = .alloc t) (zs : List Value) (hz : (Instr.alloc t true (.tuple #[])).run P w = .ok (.pointer (some ⟨w.heap.size, 0, none⟩)) (w.alloc (.cells zs.toArray t))) (hk : K (a.put o.dst (.pointer (some ⟨w.heap.size, 0, none⟩))) (w.alloc (.cells zs.toArray t))) : Oper.wp P o a w K Q := by
  unfold Oper.wp execOp
  simp only [ho, Sem.run_bind, hz, Result.andThen_ok, Sem.run_pure]
  exact hk
theorem AllOps.cons {f : Nat → Oper → Prop} {k : Nat} {x : Oper} {l : List Oper} (h : f k x) (r : AllOps f (k + 1) l) : AllOps f k (x :: l) := ⟨h, r⟩
theorem AllOps.nil {f : Nat → Oper → Prop} {k : Nat} : AllOps f k [] := trivial
theorem op_cl (f : FuncId) (he : ∀ args w, (callFunc f args).run P w = .ok (.enter f args) w) (xs : Array Operand) (ts : Array TypeId) (ho : o.op = .call { callee := .value (.func f), args := xs, argTypes := ts }) (us : Array Value) (hx : xs.map a.eval = us) (R : Ending → World → Prop) (hc : Calls P f us w R) (h : ∀ e w', R e w' → ∃ v, e = .returned v ∧ K (a.put o.dst v) w') : Oper.wp P o a w K Q := by
  unfold Oper.wp execOp
  have hf : a.eval (.func f) = Value.func (Fn.func f) #[] #[] := rfl
  simp [ho, resolve, invoke, Deferred.ofValue, hf, hx, he]
  refine hc.mono ?_
  intro e w' hr
  obtain ⟨v, rfl, hk⟩ := h e w' hr
  exact hk
end
theorem wp_bdq {P : Program} {ops : Array Oper} {rest : List Oper} {op : Oper} {a : Act} {w : World} {Q : Exit → Act → World → Prop} (hgd : op.guard = none) (t : TypeId) (parts : Array (Nat × Operand)) (ho : op.op = .build t parts) (vals : Array (Nat × Value)) (hp : (parts.map fun x => (x.1, a.eval x.2)) = vals) (v : Value) (hv : ∀ w, (Instr.build t vals).run P w = .ok v w)
    (h : wpList P ops Q rest (a.put op.dst v) w) : wpList P ops Q (op :: rest) a w :=
  wpList_plain hgd fun K hK => by
    unfold Oper.wp execOp
    simp only [ho, Sem.run_bind, hp, hv, Result.andThen_ok, Sem.run_pure]
    exact hK _ _ h
/-- Blocks that are there. -/
structure Hp (w0 W : World) (l : List (Nat × List Value × TypeId)) : Prop where
  bel : Below w0.heap.size w0 W
  b : ∀ i (hi : i < l.length), W.heap[l[i].1]? = some (.cells l[i].2.1.toArray l[i].2.2 (0, 0))
theorem Hp.next {w0 W W' : World} {l : List (Nat × List Value × TypeId)} (h : Hp w0 W l) (hb : Below W.heap.size W W') : Hp w0 W' l := ⟨below_trans h.bel hb h.bel.size, fun i hi => (hb.block _ (blk_lt (h.b i hi))).trans (h.b i hi)⟩
theorem Hp.add {w0 W W' : World} {l : List (Nat × List Value × TypeId)} (h : Hp w0 W l) (hb : Below W.heap.size W W') {b : Nat} {cs : List Value} {t : TypeId} (hn : W'.heap[b]? = some (.cells cs.toArray t (0, 0))) : Hp w0 W' (l ++ [(b, cs, t)]) := by
  refine ⟨(h.next hb).bel, fun i hi => ?_⟩
  by_cases c : i < l.length
  · rw [List.getElem_append_left c]; exact (h.next hb).b i c
  · obtain rfl : i = l.length := by simp at hi; omega
    simpa using hn
theorem Hp.r {w0 W : World} {l : List (Nat × List Value × TypeId)} (h : Hp w0 W l) (i : Nat) (hi : i < l.length) : W.rangeAt l[i].1 0 l[i].2.1 := range_blk (h.b i hi)
theorem Hp.c {w0 W : World} {l : List (Nat × List Value × TypeId)} (h : Hp w0 W l) (i : Nat) (hi : i < l.length) (j : Nat) : W.cell? ⟨l[i].1, j, none⟩ = l[i].2.1[j]? := by rw [cell_of_blk (h.b i hi)]; simp
theorem rdl_lits {w : World} : ∀ (vs : List Value), RdL w (vs.map Dat.lit) vs
  | [] => RdL.nil _
  | v :: r => .cons (.lit _) (rdl_lits r)
/-- What is wrong with an option. -/
def ock (r lo hi : Int) : Int := if ¬ (1 ≤ r ∧ r ≤ 13) then 3 else if ¬ (0 ≤ lo ∧ lo ≤ 1073741824) ∨ ¬ (-1 ≤ hi ∧ hi ≤ 1073741824) then 2 else if hi ≠ -1 ∧ hi < lo then 11 else 0
/-- What is wrong with a field that is to be summed up. -/
def sck (fs : List Fd) (n : ByteArray) : Int := if (fck fs n).2 ≠ 0 then 6 else if (fck fs n).1 = 1 then 0 else 13
structure BlkT (w0 w : World) (us : List Value) (t : TypeId) : Prop where
  bel : Below w0.heap.size w0 w
  b1 : w.heap[w0.heap.size]? = some (.cells us.toArray t (0, 0))
theorem BlkT.start (w : World) (us : List Value) (t : TypeId) : BlkT w (w.alloc (.cells us.toArray t)) us t := ⟨(Below.refl _ _).alloc (Nat.le_refl _) _, heap_alloc_new _ _⟩
theorem BlkT.next {w0 w w' : World} {us : List Value} {t : TypeId} (h : BlkT w0 w us t) (hb : Below w.heap.size w w') : BlkT w0 w' us t := ⟨below_trans h.bel hb h.bel.size, (hb.block _ (blk_lt h.b1)).trans h.b1⟩
theorem BlkT.c {w0 w : World} {us : List Value} {t : TypeId} (h : BlkT w0 w us t) (j : Nat) : w.cell? ⟨w0.heap.size, j, none⟩ = us[j]? := by rw [cell_of_blk h.b1]; simp
theorem rdM {w : World} {m : Mn} {vs : List Value} (h : RdL w (encM m) vs) : ∃ us, vs = .int .i64 m.c :: .string m.f :: us ∧ RdL w (encP m.p) us := by
  obtain ⟨v0, r0, rfl, h0, h⟩ := RdL.one h
  obtain ⟨v1, r1, rfl, h1, h⟩ := RdL.one h
  rw [rd_lit h0, rd_lit h1]
  exact ⟨r1, rfl, h⟩
/-- Has a rule a pattern of a type? -/
def spk (ws ns : List Pt) (ms : List Mn) (n : ByteArray) : Bool := ws.any (fun p => seq p.ty n) || ns.any (fun p => seq p.ty n) || ms.any (fun m => seq m.p.ty n)
theorem rdR {w : World} {r : Rl} {vs : List Value} (h : RdL w (encR r) vs) : ∃ v1 v2 v3 v4 v5, vs = [.string r.n, v1, v2, v3, v4, .string r.e.ty, v5] ∧ Rd w (.row 47 18 (r.w.map encP)) v1 ∧ Rd w (.row 47 18 (r.t.map encP)) v2 ∧ Rd w (.row 87 20 (r.m.map encM)) v3 ∧ Rd w (.row 126 3 (r.k.map encK)) v4 ∧ Rd w (.row 31 6 (r.e.v.map encO)) v5 := by
  obtain ⟨v0, r0, rfl, h0, h⟩ := RdL.one h
  obtain ⟨v1, r1, rfl, h1, h⟩ := RdL.one h
  obtain ⟨v2, r2, rfl, h2, h⟩ := RdL.one h
  obtain ⟨v3, r3, rfl, h3, h⟩ := RdL.one h
  obtain ⟨v4, r4, rfl, h4, h⟩ := RdL.one h
  obtain ⟨v5, r5, rfl, h5, h⟩ := RdL.one h
  obtain ⟨v6, r6, rfl, h6, h⟩ := RdL.one h
  rw [rd_lit h0, rd_lit h5, RdL.none h]
  exact ⟨v1, v2, v3, v4, v6, rfl, h1, h2, h3, h4, h6⟩
/-- Does an event of a type come of events of another one, by so many rules at most? -/
def cmo (rs : List Rl) (tt : ByteArray) : Nat → ByteArray → Bool
  | 0, _ => false
  | n + 1, nm => rs.any fun x => !(emp x.e.ty) && (spk x.w x.t x.m nm && (seq x.e.ty tt || cmo rs tt n x.e.ty))
/-- What is wrong with a field. -/
def fdk (f : Fd) : Int := if nchk f.n ≠ 0 then nchk f.n else if 1 ≤ f.k ∧ f.k ≤ 2 then 0 else 3
/-- Fields, one by one, behind some that are done. -/
def tfs (done : List Fd) : List Fd → Int
  | [] => 0
  | f :: r => if fdk f ≠ 0 then fdk f else if done.any (fun d => seq d.n f.n) = true then 7 else tfs (done ++ [f]) r
/-- What is wrong with a type. -/
def tyk (n : ByteArray) (fs : List Fd) : Int := if nchk n ≠ 0 then nchk n else if 4 < fs.length then 1 else tfs [] fs
end Go.Proofs.YtnajcoikcoegoaaDoor.Chk
namespace Go.Proofs.YtnajcoikcoegoaaDoor.Chk
open Go.ChangeShapes Go.WideShapes Go.ChangeAt Go.RowKit Go.Maps
set_option linter.unusedVariables false
set_option linter.unusedSimpArgs false
theorem flat_take {α : Type} {enc : α → List Dat} (cs : List α) (k : Nat) : ∃ r, (cs.map enc).flatten = ((cs.take k).map enc).flatten ++ r := ⟨((cs.drop k).map enc).flatten, by rw [← List.flatten_append, ← List.map_append, List.take_append_drop]⟩
/-- The first k elements of a row, as x[:k] has them. -/
theorem rd_take {α : Type} {enc : α → List Dat} {e z : Nat} {w : World} {p : Option Addr} {n cap : Nat} {cs : List α} (h : Rd w (.row e z (cs.map enc)) (.slice p n cap)) (k : Nat) (hk : k ≤ cs.length) : Rd w (.row e z ((cs.take k).map enc)) (.slice p k cap) := by
  generalize hd : Dat.row e z (cs.map enc) = d at h
  generalize hv : Value.slice p n cap = v at h
  cases h with
  | lit v => cases hd
  | nil e' z' p' cap' h1 =>
    simp only [Dat.row.injEq] at hd
    simp only [Value.slice.injEq] at hv
    have h0 : cs.length = 0 := by have := congrArg List.length hd.2.2; simpa using this
    obtain rfl : k = 0 := by omega
    obtain ⟨rfl, _, rfl⟩ := hv
    have : (cs.take 0).map enc = [] := rfl
    rw [this]
    exact .nil _ _ _ _ h1
  | row e' z' l g off cap' xs h1 h2 h3 h4 h5 h6 =>
    simp only [Dat.row.injEq] at hd
    simp only [Value.slice.injEq] at hv
    obtain ⟨rfl, rfl, rfl⟩ := hd
    obtain ⟨rfl, rfl, rfl⟩ := hv
    by_cases h0 : k = 0
    · subst h0
      have : (cs.take 0).map enc = [] := rfl
      rw [this]
      exact .nil _ _ _ _ h3
    · obtain ⟨r, hr⟩ := flat_take (enc := enc) cs k
      have hl : ((cs.take k).map enc).length = k := by simp; omega
      have hlen : ((cs.take k).map enc).flatten.length ≤ xs.length := by rw [← h5, hr, List.length_append]; omega
      have key := Rd.row e z ((cs.take k).map enc) g off cap (xs.take ((cs.take k).map enc).flatten.length) (w := w) (by rw [hl]; omega) (by rw [hl]; rw [List.length_map] at h2; omega) h3 (fun j u hu => by
        have hj : j < ((cs.take k).map enc).flatten.length := by
          have := (List.getElem?_eq_some_iff.1 hu).1
          rw [List.length_take] at this
          omega
        rw [List.getElem?_take_of_lt hj] at hu
        exact h4 j u hu) (by rw [List.length_take]; omega) (fun q hq => by
        have h9 := h6 q (by rw [hr, List.length_append]; omega)
        have e1 : (cs.map enc).flatten[q]'(by rw [hr, List.length_append]; omega) = ((cs.take k).map enc).flatten[q] := by
          rw [List.getElem_of_eq hr, List.getElem_append_left hq]
        rw [e1] at h9
        have e2 : (xs.take ((cs.take k).map enc).flatten.length).getD q nilV = xs.getD q nilV := by
          rw [List.getD_eq_getElem?_getD, List.getD_eq_getElem?_getD, List.getElem?_take_of_lt hq]
        rw [e2]
        exact h9)
      rw [hl] at key
      exact key
end Go.Proofs.YtnajcoikcoegoaaDoor.Chk
namespace Go.Proofs.YtnajcoikcoegoaaDoor.Chk
open Go.ChangeShapes Go.WideShapes Go.ChangeAt Go.RowKit Go.Maps
set_option linter.unusedVariables false
set_option linter.unusedSimpArgs false
set_option maxRecDepth 20000
theorem rdO {w : World} {o : Opd} {vs : List Value} (h : RdL w (encO o) vs) : vs = [.int .i64 o.k, .int .i64 o.vk, .int .i64 o.vi, .string o.vt, .string o.va, .string o.fd] := by
  obtain ⟨v0, r0, rfl, h0, h⟩ := RdL.one h
  obtain ⟨v1, r1, rfl, h1, h⟩ := RdL.one h
  obtain ⟨v2, r2, rfl, h2, h⟩ := RdL.one h
  obtain ⟨v3, r3, rfl, h3, h⟩ := RdL.one h
  obtain ⟨v4, r4, rfl, h4, h⟩ := RdL.one h
  obtain ⟨v5, r5, rfl, h5, h⟩ := RdL.one h
  rw [rd_lit h0, rd_lit h1, rd_lit h2, rd_lit h3, rd_lit h4, rd_lit h5, RdL.none h]
/-- The values of what is emitted, one by one. -/
def evs (ts : List Tp) (ws : List Pt) (t : Tp) : List Opd → List Fd → Int
  | o :: r, f :: g => if o.k = 2 then 4 else if (sdk ts ws t o).2 ≠ 0 then (sdk ts ws t o).2 else if (sdk ts ws t o).1 ≠ f.k then 13 else evs ts ws t r g
  | _, _ => 0
/-- What is wrong with what a rule emits. -/
def eck (ts : List Tp) (ws : List Pt) (ety : ByteArray) (vs : List Opd) : Int :=
  if emp ety = true then (if 0 < vs.length then 4 else 0)
  else if tyq ts ety < 0 then 6
  else if vs.length ≠ (ts.getD (tyq ts ety).toNat ⟨txt [], []⟩).f.length then 13
  else evs ts ws (ts.getD (tyq ts ety).toNat ⟨txt [], []⟩) vs (ts.getD (tyq ts ety).toNat ⟨txt [], []⟩).f
def tks (done : List Tp) : List Tp → Int
  | [] => 0
  | t :: r => if tyk t.n t.f ≠ 0 then tyk t.n t.f else if kpt t.n = true then 4 else if t.f.any (fun f => kpt f.n) = true then 4 else if 0 ≤ tyq done t.n then 7 else tks (done ++ [t]) r
def rks (rk : Rl → Int) (done : List Rl) : List Rl → Int
  | [] => 0
  | x :: r => if rk x ≠ 0 then rk x else if done.any (fun d => seq d.n x.n) = true then 7 else rks rk (done ++ [x]) r
theorem rd_cap {α : Type} {enc : α → List Dat} {e z : Nat} {w : World} {p : Option Addr} {n cap : Nat} {cs : List α} (h : Rd w (.row e z (cs.map enc)) (.slice p n cap)) : cs.length ≤ cap := by
  generalize hd : Dat.row e z (cs.map enc) = d at h
  generalize hv : Value.slice p n cap = v at h
  cases h with
  | lit v => cases hd
  | nil e' z' p' cap' h1 =>
    simp only [Dat.row.injEq] at hd
    have h0 : cs.length = 0 := by have := congrArg List.length hd.2.2; simpa using this
    omega
  | row e' z' l g off cap' xs h1 h2 h3 h4 h5 h6 =>
    simp only [Dat.row.injEq] at hd
    simp only [Value.slice.injEq] at hv
    obtain ⟨rfl, rfl, rfl⟩ := hd
    obtain ⟨_, _, rfl⟩ := hv
    rw [List.length_map] at h2
    exact h2
/-- What is wrong with a book. -/
def bkf (rk : Rl → Int) (ts : List Tp) (rs : List Rl) : Int :=
  if 6 < ts.length ∨ 5 < rs.length then 1
  else if tks [] ts ≠ 0 then tks [] ts
  else if rks rk [] rs ≠ 0 then rks rk [] rs
  else if ts.any (fun t => cmo rs t.n rs.length t.n) = true then 15 else 0
theorem step_call2 {ops : Array Oper} {o : Oper} {a : Act} {w : World} {K : Act → World → Prop} {Q : Exit → Act → World → Prop} {E : Prop} (f : FuncId) (he : ∀ args w, (callFunc f args).run Tryd.prog w = .ok (.enter f args) w) (hw : Region.wanted o (yielded ops a.tmps) = true) (x1 x2 : Operand) (ts : Array TypeId) (ho : o.op = .call { callee := .value (.func f), args := #[x1, x2], argTypes := ts }) (u1 u2 : Value) (h1 : a.eval x1 = u1) (h2 : a.eval x2 = u2)
    (R : Ending → World → Prop) (hc : Calls Tryd.prog f #[u1, u2] w R) (h : ∀ e w', R e w' → ∃ v, e = .returned v ∧ K (a.put o.dst v) w') :
    if Region.wanted o (yielded ops a.tmps) = true then Oper.wp Tryd.prog o a w K Q else E := by
  rw [if_pos hw]
  unfold Oper.wp execOp
  have hf : a.eval (.func f) = Value.func (Fn.func f) #[] #[] := rfl
  simp [ho, resolve, invoke, Deferred.ofValue, hf, h1, h2, he]
  refine hc.mono ?_
  intro e w' hr
  obtain ⟨v, rfl, hk⟩ := h e w' hr
  exact hk
/-- Is the window none of this part of a rule? -/
def wbad (part w n : Int) : Prop := (part = 0 ∧ ¬ (0 ≤ w ∧ w ≤ 2)) ∨ (part = 1 ∧ w ≠ 0) ∨ (part = 2 ∧ w ≠ 1) ∨ (w = 0 ∧ n ≠ 0)
def rbad (w n : Int) : Prop := (w = 1 ∧ ¬ (0 ≤ n ∧ n ≤ 1073741824)) ∨ (w = 2 ∧ ¬ (1 ≤ n ∧ n ≤ 120))
instance (part w n : Int) : Decidable (wbad part w n) := by unfold wbad; infer_instance
instance (w n : Int) : Decidable (rbad w n) := by unfold rbad; infer_instance
/-- What is wrong with a pattern. -/
def pck (ts : List Tp) (kn : List Pt) (ah : List ByteArray) (p : Pt) (part : Int) : Int :=
  if frn p.va ≠ 0 then frn p.va
  else if ah.any (fun a => seq a p.va) = true then 7
  else if tyq ts p.ty < 0 then 6
  else if wbad part p.w p.n then 4
  else if rbad p.w p.n then 2
  else if noc p.c = true then 0
  else (cdk ts kn (ts.getD (tyq ts p.ty).toNat ⟨txt [], []⟩) 8 p.c).2
/-- What is wrong with the first option that is wrong. -/
def ofs : List Op3 → Int
  | [] => 0
  | o :: r => if ock o.r o.lo o.hi ≠ 0 then ock o.r o.lo o.hi else ofs r
/-- What is wrong with a link of patterns, whens and nots. -/
def lck (ws ns : List Pt) (kl kr : ByteArray) (os : List Op3) : Int :=
  if (ptq ws kl < 0 ∧ ptq ns kl < 0) ∨ (ptq ws kr < 0 ∧ ptq ns kr < 0) then 6
  else if seq kl kr = true ∨ (ptq ws kl < 0 ∧ ptq ws kr < 0) then 4
  else if ¬ (1 ≤ os.length ∧ os.length ≤ 6) then 1
  else ofs os
theorem rdQ {w : World} {o : Op3} {vs : List Value} (h : RdL w (encQ o) vs) : vs = [.int .i64 o.r, .int .i64 o.lo, .int .i64 o.hi] := by
  obtain ⟨v0, r0, rfl, h0, h⟩ := RdL.one h
  obtain ⟨v1, r1, rfl, h1, h⟩ := RdL.one h
  obtain ⟨v2, r2, rfl, h2, h⟩ := RdL.one h
  rw [rd_lit h0, rd_lit h1, rd_lit h2, RdL.none h]
/-- The whens, one by one, and then X. -/
def wfs (X : Int) (ts : List Tp) (done : List Pt) : List Pt → Int
  | [] => X
  | p :: r => if pck ts done (done.map Pt.va) p 0 ≠ 0 then pck ts done (done.map Pt.va) p 0 else wfs X ts (done ++ [p]) r
def nfs (X : Int) (ts : List Tp) (ws : List Pt) (ah : List ByteArray) : List Pt → Int
  | [] => X
  | p :: r => if pck ts ws ah p 1 ≠ 0 then pck ts ws ah p 1 else nfs X ts ws (ah ++ [p.va]) r
/-- Is the count of a many out of range? -/
def mbad (m : Mn) : Bool := (emp m.f && !(decide (1 ≤ m.c) && decide (m.c ≤ 120))) || !(decide (0 ≤ m.c) && decide (m.c ≤ 1125899906842624))
/-- What is wrong with a many. -/
def mck (ts : List Tp) (ws : List Pt) (ah : List ByteArray) (m : Mn) : Int :=
  if mbad m = true then 2
  else if pck ts ws ah m.p 2 ≠ 0 then pck ts ws ah m.p 2
  else if emp m.f = true then 0 else sck (ts.getD (tyq ts m.p.ty).toNat ⟨txt [], []⟩).f m.f
def mfs (X : Int) (ts : List Tp) (ws : List Pt) (ah : List ByteArray) : List Mn → Int
  | [] => X
  | m :: r => if mck ts ws ah m ≠ 0 then mck ts ws ah m else mfs X ts ws (ah ++ [m.p.va]) r
def lfs (X : Int) (ws ns : List Pt) : List Lk → Int
  | [] => X
  | k :: r => if lck ws ns k.l k.r k.o ≠ 0 then lck ws ns k.l k.r k.o else lfs X ws ns r
/-- Has a rule parts that are too many or too few? -/
def szs (r : Rl) : Prop := 1 ≤ r.w.length ∧ r.w.length ≤ 3 ∧ r.t.length ≤ 2 ∧ r.m.length ≤ 2 ∧ r.k.length ≤ 6
instance (r : Rl) : Decidable (szs r) := by unfold szs; infer_instance
/-- What is wrong with a rule. -/
def rck (ts : List Tp) (r : Rl) : Int :=
  if frn r.n ≠ 0 then frn r.n else if ¬ szs r then 1
  else wfs (nfs (mfs (lfs (eck ts r.w r.e.ty r.e.v) r.w r.t r.k) ts r.w (r.w.map Pt.va ++ r.t.map Pt.va) r.m) ts r.w (r.w.map Pt.va) r.t) ts [] r.w
theorem pck_known {ts : List Tp} {kn : List Pt} {ah : List ByteArray} {p : Pt} {part : Int} (h : pck ts kn ah p part = 0) : ∃ i, ∃ _ : i < ts.length, tyq ts p.ty = (i : Int) := by
  rcases ixq_lt (q := fun t : Tp => seq t.n p.ty) ts 0 with c | ⟨i, hi, c, _⟩
  · exfalso
    have c0 : tyq ts p.ty = -1 := c
    unfold pck at h
    split at h
    · rename_i h1; exact h1 h
    · split at h
      · omega
      · rw [if_pos (by rw [c0]; decide)] at h
        omega
  · exact ⟨i, hi, by show ixq _ _ _ = _; rw [c]; simp⟩
theorem known_snoc {ts : List Tp} {kn : List Pt} {p : Pt} (h : Known ts kn) (hp : ∃ i, ∃ _ : i < ts.length, tyq ts p.ty = (i : Int)) : Known ts (kn ++ [p]) := fun j hj => by
  by_cases c : j < kn.length
  · rw [List.getElem_append_left c]
    exact h j c
  · have e : j = kn.length := by simp at hj; omega
    subst e
    simpa using hp
theorem rdK {w : World} {k : Lk} {vs : List Value} (h : RdL w (encK k) vs) : ∃ v, vs = [.string k.l, v, .string k.r] ∧ Rd w (.row 147 3 (k.o.map encQ)) v := by
  obtain ⟨v0, r0, rfl, h0, h⟩ := RdL.one h
  obtain ⟨v1, r1, rfl, h1, h⟩ := RdL.one h
  obtain ⟨v2, r2, rfl, h2, h⟩ := RdL.one h
  rw [rd_lit h0, rd_lit h2, RdL.none h]
  exact ⟨v1, rfl, h1⟩
theorem ovr_all {cs vs : List Value} (h : vs.length = cs.length) : ovr cs 0 vs = vs := by
  unfold ovr
  simp [h]
theorem new_store {w w1 : World} {o : Obj} (h : Fr (fun i => i = w.heap.size) (w.alloc o) w1) : Below w.heap.size w w1 :=
  ⟨h.os, h.tape, h.output, by have := h.size; simp at this; omega, fun k hk => (h.block k (by simp; omega) (by omega)).trans (Below.heap_alloc _ _ _ hk)⟩
theorem range_tail {w : World} {b : Nat} {A B : List Value} {x y : Value} {t : TypeId} (h : w.heap[b]? = some (.cells A.toArray t (0, 0))) (hA : A = x :: y :: B) : w.rangeAt b 2 B := fun j v hv => by
  rw [cell_of_blk h, hA]
  rw [List.getElem?_toArray, show 2 + j = j + 1 + 1 by omega]
  simpa using hv
theorem rd_shape {w : World} {e z : Nat} {l : List (List Dat)} {v : Value} (h : Rd w (.row e z l) v) : ∃ p n cap, v = .slice p n cap := by
  cases h with
  | nil e z p cap h => exact ⟨_, _, _, rfl⟩
  | row e z l g off cap xs h1 h2 h3 h4 h5 h6 => exact ⟨_, _, _, rfl⟩
theorem mck_bad {ts : List Tp} {ws : List Pt} {ah : List ByteArray} {m : Mn} (h : mbad m = true) : mck ts ws ah m = 2 := by unfold mck; rw [if_pos h]
theorem mck_pat {ts : List Tp} {ws : List Pt} {ah : List ByteArray} {m : Mn} (h : mbad m = false) (h2 : pck ts ws ah m.p 2 ≠ 0) : mck ts ws ah m = pck ts ws ah m.p 2 := by unfold mck; rw [if_neg (by rw [h]; decide), if_pos h2]
theorem mck_ok {ts : List Tp} {ws : List Pt} {ah : List ByteArray} {m : Mn} (h : mbad m = false) (h2 : pck ts ws ah m.p 2 = 0) : mck ts ws ah m = if emp m.f = true then 0 else sck (ts.getD (tyq ts m.p.ty).toNat ⟨txt [], []⟩).f m.f := by unfold mck; rw [if_neg (by rw [h]; decide), if_neg (fun c => c h2)]
/-- What is wrong with a book. -/
def bok (ts : List Tp) (rs : List Rl) : Int := bkf (rck ts) ts rs
end Go.Proofs.YtnajcoikcoegoaaDoor.Chk
namespace Go.Proofs.YtnajcoikcoegoaaDoor.V4
open Go.ChangeShapes Go.WideShapes Go.ChangeAt Go.RowKit
set_option linter.unusedVariables false
set_option linter.unusedSimpArgs false
set_option maxRecDepth 20000
/-- A value: kind, number, text. A field: name, kind. A type: name, fields. -/
structure Vl where
  k : Int
  n : Int
  s : ByteArray
structure Fd where
  s : ByteArray
  k : Int
structure Ty where
  s : ByteArray
  fs : List Fd
def eqS (a b : ByteArray) : Bool := a.toList == b.toList
def vchk (v : Vl) : Int :=
  if v.k ≠ 1 ∧ v.k ≠ 2 then 3
  else if (v.k = 1 ∧ v.s.toList ≠ []) ∨ (v.k = 2 ∧ v.n ≠ 0) then 4
  else if 20 < v.s.size then 1
  else if v.n < -1125899906842624 ∨ 1125899906842624 < v.n then 2 else 0
/-- The first error of n ones. -/
def fst (f : Nat → Int) : Nat → Int
  | 0 => 0
  | n + 1 => if fst f n ≠ 0 then fst f n else f n
theorem fst_hit {f : Nat → Int} {k n : Nat} (h0 : fst f k = 0) (h1 : f k ≠ 0) (hk : k < n) : fst f n = f k := by
  induction n with
  | zero => omega
  | succ n ih =>
    unfold fst
    by_cases e : k = n
    · subst e; simp [h0]
    · have := ih (by omega)
      rw [if_pos (by rw [this]; exact h1), this]
theorem fst_step {f : Nat → Int} {k : Nat} (h0 : fst f k = 0) (h1 : f k = 0) : fst f (k + 1) = 0 := by
  unfold fst; simp [h0, h1]
theorem fst_zero {f : Nat → Int} {n : Nat} (h : fst f n = 0) : ∀ k, k < n → f k = 0 := by
  induction n with
  | zero => intro k hk; omega
  | succ n ih =>
    unfold fst at h
    by_cases e : fst f n = 0
    · simp [e] at h
      intro k hk
      by_cases c : k = n
      · subst c; exact h
      · exact ih e k (by omega)
    · simp [e] at h
theorem size_nil {s : ByteArray} (h : s.toList = []) : s.size = 0 := by
  rw [Lib.toList_data] at h
  have := congrArg List.length h
  simpa using this
def byteN (s : ByteArray) (i : Nat) : Int := ((s.data.toList.getD i 0).toNat : Int)
def isL (c : Int) : Prop := 97 ≤ c ∧ c ≤ 122
def isD (c : Int) : Prop := 48 ≤ c ∧ c ≤ 57
instance (c : Int) : Decidable (isL c) := by unfold isL; infer_instance
instance (c : Int) : Decidable (isD c) := by unfold isD; infer_instance
/-- What is wrong with the sign at i of a name. -/
def sgn (s : ByteArray) (i : Nat) : Int := if isL (byteN s i) ∨ (i ≠ 0 ∧ isD (byteN s i)) then 0 else 4
def nchk (s : ByteArray) : Int := if s.size < 1 ∨ 10 < s.size then 1 else fst (sgn s) s.size
/-- The place of a field, from place k on. -/
def fnd (name : ByteArray) : List Fd → Nat → Int
  | [], _ => -1
  | f :: l, k => if eqS f.s name = true then (k : Int) else fnd name l (k + 1)
def fchk (fs : List Fd) (i : Nat) : Int :=
  match fs[i]? with
  | none => 0
  | some f => if nchk f.s ≠ 0 then nchk f.s else if f.k ≠ 1 ∧ f.k ≠ 2 then 3 else if 0 ≤ fnd f.s (fs.take i) 0 then 7 else 0
def tchk (t : Ty) : Int := if nchk t.s ≠ 0 then nchk t.s else if 4 < t.fs.length then 1 else fst (fchk t.fs) t.fs.length
def vat (l : List Vl) (i : Nat) : Int := match l[i]? with | none => 0 | some v => vchk v
def kat (l : List Vl) (fs : List Fd) (i : Nat) : Int := match l[i]?, fs[i]? with | some v, some f => if v.k ≠ f.k then 13 else 0 | _, _ => 0
def fit (t : Ty) (l : List Vl) : Int :=
  if tchk t ≠ 0 then tchk t else if fst (vat l) l.length ≠ 0 then fst (vat l) l.length
  else if l.length ≠ t.fs.length then 13 else fst (kat l t.fs) l.length
abbrev vV (v : Vl) : Value := .agg #[.int .i64 v.k, .int .i64 v.n, .string v.s]
def FieldsAt (w : World) (v : Value) (fs : List Fd) : Prop :=
  ∃ p cap, v = .slice p fs.length cap ∧ fs.length ≤ cap ∧ cap ≤ maxLen ∧ (0 < fs.length → ∃ g off, p = some ⟨g, off, none⟩ ∧ ∀ j (hj : j < fs.length), g < w.heap.size ∧ w.cell? ⟨g, off + j * 2, none⟩ = some (.string fs[j].s) ∧ w.cell? ⟨g, off + j * 2 + 1, none⟩ = some (.int .i64 fs[j].k))
def ValsAt (w : World) (v : Value) (l : List Vl) : Prop :=
  ∃ p cap, v = .slice p l.length cap ∧ l.length ≤ cap ∧ cap ≤ maxLen ∧ (0 < l.length → ∃ g off, p = some ⟨g, off, none⟩ ∧ ∀ j (hj : j < l.length), g < w.heap.size ∧ w.cell? ⟨g, off + j * 3, none⟩ = some (.int .i64 l[j].k) ∧ w.cell? ⟨g, off + j * 3 + 1, none⟩ = some (.int .i64 l[j].n) ∧ w.cell? ⟨g, off + j * 3 + 2, none⟩ = some (.string l[j].s))
theorem FieldsAt.below {w w' : World} {v : Value} {fs : List Fd} (h : FieldsAt w v fs) (b : Below w.heap.size w w') : FieldsAt w' v fs := by
  obtain ⟨p, cap, h1, hc, hm, h2⟩ := h
  refine ⟨p, cap, h1, hc, hm, fun h0 => ?_⟩
  obtain ⟨g, off, h3, h4⟩ := h2 h0
  refine ⟨g, off, h3, fun j hj => ?_⟩
  obtain ⟨a, b0, b1⟩ := h4 j hj
  exact ⟨Nat.lt_of_lt_of_le a b.size, (b.cell (p := ⟨g, off + j * 2, none⟩) a).trans b0, (b.cell (p := ⟨g, off + j * 2 + 1, none⟩) a).trans b1⟩
theorem ValsAt.below {w w' : World} {v : Value} {fs : List Vl} (h : ValsAt w v fs) (b : Below w.heap.size w w') : ValsAt w' v fs := by
  obtain ⟨p, cap, h1, hc, hm, h2⟩ := h
  refine ⟨p, cap, h1, hc, hm, fun h0 => ?_⟩
  obtain ⟨g, off, h3, h4⟩ := h2 h0
  refine ⟨g, off, h3, fun j hj => ?_⟩
  obtain ⟨a, b0, b1, b2⟩ := h4 j hj
  exact ⟨Nat.lt_of_lt_of_le a b.size, (b.cell (p := ⟨g, off + j * 3, none⟩) a).trans b0, (b.cell (p := ⟨g, off + j * 3 + 1, none⟩) a).trans b1, (b.cell (p := ⟨g, off + j * 3 + 2, none⟩) a).trans b2⟩
theorem below_trans {B B' : Nat} {w w1 w2 : World} (h : Below B w w1) (h2 : Below B' w1 w2) (hb : B ≤ B') : Below B w w2 :=
  ⟨h2.os.trans h.os, h2.tape.trans h.tape, h2.output.trans h.output, Nat.le_trans h.size h2.size, fun k hk => (h2.block k (by omega)).trans (h.block k hk)⟩
theorem ret_int {k : IntKind} {a b : Int} (h : a = b) : Ending.returned (.int k a) = .returned (.int k b) := by rw [h]
theorem vchk_eq (v : Vl) : vchk v = if v.k = 1 then (if v.s.toList ≠ [] then 4 else if v.n < -1125899906842624 ∨ 1125899906842624 < v.n then 2 else 0) else if v.k ≠ 2 then 3 else if v.n ≠ 0 then 4 else if 20 < v.s.size then 1 else 0 := by
  unfold vchk
  by_cases h1 : v.k = 1
  · by_cases h2 : v.s.toList = []
    · have := size_nil h2
      simp [h1, h2, this]
    · simp [h1, h2]
  · by_cases h2 : v.k = 2
    · by_cases h3 : v.n = 0
      · simp [h2, h3]
      · simp [h2, h3]
    · simp [h1, h2]
set_option maxHeartbeats 2000000 in
theorem check_any (v : Vl) (w : World) :
    Calls Tryd.prog 77 #[vV v] w fun e w' => e = .returned (.int .i64 (vchk v)) ∧ Below w.heap.size w w' := by
  obtain ⟨k, n, s⟩ := v
  unfold vV
  have hz : s.toList = [] → s.size = 0 := size_nil
  have HZ : Hid (s.toList = [] → s.size = 0) := hz
  clear hz
  go_enter Tryd.func77, Tryd.ntmps77
  go_wp2
  all_goals
    go_ret
    refine ⟨ret_int ?_, (Below.refl _ _).alloc (Nat.le_refl _) _⟩
    have hz := HZ.out
    rw [vchk_eq]
    simp_all <;> omega
theorem byteN_at (s : ByteArray) (k : Nat) (h : k < s.size) : byteN s k = (s[k].toNat : Int) := by
  unfold byteN
  have h' : k < s.data.toList.length := by simpa using h
  rw [List.getD_eq_getElem?_getD, List.getElem?_eq_getElem h']
  rfl
theorem sgn_at (s : ByteArray) (k : Nat) (h : k < s.size) : sgn s k = if (97 ≤ (s[k].toNat : Int) ∧ (s[k].toNat : Int) ≤ 122) ∨ (k ≠ 0 ∧ 48 ≤ (s[k].toNat : Int) ∧ (s[k].toNat : Int) ≤ 57) then 0 else 4 := by
  unfold sgn isL isD
  rw [byteN_at s k h]
theorem nchk_mid {s : ByteArray} (h1 : 1 ≤ s.size) (h2 : s.size ≤ 10) : nchk s = fst (sgn s) s.size := by
  unfold nchk; rw [if_neg (by omega)]
/-- A Bool that tells whether P holds. -/
def Say (b : Bool) (P : Prop) : Prop := b = true ↔ P
theorem bool_of (P : Prop) [Decidable P] : ∃ b : Bool, Say b P := ⟨decide P, by simp [Say]⟩
theorem Say.yes {P : Prop} (h : P) : Say true P := by simp [Say, h]
theorem Say.no {P : Prop} (h : ¬ P) : Say false P := by simp [Say, h]
theorem ret_bool {a b : Bool} (h : a = b) : Ending.returned (.bool a) = .returned (.bool b) := by rw [h]
theorem isDigit_any (c : Int) (r : Bool) (h : Say r ((48 : Int) ≤ c ∧ c ≤ 57)) (w : World) :
    Calls Tryd.prog 66 #[.int .u8 c] w fun e w' => e = .returned (.bool r) ∧ w' = w := by
  have H : Hid (Say r ((48 : Int) ≤ c ∧ c ≤ 57)) := h
  clear h
  go_enter Tryd.func66, Tryd.ntmps66
  go_wp2
  all_goals
    go_ret
    exact ⟨ret_bool (by have h := H.out; unfold Say at h; rw [Bool.eq_iff_iff, h]; simp <;> omega), rfl⟩
theorem isLetter_any (c : Int) (r : Bool) (h : Say r ((97 : Int) ≤ c ∧ c ≤ 122)) (w : World) :
    Calls Tryd.prog 67 #[.int .u8 c] w fun e w' => e = .returned (.bool r) ∧ w' = w := by
  have H : Hid (Say r ((97 : Int) ≤ c ∧ c ≤ 122)) := h
  clear h
  go_enter Tryd.func67, Tryd.ntmps67
  go_wp2
  all_goals
    go_ret
    exact ⟨ret_bool (by have h := H.out; unfold Say at h; rw [Bool.eq_iff_iff, h]; simp <;> omega), rfl⟩
set_option maxHeartbeats 2000000 in
theorem name_any (s : ByteArray) (w : World) :
    Calls Tryd.prog 43 #[.string s] w fun e w' => e = .returned (.int .i64 (nchk s)) ∧ w' = w := by
  by_cases hsz : 1 ≤ s.size ∧ s.size ≤ 10
  · obtain ⟨h1, h2⟩ := hsz
    have hp : 0 < s.size := by omega
    have HE : Hid (nchk s = fst (sgn s) s.size) := nchk_mid h1 h2
    have HS : Hid (∀ k (h : k < s.size), sgn s k = if (97 ≤ (s[k].toNat : Int) ∧ (s[k].toNat : Int) ≤ 122) ∨ (k ≠ 0 ∧ 48 ≤ (s[k].toNat : Int) ∧ (s[k].toNat : Int) ≤ 57) then 0 else 4) := sgn_at s
    by_cases hd : (48 : Int) ≤ (s[0].toNat : Int) ∧ (s[0].toNat : Int) ≤ 57
    · have hx : fst (sgn s) s.size = 4 := by
        have e := sgn_at s 0 hp
        rw [if_neg (by omega)] at e
        rw [fst_hit (k := 0) rfl (by rw [e]; omega) hp, e]
      have HX : Hid (fst (sgn s) s.size = 4) := hx
      have HD : Hid ((48 : Int) ≤ (s[0].toNat : Int) ∧ (s[0].toNat : Int) ≤ 57) := hd
      clear hx hd
      go_enter Tryd.func43, Tryd.ntmps43
      go_wp2_with (go_at_call 66; refine (isDigit_any _ true (Say.yes HD.out) _).mono ?_; rintro e w' ⟨rfl, rfl⟩)
      go_ret
      exact ⟨ret_int (by rw [HE.out, HX.out]), rfl⟩
    · have HD : Hid (¬ ((48 : Int) ≤ (s[0].toNat : Int) ∧ (s[0].toNat : Int) ≤ 57)) := hd
      clear hd
      go_enter Tryd.func43, Tryd.ntmps43
      go_wp2_with (go_at_call 66; refine (isDigit_any _ false (Say.no HD.out) _).mono ?_; rintro e w' ⟨rfl, rfl⟩)
      go_loop [17] (fun i => ∃ k : Nat, k ≤ s.size ∧ i = .int .i64 k ∧ fst (sgn s) k = 0) (fun i => s.size - (intOf i).toNat)
      case atStart => exact ⟨0, Nat.zero_le _, rfl, rfl⟩
      case round =>
        obtain ⟨k, hk, rfl, hf⟩ := hrel
        have HF : Hid (fst (sgn s) k = 0) := hf
        clear hf
        by_cases hlt : k < s.size
        · have HK : Hid (sgn s k = if (97 ≤ (s[k].toNat : Int) ∧ (s[k].toNat : Int) ≤ 122) ∨ (k ≠ 0 ∧ 48 ≤ (s[k].toNat : Int) ∧ (s[k].toNat : Int) ≤ 57) then 0 else 4) := HS.out k hlt
          have HD' : Hid (k = 0 → ¬ (48 ≤ (s[k].toNat : Int) ∧ (s[k].toNat : Int) ≤ 57)) := fun h => by subst h; exact HD.out
          obtain ⟨bl, hbl⟩ := bool_of ((97 : Int) ≤ (s[k].toNat : Int) ∧ (s[k].toNat : Int) ≤ 122)
          obtain ⟨bd, hbd⟩ := bool_of ((48 : Int) ≤ (s[k].toNat : Int) ∧ (s[k].toNat : Int) ≤ 57)
          have HL : Hid (Say bl ((97 : Int) ≤ (s[k].toNat : Int) ∧ (s[k].toNat : Int) ≤ 122)) := hbl
          have HDG : Hid (Say bd ((48 : Int) ≤ (s[k].toNat : Int) ∧ (s[k].toNat : Int) ≤ 57)) := hbd
          clear hbl hbd
          cases bl <;> cases bd
          all_goals go_wp2_with (first | (go_at_call 66; refine (isDigit_any _ _ HDG.out _).mono ?_; rintro e w' ⟨rfl, rfl⟩) | (go_at_call 67; refine (isLetter_any _ _ HL.out _).mono ?_; rintro e w' ⟨rfl, rfl⟩))
          all_goals
            have hl := HL.out
            have hdg := HDG.out
            simp [Say] at hl hdg
            have e := HK.out
            have e2 := HD'.out
          · rw [if_neg (by omega)] at e
            go_ret
            exact ⟨ret_int (by rw [HE.out, fst_hit HF.out (by rw [e]; omega) hlt, e]), rfl⟩
          all_goals
            rw [if_pos (by omega)] at e
            have HEE : Hid (sgn s k = 0) := e
            clear e e2 hl hdg
            go_round
            case rel => exact ⟨k + 1, by omega, by go_num, fst_step HF.out HEE.out⟩
            case measure => simp [intOf]; omega
        · obtain rfl : k = s.size := by omega
          go_wp2
          go_ret
          exact ⟨ret_int (by rw [HE.out, HF.out]), rfl⟩
  · have he : nchk s = 1 := by unfold nchk; rw [if_pos (by omega)]
    have HE : Hid (nchk s = 1) := he
    clear he
    go_enter Tryd.func43, Tryd.ntmps43
    go_wp2
    all_goals first
      | (go_ret
         exact ⟨ret_int (by rw [HE.out]), rfl⟩)
      | (exfalso; omega)
end Go.Proofs.YtnajcoikcoegoaaDoor.V4
