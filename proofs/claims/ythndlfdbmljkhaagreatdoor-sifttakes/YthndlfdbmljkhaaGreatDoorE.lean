/-
  A reader of tokens in memory; what its smallest functions do. The smallest functions of a reader of tokens. The next token of a reader; whether it is a word or a mark. A reader goes past a word or a mark, a name, a number. A reader opens and closes what a condition is nested by; it reads a name, a number, a relation. A side of a comparison. A comparison. A reader does not go back, and closes what it opens; rows of data that a reader appends to.
-/
import Derived.Test.YthndlfdbmljkhaaGreatDoorKT
import Derived.Test.YthndlfdbmljkhaaGreatDoorM
import Derived.Deep.MidRow
import Derived.Deep.QuietTactic
import Derived.BigQuiet
import Derived.Defers
namespace Go.Proofs.YthndlfdbmljkhaaGreatDoor
open Go.ChangeShapes Go.WideShapes Go.ChangeAt Go.RowKit
set_option linter.unusedVariables false
set_option linter.unusedSimpArgs false
theorem Fr.drewN {X : Nat → Prop} {a w : World} (h : Fr X a w) : ∀ n, Fr X a (w.drewN n)
  | 0 => h
  | n + 1 => (h.drewN n).drew
theorem cell_of_blk {w : World} {g : Nat} {cs : Array Value} {T : TypeId} (h : w.heap[g]? = some (.cells cs T (0, 0))) (j : Nat) : w.cell? ⟨g, j, none⟩ = cs[j]? := cell_of_row _ _ j cs T (0, 0) h
theorem free_of_blk {w : World} {g : Nat} {cs : Array Value} {T : TypeId} (h : w.heap[g]? = some (.cells cs T (0, 0))) (j : Nat) : w.frozen? ⟨g, j, none⟩ = false := by
  simp [World.frozen?, h]
theorem blk_lt {w : World} {g : Nat} {o : Obj} (h : w.heap[g]? = some o) : g < w.heap.size := (Array.getElem?_eq_some_iff.1 h).1
theorem blk_set {w : World} {g : Nat} {cs : Array Value} {T : TypeId} (h : w.heap[g]? = some (.cells cs T (0, 0))) (j : Nat) (u : Value) : (w.setCell ⟨g, j, none⟩ u).heap[g]? = some (.cells (cs.setIfInBounds j u) T (0, 0)) := by
  simp [World.setCell, Array.getElem?_modify, h]
end Go.Proofs.YthndlfdbmljkhaaGreatDoor
namespace Go.Proofs.YthndlfdbmljkhaaGreatDoor
open Go.ChangeShapes Go.WideShapes Go.ChangeAt Go.RowKit
set_option linter.unusedVariables false
set_option linter.unusedSimpArgs false
section
variable {w : World} {g : Nat} {V : Value} {L : List Tk} {s : St}
end
theorem fr_put (w : World) (g j : Nat) (u : Value) : Fr (fun i => i = g) w (w.setCell ⟨g, j, none⟩ u) := (Fr.refl (fun i => i = g) w).setCell (p := ⟨g, j, none⟩) (.inl rfl) u
theorem res1 {P : Program} {fn : Func} {p : Tmp} {ty : TypeId} (h : fn.results = #[.cell p ty]) (tmps : Array Value) (w : World) (g : Nat) (cs : List Value) (d : TypeDesc)
    (hp : tmps.getD p undef = .pointer (some ⟨g, 0, none⟩)) (hc : w.rangeAt g 0 cs) (hu : P.underlying ty = some d) (hd : d.isRow = true) (hi : (P.info? ty).map (·.size) = some cs.length) :
    (results fn tmps).run P w = .ok (.agg cs.toArray) w := by
  have hp' : tmps[p]?.getD undef = .pointer (some ⟨g, 0, none⟩) := by simpa using hp
  simp [results, h, hp', asAddr, run_loadVar_mid w g 0 ty cs d hc hu hd hi]
theorem range_blk {w : World} {g : Nat} {cs : List Value} {T : TypeId} (h : w.heap[g]? = some (.cells cs.toArray T (0, 0))) : w.rangeAt g 0 cs := by
  intro j v hv
  rw [Nat.zero_add, cell_of_blk h]
  simpa using hv
abbrev rp (g : Nat) : Value := .pointer (some ⟨g, 0, none⟩)
end Go.Proofs.YthndlfdbmljkhaaGreatDoor
namespace Go.Proofs.YthndlfdbmljkhaaGreatDoor
open Go.ChangeShapes Go.WideShapes Go.ChangeAt Go.RowKit
set_option linter.unusedVariables false
set_option linter.unusedSimpArgs false
theorem new_blk (w : World) (o : Obj) (n : Nat) : ((w.alloc o).drewN n).heap[w.heap.size]? = some o := by
  have h : ((w.alloc o).drewN n).heap = (w.alloc o).heap := by
    induction n with
    | zero => rfl
    | succ n ih => exact ih
  rw [h]
  exact heap_alloc_new w o
theorem there_blk {w : World} {g : Nat} {cs : Array Value} {T : TypeId} (h : w.heap[g]? = some (.cells cs T (0, 0))) (o n : Nat) (hn : o + n ≤ cs.size) : w.there g o n := by
  intro j hj
  rw [cell_of_blk h, Array.getElem?_eq_getElem (by omega)]
  exact ⟨rfl, free_of_blk h _⟩
theorem Fr.setCells {X : Nat → Prop} {a : World} {b : Nat} : ∀ {vs : List Value} {o : Nat} {w : World}, Fr X a w → (X b ∨ a.heap.size ≤ b) → Fr X a (w.setCells b o vs)
  | [], _, _, h, _ => h
  | v :: r, o, w, h, hp => Fr.setCells (vs := r) (h.setCell (p := ⟨b, o, none⟩) hp v) hp
theorem Fr.stored {X : Nat → Prop} {a w w' : World} {b : Nat} (h : Fr X a w) (k : Fr (fun i => i = b) w w') (hb : X b ∨ a.heap.size ≤ b) : Fr X a w' := h.then k (fun i hi => (show i = b from hi) ▸ hb)
/-- A row of cells, some of which are written over. -/
def ovr (cs : List Value) (o : Nat) (vs : List Value) : List Value := cs.take o ++ (vs ++ cs.drop (o + vs.length))
theorem ovr_step (cs : List Value) (o : Nat) (v : Value) (r : List Value) (h : o < cs.length) : ovr (cs.set o v) (o + 1) r = ovr cs o (v :: r) := by
  unfold ovr
  have h1 : (cs.set o v).take (o + 1) = cs.take o ++ [v] := by
    rw [List.take_succ_eq_append_getElem (by simpa using h), List.take_set_of_le (Nat.le_refl _)]
    simp
  have h2 : (cs.set o v).drop (o + 1 + r.length) = cs.drop (o + (v :: r).length) := by
    rw [List.drop_set_of_lt (by omega), List.length_cons]
    congr 1
    omega
  rw [h1, h2]
  simp
theorem blk_sets {b : Nat} {T : TypeId} : ∀ (vs : List Value) (o : Nat) (cs : List Value) (w : World), w.heap[b]? = some (.cells cs.toArray T (0, 0)) → o + vs.length ≤ cs.length → (w.setCells b o vs).heap[b]? = some (.cells (ovr cs o vs).toArray T (0, 0))
  | [], o, cs, w, h, _ => by
    have : ovr cs o [] = cs := by simp [ovr]
    rw [this]
    exact h
  | v :: r, o, cs, w, h, hl => by
    have hl' : o < cs.length := by simp at hl; omega
    rw [← ovr_step cs o v r hl']
    refine blk_sets r (o + 1) (cs.set o v) (w.setCell ⟨b, o, none⟩ v) ?_ (by simp at hl ⊢; omega)
    rw [blk_set h]
    simp
theorem run_st {P : Program} (w : World) (b o : Nat) (ty : TypeId) (v : Value) (cells : Array Value) (hv : v.cells = cells) (ht : w.there b o cells.size) (hi : (P.info? ty).map (·.size) = some cells.size) (h1 : cells.all (·.oneCell') = true) :
    (storeVar ty ⟨b, o, none⟩ v).run P w = .ok () (w.setCells b o cells.toList) := by
  have := run_storeCells_cells (P := P) b o cells.toList 0 w (fun j hj => by simpa using (ht j (by simpa using hj)).1) (fun j hj => by simpa using (ht j (by simpa using hj)).2)
    (fun v hv => (Array.all_eq_true_iff_forall_mem.1 h1) v (by simpa using hv))
  cases hq : P.info? ty with
  | none => simp [hq] at hi
  | some i =>
    have hs : cells.size = i.size := by simp [hq] at hi; omega
    simp only [Nat.add_zero] at this
    simp [storeVar, sizeOf, typeInfo, hq, hv, hs, this]
/-- A store into a block: the world behind it is one of which this is known. -/
theorem wp_st {P : Program} {ops : Array Oper} {rest : List Oper} {op : Oper} {a : Act} {w : World} {Q : Exit → Act → World → Prop} (hgd : op.guard = none) (ty : TypeId) (x y : Operand) (ho : op.op = .store ty x y)
    (b o : Nat) (cs : List Value) (T : TypeId) (v : Value) (vs : List Value) (hx : a.eval x = .pointer (some ⟨b, o, none⟩)) (hy : a.eval y = v) (hv : v.cells = vs.toArray) (hb : w.heap[b]? = some (.cells cs.toArray T (0, 0)))
    (hl : o + vs.length ≤ cs.length) (hi : (P.info? ty).map (·.size) = some vs.length) (h1 : vs.all (·.oneCell') = true)
    (h : ∀ w', w'.heap[b]? = some (.cells (ovr cs o vs).toArray T (0, 0)) → Fr (fun i => i = b) w w' → wpList P ops Q rest (a.put op.dst undef) w') : wpList P ops Q (op :: rest) a w := by
  refine wpList_plain hgd fun K hK => ?_
  unfold Oper.wp execOp
  simp only [ho, hx, hy, Instr.storeAt, Instr.sureAddr, Sem.run_bind, Sem.run_pure, Result.andThen_ok, run_st w b o ty v vs.toArray hv (there_blk hb o _ (by simpa using hl)) (by simpa using hi) (all_oneCell_toArray (List.all_eq_true.1 h1))]
  exact hK _ _ (h _ (blk_sets vs o cs w hb hl) ((Fr.refl (fun i => i = b) w).setCells (.inl rfl)))
/-- A load of a struct out of a block. -/
theorem wp_ld {P : Program} {ops : Array Oper} {rest : List Oper} {op : Oper} {a : Act} {w : World} {Q : Exit → Act → World → Prop} (hgd : op.guard = none) (ty : TypeId) (x : Operand) (ho : op.op = .load ty x)
    (b : Nat) (cs : List Value) (T : TypeId) (d : TypeDesc) (hx : a.eval x = .pointer (some ⟨b, 0, none⟩)) (hb : w.heap[b]? = some (.cells cs.toArray T (0, 0))) (hu : P.underlying ty = some d) (hd : d.isRow = true) (hi : (P.info? ty).map (·.size) = some cs.length)
    (h : wpList P ops Q rest (a.put op.dst (.agg cs.toArray)) w) : wpList P ops Q (op :: rest) a w :=
  wpList_load_mid hgd ty x ho b 0 hx cs d (range_blk hb) hu hd hi h
theorem sees_eq (t : Tk) (x : List UInt8) : (t.s.toList == (txt x).toList) = decide (t.s.data.toList = x) := by
  rw [Lib.toList_data, Lib.toList_data, txt_list]
  rw [Bool.eq_iff_iff]
  simp
end Go.Proofs.YthndlfdbmljkhaaGreatDoor
namespace Go.Proofs.YthndlfdbmljkhaaGreatDoor
open Go.ChangeShapes Go.WideShapes Go.ChangeAt Go.RowKit
set_option linter.unusedVariables false
set_option linter.unusedSimpArgs false
theorem nxt_lt {L : List Tk} {s : St} (h : (nxt L s).k ≠ 0) : s.e = 0 ∧ s.i < L.length := by
  unfold nxt at h
  by_cases he : s.e = 0
  · rw [if_pos he] at h
    refine ⟨he, ?_⟩
    rcases Nat.lt_or_ge s.i L.length with c | c
    · exact c
    · exact absurd (by simp [List.getD, List.getElem?_eq_none c, no]) h
  · rw [if_neg he] at h
    exact absurd rfl h
theorem nxt_mem {L : List Tk} {s : St} (h : (nxt L s).k ≠ 0) : nxt L s ∈ L := by
  obtain ⟨he, hi⟩ := nxt_lt h
  have : nxt L s = L[s.i] := by unfold nxt; rw [if_pos he]; simp [List.getD, List.getElem?_eq_getElem hi]
  rw [this]
  exact List.getElem_mem hi
theorem see_lt {L : List Tk} {x : List UInt8} {s : St} (h : see L x s = true) : s.e = 0 ∧ s.i < L.length := by
  refine nxt_lt fun h0 => ?_
  unfold see at h
  rw [h0] at h
  simp at h
section
variable {w : World} {g : Nat} {V : Value} {L : List Tk} {s : St}
end
def tks (L : List Tk) (x : List UInt8) (s : St) : St := if see L x s = true then s.adv else s
end Go.Proofs.YthndlfdbmljkhaaGreatDoor
namespace Go.Proofs.YthndlfdbmljkhaaGreatDoor
open Go.ChangeShapes Go.WideShapes Go.ChangeAt Go.RowKit
set_option linter.unusedVariables false
set_option linter.unusedSimpArgs false
theorem see_bad {L : List Tk} {x : List UInt8} {s : St} (h : s.e ≠ 0) : see L x s = false := by
  cases hb : see L x s
  · rfl
  · exact absurd (see_lt hb).1 h
end Go.Proofs.YthndlfdbmljkhaaGreatDoor
namespace Go.Proofs.YthndlfdbmljkhaaGreatDoor
open Go.ChangeShapes Go.WideShapes Go.ChangeAt Go.RowKit
set_option linter.unusedVariables false
set_option linter.unusedSimpArgs false
section
variable {w0 w w' : World} {g R : Nat} {V : Value} {L : List Tk} {s s' : St} {cs : List Value} {T : TypeId}
end
abbrev opC (o : Opd) : List Value := [.int .i64 o.k, .int .i64 o.vk, .int .i64 o.vi, .string o.vt, .string o.va, .string o.fd]
abbrev opV (o : Opd) : Value := .agg #[.int .i64 o.k, .int .i64 o.vk, .int .i64 o.vi, .string o.vt, .string o.va, .string o.fd]
theorem heap_2 (w : World) (a b : Obj) : ((w.alloc a).alloc b).heap[w.heap.size + 1]? = some b := by
  have := heap_alloc_new (w.alloc a) b
  simpa using this
/-- The end of a call whose result is a struct in the call's own block. -/
theorem ret_loc {P : Program} {fn : Func} {p : Tmp} {ty : TypeId} {a : Act} {w : World} {Q : Ending → World → Prop} (R : Nat) (cs : List Value) (T : TypeId) (d : TypeDesc) (hb : w.heap[R]? = some (.cells cs.toArray T (0, 0))) (h : fn.results = #[.cell p ty]) (hd : a.defers = [])
    (hp : a.tmps.getD p undef = .pointer (some ⟨R, 0, none⟩)) (hu : P.underlying ty = some d) (hr : d.isRow = true) (hi : (P.info? ty).map (·.size) = some cs.length) (hq : Q (.returned (.agg cs.toArray)) w) : bodyPost P fn Q .ret a w :=
  bodyPost_ret (res1 h a.tmps w R cs d hp (range_blk hb) hu hr hi) hd hq
def op0 : List Value := [.int .i64 0, .int .i64 0, .int .i64 0, .string ⟨#[]⟩, .string ⟨#[]⟩, .string ⟨#[]⟩]
end Go.Proofs.YthndlfdbmljkhaaGreatDoor
namespace Go.Proofs.YthndlfdbmljkhaaGreatDoor
open Go.ChangeShapes Go.WideShapes Go.ChangeAt Go.RowKit
set_option linter.unusedVariables false
set_option linter.unusedSimpArgs false
section
variable {w0 w w' : World} {g R M : Nat} {V : Value} {L : List Tk} {s s' : St} {cs ds : List Value} {T U : TypeId}
end
abbrev cnC (k : Int) (v : Value) (l r : Opd) : List Value := [.int .i64 k, v, .int .i64 l.k, .int .i64 l.vk, .int .i64 l.vi, .string l.vt, .string l.va, .string l.fd, .int .i64 r.k, .int .i64 r.vk, .int .i64 r.vi, .string r.vt, .string r.va, .string r.fd]
abbrev cnV (k : Int) (v : Value) (l r : Opd) : Value := .agg #[.int .i64 k, v, .int .i64 l.k, .int .i64 l.vk, .int .i64 l.vi, .string l.vt, .string l.va, .string l.fd, .int .i64 r.k, .int .i64 r.vk, .int .i64 r.vi, .string r.vt, .string r.va, .string r.fd]
def cm0 : List Value := cnC 0 (.slice none 0 0) opd0 opd0
def cmR : List Value := cml.flatMap fun c => [.string (txt c.1), .int .i64 c.2.1, .bool c.2.2]
theorem cmf_at (L : List Tk) (l : Opd) (s : St) (k : Nat) (hk : k < 6) (h : see L (cml.getD k ([], 0, false)).1 s = true) :
    cmf L l s (cml.drop k) = (if (cml.getD k ([], 0, false)).2.2 = true then (⟨(cml.getD k ([], 0, false)).2.1, [], (sde L s.adv).1, l⟩, (sde L s.adv).2) else (⟨(cml.getD k ([], 0, false)).2.1, [], l, (sde L s.adv).1⟩, (sde L s.adv).2)) := by
  have hk' : k < cml.length := hk
  have e : cml.getD k ([], 0, false) = cml[k] := by simp [List.getD, List.getElem?_eq_getElem hk']
  rw [e] at h ⊢
  rw [List.drop_eq_getElem_cons hk', cmf, if_pos h]
theorem cmf_no (L : List Tk) (l : Opd) (s : St) (k : Nat) (hk : k < 6) (h : see L (cml.getD k ([], 0, false)).1 s = false) : cmf L l s (cml.drop k) = cmf L l s (cml.drop (k + 1)) := by
  have hk' : k < cml.length := hk
  have e : cml.getD k ([], 0, false) = cml[k] := by simp [List.getD, List.getElem?_eq_getElem hk']
  rw [e] at h
  rw [List.drop_eq_getElem_cons hk', cmf, if_neg (by rw [h]; decide)]
end Go.Proofs.YthndlfdbmljkhaaGreatDoor
namespace Go.Proofs.YthndlfdbmljkhaaGreatDoor
open Go.ChangeShapes Go.WideShapes Go.ChangeAt Go.RowKit Go.Maps
set_option linter.unusedVariables false
set_option linter.unusedSimpArgs false
def Good {α : Type} (p : St → α × St) : Prop := ∀ s, s.i ≤ (p s).2.i ∧ (p s).2.o = s.o
theorem fal_i (L : List Tk) (s : St) : (fal L s).i = s.i ∧ (fal L s).o = s.o := by unfold fal; split <;> exact ⟨rfl, rfl⟩
theorem wnt_i (L : List Tk) (x : List UInt8) (s : St) : s.i ≤ (wnt L x s).i ∧ (wnt L x s).o = s.o := by
  unfold wnt
  split
  · exact ⟨Nat.le_succ _, rfl⟩
  · have := fal_i L s; omega
theorem num_g (L : List Tk) : Good (num L) := fun s => by
  unfold num
  split
  · exact ⟨Nat.le_succ _, rfl⟩
  · have := fal_i L s; simp; omega
theorem nam_g (L : List Tk) : Good (nam L) := fun s => by
  unfold nam
  split
  · exact ⟨Nat.le_succ _, rfl⟩
  · have := fal_i L s; simp; omega
theorem rel_g (L : List Tk) : Good (rel L) := fun s => by
  unfold rel
  split
  · exact ⟨Nat.le_succ _, rfl⟩
  · have := fal_i L s; simp; omega
theorem sde_g (L : List Tk) : Good (sde L) := fun s => by
  have a := nam_g L s
  have b := nam_g L (nam L s).2.adv
  have c := num_g L s.adv
  have e1 : s.adv.i = s.i + 1 := rfl
  have e2 : s.adv.o = s.o := rfl
  have e3 : (nam L s).2.adv.i = (nam L s).2.i + 1 := rfl
  have e4 : (nam L s).2.adv.o = (nam L s).2.o := rfl
  unfold sde
  split
  · exact ⟨Nat.le_succ _, rfl⟩
  · split
    · exact ⟨Nat.le_succ _, rfl⟩
    · split
      · simp only; omega
      · split <;> (simp only; omega)
theorem cmf_g (L : List Tk) (l : Opd) (s : St) : ∀ m, s.i ≤ (cmf L l s m).2.i ∧ (cmf L l s m).2.o = s.o
  | [] => by have := fal_i L s; simp [cmf]; omega
  | c :: r => by
    have a := sde_g L s.adv
    have e1 : s.adv.i = s.i + 1 := rfl
    have e2 : s.adv.o = s.o := rfl
    have ih := cmf_g L l s r
    unfold cmf
    split
    · split <;> (simp only; omega)
    · exact ih
theorem cmp_g (L : List Tk) : Good (cmp L) := fun s => by
  have a := sde_g L s
  have b := cmf_g L (sde L s).1 (sde L s).2 cml
  unfold cmp
  omega
/-- The same, of states in which so much is open. -/
def GoodA {α : Type} (o : Nat) (p : St → α × St) : Prop := ∀ s, s.o = o → s.i ≤ (p s).2.i ∧ (p s).2.o = s.o
theorem Good.at {α : Type} {p : St → α × St} (h : Good p) (o : Nat) : GoodA o p := fun s _ => h s
theorem sep_g {α : Type} (L : List Tk) (w : List UInt8) {p : St → α × St} {o : Nat} (hp : GoodA o p) : ∀ n s l, s.o = o → s.i ≤ (sep L w p n s l).2.i ∧ (sep L w p n s l).2.o = s.o
  | 0, s, l, _ => by simp [sep]
  | n + 1, s, l, ho => by
    have a := hp s.adv ho
    have e1 : s.adv.i = s.i + 1 := rfl
    have e2 : s.adv.o = s.o := rfl
    have ih := sep_g L w hp n (p s.adv).2 (l ++ [(p s.adv).1]) (by omega)
    unfold sep
    split
    · omega
    · simp
theorem jnd_g (L : List Tk) (k : Int) (w : List UInt8) {p : St → Cn × St} {o : Nat} (hp : GoodA o p) : GoodA o (jnd L k w p) := fun s ho => by
  have a := hp s ho
  have b := sep_g L w hp L.length (p s).2 [(p s).1] (by omega)
  unfold jnd
  simp only
  omega
theorem opn_f {L : List Tk} {w : List UInt8} {s : St} (h : (opn L w s).1 = false) : (opn L w s).2.i = s.i ∧ (opn L w s).2.o = s.o := by
  unfold opn at h ⊢
  split
  · split
    · exact ⟨rfl, rfl⟩
    · rename_i h1 h2
      rw [if_pos h1, if_neg h2] at h
      cases h
  · exact ⟨rfl, rfl⟩
theorem opn_t {L : List Tk} {w : List UInt8} {s : St} (h : (opn L w s).1 = true) : (opn L w s).2 = ⟨s.i + 1, s.o + 1, s.e⟩ := by
  unfold opn at h ⊢
  split
  · split
    · rename_i h1 h2
      rw [if_pos h1, if_pos h2] at h
      cases h
    · rfl
  · rename_i h1
    rw [if_neg h1] at h
    cases h
theorem ntt_g (L : List Tk) : ∀ n o, o + n = 7 → GoodA o (ntt L n)
  | 0, o, h7 => fun s ho => by
    have full : ∀ (w : List UInt8) (s : St), s.o = 7 → (opn L w s).1 = false := fun w s h => by
      unfold opn
      split
      · simp [h]
      · rfl
    unfold ntt
    have c := cmp_g L (opn L [40] (opn L [110, 111, 116] s).2).2
    have a := opn_f (full [110, 111, 116] s (by omega))
    have b := opn_f (full [40] (opn L [110, 111, 116] s).2 (by omega))
    omega
  | n + 1, o, h7 => fun s ho => by
    have ih := ntt_g L n (o + 1) (by omega)
    unfold ntt
    split
    · rename_i h1
      have e := opn_t h1
      have a := ih (opn L [110, 111, 116] s).2 (by rw [e, ← ho])
      have e1 : (opn L [110, 111, 116] s).2.i = s.i + 1 := by rw [e]
      have e2 : (opn L [110, 111, 116] s).2.o = s.o + 1 := by rw [e]
      show s.i ≤ (ntt L n (opn L [110, 111, 116] s).2).2.i ∧ (ntt L n (opn L [110, 111, 116] s).2).2.o - 1 = s.o
      omega
    · rename_i h1
      have b := opn_f (by simpa using h1)
      split
      · rename_i h2
        have e := opn_t h2
        have a := jnd_g L 2 [111, 114] (jnd_g L 1 [97, 110, 100] ih) (opn L [40] (opn L [110, 111, 116] s).2).2 (by rw [e]; show _ + 1 = _; omega)
        have e1 : (opn L [40] (opn L [110, 111, 116] s).2).2.i = (opn L [110, 111, 116] s).2.i + 1 := by rw [e]
        have e2 : (opn L [40] (opn L [110, 111, 116] s).2).2.o = (opn L [110, 111, 116] s).2.o + 1 := by rw [e]
        have c := wnt_i L [41] (orr L (ntt L n) (opn L [40] (opn L [110, 111, 116] s).2).2).2
        have d : s.i ≤ (orr L (ntt L n) (opn L [40] (opn L [110, 111, 116] s).2).2).2.i ∧ (orr L (ntt L n) (opn L [40] (opn L [110, 111, 116] s).2).2).2.o = s.o + 1 := by
          unfold orr
          omega
        show s.i ≤ (wnt L [41] (orr L (ntt L n) (opn L [40] (opn L [110, 111, 116] s).2).2).2).i ∧ (wnt L [41] (orr L (ntt L n) (opn L [40] (opn L [110, 111, 116] s).2).2).2).o - 1 = s.o
        omega
      · rename_i h2
        have d := opn_f (by simpa using h2 : (opn L [40] (opn L [110, 111, 116] s).2).1 = false)
        have c := cmp_g L (opn L [40] (opn L [110, 111, 116] s).2).2
        omega
theorem sep_stop {α : Type} {L : List Tk} {w : List UInt8} {p : St → α × St} {s : St} (h : see L w s = false) : ∀ n l, sep L w p n s l = (l, s)
  | 0, l => rfl
  | n + 1, l => by unfold sep; rw [if_neg (by rw [h]; decide)]
theorem sep_step {α : Type} {L : List Tk} {w : List UInt8} {p : St → α × St} {s : St} (h : see L w s = true) (n : Nat) (l : List α) : sep L w p (n + 1) s l = sep L w p n (p s.adv).2 (l ++ [(p s.adv).1]) := by
  rw [sep, if_pos h]
/-- An append of one element to a row of the call's own. -/
theorem wp_app {P : Program} {ops : Array Oper} {rest : List Oper} {o : Oper} {a : Act} {w : World} {Q : Exit → Act → World → Prop} (hgd : o.guard = none) (s x : Operand) (t : TypeId)
    (ho : o.op = .call { callee := .builtin .append, args := #[s, x], argTypes := #[t, t] }) (e : TypeId) (i : TypeInfo) (zv : Value) (z bytes : Nat) (ht : P.underlying t = some (.slice e)) (hi : P.info? e = some i) (hz : i.zero = some zv)
    (hsize : i.size = z) (hby : i.bytes = bytes) (hzs : zv.cells.size = z) (hsz : 0 < z) (b : Nat) (v : Value) (l : List (List Dat)) (hs : a.eval s = v) (hrow : Row w (fun i => b ≤ i) e z v l) (hb : b ≤ w.heap.size) (d : List Dat) (us : List Value) (ad : Addr)
    (hx : a.eval x = .slice (some ad) 1 1) (hl : us.length = 1 * z) (hnews : ∀ j u, us[j]? = some u → w.cell? (ad.add j) = some u) (h1 : us.all (·.oneCell') = true) (hd : HoldsL w (fun i => b ≤ i ∧ v.ownBlock ≠ some i) d us) (h700 : l.length ≤ 800) (hbb : bytes ≤ 100000)
    (h : ∀ v' w', Row w' (fun i => b ≤ i) e z v' (l ++ [d]) → w.grownBy w' v.ownBlock → (∀ k, v.ownBlock = some k → b ≤ k) → wpList P ops Q rest (a.put o.dst v') w') : wpList P ops Q (o :: rest) a w := by
  obtain ⟨xs, r1, r2, r3⟩ := hrow
  refine wpList_append_own_at _ hgd s x t ho 0 e i zv z bytes ht hi hz hsize hby hzs hsz v l.length xs hs r1 ad 1 1 us hx hl hnews (List.all_eq_true.1 h1) (by unfold maxLen; omega) ?_ (Nat.zero_le _) ?_
  · have : (l.length + 1) * bytes ≤ 801 * 100000 := Nat.mul_le_mul (by omega) hbb
    omega
  · intro v' w' q1 q2 q3 q4
    refine h v' w' ?_ q2 r2
    refine (Row.append r3 hd (by simpa using q1) q2 q4 r2).mono fun i hi _ => ⟨?_, rfl⟩
    rcases hi with c | c
    · exact c
    · show b ≤ i; omega
end Go.Proofs.YthndlfdbmljkhaaGreatDoor
