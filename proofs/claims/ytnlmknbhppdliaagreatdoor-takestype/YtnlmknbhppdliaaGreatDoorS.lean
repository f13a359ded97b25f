/-
  Bytes between tokens; the kinds of tokens; Words, Numbers, Strings and Marks as they are read. A reader of tokens in memory; what its smallest functions do. The smallest functions of a reader of tokens. The next token of a reader; whether it is a word or a mark. A reader goes past a word or a mark, a name, a number. A reader opens and closes what a condition is nested by; it reads a name, a number, a relation. A side of a comparison. A comparison. A reader does not go back, and closes what it opens; rows of data that a reader appends to. Tokens and raw tokens that came in, and the tables that the program's text lays: what lies in memory. Rows of tokens that the call owns; a copy of tokens that came in. What types of the program hold; a condition's cells. Parts of a condition with a word between them. Conditions, nested as deep as they may be. A pattern. Data that lie anywhere in memory and are only read; elements of rows, one by one. Words that are kept, as the reference has them. Names are found by their places; single faults, by the reference. Steps of regions that draw their order: a call, an append; a slice of one struct. Values and sides, by the reference. Sides and conditions, by the reference. Conditions, by the reference. Conditions within conditions, by the reference. Operations one by one: what each yields.
-/
import Derived.Deep.MidRow
import Derived.Deep.QuietTactic
import Derived.BigQuiet
import Derived.Defers
import Derived.Deep.Slices
import Derived.Deep.Strs
import Derived.Lib.SmallJoins
import Derived.MakeChecks
import Derived.FnData
import Derived.Deep.AppendLies
import Derived.Maps.OwnSet
import Derived.Maps.AppendAt
import Derived.Laws.OwnMore
import Derived.SizedLaws
import Derived.Deep.LoopGhost
import Derived.RegionTactic
import Derived.Deep.RegionLaw
import Derived.Deep.RegionHeld3
import Derived.Shelf.Abstract
import Derived.Test.YtnlmknbhppdliaaGreatDoorA
namespace Go.Proofs.YtnlmknbhppdliaaGreatDoor
open Go.ChangeShapes Go.WideShapes Go.ChangeAt Go.RowKit
set_option linter.unusedVariables false
set_option linter.unusedSimpArgs false
theorem zAB {w : World} {g : Nat} {cs : Array Value} {T : TypeId} (h : w.heap[g]? = some (.cells cs T (0, 0))) (j : Nat) : w.cell? ⟨g, j, none⟩ = cs[j]? := cell_of_row _ _ j cs T (0, 0) h
theorem zGV {w : World} {g : Nat} {cs : Array Value} {T : TypeId} (h : w.heap[g]? = some (.cells cs T (0, 0))) (j : Nat) : w.frozen? ⟨g, j, none⟩ = false := by
  simp [World.frozen?, h]
theorem zAD {w : World} {g : Nat} {o : Obj} (h : w.heap[g]? = some o) : g < w.heap.size := (Array.getElem?_eq_some_iff.1 h).1
theorem zBL {w : World} {g : Nat} {cs : Array Value} {T : TypeId} (h : w.heap[g]? = some (.cells cs T (0, 0))) (j : Nat) (u : Value) : (w.setCell ⟨g, j, none⟩ u).heap[g]? = some (.cells (cs.setIfInBounds j u) T (0, 0)) := by
  simp [World.setCell, Array.getElem?_modify, h]
theorem res1 {P : Program} {fn : Func} {p : Tmp} {ty : TypeId} (h : fn.results = #[.cell p ty]) (tmps : Array Value) (w : World) (g : Nat) (cs : List Value) (d : TypeDesc)
  (hp : tmps.getD p undef = .pointer (some ⟨g, 0, none⟩)) (hc : w.rangeAt g 0 cs) (hu : P.underlying ty = some d) (hd : d.isRow = true) (hi : (P.info? ty).map (·.size) = some cs.length) :
  (results fn tmps).run P w = .ok (.agg cs.toArray) w := by
 have hp' : tmps[p]?.getD undef = .pointer (some ⟨g, 0, none⟩) := by simpa using hp
 simp [results, h, hp', asAddr, run_loadVar_mid w g 0 ty cs d hc hu hd hi]
theorem zAJ {w : World} {g : Nat} {cs : List Value} {T : TypeId} (h : w.heap[g]? = some (.cells cs.toArray T (0, 0))) : w.rangeAt g 0 cs := by
  intro j v hv
  rw [Nat.zero_add, zAB h]
  simpa using hv
theorem zDQ {w : World} {g : Nat} {cs : Array Value} {T : TypeId} (h : w.heap[g]? = some (.cells cs T (0, 0))) (o n : Nat) (hn : o + n ≤ cs.size) : w.there g o n := by
  intro j hj
  rw [zAB h, Array.getElem?_eq_getElem (by omega)]
  exact ⟨rfl, zGV h _⟩
theorem Fr.setCells {X : Nat → Prop} {a : World} {b : Nat} : ∀ {vs : List Value} {o : Nat} {w : World}, Fr X a w → (X b ∨ a.heap.size ≤ b) → Fr X a (w.setCells b o vs)
  | [], _, _, h, _ => h
  | v :: r, o, w, h, hp => Fr.setCells (vs := r) (h.setCell (p := ⟨b, o, none⟩) hp v) hp
def ovr (cs : List Value) (o : Nat) (vs : List Value) : List Value := cs.take o ++ (vs ++ cs.drop (o + vs.length))
theorem ovr_step (cs : List Value) (o : Nat) (v : Value) (r : List Value) (h : o < cs.length) : ovr (cs.set o v) (o + 1) r = ovr cs o (v :: r) := by
 unfold ovr
 have h1 : (cs.set o v).take (o + 1) = cs.take o ++ [v] := by
  rw [List.take_succ_eq_append_getElem (by simpa using h), List.take_set_of_le (Nat.le_refl _)]
  simp
 have h2 : (cs.set o v).drop (o + 1 + r.length) = cs.drop (o + (v :: r).length) := by
  rw [List.drop_set_of_lt (by omega), List.length_cons]
  congr 1
  omega
 rw [h1, h2]
 simp
theorem zDM {b : Nat} {T : TypeId} : ∀ (vs : List Value) (o : Nat) (cs : List Value) (w : World), w.heap[b]? = some (.cells cs.toArray T (0, 0)) → o + vs.length ≤ cs.length → (w.setCells b o vs).heap[b]? = some (.cells (ovr cs o vs).toArray T (0, 0))
 | [], o, cs, w, h, _ => by
  have : ovr cs o [] = cs := by simp [ovr]
  rw [this]
  exact h
 | v :: r, o, cs, w, h, hl => by
  have hl' : o < cs.length := by simp at hl; omega
  rw [← ovr_step cs o v r hl']
  refine zDM r (o + 1) (cs.set o v) (w.setCell ⟨b, o, none⟩ v) ?_ (by simp at hl ⊢; omega)
  rw [zBL h]
  simp
theorem zIT {P : Program} (w : World) (b o : Nat) (ty : TypeId) (v : Value) (cells : Array Value) (hv : v.cells = cells) (ht : w.there b o cells.size) (hi : (P.info? ty).map (·.size) = some cells.size) (h1 : cells.all (·.oneCell') = true) :
  (storeVar ty ⟨b, o, none⟩ v).run P w = .ok () (w.setCells b o cells.toList) := by
 have := run_storeCells_cells (P := P) b o cells.toList 0 w (fun j hj => by simpa using (ht j (by simpa using hj)).1) (fun j hj => by simpa using (ht j (by simpa using hj)).2)
  (fun v hv => (Array.all_eq_true_iff_forall_mem.1 h1) v (by simpa using hv))
 cases hq : P.info? ty with
 | none => simp [hq] at hi
 | some i =>
  have hs : cells.size = i.size := by simp [hq] at hi; omega
  simp only [Nat.add_zero] at this
  simp [storeVar, sizeOf, typeInfo, hq, hv, hs, this]
theorem zBY {P : Program} {ops : Array Oper} {rest : List Oper} {op : Oper} {a : Act} {w : World} {Q : Exit → Act → World → Prop} (hgd : op.guard = none) (ty : TypeId) (x y : Operand) (ho : op.op = .store ty x y)
  (b o : Nat) (cs : List Value) (T : TypeId) (v : Value) (vs : List Value) (hx : a.eval x = .pointer (some ⟨b, o, none⟩)) (hy : a.eval y = v) (hv : v.cells = vs.toArray) (hb : w.heap[b]? = some (.cells cs.toArray T (0, 0)))
  (hl : o + vs.length ≤ cs.length) (hi : (P.info? ty).map (·.size) = some vs.length) (h1 : vs.all (·.oneCell') = true)
  (h : ∀ w', w'.heap[b]? = some (.cells (ovr cs o vs).toArray T (0, 0)) → Fr (fun i => i = b) w w' → wpList P ops Q rest (a.put op.dst undef) w') : wpList P ops Q (op :: rest) a w := by
 refine wpList_plain hgd fun K hK => ?_
 unfold Oper.wp execOp
 simp only [ho, hx, hy, Instr.storeAt, Instr.sureAddr, Sem.run_bind, Sem.run_pure, Result.andThen_ok, zIT w b o ty v vs.toArray hv (zDQ hb o _ (by simpa using hl)) (by simpa using hi) (all_oneCell_toArray (List.all_eq_true.1 h1))]
 exact hK _ _ (h _ (zDM vs o cs w hb hl) ((Fr.refl (fun i => i = b) w).setCells (.inl rfl)))
theorem zAT   {P : Program} {ops : Array Oper} {rest : List Oper} {op : Oper} {a : Act} {w : World} {Q : Exit → Act → World → Prop} (ty : TypeId) {x y : Operand}
    (b o : Nat) (cs : List Value) (T : TypeId) (v : Value) (vs : List Value) (hb : w.heap[b]? = some (.cells cs.toArray T (0, 0)))
    (h : ∀ w', w'.heap[b]? = some (.cells (ovr cs o vs).toArray T (0, 0)) → Fr (fun i => i = b) w w' → wpList P ops Q rest (a.put op.dst undef) w') (hgd : op.guard = none := by rfl) (ho : op.op = .store ty x y := by rfl) (hx : a.eval x = .pointer (some ⟨b, o, none⟩) := by rfl) (hy : a.eval y = v := by rfl) (hv : v.cells = vs.toArray := by rfl)
    (hl : o + vs.length ≤ cs.length := by simp) (hi : (P.info? ty).map (·.size) = some vs.length := by kernel_rfl) (h1 : vs.all (·.oneCell') = true := by rfl) : wpList P ops Q (op :: rest) a w := zBY hgd ty x y ho b o cs T v vs hx hy hv hb hl hi h1 h
theorem zAY   {P : Program} {ops : Array Oper} {rest : List Oper} {op : Oper} {a : Act} {w : World} {Q : Exit → Act → World → Prop} (ty : TypeId) {x y : Operand}
    (b o : Nat) (cs : List Value) (T : TypeId) (vs : List Value) (hb : w.heap[b]? = some (.cells cs.toArray T (0, 0)))
    (h : ∀ w', w'.heap[b]? = some (.cells (ovr cs o vs).toArray T (0, 0)) → Fr (fun i => i = b) w w' → wpList P ops Q rest (a.put op.dst undef) w') (hgd : op.guard = none := by rfl) (ho : op.op = .store ty x y := by rfl) (hx : a.eval x = .pointer (some ⟨b, o, none⟩) := by rfl) (hy : a.eval y = .agg vs.toArray := by rfl)
    (hl : o + vs.length ≤ cs.length := by simp) (hi : (P.info? ty).map (·.size) = some vs.length := by kernel_rfl) (h1 : vs.all (·.oneCell') = true := by rfl) : wpList P ops Q (op :: rest) a w := zBY hgd ty x y ho b o cs T (.agg vs.toArray) vs hx hy rfl hb hl hi h1 h
abbrev opC (o : Opd) : List Value := [.int .i64 o.k, .int .i64 o.vk, .int .i64 o.vi, .string o.vt, .string o.va, .string o.fd]
abbrev opV (o : Opd) : Value := .agg #[.int .i64 o.k, .int .i64 o.vk, .int .i64 o.vi, .string o.vt, .string o.va, .string o.fd]
theorem zDR (w : World) (a b : Obj) : ((w.alloc a).alloc b).heap[w.heap.size + 1]? = some b := by
  have := heap_alloc_new (w.alloc a) b
  simpa using this
theorem zAR {P : Program} {fn : Func} {p : Tmp} {ty : TypeId} {a : Act} {w : World} {Q : Ending → World → Prop} (R : Nat) (cs : List Value) (T : TypeId) (d : TypeDesc) (hb : w.heap[R]? = some (.cells cs.toArray T (0, 0))) (h : fn.results = #[.cell p ty]) (hd : a.defers = [])
  (hp : a.tmps.getD p undef = .pointer (some ⟨R, 0, none⟩)) (hu : P.underlying ty = some d) (hr : d.isRow = true) (hi : (P.info? ty).map (·.size) = some cs.length) (hq : Q (.returned (.agg cs.toArray)) w) : bodyPost P fn Q .ret a w :=
 bodyPost_ret (res1 h a.tmps w R cs d hp (zAJ hb) hu hr hi) hd hq
abbrev cnC (k : Int) (v : Value) (l r : Opd) : List Value := [.int .i64 k, v, .int .i64 l.k, .int .i64 l.vk, .int .i64 l.vi, .string l.vt, .string l.va, .string l.fd, .int .i64 r.k, .int .i64 r.vk, .int .i64 r.vi, .string r.vt, .string r.va, .string r.fd]
abbrev cnV (k : Int) (v : Value) (l r : Opd) : Value := .agg #[.int .i64 k, v, .int .i64 l.k, .int .i64 l.vk, .int .i64 l.vi, .string l.vt, .string l.va, .string l.fd, .int .i64 r.k, .int .i64 r.vk, .int .i64 r.vi, .string r.vt, .string r.va, .string r.fd]
end Go.Proofs.YtnlmknbhppdliaaGreatDoor
namespace Go.Proofs.YtnlmknbhppdliaaGreatDoor
open Go.ChangeShapes Go.WideShapes Go.ChangeAt Go.RowKit Go.Maps
set_option linter.unusedVariables false
set_option linter.unusedSimpArgs false
end Go.Proofs.YtnlmknbhppdliaaGreatDoor
namespace Go.Proofs.YtnlmknbhppdliaaGreatDoor
open Go.ChangeShapes Go.WideShapes Go.ChangeAt Go.RowKit Go.Deep Go.Joins
open Go.ChangeMaps (open_string shut_string)
set_option linter.unusedVariables false
set_option linter.unusedSimpArgs false
set_option maxRecDepth 20000
theorem zI8 {w : World} {a : Addr} {v : Value} (h : w.cell? a = some v) : a.spot = none := by
 unfold World.cell? at h
 split at h
 . split at h
   . cases h
   . rename_i hs
     cases hp : a.spot with
     | none => rfl
     | some _ => rw [hp] at hs; simp at hs
 . cases h
variable {H : Type} {enc : TypeId × Value → H} {W : World} {base b0 : Nat} {r : Reach} {spare : Nat → Bool} {held : Bool} {v : Value} {d : DataW H} {p : List MemPlace}
end Go.Proofs.YtnlmknbhppdliaaGreatDoor
namespace Go.Proofs.YtnlmknbhppdliaaGreatDoor
open Go.ChangeShapes Go.WideShapes Go.ChangeAt Go.RowKit Go.Maps Go.Deep
set_option linter.unusedVariables false
set_option linter.unusedSimpArgs false
end Go.Proofs.YtnlmknbhppdliaaGreatDoor
namespace Go.Proofs.YtnlmknbhppdliaaGreatDoor
open Go.ChangeShapes Go.WideShapes Go.ChangeAt Go.RowKit Go.Maps
set_option linter.unusedVariables false
set_option linter.unusedSimpArgs false
theorem infoQ : (Tryz.prog.info? 63).map (fun i => (i.zero, i.size, i.bytes)) = some (some (.agg #[.int .i64 0, .int .i64 0, .int .i64 0]), 3, 24) := by kernel_rfl
theorem infoK : (Tryz.prog.info? 66).map (fun i => (i.zero, i.size, i.bytes)) = some (some (.agg #[.string ByteArray.empty, .slice none 0 0, .string ByteArray.empty]), 3, 56) := by kernel_rfl
abbrev zP : Value := .agg #[.string ByteArray.empty, .string ByteArray.empty, .int .i64 0, .slice none 0 0, .int .i64 0, .int .i64 0, .int .i64 0, .string ByteArray.empty, .string ByteArray.empty, .string ByteArray.empty, .int .i64 0, .int .i64 0, .int .i64 0, .string ByteArray.empty, .string ByteArray.empty, .string ByteArray.empty, .int .i64 0, .int .i64 0]
theorem zJN : (Tryz.prog.info? 48).map (fun i => (i.zero, i.size, i.bytes)) = some (some zP, 18, 224) := by kernel_rfl
abbrev zM : Value := .agg #[.int .i64 0, .string ByteArray.empty, .string ByteArray.empty, .string ByteArray.empty, .int .i64 0, .slice none 0 0, .int .i64 0, .int .i64 0, .int .i64 0, .string ByteArray.empty, .string ByteArray.empty, .string ByteArray.empty, .int .i64 0, .int .i64 0, .int .i64 0, .string ByteArray.empty, .string ByteArray.empty, .string ByteArray.empty, .int .i64 0, .int .i64 0]
theorem infoM : (Tryz.prog.info? 78).map (fun i => (i.zero, i.size, i.bytes)) = some (some zM, 20, 248) := by kernel_rfl
abbrev ptC (a b : ByteArray) (k : Int) (v : Value) (l r : Opd) (w n : Int) : List Value := [.string a, .string b, .int .i64 k, v, .int .i64 l.k, .int .i64 l.vk, .int .i64 l.vi, .string l.vt, .string l.va, .string l.fd, .int .i64 r.k, .int .i64 r.vk, .int .i64 r.vi, .string r.vt, .string r.va, .string r.fd, .int .i64 w, .int .i64 n]
abbrev ptV (a b : ByteArray) (k : Int) (v : Value) (l r : Opd) (w n : Int) : Value := .agg #[.string a, .string b, .int .i64 k, v, .int .i64 l.k, .int .i64 l.vk, .int .i64 l.vi, .string l.vt, .string l.va, .string l.fd, .int .i64 r.k, .int .i64 r.vk, .int .i64 r.vi, .string r.vt, .string r.va, .string r.fd, .int .i64 w, .int .i64 n]
def pt0 : List Value := ptC (txt []) (txt []) 0 (.slice none 0 0) opd0 opd0 0 0
end Go.Proofs.YtnlmknbhppdliaaGreatDoor
namespace Go.Proofs.YtnlmknbhppdliaaGreatDoor.Chk
open Go.ChangeShapes Go.WideShapes Go.ChangeAt Go.RowKit Go.Maps
set_option linter.unusedVariables false
set_option linter.unusedSimpArgs false
set_option maxRecDepth 20000
inductive Rd (w : World) : Dat → Value → Prop
  | lit (v : Value) : Rd w (.lit v) v
  | nil (e z : Nat) (p : Option Addr) (cap : Nat) : cap ≤ maxLen → Rd w (.row e z []) (.slice p 0 cap)
  | row (e z : Nat) (l : List (List Dat)) (g off cap : Nat) (xs : List Value) : 0 < l.length → l.length ≤ cap → cap ≤ maxLen → w.rangeAt g off xs → l.flatten.length = xs.length →
      (∀ k (hk : k < l.flatten.length), Rd w (l.flatten[k]) (xs.getD k nilV)) → Rd w (.row e z l) (.slice (some ⟨g, off, none⟩) l.length cap)
theorem zAP {w w' : World} {g o : Nat} {l : List Value} (h : w.rangeAt g o l) (hb : Below w.heap.size w w') : w'.rangeAt g o l := fun j x hx => (hb.cell (p := ⟨g, o + j, none⟩) (World.block_lt_of_cell? _ _ (h j x hx))).trans (h j x hx)
theorem Rd.later {w w' : World} {d : Dat} {v : Value} (h : Rd w d v) (hb : Below w.heap.size w w') : Rd w' d v := by
  induction h with
  | lit v => exact .lit v
  | nil e z p cap h => exact .nil e z p cap h
  | row e z l g off cap xs h1 h2 h3 h4 h5 _ ih => exact .row e z l g off cap xs h1 h2 h3 (zAP h4 hb) h5 ih
def RdL (w : World) (ds : List Dat) (vs : List Value) : Prop := ds.length = vs.length ∧ ∀ k (hk : k < ds.length), Rd w (ds[k]) (vs.getD k nilV)
theorem RdL.below {w w' : World} {ds : List Dat} {vs : List Value} (h : RdL w ds vs) (hb : Below w.heap.size w w') : RdL w' ds vs := ⟨h.1, fun k hk => (h.2 k hk).later hb⟩
theorem RdL.none {w : World} {vs : List Value} (h : RdL w [] vs) : vs = [] := List.eq_nil_of_length_eq_zero h.1.symm
theorem RdL.one {w : World} {d : Dat} {ds : List Dat} {vs : List Value} (h : RdL w (d :: ds) vs) : ∃ v r, vs = v :: r ∧ Rd w d v ∧ RdL w ds r := by
  cases vs with
  | nil => have := h.1; simp at this
  | cons v r => exact ⟨v, r, rfl, h.2 0 (by simp), by simpa using h.1, fun k hk => h.2 (k + 1) (by simpa using hk)⟩
theorem RdL.nil (w : World) : RdL w [] [] := ⟨rfl, fun k hk => by simp at hk⟩
theorem RdL.cons {w : World} {d : Dat} {v : Value} {ds : List Dat} {vs : List Value} (h : Rd w d v) (hl : RdL w ds vs) : RdL w (d :: ds) (v :: vs) := by
  refine ⟨by simp [hl.1], fun k hk => ?_⟩
  cases k with
  | zero => exact h
  | succ k => exact hl.2 k (by simpa using hk)
theorem RdL.split {w : World} : ∀ {ds es : List Dat} {vs : List Value}, RdL w (ds ++ es) vs → ∃ us rs, vs = us ++ rs ∧ RdL w ds us ∧ RdL w es rs
 | [], es, vs, h => ⟨[], vs, rfl, RdL.nil w, h⟩
 | d :: ds, es, vs, h => by
  obtain ⟨v, r, rfl, h1, h2⟩ := RdL.one h
  obtain ⟨us, rs, rfl, h3, h4⟩ := RdL.split h2
  exact ⟨v :: us, rs, rfl, RdL.cons h1 h3, h4⟩
theorem RdL.drop {w : World} : ∀ (k : Nat) {ds : List Dat} {vs : List Value}, RdL w ds vs → RdL w (ds.drop k) (vs.drop k)
 | 0, ds, vs, h => by simpa using h
 | k + 1, [], vs, h => by rw [RdL.none h]; simpa using RdL.nil w
 | k + 1, d :: ds, vs, h => by
  obtain ⟨v, r, rfl, _, h2⟩ := RdL.one h
  simpa using RdL.drop k h2
theorem zAN {w : World} {v u : Value} (h : Rd w (.lit v) u) : u = v := by cases h; rfl
theorem zGE {α : Type} {enc : α → List Dat} {z : Nat} (hz : ∀ x, (enc x).length = z) : ∀ (cs : List α) (k : Nat) (hk : k < cs.length), (cs.map enc).flatten.drop (k * z) = enc cs[k] ++ ((cs.drop (k + 1)).map enc).flatten
 | c :: r, 0, _ => by simp
 | c :: r, k + 1, hk => by
  have ih := zGE hz r k (by simpa using hk)
  simp only [List.map_cons, List.flatten_cons, List.getElem_cons_succ, List.drop_succ_cons]
  rw [show (k + 1) * z = z + k * z by rw [Nat.add_mul, Nat.one_mul, Nat.add_comm], ← List.drop_drop, List.drop_left' (hz c)]
  exact ih
def At {α : Type} (enc : α → List Dat) (z : Nat) (w : World) (p : Option Addr) (cs : List α) : Prop := 0 < cs.length → ∃ g off, p = some ⟨g, off, none⟩ ∧ ∀ W, Below w.heap.size w W → ∀ k (hk : k < cs.length), ∃ us, W.rangeAt g (off + k * z) us ∧ RdL W (enc cs[k]) us
theorem zAL {α : Type} {enc : α → List Dat} {e z : Nat} (hz : ∀ x, (enc x).length = z) {w : World} {v : Value} {cs : List α} (h : Rd w (.row e z (cs.map enc)) v) : ∃ p cap, v = .slice p cs.length cap ∧ (cs.length : Int) ≤ 9223372036854775807 ∧ At enc z w p cs := by
 generalize hd : Dat.row e z (cs.map enc) = d at h
 cases h with
 | lit v => cases hd
 | nil e z p cap h1 =>
  simp only [Dat.row.injEq] at hd
  have h0 : cs.length = 0 := by have := congrArg List.length hd.2.2; simpa using this
  exact ⟨p, cap, by rw [h0], by rw [h0]; decide, fun hp => by omega⟩
 | row e' z' l g off cap xs h1 h2 h3 h4 h5 h6 =>
  simp only [Dat.row.injEq] at hd
  obtain ⟨rfl, rfl, rfl⟩ := hd
  rw [List.length_map] at h1 h2 ⊢
  refine ⟨_, cap, rfl, by unfold maxLen at h3; omega, fun _ => ⟨g, off, rfl, fun W hW k hk => ?_⟩⟩
  have hl : RdL w (cs.map enc).flatten xs := ⟨h5, h6⟩
  have hdr := RdL.drop (k * z) hl
  rw [zGE hz cs k hk] at hdr
  obtain ⟨us, rs, e, q1, q2⟩ := RdL.split hdr
  refine ⟨us, zAP (fun j u hu => ?_) hW, q1.below hW⟩
  have hj : j < us.length := (List.getElem?_eq_some_iff.1 hu).1
  have h9 : xs[k * z + j]? = some u := by
   rw [← List.getElem?_drop, e, List.getElem?_append_left hj]
   exact hu
  have := h4 (k * z + j) u h9
  rw [← Nat.add_assoc] at this
  exact this
theorem rdP {w : World} {t : Pt} {vs : List Value} (h : RdL w (encP t) vs) : ∃ v, vs = ptC t.va t.ty t.c.k v t.c.l t.c.r t.w t.n ∧ Rd w (.row 46 14 t.c.sb) v := by
  obtain ⟨v0, r0, rfl, h0, h⟩ := RdL.one h
  obtain ⟨v1, r1, rfl, h1, h⟩ := RdL.one h
  obtain ⟨v2, r2, rfl, h2, h⟩ := RdL.one h
  obtain ⟨v3, r3, rfl, h3, h⟩ := RdL.one h
  obtain ⟨a0, r4, rfl, g0, h⟩ := RdL.one h
  obtain ⟨a1, r4, rfl, g1, h⟩ := RdL.one h
  obtain ⟨a2, r4, rfl, g2, h⟩ := RdL.one h
  obtain ⟨a3, r4, rfl, g3, h⟩ := RdL.one h
  obtain ⟨a4, r4, rfl, g4, h⟩ := RdL.one h
  obtain ⟨a5, r4, rfl, g5, h⟩ := RdL.one h
  obtain ⟨b0, r4, rfl, k0, h⟩ := RdL.one h
  obtain ⟨b1, r4, rfl, k1, h⟩ := RdL.one h
  obtain ⟨b2, r4, rfl, k2, h⟩ := RdL.one h
  obtain ⟨b3, r4, rfl, k3, h⟩ := RdL.one h
  obtain ⟨b4, r4, rfl, k4, h⟩ := RdL.one h
  obtain ⟨b5, r4, rfl, k5, h⟩ := RdL.one h
  obtain ⟨v4, r4, rfl, h4, h⟩ := RdL.one h
  obtain ⟨v5, r5, rfl, h5, h⟩ := RdL.one h
  rw [zAN h0, zAN h1, zAN h2, zAN g0, zAN g1, zAN g2, zAN g3, zAN g4, zAN g5, zAN k0, zAN k1, zAN k2, zAN k3, zAN k4, zAN k5, zAN h4, zAN h5, RdL.none h]
  exact ⟨v3, rfl, h3⟩
theorem rdF {w : World} {o : Fd} {vs : List Value} (h : RdL w (encF o) vs) : vs = [.string o.n, .int .i64 o.k] := by
  obtain ⟨v0, r0, rfl, h0, h⟩ := RdL.one h
  obtain ⟨v1, r1, rfl, h1, h⟩ := RdL.one h
  rw [zAN h0, zAN h1, RdL.none h]
theorem rdY {w : World} {t : Tp} {vs : List Value} (h : RdL w (encY t) vs) : ∃ v, vs = [.string t.n, v] ∧ Rd w (.row 103 2 (t.f.map encF)) v := by
  obtain ⟨v0, r0, rfl, h0, h⟩ := RdL.one h
  obtain ⟨v1, r1, rfl, h1, h⟩ := RdL.one h
  rw [zAN h0, RdL.none h]
  exact ⟨v1, rfl, h1⟩
theorem lenC (c : Cn) : (encC c).length = 14 := rfl
theorem lenP (c : Pt) : (encP c).length = 18 := rfl
theorem lenO (c : Opd) : (encO c).length = 6 := rfl
theorem lenM (c : Mn) : (encM c).length = 20 := rfl
theorem lenK (c : Lk) : (encK c).length = 3 := rfl
theorem lenQ (c : Op3) : (encQ c).length = 3 := rfl
theorem lenR (c : Rl) : (encR c).length = 7 := rfl
theorem lenY (c : Tp) : (encY c).length = 2 := rfl
theorem lenF (c : Fd) : (encF c).length = 2 := rfl
def ixq {α : Type} (q : α → Bool) : List α → Nat → Int
  | [], _ => -1
  | x :: r, n => if q x = true then (n : Int) else ixq q r (n + 1)
theorem zCS {α : Type} {q : α → Bool} : ∀ (l : List α) (n k : Nat) (hk : k < l.length), (∀ j (hj : j < k), q (l[j]'(by omega)) = false) → q l[k] = true → ixq q l n = (n + k : Nat)
 | x :: r, n, 0, _, _, h => by simp only [List.getElem_cons_zero] at h; rw [ixq, if_pos h]; rfl
 | x :: r, n, k + 1, hk, h0, h => by
  have h1 : q x = false := h0 0 (by omega)
  rw [ixq, if_neg (by rw [h1]; decide), zCS r (n + 1) k (by simpa using hk) (fun j hj => h0 (j + 1) (by omega)) h]
  simp only [Int.natCast_inj]
  omega
theorem zCA {α : Type} {q : α → Bool} : ∀ (l : List α) (n : Nat), (∀ x, x ∈ l → q x = false) → ixq q l n = -1
  | [], n, _ => rfl
  | x :: r, n, h => by rw [ixq, if_neg (by rw [h x (by simp)]; decide), zCA r (n + 1) fun y hy => h y (by simp [hy])]
theorem zB5 {α : Type} {q : α → Bool} : ∀ (l : List α) (n : Nat), ixq q l n = -1 ∨ ∃ k : Nat, ∃ hk : k < l.length, ixq q l n = (n + k : Nat) ∧ q l[k] = true
 | [], n => .inl rfl
 | x :: r, n => by
  unfold ixq
  by_cases h : q x = true
  . rw [if_pos h]; exact .inr ⟨0, by simp, by simp, h⟩
  . rw [if_neg h]
    rcases zB5 (q := q) r (n + 1) with c | ⟨k, hk, e, h2⟩
    . exact .inl c
    . exact .inr ⟨k + 1, by simpa using hk, by rw [e]; simp only [Int.natCast_inj]; omega, h2⟩
end Go.Proofs.YtnlmknbhppdliaaGreatDoor.Chk
namespace Go.Proofs.YtnlmknbhppdliaaGreatDoor
open Go.ChangeShapes Go.WideShapes Go.ChangeAt Go.RowKit
set_option linter.unusedVariables false
set_option linter.unusedSimpArgs false
end Go.Proofs.YtnlmknbhppdliaaGreatDoor
namespace Go.Proofs.YtnlmknbhppdliaaGreatDoor.Chk
open Go.ChangeShapes Go.WideShapes Go.ChangeAt Go.RowKit Go.Maps
set_option linter.unusedVariables false
set_option linter.unusedSimpArgs false
set_option maxRecDepth 20000
def seq (a b : ByteArray) : Bool := a.toList == b.toList
def tyq (ts : List Tp) (n : ByteArray) : Int := ixq (fun t => seq t.n n) ts 0
def ptq (l : List Pt) (n : ByteArray) : Int := ixq (fun p => seq p.va n) l 0
def fdq (fs : List Fd) (n : ByteArray) : Int := ixq (fun f => seq f.n n) fs 0
theorem zAS {B : Nat} {a w : World} (h : Below B a w) (n : Nat) : Below B a (w.drewN n) := h.trans ⟨rfl, rfl, rfl, Nat.le_refl _, fun _ _ => rfl⟩
def frn (s : ByteArray) : Int := if nchk s = 0 ∧ kpt s = true then 4 else nchk s
end Go.Proofs.YtnlmknbhppdliaaGreatDoor.Chk
namespace Go.Proofs.YtnlmknbhppdliaaGreatDoor
open Go.ChangeShapes Go.WideShapes Go.ChangeAt Go.RowKit Go.Maps
set_option linter.unusedVariables false
set_option linter.unusedSimpArgs false
end Go.Proofs.YtnlmknbhppdliaaGreatDoor
namespace Go.Proofs.YtnlmknbhppdliaaGreatDoor.Chk
open Go.ChangeShapes Go.WideShapes Go.ChangeAt Go.RowKit Go.Maps
set_option linter.unusedVariables false
set_option linter.unusedSimpArgs false
set_option maxRecDepth 20000
def emp (s : ByteArray) : Bool := s.toList == []
def vck (vk vi : Int) (vt : ByteArray) : Int :=
  if vk = 1 then (if emp vt = false then 4 else if -1125899906842624 ≤ vi ∧ vi ≤ 1125899906842624 then 0 else 2)
  else if vk = 2 then (if vi = 0 then (if 20 < vt.size then 1 else 0) else 4) else 3
theorem zDU {s : ByteArray} (h : emp s = true) : s.toList = [] := by simpa [emp] using h
theorem zFF {s : ByteArray} (h : emp s = false) : ¬ s.toList = [] ∧ (s.toList == []) = false := ⟨by simpa [emp] using h, h⟩
def fck (fs : List Fd) (n : ByteArray) : Int × Int := if fdq fs n < 0 then (0, 6) else ((fs.getD (fdq fs n).toNat ⟨txt [], 0⟩).k, 0)
def tyOf (ts : List Tp) (kn : List Pt) (va : ByteArray) : Tp := ts.getD (tyq ts (kn.getD (ptq kn va).toNat ⟨txt [], txt [], cn0, 0, 0⟩).ty).toNat ⟨txt [], []⟩
def nzv (o : Opd) : Bool := !(decide (o.vk = 0) && decide (o.vi = 0) && emp o.vt)
def sdk (ts : List Tp) (kn : List Pt) (own : Tp) (o : Opd) : Int × Int :=
  if ¬ (1 ≤ o.k ∧ o.k ≤ 3) then (0, 3)
  else if o.k = 1 then (if emp o.va = false ∨ emp o.fd = false then (0, 4) else (o.vk, vck o.vk o.vi o.vt))
  else if o.k = 2 then (if emp o.va = false ∨ nzv o = true then (0, 4) else fck own.f o.fd)
  else (if ptq kn o.va < 0 then (0, 6) else if nzv o = true then (0, 4) else fck (tyOf ts kn o.va).f o.fd)
theorem zCH {P : Program} {ops : Array Oper} {Q : Exit → Act → World → Prop} {S : World → Prop} {id : Nat} {a : Act} {w : World} (n : Nat) (l : Array Bool) (hn : ops.size = n) (hl : Array.replicate n false = l) (hm : P.follows .mixedOrders = true) (hS : S w.drew)
  (h : S w.drew → wpAnyH P .any ops Q S n l a w.drew) : (Code.region id ops true).wp P Q a w := by
 subst hn hl
 exact wp_region_held_drew hm hS h
theorem zKX     {P : Program} {ops : Array Oper} {Q : Exit → Act → World → Prop} {md : Region.Mode} {S : World → Prop} {i : Nat} {d : _} {op : _} {t : _} {p : _} {af : _} {gd : _} {v : Value} {fuel : Nat} {listed : Array Bool} {a : Act} {w : World} (hi : ops[i]? = some (Oper.mk d op t p af gd))
    (hs : Region.noSelect ops = true) (hf : Region.free md ops listed i = true) (hr : (Region.ready md ops listed).contains i = true) (hQ : ∀ c a w, Q (.panic c) (a.put d v) w → Q (.panic c) a w) (hy : YieldsIf P ops S (Oper.mk d op t p af gd) v a) (hS : S w)
    (h : wpAnyH P md ops Q S fuel (listed.setIfInBounds i true) (a.put d v) w) : wpAnyH P md ops Q S (fuel + 1) listed a w := wpAnyH_take hi hs hf hr hQ hy hS h
theorem gLq {P : Program} {ops : Array Oper} {Q : Exit → Act → World → Prop} {d : _} {T : TypeId} {x : Operand} {t : _} {p : _} {af : _} {gd : _} {r : List Oper} {a : Act} {w : World} (h : wpList P ops Q (Oper.mk d (.load T x) t p af gd :: r) a w) : wpList P ops Q (Oper.mk d (.load T x) t p af gd :: r) a w := h
theorem gSq {P : Program} {ops : Array Oper} {Q : Exit → Act → World → Prop} {d : _} {T : TypeId} {x y : Operand} {t : _} {p : _} {af : _} {gd : _} {r : List Oper} {a : Act} {w : World} (h : wpList P ops Q (Oper.mk d (.store T x y) t p af gd :: r) a w) : wpList P ops Q (Oper.mk d (.store T x y) t p af gd :: r) a w := h
theorem puts : (∀ (a : Act) (i : Nat) (v : Value), a.put (some i) v = { a with tmps := a.tmps.setIfInBounds i v }) ∧ (∀ (a : Act) (v : Value), a.put none v = a) ∧ (∀ (l : List Value) (i : Nat) (v : Value), l.toArray.setIfInBounds i v = (l.set i v).toArray) ∧ (∀ (x y : Value) (l : List Value), (x :: l).set 0 y = y :: l) ∧ (∀ (x y : Value) (l : List Value) (n : Nat), (x :: l).set (n + 1) y = x :: l.set n y) :=
  ⟨fun _ _ _ => rfl, fun _ _ => rfl, fun _ _ _ => by simp, fun _ _ _ => rfl, fun _ _ _ _ => rfl⟩
theorem tlq {P : Program} {ops : Array Oper} {Q : Exit → Act → World → Prop} {md : Region.Mode} {S : World → Prop} {i : Nat} {d : _} {op : _} {t : _} {p : _} {af : _} {gd : _} {v : Value} {fuel : Nat} {listed : Array Bool} {a : Act} {w : World} (hi : ops[i]? = some (Oper.mk d op t p af gd)) (hy : YieldsIf P ops S (Oper.mk d op t p af gd) v a)
    (h : wpAnyH P md ops Q S fuel (listed.setIfInBounds i true) (a.put d v) w) (hs : Region.noSelect ops = true := by kernel_rfl) (hf : Region.free md ops listed i = true := by kernel_rfl) (hr : (Region.ready md ops listed).contains i = true := by kernel_rfl) (hQ : ∀ c a w, Q (.panic c) (a.put d v) w → Q (.panic c) a w := by exact fun _ _ _ h => h) (hS : S w := by assumption) : wpAnyH P md ops Q S (fuel + 1) listed a w := zKX hi hs hf hr hQ hy hS h
theorem tkq {P : Program} {ops : Array Oper} {Q : Exit → Act → World → Prop} {md : Region.Mode} {S : World → Prop} {i : Nat} {d : _} {op : _} {t : _} {p : _} {af : _} {gd : _} {v : Value} {fuel : Nat} {listed : Array Bool} {a : Act} {w : World} (hi : ops[i]? = some (Oper.mk d op t p af gd)) (hy : ∀ w, S w → (execOp a.eval (Oper.mk d op t p af gd)).run P w = .ok (.value v) w)
    (h : wpAnyH P md ops Q S fuel (listed.setIfInBounds i true) (a.put d v) w) (hw : Region.wanted (Oper.mk d op t p af gd) (yielded ops a.tmps) = true := by rfl) (hs : Region.noSelect ops = true := by kernel_rfl) (hf : Region.free md ops listed i = true := by kernel_rfl) (hr : (Region.ready md ops listed).contains i = true := by kernel_rfl) (hQ : ∀ c a w, Q (.panic c) (a.put d v) w → Q (.panic c) a w := by exact fun _ _ _ h => h) (hS : S w := by assumption) : wpAnyH P md ops Q S (fuel + 1) listed a w := zKX hi hs hf hr hQ (Or.inl ⟨hw, hy⟩) hS h
theorem zBD     {P : Program} {ops : Array Oper} {Q : Exit → Act → World → Prop} {md : Region.Mode} {S : World → Prop} {i : Nat} {d : _} {op : _} {t : _} {p : _} {af : _} {gd : _} {fuel : Nat} {listed : Array Bool} {a : Act} {w : World} {rs : List Nat} (ho : ops[i]? = some (Oper.mk d op t p af gd))
    (h : ∀ K' : Act → World → Prop, Shut (∀ a w, S w → (S w → wpAnyH P md ops Q S fuel (listed.setIfInBounds i true) a w) → K' a w) → if Region.wanted (Oper.mk d op t p af gd) (yielded ops a.tmps) = true then Oper.wp P (Oper.mk d op t p af gd) a w K' Q else K' (a.put d undef) w)
    (hs : AllReadyH P md ops Q S fuel listed a w rs) : AllReadyH P md ops Q S fuel listed a w (i :: rs) := AllReadyH.cons ho h hs
def zCG (ts : List Tp) (kn : List Pt) : Prop := ∀ j (hj : j < kn.length), ∃ i, ∃ _ : i < ts.length, tyq ts kn[j].ty = (i : Int)
def eqz (o : Opd) : Bool := decide (o.k = 0) && decide (o.vk = 0) && decide (o.vi = 0) && emp o.vt && emp o.va && emp o.fd
def noc (c : Cn) : Bool := decide (c.k = 0) && decide (c.sb.length = 0) && eqz c.l && eqz c.r
def decO : List Dat → Option Opd
  | [.lit (.int .i64 a), .lit (.int .i64 b), .lit (.int .i64 c), .lit (.string x), .lit (.string y), .lit (.string z)] => some ⟨a, b, c, x, y, z⟩
  | _ => none
def decC : List Dat → Option Cn
  | .lit (.int .i64 k) :: .row _ _ sb :: rest => (match decO (rest.take 6), decO (rest.drop 6) with | some l, some r => some ⟨k, sb, l, r⟩ | _, _ => none)
  | _ => none
theorem decC_enc (c : Cn) : decC (encC c) = some c := rfl
def subs (c : Cn) : List Cn := c.sb.filterMap decC
theorem zIZ : ∀ cs : List Cn, (cs.map encC).filterMap decC = cs
  | [] => rfl
  | x :: r => by rw [List.map_cons, List.filterMap_cons, decC_enc, zIZ r]
theorem zGS {c : Cn} {cs : List Cn} (h : c.sb = cs.map encC) : subs c = cs := by
  unfold subs
  rw [h]
  exact zIZ cs
def cgo (f : Cn → Int × Int) : List Cn → Int → Int × Int
  | [], m => (m, 0)
  | x :: r, m => if (f x).2 ≠ 0 then (0, (f x).2) else if 12 < m + (f x).1 then (0, 1) else cgo f r (m + (f x).1)
def cdk (ts : List Tp) (kn : List Pt) (own : Tp) : Nat → Cn → Int × Int
  | 0, c => if 1 ≤ c.k ∧ c.k ≤ 7 then (0, 14) else (0, 3)
  | n + 1, c =>
    if ¬ (1 ≤ c.k ∧ c.k ≤ 7) then (0, 3)
    else if 3 < c.k then
      (if c.sb.length ≠ 0 then (0, 4)
       else if (sdk ts kn own c.l).2 ≠ 0 then (0, (sdk ts kn own c.l).2)
       else if (sdk ts kn own c.r).2 ≠ 0 then (0, (sdk ts kn own c.r).2)
       else if (sdk ts kn own c.l).1 ≠ (sdk ts kn own c.r).1 then (0, 13) else (1, 0))
    else if eqz c.l = false ∨ eqz c.r = false then (0, 4)
    else if (c.k = 3 ∧ c.sb.length ≠ 1) ∨ (c.k ≠ 3 ∧ c.sb.length < 2) then (0, 4)
    else cgo (cdk ts kn own n) (subs c) 0
structure Blk2 (w0 w : World) (us vs : List Value) (t1 t2 : TypeId) : Prop where
  bel : Below w0.heap.size w0 w
  b1 : w.heap[w0.heap.size]? = some (.cells us.toArray t1 (0, 0))
  b2 : w.heap[w0.heap.size + 1]? = some (.cells vs.toArray t2 (0, 0))
theorem Blk2.start (w : World) (us vs : List Value) (t1 t2 : TypeId) : Blk2 w ((w.alloc (.cells us.toArray t1)).alloc (.cells vs.toArray t2)) us vs t1 t2 :=
  ⟨((Below.refl _ _).alloc (Nat.le_refl _) _).alloc (by simp) _, (Below.heap_alloc _ _ _ (by simp)).trans (heap_alloc_new _ _), zDR _ _ _⟩
section
variable {w0 w w' : World} {us vs : List Value} {t1 t2 : TypeId}
theorem Blk2.next (h : Blk2 w0 w us vs t1 t2) (hb : Below w.heap.size w w') : Blk2 w0 w' us vs t1 t2 := ⟨zAA h.bel hb h.bel.size, (hb.block _ (zAD h.b1)).trans h.b1, (hb.block _ (zAD h.b2)).trans h.b2⟩
theorem Blk2.drew (h : Blk2 w0 w us vs t1 t2) : Blk2 w0 w.drew us vs t1 t2 := ⟨h.bel.drew, h.b1, h.b2⟩
theorem Blk2.alloc (h : Blk2 w0 w us vs t1 t2) (o : Obj) : Blk2 w0 (w.alloc o) us vs t1 t2 := h.next ((Below.refl _ _).alloc (Nat.le_refl _) _)
theorem Blk2.c1 (h : Blk2 w0 w us vs t1 t2) (j : Nat) : w.cell? ⟨w0.heap.size, j, none⟩ = us[j]? := by rw [zAB h.b1]; simp
theorem Blk2.c2 (h : Blk2 w0 w us vs t1 t2) (j : Nat) : w.cell? ⟨w0.heap.size + 1, j, none⟩ = vs[j]? := by rw [zAB h.b2]; simp
end
theorem hid {p : Prop} (h : p) : Hid p := h
def CR (w : World) (r : Int × Int) (e : Ending) (w' : World) : Prop := ∃ m : Int, e = .returned (.tuple #[.int .i64 m, .int .i64 r.2]) ∧ (r.2 = 0 → m = r.1) ∧ Below w.heap.size w w'
theorem zFS (f : Cn → Int × Int) (hf : ∀ x, 0 ≤ (f x).1 ∧ (f x).1 ≤ 12) : ∀ l m, 0 ≤ m ∧ m ≤ 12 → 0 ≤ (cgo f l m).1 ∧ (cgo f l m).1 ≤ 12
 | [], m, h => h
 | x :: r, m, h => by
  unfold cgo
  split
  . exact ⟨by simp, by simp⟩
  . split
    . exact ⟨by simp, by simp⟩
    . rename_i c
      exact zFS f hf r _ ⟨by have := (hf x).1; omega, by omega⟩
theorem zFT (ts : List Tp) (kn : List Pt) (own : Tp) : ∀ n c, 0 ≤ (cdk ts kn own n c).1 ∧ (cdk ts kn own n c).1 ≤ 12
 | 0, c => by unfold cdk; split <;> exact ⟨by simp, by simp⟩
 | n + 1, c => by
  unfold cdk
  repeat' split
  all_goals first
   | exact zFS _ (zFT ts kn own n) _ _ ⟨by decide, by decide⟩
   | exact ⟨by simp, by simp⟩
theorem zD1 {w : World} {c : Cn} {vs : List Value} (h : RdL w (encC c) vs) : ∃ v, vs = cnC c.k v c.l c.r ∧ Rd w (.row 46 14 c.sb) v := by
  obtain ⟨v2, r2, rfl, h2, h⟩ := RdL.one h
  obtain ⟨v3, r3, rfl, h3, h⟩ := RdL.one h
  obtain ⟨a0, r4, rfl, g0, h⟩ := RdL.one h
  obtain ⟨a1, r4, rfl, g1, h⟩ := RdL.one h
  obtain ⟨a2, r4, rfl, g2, h⟩ := RdL.one h
  obtain ⟨a3, r4, rfl, g3, h⟩ := RdL.one h
  obtain ⟨a4, r4, rfl, g4, h⟩ := RdL.one h
  obtain ⟨a5, r4, rfl, g5, h⟩ := RdL.one h
  obtain ⟨b0, r4, rfl, k0, h⟩ := RdL.one h
  obtain ⟨b1, r4, rfl, k1, h⟩ := RdL.one h
  obtain ⟨b2, r4, rfl, k2, h⟩ := RdL.one h
  obtain ⟨b3, r4, rfl, k3, h⟩ := RdL.one h
  obtain ⟨b4, r4, rfl, k4, h⟩ := RdL.one h
  obtain ⟨b5, r4, rfl, k5, h⟩ := RdL.one h
  rw [zAN h2, zAN g0, zAN g1, zAN g2, zAN g3, zAN g4, zAN g5, zAN k0, zAN k1, zAN k2, zAN k3, zAN k4, zAN k5, RdL.none h]
  exact ⟨v3, rfl, h3⟩
section
variable {P : Program} {o : Oper} {a : Act} {w : World} {K : Act → World → Prop} {Q : Exit → Act → World → Prop}
theorem zAK (v : Value) (h : (execOp a.eval o).run P w = .ok (.value v) w) (hk : K (a.put o.dst v) w) : Oper.wp P o a w K Q := by
  unfold Oper.wp
  rw [h]
  exact hk
theorem zCC (t : TypeId) (parts : Array (Nat × Operand)) (ho : o.op = .build t parts) (vals : Array (Nat × Value)) (hp : (parts.map fun x => (x.1, a.eval x.2)) = vals) (v : Value) (hv : (Instr.build t vals).run P w = .ok v w) (hk : K (a.put o.dst v) w) : Oper.wp P o a w K Q := by
  unfold Oper.wp execOp
  simp only [ho, Sem.run_bind, hp, hv, Result.andThen_ok, Sem.run_pure]
  exact hk
theorem zBT (t : TypeId) (n : Nat) (parts : Array (Nat × Operand)) (ho : o.op = .buildSlice t n parts) (vals : Array (Nat × Value)) (hp : (parts.map fun x => (x.1, a.eval x.2)) = vals) (v : Value) (w' : World) (hv : (Instr.buildSlice t n vals).run P w = .ok v w') (hk : K (a.put o.dst v) w') : Oper.wp P o a w K Q := by
  unfold Oper.wp execOp
  simp only [ho, Sem.run_bind, hp, hv, Result.andThen_ok, Sem.run_pure]
  exact hk
theorem zA1 (x : Operand) (ho : o.op = .move x ∨ o.op = .assign x) (v : Value) (hx : a.eval x = v) (hk : K (a.put o.dst v) w) : Oper.wp P o a w K Q := by
  unfold Oper.wp execOp
  rcases ho with ho | ho <;> (simp only [ho, hx, Sem.run_bind, Sem.run_pure, Result.andThen_ok]; exact hk)
theorem zBZ (ty : TypeId) (x : Operand) (ho : o.op = .load ty x) (b f : Nat) (hx : a.eval x = .pointer (some ⟨b, f, none⟩)) (cs : List Value) (d : TypeDesc) (hc : w.rangeAt b f cs) (hu : P.underlying ty = some d) (hd : d.isRow = true) (hi : (P.info? ty).map (·.size) = some cs.length) (hk : K (a.put o.dst (.agg cs.toArray)) w) : Oper.wp P o a w K Q :=
  wp_load_mid ty x ho b f hx cs d hc hu hd hi hk
theorem op_st (ty : TypeId) (x y : Operand) (ho : o.op = .store ty x y) (b f : Nat) (cs : List Value) (U : TypeId) (v : Value) (vs : List Value) (hx : a.eval x = .pointer (some ⟨b, f, none⟩)) (hy : a.eval y = v) (hv : v.cells = vs.toArray) (hb : w.heap[b]? = some (.cells cs.toArray U (0, 0)))
  (hl : f + vs.length ≤ cs.length) (hi : (P.info? ty).map (·.size) = some vs.length) (h1 : vs.all (·.oneCell') = true)
  (h : ∀ w', w'.heap[b]? = some (.cells (ovr cs f vs).toArray U (0, 0)) → Fr (fun i => i = b) w w' → K (a.put o.dst undef) w') : Oper.wp P o a w K Q := by
 unfold Oper.wp execOp
 simp only [ho, hx, hy, Instr.storeAt, Instr.sureAddr, Sem.run_bind, Sem.run_pure, Result.andThen_ok, zIT w b f ty v vs.toArray hv (zDQ hb f _ (by simpa using hl)) (by simpa using hi) (all_oneCell_toArray (List.all_eq_true.1 h1))]
 exact h _ (zDM vs f cs w hb hl) ((Fr.refl (fun i => i = b) w).setCells (.inl rfl))
theorem zFQ (t : TypeId) (ho : o.op = .alloc t) (zs : List Value) (hz : (Instr.alloc t true (.tuple #[])).run P w = .ok (.pointer (some ⟨w.heap.size, 0, none⟩)) (w.alloc (.cells zs.toArray t))) (hk : K (a.put o.dst (.pointer (some ⟨w.heap.size, 0, none⟩))) (w.alloc (.cells zs.toArray t))) : Oper.wp P o a w K Q := by
  unfold Oper.wp execOp
  simp only [ho, Sem.run_bind, hz, Result.andThen_ok, Sem.run_pure]
  exact hk
theorem zAC.cons {f : Nat → Oper → Prop} {k : Nat} {x : Oper} {l : List Oper} (h : f k x) (r : zAC f (k + 1) l) : zAC f k (x :: l) := ⟨h, r⟩
theorem zAC.nil {f : Nat → Oper → Prop} {k : Nat} : zAC f k [] := trivial
theorem zA0 (f : FuncId) (he : ∀ args w, (callFunc f args).run P w = .ok (.enter f args) w) (xs : Array Operand) (ts : Array TypeId) (ho : o.op = .call { callee := .value (.func f), args := xs, argTypes := ts }) (us : Array Value) (hx : xs.map a.eval = us) (R : Ending → World → Prop) (hc : Calls P f us w R) (h : ∀ e w', R e w' → ∃ v, e = .returned v ∧ K (a.put o.dst v) w') : Oper.wp P o a w K Q := by
  unfold Oper.wp execOp
  have hf : a.eval (.func f) = Value.func (Fn.func f) #[] #[] := rfl
  simp [ho, resolve, invoke, Deferred.ofValue, hf, hx, he]
  refine hc.mono ?_
  intro e w' hr
  obtain ⟨v, rfl, hk⟩ := h e w' hr
  exact hk
end
theorem zBM {P : Program} {ops : Array Oper} {rest : List Oper} {op : Oper} {a : Act} {w : World} {Q : Exit → Act → World → Prop} (hgd : op.guard = none) (t : TypeId) (parts : Array (Nat × Operand)) (ho : op.op = .build t parts) (vals : Array (Nat × Value)) (hp : (parts.map fun x => (x.1, a.eval x.2)) = vals) (v : Value) (hv : ∀ w, (Instr.build t vals).run P w = .ok v w)
  (h : wpList P ops Q rest (a.put op.dst v) w) : wpList P ops Q (op :: rest) a w :=
 wpList_plain hgd fun K hK => by
  unfold Oper.wp execOp
  simp only [ho, Sem.run_bind, hp, hv, Result.andThen_ok, Sem.run_pure]
  exact hK _ _ h
theorem ev_c (a : Act) (v : Value) : a.eval (.const v) = v := rfl
structure Hp (w0 W : World) (l : List (Nat × List Value × TypeId)) : Prop where
  bel : Below w0.heap.size w0 W
  b : ∀ i (hi : i < l.length), W.heap[l[i].1]? = some (.cells l[i].2.1.toArray l[i].2.2 (0, 0))
theorem Hp.next {w0 W W' : World} {l : List (Nat × List Value × TypeId)} (h : Hp w0 W l) (hb : Below W.heap.size W W') : Hp w0 W' l := ⟨zAA h.bel hb h.bel.size, fun i hi => (hb.block _ (zAD (h.b i hi))).trans (h.b i hi)⟩
theorem Hp.add {w0 W W' : World} {l : List (Nat × List Value × TypeId)} (h : Hp w0 W l) (hb : Below W.heap.size W W') {b : Nat} {cs : List Value} {t : TypeId} (hn : W'.heap[b]? = some (.cells cs.toArray t (0, 0))) : Hp w0 W' (l ++ [(b, cs, t)]) := by
 refine ⟨(h.next hb).bel, fun i hi => ?_⟩
 by_cases c : i < l.length
 . rw [List.getElem_append_left c]; exact (h.next hb).b i c
 . obtain rfl : i = l.length := by simp at hi; omega
   simpa using hn
theorem Hp.r {w0 W : World} {l : List (Nat × List Value × TypeId)} (h : Hp w0 W l) (i : Nat) (hi : i < l.length) : W.rangeAt l[i].1 0 l[i].2.1 := zAJ (h.b i hi)
theorem Hp.c {w0 W : World} {l : List (Nat × List Value × TypeId)} (h : Hp w0 W l) (i : Nat) (hi : i < l.length) (j : Nat) : W.cell? ⟨l[i].1, j, none⟩ = l[i].2.1[j]? := by rw [zAB (h.b i hi)]; simp
theorem zAX {w : World} : ∀ (vs : List Value), RdL w (vs.map Dat.lit) vs
  | [] => RdL.nil _
  | v :: r => .cons (.lit _) (zAX r)
end Go.Proofs.YtnlmknbhppdliaaGreatDoor.Chk
