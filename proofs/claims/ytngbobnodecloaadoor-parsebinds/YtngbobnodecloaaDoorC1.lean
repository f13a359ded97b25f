/-
  A clause of a rule.
-/
import Derived.Test.YtngbobnodecloaaDoorY
import Derived.Test.YtngbobnodecloaaDoorKk
import Derived.Test.YtngbobnodecloaaDoorQ3
namespace Go.Proofs.YtngbobnodecloaaDoor
open Go.ChangeShapes Go.WideShapes Go.ChangeAt Go.RowKit Go.Maps
set_option linter.unusedVariables false
set_option linter.unusedSimpArgs false
set_option maxRecDepth 20000
/-- A rule that is being read, in block U; its rows lie behind it, each in blocks of its own colour. -/
structure Rul (w : World) (U : Nat) (col : Nat → Nat) (r : Rl) (wv tv mv kv ev : Value) : Prop where
  blk : w.heap[U]? = some (.cells #[.string r.n, wv, tv, mv, kv, .string r.e.ty, ev] 77 (0, 0))
  r1 : Row w (Sc U col 1) 83 18 wv (r.w.map encP)
  r2 : Row w (Sc U col 2) 83 18 tv (r.t.map encP)
  r3 : Row w (Sc U col 3) 98 20 mv (r.m.map encM)
  r4 : Row w (Sc U col 4) 101 3 kv (r.k.map encK)
  r5 : Holds w (Sc U col 5) (.row 42 6 (r.e.v.map encO)) ev
section
variable {w w' : World} {U g : Nat} {col : Nat → Nat} {r : Rl} {wv tv mv kv ev : Value}
theorem Rul.on (h : Rul w U col r wv tv mv kv ev) (hu : w'.heap[U]? = w.heap[U]?) (hb : ∀ i, U < i → i < w.heap.size → w'.heap[i]? = w.heap[i]?) : Rul w' U col r wv tv mv kv ev :=
  ⟨hu.trans h.blk, h.r1.mono fun i hi hl => ⟨hi, hb i hi.1 hl⟩, h.r2.mono fun i hi hl => ⟨hi, hb i hi.1 hl⟩, h.r3.mono fun i hi hl => ⟨hi, hb i hi.1 hl⟩, h.r4.mono fun i hi hl => ⟨hi, hb i hi.1 hl⟩, h.r5.mono fun i hi hl => ⟨hi, hb i hi.1 hl⟩⟩
theorem Rul.fr (h : Rul w U col r wv tv mv kv ev) (hf : Fr (fun i => i = g) w w') (hg : g < U) : Rul w' U col r wv tv mv kv ev :=
  h.on (hf.block U (blk_lt h.blk) (by show ¬ U = g; omega)) fun i hi hl => hf.block i hl (by show ¬ i = g; omega)
theorem Rul.new (h : Rul w U col r wv tv mv kv ev) (hf : Fr (fun _ => False) w w') : Rul w' U col r wv tv mv kv ev :=
  h.on (hf.block U (blk_lt h.blk) id) fun i _ hl => hf.block i hl id
theorem Rul.paint (h : Rul w U col r wv tv mv kv ev) (j : Nat) : Rul w U (paint col w.heap.size j) r wv tv mv kv ev := by
  have key : ∀ {k i : Nat}, Sc U col k i → i < w.heap.size → Sc U (Go.Proofs.YtngbobnodecloaaDoor.paint col w.heap.size j) k i := fun hi hl => ⟨hi.1, (paint_lt hl).trans hi.2⟩
  exact ⟨h.blk, h.r1.mono fun i hi hl => ⟨key hi hl, rfl⟩, h.r2.mono fun i hi hl => ⟨key hi hl, rfl⟩, h.r3.mono fun i hi hl => ⟨key hi hl, rfl⟩, h.r4.mono fun i hi hl => ⟨key hi hl, rfl⟩, h.r5.mono fun i hi hl => ⟨key hi hl, rfl⟩⟩
end
theorem Row.apart {w w' : World} {S : Nat → Prop} {e z : Nat} {v : Value} {l : List (List Dat)} {row : Option Nat} (h : Row w S e z v l) (hg : w.grownBy w' row) (hr : ∀ k, row = some k → ¬ S k) : Row w' S e z v l := h.mono fun i hi hl => ⟨hi, hg.block i hl fun e => hr i e.symm hi⟩
theorem Holds.apart {w w' : World} {S : Nat → Prop} {d : Dat} {v : Value} {row : Option Nat} (h : Holds w S d v) (hg : w.grownBy w' row) (hr : ∀ k, row = some k → ¬ S k) : Holds w' S d v := h.mono fun i hi hl => ⟨hi, hg.block i hl fun e => hr i e.symm hi⟩
theorem Row.cell {w : World} {U j : Nat} {S : Nat → Prop} {e z : Nat} {v u : Value} {l : List (List Dat)} (h : Row w S e z v l) (hS : ∀ i, S i → U < i) : Row (w.setCell ⟨U, j, none⟩ u) S e z v l := h.mono fun i hi hl => ⟨hi, Below.heap_setCell _ _ _ _ (by have := hS i hi; show i ≠ U; omega)⟩
theorem Holds.cell {w : World} {U j : Nat} {S : Nat → Prop} {d : Dat} {v u : Value} (h : Holds w S d v) (hS : ∀ i, S i → U < i) : Holds (w.setCell ⟨U, j, none⟩ u) S d v := h.mono fun i hi hl => ⟨hi, Below.heap_setCell _ _ _ _ (by have := hS i hi; show i ≠ U; omega)⟩
theorem sc_up {U : Nat} {col : Nat → Nat} {j : Nat} : ∀ i, Sc U col j i → U < i := fun i h => h.1
theorem holdsP {w : World} {S : Nat → Prop} {t : Pt} {v : Value} (h : Holds w S (.row 44 14 t.c.sb) v) : HoldsL w S (encP t) (ptC t.va t.ty t.c.k v t.c.l t.c.r t.w t.n) :=
  .cons (.lit _) (.cons (.lit _) ((holdsC h).append (.cons (.lit _) (.cons (.lit _) (.nil _ _)))))
theorem holdsM {w : World} {S : Nat → Prop} {m : Mn} {v : Value} (h : Holds w S (.row 44 14 m.p.c.sb) v) : HoldsL w S (encM m) (mnC m.c m.f m.p.va m.p.ty m.p.c.k v m.p.c.l m.p.c.r m.p.w m.p.n) :=
  .cons (.lit _) (.cons (.lit _) (holdsP h))
theorem holdsK {w : World} {S : Nat → Prop} {k : Lk} {v : Value} (h : Holds w S (.row 103 3 (k.o.map encQ)) v) : HoldsL w S (encK k) (lkC k.l v k.r) :=
  .cons (.lit _) (.cons h (.cons (.lit _) (.nil _ _)))
theorem bs_pt (a b : ByteArray) (k : Int) (v : Value) (l r : Opd) (x n : Int) (w : World) : (Instr.buildSlice 70 1 #[(0, ptV a b k v l r x n)]).run Tryd.prog w = .ok (.slice (some ⟨w.heap.size, 0, none⟩) 1 1) (w.alloc (.cells (ptC a b k v l r x n).toArray 83)) := by kernel_rfl
theorem bs_mn (c : Int) (f a b : ByteArray) (k : Int) (v : Value) (l r : Opd) (x n : Int) (w : World) : (Instr.buildSlice 71 1 #[(0, mnV c f a b k v l r x n)]).run Tryd.prog w = .ok (.slice (some ⟨w.heap.size, 0, none⟩) 1 1) (w.alloc (.cells (mnC c f a b k v l r x n).toArray 98)) := by kernel_rfl
theorem bs_lk (a : ByteArray) (v : Value) (b : ByteArray) (w : World) : (Instr.buildSlice 72 1 #[(0, .agg #[.string a, v, .string b])]).run Tryd.prog w = .ok (.slice (some ⟨w.heap.size, 0, none⟩) 1 1) (w.alloc (.cells (lkC a v b).toArray 101)) := by kernel_rfl
theorem ent_when : ∀ args w, (callFunc 80 args).run Tryd.prog w = .ok (.enter 80 args) w := enters_of Tryd.func80 (by kernel_rfl) rfl
theorem ent_pattern : ∀ args w, (callFunc 81 args).run Tryd.prog w = .ok (.enter 81 args) w := enters_of Tryd.func81 (by kernel_rfl) rfl
theorem ent_many : ∀ args w, (callFunc 82 args).run Tryd.prog w = .ok (.enter 82 args) w := enters_of Tryd.func82 (by kernel_rfl) rfl
theorem ent_link : ∀ args w, (callFunc 84 args).run Tryd.prog w = .ok (.enter 84 args) w := enters_of Tryd.func84 (by kernel_rfl) rfl
/-- What stands while a clause is read. -/
def Cs (w0 w : World) (g : Nat) (V : Value) (L : List Tk) (s : St) (U : Nat) (col : Nat → Nat) (r : Rl) (wv tv mv kv ev : Value) : Prop := Env w g V L s ∧ Rul w U col r wv tv mv kv ev ∧ Fr (fun i => i = g ∨ U ≤ i) w0 w
theorem Cs.call {w0 w w' : World} {g : Nat} {V : Value} {L : List Tk} {s s' : St} {U : Nat} {col : Nat → Nat} {r : Rl} {wv tv mv kv ev : Value} (h : Cs w0 w g V L s U col r wv tv mv kv ev) (he : Env w' g V L s') (hf : Fr (fun i => i = g) w w') (hg : g < U) : Cs w0 w' g V L s' U col r wv tv mv kv ev :=
  ⟨he, h.2.1.fr hf hg, h.2.2.trans (hf.mono fun i hi _ => .inl hi)⟩
theorem Cs.drew {w0 w : World} {g : Nat} {V : Value} {L : List Tk} {s : St} {U : Nat} {col : Nat → Nat} {r : Rl} {wv tv mv kv ev : Value} (h : Cs w0 w g V L s U col r wv tv mv kv ev) : Cs w0 w.drew g V L s U col r wv tv mv kv ev :=
  ⟨h.1.fr ((Fr.refl _ _).drew), h.2.1.new ((Fr.refl _ _).drew), h.2.2.drew⟩
/-- What a clause leaves. -/
def CLPost (w : World) (g : Nat) (V : Value) (L : List Tk) (U : Nat) (r : Rl) (s : St) (e : Ending) (w' : World) : Prop :=
  e = .returned (.tuple #[]) ∧ ∃ col wv tv mv kv ev, Cs w w' g V L s U col r wv tv mv kv ev
theorem Cs.app1 {w0 w w5 : World} {g : Nat} {V : Value} {L : List Tk} {s : St} {U : Nat} {col : Nat → Nat} {r : Rl} {wv tv mv kv ev v' : Value} {x : Pt} (h : Cs w0 w g V L s U col r wv tv mv kv ev) (o : Obj) (hgb : (w.alloc o).grownBy w5 wv.ownBlock) (hown : ∀ k, wv.ownBlock = some k → Sc U col 1 k)
    (hrw : Row w5 (Sc U col 1) 83 18 v' (r.w.map encP ++ [encP x])) (hb : w5.heap[U]? = some (.cells #[.string r.n, wv, tv, mv, kv, .string r.e.ty, ev] 77 (0, 0))) (hg : g < U) : Cs w0 (w5.setCell ⟨U, 1, none⟩ v') g V L s U col { r with w := r.w ++ [x] } v' tv mv kv ev := by
  have hgw := blk_lt h.1.blk
  refine ⟨((h.1.alloc o).grown (b := U) hgb (fun k hk => Nat.le_of_lt (hown k hk).1) hg).setCell _ hg _, ⟨?_, by rw [List.map_append]; exact hrw.cell sc_up, ((h.2.1.r2.alloc o).apart hgb (fun k hk c => by have := (hown k hk).2; rw [c.2] at this; omega)).cell sc_up, ((h.2.1.r3.alloc o).apart hgb (fun k hk c => by have := (hown k hk).2; rw [c.2] at this; omega)).cell sc_up, ((h.2.1.r4.alloc o).apart hgb (fun k hk c => by have := (hown k hk).2; rw [c.2] at this; omega)).cell sc_up, ((h.2.1.r5.on ((Fr.refl _ _).alloc o)).apart hgb (fun k hk c => by have := (hown k hk).2; rw [c.2] at this; omega)).cell sc_up⟩, ?_⟩
  · rw [blk_set hb]; rfl
  · exact ((h.2.2.alloc o).grown hgb (fun k hk => .inl (.inr (Nat.le_of_lt (hown k hk).1)))).setCell (p := ⟨U, 1, none⟩) (.inl (.inr (Nat.le_refl _))) _
theorem Cs.app2 {w0 w w5 : World} {g : Nat} {V : Value} {L : List Tk} {s : St} {U : Nat} {col : Nat → Nat} {r : Rl} {wv tv mv kv ev v' : Value} {x : Pt} (h : Cs w0 w g V L s U col r wv tv mv kv ev) (o : Obj) (hgb : (w.alloc o).grownBy w5 tv.ownBlock) (hown : ∀ k, tv.ownBlock = some k → Sc U col 2 k)
    (hrw : Row w5 (Sc U col 2) 83 18 v' (r.t.map encP ++ [encP x])) (hb : w5.heap[U]? = some (.cells #[.string r.n, wv, tv, mv, kv, .string r.e.ty, ev] 77 (0, 0))) (hg : g < U) : Cs w0 (w5.setCell ⟨U, 2, none⟩ v') g V L s U col { r with t := r.t ++ [x] } wv v' mv kv ev := by
  have hgw := blk_lt h.1.blk
  refine ⟨((h.1.alloc o).grown (b := U) hgb (fun k hk => Nat.le_of_lt (hown k hk).1) hg).setCell _ hg _, ⟨?_, ((h.2.1.r1.alloc o).apart hgb (fun k hk c => by have := (hown k hk).2; rw [c.2] at this; omega)).cell sc_up, by rw [List.map_append]; exact hrw.cell sc_up, ((h.2.1.r3.alloc o).apart hgb (fun k hk c => by have := (hown k hk).2; rw [c.2] at this; omega)).cell sc_up, ((h.2.1.r4.alloc o).apart hgb (fun k hk c => by have := (hown k hk).2; rw [c.2] at this; omega)).cell sc_up, ((h.2.1.r5.on ((Fr.refl _ _).alloc o)).apart hgb (fun k hk c => by have := (hown k hk).2; rw [c.2] at this; omega)).cell sc_up⟩, ?_⟩
  · rw [blk_set hb]; rfl
  · exact ((h.2.2.alloc o).grown hgb (fun k hk => .inl (.inr (Nat.le_of_lt (hown k hk).1)))).setCell (p := ⟨U, 2, none⟩) (.inl (.inr (Nat.le_refl _))) _
theorem Cs.app3 {w0 w w5 : World} {g : Nat} {V : Value} {L : List Tk} {s : St} {U : Nat} {col : Nat → Nat} {r : Rl} {wv tv mv kv ev v' : Value} {x : Mn} (h : Cs w0 w g V L s U col r wv tv mv kv ev) (o : Obj) (hgb : (w.alloc o).grownBy w5 mv.ownBlock) (hown : ∀ k, mv.ownBlock = some k → Sc U col 3 k)
    (hrw : Row w5 (Sc U col 3) 98 20 v' (r.m.map encM ++ [encM x])) (hb : w5.heap[U]? = some (.cells #[.string r.n, wv, tv, mv, kv, .string r.e.ty, ev] 77 (0, 0))) (hg : g < U) : Cs w0 (w5.setCell ⟨U, 3, none⟩ v') g V L s U col { r with m := r.m ++ [x] } wv tv v' kv ev := by
  have hgw := blk_lt h.1.blk
  refine ⟨((h.1.alloc o).grown (b := U) hgb (fun k hk => Nat.le_of_lt (hown k hk).1) hg).setCell _ hg _, ⟨?_, ((h.2.1.r1.alloc o).apart hgb (fun k hk c => by have := (hown k hk).2; rw [c.2] at this; omega)).cell sc_up, ((h.2.1.r2.alloc o).apart hgb (fun k hk c => by have := (hown k hk).2; rw [c.2] at this; omega)).cell sc_up, by rw [List.map_append]; exact hrw.cell sc_up, ((h.2.1.r4.alloc o).apart hgb (fun k hk c => by have := (hown k hk).2; rw [c.2] at this; omega)).cell sc_up, ((h.2.1.r5.on ((Fr.refl _ _).alloc o)).apart hgb (fun k hk c => by have := (hown k hk).2; rw [c.2] at this; omega)).cell sc_up⟩, ?_⟩
  · rw [blk_set hb]; rfl
  · exact ((h.2.2.alloc o).grown hgb (fun k hk => .inl (.inr (Nat.le_of_lt (hown k hk).1)))).setCell (p := ⟨U, 3, none⟩) (.inl (.inr (Nat.le_refl _))) _
theorem Cs.app4 {w0 w w5 : World} {g : Nat} {V : Value} {L : List Tk} {s : St} {U : Nat} {col : Nat → Nat} {r : Rl} {wv tv mv kv ev v' : Value} {x : Lk} (h : Cs w0 w g V L s U col r wv tv mv kv ev) (o : Obj) (hgb : (w.alloc o).grownBy w5 kv.ownBlock) (hown : ∀ k, kv.ownBlock = some k → Sc U col 4 k)
    (hrw : Row w5 (Sc U col 4) 101 3 v' (r.k.map encK ++ [encK x])) (hb : w5.heap[U]? = some (.cells #[.string r.n, wv, tv, mv, kv, .string r.e.ty, ev] 77 (0, 0))) (hg : g < U) : Cs w0 (w5.setCell ⟨U, 4, none⟩ v') g V L s U col { r with k := r.k ++ [x] } wv tv mv v' ev := by
  have hgw := blk_lt h.1.blk
  refine ⟨((h.1.alloc o).grown (b := U) hgb (fun k hk => Nat.le_of_lt (hown k hk).1) hg).setCell _ hg _, ⟨?_, ((h.2.1.r1.alloc o).apart hgb (fun k hk c => by have := (hown k hk).2; rw [c.2] at this; omega)).cell sc_up, ((h.2.1.r2.alloc o).apart hgb (fun k hk c => by have := (hown k hk).2; rw [c.2] at this; omega)).cell sc_up, ((h.2.1.r3.alloc o).apart hgb (fun k hk c => by have := (hown k hk).2; rw [c.2] at this; omega)).cell sc_up, by rw [List.map_append]; exact hrw.cell sc_up, ((h.2.1.r5.on ((Fr.refl _ _).alloc o)).apart hgb (fun k hk c => by have := (hown k hk).2; rw [c.2] at this; omega)).cell sc_up⟩, ?_⟩
  · rw [blk_set hb]; rfl
  · exact ((h.2.2.alloc o).grown hgb (fun k hk => .inl (.inr (Nat.le_of_lt (hown k hk).1)))).setCell (p := ⟨U, 4, none⟩) (.inl (.inr (Nat.le_refl _))) _
end Go.Proofs.YtngbobnodecloaaDoor
