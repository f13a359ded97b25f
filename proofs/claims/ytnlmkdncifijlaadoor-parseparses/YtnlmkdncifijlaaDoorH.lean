/-
  Data that a call has laid in blocks of its own: slices of structs that hold slices.
-/
import Derived.Maps.AppendAt
import Derived.Laws.OwnMore
import Derived.Below
import Derived.Maps.OwnSet
namespace Go.Proofs.YtnlmkdncifijlaaDoor
open Go.RowKit Go.Maps
set_option linter.unusedVariables false
set_option linter.unusedSimpArgs false
/-- What a cell holds: a plain value, or a slice of elements of z cells each, of type e. -/
inductive Dat where
  | lit (v : Value)
  | row (e z : Nat) (l : List (List Dat))
def nilV : Value := .slice none 0 0
/-- In the world w the value v stands for a datum, by blocks of S alone. -/
inductive Holds (w : World) (S : Nat → Prop) : Dat → Value → Prop
  | lit (v : Value) : Holds w S (.lit v) v
  | row (e z : Nat) (l : List (List Dat)) (v : Value) (xs : List Value) : w.ownsRow 0 e z v l.length xs → (∀ i, v.ownBlock = some i → S i) → l.flatten.length = xs.length →
      (∀ k (hk : k < l.flatten.length), Holds w S (l.flatten[k]) (xs.getD k nilV)) → Holds w S (.row e z l) v
def HoldsL (w : World) (S : Nat → Prop) (ds : List Dat) (vs : List Value) : Prop := ds.length = vs.length ∧ ∀ k (hk : k < ds.length), Holds w S (ds[k]) (vs.getD k nilV)
theorem own_block_some {w : World} {base : Nat} {e : TypeId} {size : Nat} {v : Value} {n : Nat} {xs : List Value} (h : w.ownsRow base e size v n xs) {i : Nat} (hi : v.ownBlock = some i) : base ≤ i ∧ i < w.heap.size := by
  rcases h.2 with ⟨rfl, _⟩ | ⟨g, cap, cur, rfl, h1, h2, _⟩
  · simp [Value.ownBlock] at hi
  · simp [Value.ownBlock] at hi
    subst hi
    exact ⟨h1, (Array.getElem?_eq_some_iff.1 h2).1⟩
theorem owns_same {w w' : World} {base : Nat} {e : TypeId} {size : Nat} {v : Value} {n : Nat} {xs : List Value} (h : w.ownsRow base e size v n xs) (hb : ∀ i, v.ownBlock = some i → w'.heap[i]? = w.heap[i]?) : w'.ownsRow base e size v n xs := by
  refine ⟨h.1, ?_⟩
  rcases h.2 with h2 | ⟨g, cap, cur, rfl, h1, h2, h3⟩
  · exact Or.inl h2
  · exact Or.inr ⟨g, cap, cur, rfl, h1, (hb g rfl).trans h2, h3⟩
theorem owns_base {w : World} {base base' : Nat} {e : TypeId} {size : Nat} {v : Value} {n : Nat} {xs : List Value} (h : w.ownsRow base e size v n xs) (hb : ∀ i, v.ownBlock = some i → base' ≤ i) : w.ownsRow base' e size v n xs := by
  refine ⟨h.1, ?_⟩
  rcases h.2 with h2 | ⟨g, cap, cur, rfl, h1, h2, h3⟩
  · exact Or.inl h2
  · exact Or.inr ⟨g, cap, cur, rfl, hb g rfl, h2, h3⟩
theorem Holds.mono {w w' : World} {S S' : Nat → Prop} {d : Dat} {v : Value} (h : Holds w S d v) (hs : ∀ i, S i → i < w.heap.size → S' i ∧ w'.heap[i]? = w.heap[i]?) : Holds w' S' d v := by
  induction h with
  | lit v => exact .lit v
  | row e z l v xs h1 h2 h3 h4 ih =>
    exact .row e z l v xs (owns_same h1 fun i hi => (hs i (h2 i hi) (own_block_some h1 hi).2).2) (fun i hi => (hs i (h2 i hi) (own_block_some h1 hi).2).1) h3 (fun k hk => ih k hk)
theorem HoldsL.mono {w w' : World} {S S' : Nat → Prop} {ds : List Dat} {vs : List Value} (h : HoldsL w S ds vs) (hs : ∀ i, S i → i < w.heap.size → S' i ∧ w'.heap[i]? = w.heap[i]?) : HoldsL w' S' ds vs :=
  ⟨h.1, fun k hk => (h.2 k hk).mono hs⟩
theorem HoldsL.nil (w : World) (S : Nat → Prop) : HoldsL w S [] [] := ⟨rfl, fun k hk => by simp at hk⟩
theorem HoldsL.cons {w : World} {S : Nat → Prop} {d : Dat} {v : Value} {ds : List Dat} {vs : List Value} (h : Holds w S d v) (hl : HoldsL w S ds vs) : HoldsL w S (d :: ds) (v :: vs) := by
  refine ⟨by simp [hl.1], fun k hk => ?_⟩
  cases k with
  | zero => simpa using h
  | succ k => simpa using hl.2 k (by simpa using hk)
theorem HoldsL.head {w : World} {S : Nat → Prop} {d : Dat} {v : Value} {ds : List Dat} {vs : List Value} (h : HoldsL w S (d :: ds) (v :: vs)) : Holds w S d v ∧ HoldsL w S ds vs := by
  refine ⟨h.2 0 (by simp), by simpa using h.1, fun k hk => ?_⟩
  exact h.2 (k + 1) (by simpa using hk)
theorem HoldsL.append {w : World} {S : Nat → Prop} : ∀ {ds : List Dat} {vs : List Value} {es : List Dat} {us : List Value}, HoldsL w S ds vs → HoldsL w S es us → HoldsL w S (ds ++ es) (vs ++ us)
  | [], vs, es, us, h, k => by
    have : vs = [] := List.eq_nil_of_length_eq_zero h.1.symm
    subst this
    exact k
  | d :: ds, [], es, us, h, k => by simp [HoldsL] at h
  | d :: ds, v :: vs, es, us, h, k => by
    obtain ⟨h1, h2⟩ := h.head
    exact .cons h1 (h2.append k)
theorem HoldsL.lits (w : World) (S : Nat → Prop) : ∀ (vs : List Value), HoldsL w S (vs.map Dat.lit) vs
  | [] => .nil w S
  | v :: vs => .cons (.lit v) (lits w S vs)
/-- A slice that the call goes on appending to: its own block holds no part of its elements. -/
def Row (w : World) (S : Nat → Prop) (e z : Nat) (v : Value) (l : List (List Dat)) : Prop :=
  ∃ xs, w.ownsRow 0 e z v l.length xs ∧ (∀ i, v.ownBlock = some i → S i) ∧ HoldsL w (fun i => S i ∧ v.ownBlock ≠ some i) l.flatten xs
theorem Row.nil (w : World) (S : Nat → Prop) (e z : Nat) : Row w S e z (.slice none 0 0) [] :=
  ⟨[], World.ownsRow_nil w 0 e z, fun i hi => by simp [Value.ownBlock] at hi, .nil _ _⟩
theorem Row.holds {w : World} {S : Nat → Prop} {e z : Nat} {v : Value} {l : List (List Dat)} (h : Row w S e z v l) : Holds w S (.row e z l) v := by
  obtain ⟨xs, h1, h2, h3⟩ := h
  exact .row e z l v xs h1 h2 h3.1 (fun k hk => (h3.2 k hk).mono fun i hi _ => ⟨hi.1, rfl⟩)
theorem Row.mono {w w' : World} {S S' : Nat → Prop} {e z : Nat} {v : Value} {l : List (List Dat)} (h : Row w S e z v l) (hs : ∀ i, S i → i < w.heap.size → S' i ∧ w'.heap[i]? = w.heap[i]?) : Row w' S' e z v l := by
  obtain ⟨xs, h1, h2, h3⟩ := h
  refine ⟨xs, owns_same h1 fun i hi => (hs i (h2 i hi) (own_block_some h1 hi).2).2, fun i hi => (hs i (h2 i hi) (own_block_some h1 hi).2).1, h3.mono fun i hi hl => ?_⟩
  obtain ⟨a, b⟩ := hs i hi.1 hl
  exact ⟨⟨a, hi.2⟩, b⟩
theorem Row.shape {w : World} {S : Nat → Prop} {e z : Nat} {v : Value} {l : List (List Dat)} (h : Row w S e z v l) : ∃ p cap, v = .slice p l.length cap := by
  obtain ⟨xs, h1, _⟩ := h
  rcases h1.2 with ⟨h2, h3⟩ | ⟨g, cap, cur, h2, _⟩
  · exact ⟨none, 0, by rw [h2, h3]⟩
  · exact ⟨_, cap, h2⟩
/-- What an append leaves: the row with one element more, whose parts lie in other blocks than the row's own. -/
theorem Row.append {w w' : World} {S : Nat → Prop} {e z : Nat} {v v' : Value} {l : List (List Dat)} {xs us : List Value} {d : List Dat} (hx : HoldsL w (fun i => S i ∧ v.ownBlock ≠ some i) l.flatten xs) (hd : HoldsL w (fun i => S i ∧ v.ownBlock ≠ some i) d us)
    (ho : w'.ownsRow 0 e z v' (l.length + 1) (xs ++ us)) (hg : w.grownBy w' v.ownBlock) (hv : v'.ownBlock = v.ownBlock ∨ v'.ownBlock = some w.heap.size) (hS : ∀ i, v.ownBlock = some i → S i) :
    Row w' (fun i => S i ∨ i = w.heap.size) e z v' (l ++ [d]) := by
  refine ⟨xs ++ us, by simpa using ho, fun i hi => ?_, ?_⟩
  · rcases hv with h | h
    · exact .inl (hS i (h ▸ hi))
    · rw [h] at hi
      exact .inr (by simpa using hi.symm)
  · rw [List.flatten_append, show [d].flatten = d by simp]
    refine (hx.append hd).mono fun i hi hl => ⟨⟨.inl hi.1, ?_⟩, hg.block i hl fun h => hi.2 h.symm⟩
    rcases hv with h | h
    · rw [h]; exact hi.2
    · rw [h]; intro c; simp at c; omega
/-- But for the blocks of X all that was there is as it was. -/
structure Fr (X : Nat → Prop) (w w' : World) : Prop where
  os : w'.os = w.os
  tape : w'.tape = w.tape
  output : w'.output = w.output
  size : w.heap.size ≤ w'.heap.size
  block : ∀ k, k < w.heap.size → ¬ X k → w'.heap[k]? = w.heap[k]?
theorem Fr.refl (X : Nat → Prop) (w : World) : Fr X w w := ⟨rfl, rfl, rfl, Nat.le_refl _, fun _ _ _ => rfl⟩
theorem Fr.trans {X : Nat → Prop} {a b c : World} (h : Fr X a b) (k : Fr X b c) : Fr X a c :=
  ⟨k.os.trans h.os, k.tape.trans h.tape, k.output.trans h.output, Nat.le_trans h.size k.size, fun i hi hx => (k.block i (Nat.lt_of_lt_of_le hi h.size) hx).trans (h.block i hi hx)⟩
/-- What follows may turn new blocks besides. -/
theorem Fr.then {X Y : Nat → Prop} {a b c : World} (h : Fr X a b) (k : Fr Y b c) (hy : ∀ i, Y i → X i ∨ a.heap.size ≤ i) : Fr X a c :=
  ⟨k.os.trans h.os, k.tape.trans h.tape, k.output.trans h.output, Nat.le_trans h.size k.size, fun i hi hx => (k.block i (Nat.lt_of_lt_of_le hi h.size) fun q => by rcases hy i q with c | c <;> first | exact hx c | omega).trans (h.block i hi hx)⟩
theorem Fr.mono {X Y : Nat → Prop} {w w' : World} (h : Fr X w w') (k : ∀ i, X i → i < w.heap.size → Y i) : Fr Y w w' := ⟨h.os, h.tape, h.output, h.size, fun i hi hx => h.block i hi fun q => hx (k i q hi)⟩
theorem Fr.drew {X : Nat → Prop} {a w : World} (h : Fr X a w) : Fr X a w.drew := ⟨h.os, h.tape, h.output, h.size, h.block⟩
theorem Fr.alloc {X : Nat → Prop} {a w : World} (h : Fr X a w) (o : Obj) : Fr X a (w.alloc o) :=
  h.trans ⟨rfl, rfl, rfl, by simp, fun k hk _ => Below.heap_alloc _ _ _ hk⟩
theorem Fr.setCell {X : Nat → Prop} {a w : World} (h : Fr X a w) {p : Addr} (hp : X p.block ∨ a.heap.size ≤ p.block) (u : Value) : Fr X a (w.setCell p u) :=
  ⟨h.os, h.tape, h.output, by simpa [World.setCell] using h.size, fun k hk hx => (Below.heap_setCell _ _ _ _ (by rintro rfl; rcases hp with c | c <;> first | exact hx c | omega)).trans (h.block k hk hx)⟩
theorem Fr.grown {X : Nat → Prop} {a w w' : World} {row : Option Nat} (h : Fr X a w) (hg : w.grownBy w' row) (hr : ∀ k, row = some k → X k ∨ a.heap.size ≤ k) : Fr X a w' :=
  ⟨hg.os.trans h.os, hg.tape.trans h.tape, hg.output.trans h.output, Nat.le_trans h.size hg.size, fun i hi hx => (hg.block i (Nat.lt_of_lt_of_le hi h.size) fun q => by rcases hr i q.symm with c | c <;> first | exact hx c | omega).trans (h.block i hi hx)⟩
theorem Fr.below {w w' : World} (h : Fr (fun _ => False) w w') : Below w.heap.size w w' := ⟨h.os, h.tape, h.output, h.size, fun k hk => h.block k hk id⟩
theorem Fr.of_below {X : Nat → Prop} {w w' : World} (h : Below w.heap.size w w') : Fr X w w' := ⟨h.os, h.tape, h.output, h.size, fun k hk _ => h.block k hk⟩
end Go.Proofs.YtnlmkdncifijlaaDoor
