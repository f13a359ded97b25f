/-
  Data that a call has laid in blocks of its own: slices of structs that hold slices. The grammar in plain words: what a reader of tokens makes of them, function by function.
-/
import Derived.Maps.AppendAt
import Derived.Laws.OwnMore
import Derived.Below
import Derived.Maps.OwnSet
import Derived.Test.YthndlfdbmljkhaaGreatDoorA
namespace Go.Proofs.YthndlfdbmljkhaaGreatDoor
open Go.RowKit Go.Maps
set_option linter.unusedVariables false
set_option linter.unusedSimpArgs false
/-- What a cell holds: a plain value, or a slice of elements of z cells each, of type e. -/
inductive Dat where
  | lit (v : Value)
  | row (e z : Nat) (l : List (List Dat))
def nilV : Value := .slice none 0 0
/-- In the world w the value v stands for a datum, by blocks of S alone. -/
inductive Holds (w : World) (S : Nat → Prop) : Dat → Value → Prop
  | lit (v : Value) : Holds w S (.lit v) v
  | row (e z : Nat) (l : List (List Dat)) (v : Value) (xs : List Value) : w.ownsRow 0 e z v l.length xs → (∀ i, v.ownBlock = some i → S i) → l.flatten.length = xs.length →
      (∀ k (hk : k < l.flatten.length), Holds w S (l.flatten[k]) (xs.getD k nilV)) → Holds w S (.row e z l) v
def HoldsL (w : World) (S : Nat → Prop) (ds : List Dat) (vs : List Value) : Prop := ds.length = vs.length ∧ ∀ k (hk : k < ds.length), Holds w S (ds[k]) (vs.getD k nilV)
theorem own_block_some {w : World} {base : Nat} {e : TypeId} {size : Nat} {v : Value} {n : Nat} {xs : List Value} (h : w.ownsRow base e size v n xs) {i : Nat} (hi : v.ownBlock = some i) : base ≤ i ∧ i < w.heap.size := by
  rcases h.2 with ⟨rfl, _⟩ | ⟨g, cap, cur, rfl, h1, h2, _⟩
  · simp [Value.ownBlock] at hi
  · simp [Value.ownBlock] at hi
    subst hi
    exact ⟨h1, (Array.getElem?_eq_some_iff.1 h2).1⟩
theorem owns_same {w w' : World} {base : Nat} {e : TypeId} {size : Nat} {v : Value} {n : Nat} {xs : List Value} (h : w.ownsRow base e size v n xs) (hb : ∀ i, v.ownBlock = some i → w'.heap[i]? = w.heap[i]?) : w'.ownsRow base e size v n xs := by
  refine ⟨h.1, ?_⟩
  rcases h.2 with h2 | ⟨g, cap, cur, rfl, h1, h2, h3⟩
  · exact Or.inl h2
  · exact Or.inr ⟨g, cap, cur, rfl, h1, (hb g rfl).trans h2, h3⟩
theorem owns_base {w : World} {base base' : Nat} {e : TypeId} {size : Nat} {v : Value} {n : Nat} {xs : List Value} (h : w.ownsRow base e size v n xs) (hb : ∀ i, v.ownBlock = some i → base' ≤ i) : w.ownsRow base' e size v n xs := by
  refine ⟨h.1, ?_⟩
  rcases h.2 with h2 | ⟨g, cap, cur, rfl, h1, h2, h3⟩
  · exact Or.inl h2
  · exact Or.inr ⟨g, cap, cur, rfl, hb g rfl, h2, h3⟩
theorem Holds.mono {w w' : World} {S S' : Nat → Prop} {d : Dat} {v : Value} (h : Holds w S d v) (hs : ∀ i, S i → i < w.heap.size → S' i ∧ w'.heap[i]? = w.heap[i]?) : Holds w' S' d v := by
  induction h with
  | lit v => exact .lit v
  | row e z l v xs h1 h2 h3 h4 ih =>
    exact .row e z l v xs (owns_same h1 fun i hi => (hs i (h2 i hi) (own_block_some h1 hi).2).2) (fun i hi => (hs i (h2 i hi) (own_block_some h1 hi).2).1) h3 (fun k hk => ih k hk)
theorem HoldsL.mono {w w' : World} {S S' : Nat → Prop} {ds : List Dat} {vs : List Value} (h : HoldsL w S ds vs) (hs : ∀ i, S i → i < w.heap.size → S' i ∧ w'.heap[i]? = w.heap[i]?) : HoldsL w' S' ds vs :=
  ⟨h.1, fun k hk => (h.2 k hk).mono hs⟩
theorem HoldsL.nil (w : World) (S : Nat → Prop) : HoldsL w S [] [] := ⟨rfl, fun k hk => by simp at hk⟩
theorem HoldsL.cons {w : World} {S : Nat → Prop} {d : Dat} {v : Value} {ds : List Dat} {vs : List Value} (h : Holds w S d v) (hl : HoldsL w S ds vs) : HoldsL w S (d :: ds) (v :: vs) := by
  refine ⟨by simp [hl.1], fun k hk => ?_⟩
  cases k with
  | zero => simpa using h
  | succ k => simpa using hl.2 k (by simpa using hk)
theorem HoldsL.head {w : World} {S : Nat → Prop} {d : Dat} {v : Value} {ds : List Dat} {vs : List Value} (h : HoldsL w S (d :: ds) (v :: vs)) : Holds w S d v ∧ HoldsL w S ds vs := by
  refine ⟨h.2 0 (by simp), by simpa using h.1, fun k hk => ?_⟩
  exact h.2 (k + 1) (by simpa using hk)
theorem HoldsL.append {w : World} {S : Nat → Prop} : ∀ {ds : List Dat} {vs : List Value} {es : List Dat} {us : List Value}, HoldsL w S ds vs → HoldsL w S es us → HoldsL w S (ds ++ es) (vs ++ us)
  | [], vs, es, us, h, k => by
    have : vs = [] := List.eq_nil_of_length_eq_zero h.1.symm
    subst this
    exact k
  | d :: ds, [], es, us, h, k => by simp [HoldsL] at h
  | d :: ds, v :: vs, es, us, h, k => by
    obtain ⟨h1, h2⟩ := h.head
    exact .cons h1 (h2.append k)
theorem HoldsL.lits (w : World) (S : Nat → Prop) : ∀ (vs : List Value), HoldsL w S (vs.map Dat.lit) vs
  | [] => .nil w S
  | v :: vs => .cons (.lit v) (lits w S vs)
/-- A slice that the call goes on appending to: its own block holds no part of its elements. -/
def Row (w : World) (S : Nat → Prop) (e z : Nat) (v : Value) (l : List (List Dat)) : Prop :=
  ∃ xs, w.ownsRow 0 e z v l.length xs ∧ (∀ i, v.ownBlock = some i → S i) ∧ HoldsL w (fun i => S i ∧ v.ownBlock ≠ some i) l.flatten xs
theorem Row.nil (w : World) (S : Nat → Prop) (e z : Nat) : Row w S e z (.slice none 0 0) [] :=
  ⟨[], World.ownsRow_nil w 0 e z, fun i hi => by simp [Value.ownBlock] at hi, .nil _ _⟩
theorem Row.holds {w : World} {S : Nat → Prop} {e z : Nat} {v : Value} {l : List (List Dat)} (h : Row w S e z v l) : Holds w S (.row e z l) v := by
  obtain ⟨xs, h1, h2, h3⟩ := h
  exact .row e z l v xs h1 h2 h3.1 (fun k hk => (h3.2 k hk).mono fun i hi _ => ⟨hi.1, rfl⟩)
theorem Row.mono {w w' : World} {S S' : Nat → Prop} {e z : Nat} {v : Value} {l : List (List Dat)} (h : Row w S e z v l) (hs : ∀ i, S i → i < w.heap.size → S' i ∧ w'.heap[i]? = w.heap[i]?) : Row w' S' e z v l := by
  obtain ⟨xs, h1, h2, h3⟩ := h
  refine ⟨xs, owns_same h1 fun i hi => (hs i (h2 i hi) (own_block_some h1 hi).2).2, fun i hi => (hs i (h2 i hi) (own_block_some h1 hi).2).1, h3.mono fun i hi hl => ?_⟩
  obtain ⟨a, b⟩ := hs i hi.1 hl
  exact ⟨⟨a, hi.2⟩, b⟩
theorem Row.shape {w : World} {S : Nat → Prop} {e z : Nat} {v : Value} {l : List (List Dat)} (h : Row w S e z v l) : ∃ p cap, v = .slice p l.length cap := by
  obtain ⟨xs, h1, _⟩ := h
  rcases h1.2 with ⟨h2, h3⟩ | ⟨g, cap, cur, h2, _⟩
  · exact ⟨none, 0, by rw [h2, h3]⟩
  · exact ⟨_, cap, h2⟩
/-- What an append leaves: the row with one element more, whose parts lie in other blocks than the row's own. -/
theorem Row.append {w w' : World} {S : Nat → Prop} {e z : Nat} {v v' : Value} {l : List (List Dat)} {xs us : List Value} {d : List Dat} (hx : HoldsL w (fun i => S i ∧ v.ownBlock ≠ some i) l.flatten xs) (hd : HoldsL w (fun i => S i ∧ v.ownBlock ≠ some i) d us)
    (ho : w'.ownsRow 0 e z v' (l.length + 1) (xs ++ us)) (hg : w.grownBy w' v.ownBlock) (hv : v'.ownBlock = v.ownBlock ∨ v'.ownBlock = some w.heap.size) (hS : ∀ i, v.ownBlock = some i → S i) :
    Row w' (fun i => S i ∨ i = w.heap.size) e z v' (l ++ [d]) := by
  refine ⟨xs ++ us, by simpa using ho, fun i hi => ?_, ?_⟩
  · rcases hv with h | h
    · exact .inl (hS i (h ▸ hi))
    · rw [h] at hi
      exact .inr (by simpa using hi.symm)
  · rw [List.flatten_append, show [d].flatten = d by simp]
    refine (hx.append hd).mono fun i hi hl => ⟨⟨.inl hi.1, ?_⟩, hg.block i hl fun h => hi.2 h.symm⟩
    rcases hv with h | h
    · rw [h]; exact hi.2
    · rw [h]; intro c; simp at c; omega
/-- But for the blocks of X all that was there is as it was. -/
structure Fr (X : Nat → Prop) (w w' : World) : Prop where
  os : w'.os = w.os
  tape : w'.tape = w.tape
  output : w'.output = w.output
  size : w.heap.size ≤ w'.heap.size
  block : ∀ k, k < w.heap.size → ¬ X k → w'.heap[k]? = w.heap[k]?
theorem Fr.refl (X : Nat → Prop) (w : World) : Fr X w w := ⟨rfl, rfl, rfl, Nat.le_refl _, fun _ _ _ => rfl⟩
theorem Fr.trans {X : Nat → Prop} {a b c : World} (h : Fr X a b) (k : Fr X b c) : Fr X a c :=
  ⟨k.os.trans h.os, k.tape.trans h.tape, k.output.trans h.output, Nat.le_trans h.size k.size, fun i hi hx => (k.block i (Nat.lt_of_lt_of_le hi h.size) hx).trans (h.block i hi hx)⟩
/-- What follows may turn new blocks besides. -/
theorem Fr.then {X Y : Nat → Prop} {a b c : World} (h : Fr X a b) (k : Fr Y b c) (hy : ∀ i, Y i → X i ∨ a.heap.size ≤ i) : Fr X a c :=
  ⟨k.os.trans h.os, k.tape.trans h.tape, k.output.trans h.output, Nat.le_trans h.size k.size, fun i hi hx => (k.block i (Nat.lt_of_lt_of_le hi h.size) fun q => by rcases hy i q with c | c <;> first | exact hx c | omega).trans (h.block i hi hx)⟩
theorem Fr.mono {X Y : Nat → Prop} {w w' : World} (h : Fr X w w') (k : ∀ i, X i → i < w.heap.size → Y i) : Fr Y w w' := ⟨h.os, h.tape, h.output, h.size, fun i hi hx => h.block i hi fun q => hx (k i q hi)⟩
theorem Fr.drew {X : Nat → Prop} {a w : World} (h : Fr X a w) : Fr X a w.drew := ⟨h.os, h.tape, h.output, h.size, h.block⟩
theorem Fr.alloc {X : Nat → Prop} {a w : World} (h : Fr X a w) (o : Obj) : Fr X a (w.alloc o) :=
  h.trans ⟨rfl, rfl, rfl, by simp, fun k hk _ => Below.heap_alloc _ _ _ hk⟩
theorem Fr.setCell {X : Nat → Prop} {a w : World} (h : Fr X a w) {p : Addr} (hp : X p.block ∨ a.heap.size ≤ p.block) (u : Value) : Fr X a (w.setCell p u) :=
  ⟨h.os, h.tape, h.output, by simpa [World.setCell] using h.size, fun k hk hx => (Below.heap_setCell _ _ _ _ (by rintro rfl; rcases hp with c | c <;> first | exact hx c | omega)).trans (h.block k hk hx)⟩
theorem Fr.grown {X : Nat → Prop} {a w w' : World} {row : Option Nat} (h : Fr X a w) (hg : w.grownBy w' row) (hr : ∀ k, row = some k → X k ∨ a.heap.size ≤ k) : Fr X a w' :=
  ⟨hg.os.trans h.os, hg.tape.trans h.tape, hg.output.trans h.output, Nat.le_trans h.size hg.size, fun i hi hx => (hg.block i (Nat.lt_of_lt_of_le hi h.size) fun q => by rcases hr i q.symm with c | c <;> first | exact hx c | omega).trans (h.block i hi hx)⟩
theorem Fr.below {w w' : World} (h : Fr (fun _ => False) w w') : Below w.heap.size w w' := ⟨h.os, h.tape, h.output, h.size, fun k hk => h.block k hk id⟩
theorem Fr.of_below {X : Nat → Prop} {w w' : World} (h : Below w.heap.size w w') : Fr X w w' := ⟨h.os, h.tape, h.output, h.size, fun k hk _ => h.block k hk⟩
end Go.Proofs.YthndlfdbmljkhaaGreatDoor
namespace Go.Proofs.YthndlfdbmljkhaaGreatDoor
open Go.ChangeShapes Go.WideShapes Go.ChangeAt Go.RowKit
set_option linter.unusedVariables false
set_option linter.unusedSimpArgs false
/-- Words that are kept, beside those of the relations. -/
def kpl : List (List UInt8) := [[97, 110, 100], [97, 110, 121], [101, 109, 105, 116], [105, 110, 116], [108, 97, 115, 116], [109, 97, 110, 121], [110, 111, 116], [111, 102], [111, 114], [111, 118, 101, 114], [114, 117, 108, 101], [116, 101, 120, 116], [116, 105, 109, 101], [116, 121, 112, 101], [119, 104, 101, 110], [119, 104, 101, 114, 101], [119, 105, 116, 104, 105, 110]]
/-- The words of the relations, by their numbers. -/
def rll : List (List UInt8) := [[98, 101, 102, 111, 114, 101], [97, 102, 116, 101, 114], [109, 101, 101, 116, 115], [109, 101, 116, 98, 121], [111, 118, 101, 114, 108, 97, 112, 115], [111, 118, 101, 114, 108, 97, 112, 112, 101, 100], [115, 116, 97, 114, 116, 115], [115, 116, 97, 114, 116, 101, 100, 98, 121], [100, 117, 114, 105, 110, 103], [99, 111, 110, 116, 97, 105, 110, 115], [102, 105, 110, 105, 115, 104, 101, 115], [102, 105, 110, 105, 115, 104, 101, 100, 98, 121], [101, 113, 117, 97, 108, 115]]
/-- The place of a word in a list, counted from 1 on; 0: it is not there. -/
def plc (s : List UInt8) : List (List UInt8) → Nat → Nat
  | [], _ => 0
  | x :: r, n => if s = x then n + 1 else plc s r (n + 1)
def rln (s : ByteArray) : Nat := plc s.data.toList rll 0
def kpt (s : ByteArray) : Bool := decide (s.data.toList ∈ kpl) || decide (s.data.toList ∈ rll)
/-- A reader of tokens: its place, how much is open, what is wrong. -/
structure St where
  i : Nat
  o : Nat
  e : Int
def St.adv (s : St) : St := ⟨s.i + 1, s.o, s.e⟩
def nxt (L : List Tk) (s : St) : Tk := if s.e = 0 then L.getD s.i no else no
def see (L : List Tk) (w : List UInt8) (s : St) : Bool := (decide ((nxt L s).k = 1) || decide ((nxt L s).k = 4)) && decide ((nxt L s).s.data.toList = w)
def fal (L : List Tk) (s : St) : St := if s.e = 0 then ⟨s.i, s.o, if s.i = L.length then 5 else 4⟩ else s
def wnt (L : List Tk) (w : List UInt8) (s : St) : St := if see L w s = true then s.adv else fal L s
def nam (L : List Tk) (s : St) : ByteArray × St := if (nxt L s).k = 1 ∧ kpt (nxt L s).s = false then ((nxt L s).s, s.adv) else (txt [], fal L s)
def num (L : List Tk) (s : St) : Int × St := if (nxt L s).k = 2 then ((nxt L s).n, s.adv) else (0, fal L s)
def rel (L : List Tk) (s : St) : Int × St := if (nxt L s).k = 1 ∧ rln (nxt L s).s ≠ 0 then ((rln (nxt L s).s : Int), s.adv) else (0, fal L s)
/-- Parts with a word between them. -/
def sep {α : Type} (L : List Tk) (w : List UInt8) (p : St → α × St) : Nat → St → List α → List α × St
  | 0, s, l => (l, s)
  | n + 1, s, l => if see L w s = true then sep L w p n (p s.adv).2 (l ++ [(p s.adv).1]) else (l, s)
def lst {α : Type} (L : List Tk) (w : List UInt8) (p : St → α × St) (s : St) : List α × St :=
  if see L w s = true then ([], s.adv) else ((sep L [44] p L.length (p s).2 [(p s).1]).1, wnt L w (sep L [44] p L.length (p s).2 [(p s).1]).2)
structure Opd where
  k : Int
  vk : Int
  vi : Int
  vt : ByteArray
  va : ByteArray
  fd : ByteArray
def opd0 : Opd := ⟨0, 0, 0, txt [], txt [], txt []⟩
def encO (o : Opd) : List Dat := [.lit (.int .i64 o.k), .lit (.int .i64 o.vk), .lit (.int .i64 o.vi), .lit (.string o.vt), .lit (.string o.va), .lit (.string o.fd)]
/-- A condition: its parts as data. -/
structure Cn where
  k : Int
  sb : List (List Dat)
  l : Opd
  r : Opd
def cn0 : Cn := ⟨0, [], opd0, opd0⟩
def encC (c : Cn) : List Dat := .lit (.int .i64 c.k) :: .row 63 14 c.sb :: (encO c.l ++ encO c.r)
def sde (L : List Tk) (s : St) : Opd × St :=
  if (nxt L s).k = 2 then (⟨1, 1, (nxt L s).n, txt [], txt [], txt []⟩, s.adv)
  else if (nxt L s).k = 3 then (⟨1, 2, 0, (nxt L s).s, txt [], txt []⟩, s.adv)
  else if see L [45] s = true then (⟨1, 1, -(num L s.adv).1, txt [], txt [], txt []⟩, (num L s.adv).2)
  else if see L [46] (nam L s).2 = true then (⟨3, 0, 0, txt [], (nam L s).1, (nam L (nam L s).2.adv).1⟩, (nam L (nam L s).2.adv).2)
  else (⟨2, 0, 0, txt [], txt [], (nam L s).1⟩, (nam L s).2)
/-- The marks of comparisons: what comes of each, and whether both sides change places. -/
def cml : List (List UInt8 × Int × Bool) := [([61], 4, false), ([47, 61], 5, false), ([60], 6, false), ([60, 61], 7, false), ([62], 6, true), ([62, 61], 7, true)]
def cmf (L : List Tk) (l : Opd) (s : St) : List (List UInt8 × Int × Bool) → Cn × St
  | [] => (cn0, fal L s)
  | c :: r => if see L c.1 s = true then (if c.2.2 = true then (⟨c.2.1, [], (sde L s.adv).1, l⟩, (sde L s.adv).2) else (⟨c.2.1, [], l, (sde L s.adv).1⟩, (sde L s.adv).2)) else cmf L l s r
def cmp (L : List Tk) (s : St) : Cn × St := cmf L (sde L s).1 (sde L s).2 cml
def one (k : Int) : List Cn → Cn
  | [c] => c
  | l => ⟨k, l.map encC, opd0, opd0⟩
def jnd (L : List Tk) (k : Int) (w : List UInt8) (p : St → Cn × St) (s : St) : Cn × St :=
  (one k (sep L w p L.length (p s).2 [(p s).1]).1, (sep L w p L.length (p s).2 [(p s).1]).2)
def orr (L : List Tk) (p : St → Cn × St) : St → Cn × St := jnd L 2 [111, 114] (jnd L 1 [97, 110, 100] p)
def opn (L : List Tk) (w : List UInt8) (s : St) : Bool × St := if see L w s = true then (if s.o = 7 then (false, ⟨s.i, s.o, 14⟩) else (true, ⟨s.i + 1, s.o + 1, s.e⟩)) else (false, s)
def cls (s : St) : St := ⟨s.i, s.o - 1, s.e⟩
/-- A condition without and, or; n: how many may be open yet. -/
def ntt (L : List Tk) : Nat → St → Cn × St
  | 0, s => cmp L (opn L [40] (opn L [110, 111, 116] s).2).2
  | n + 1, s =>
    if (opn L [110, 111, 116] s).1 = true then (⟨3, [encC (ntt L n (opn L [110, 111, 116] s).2).1], opd0, opd0⟩, cls (ntt L n (opn L [110, 111, 116] s).2).2)
    else if (opn L [40] (opn L [110, 111, 116] s).2).1 = true then ((orr L (ntt L n) (opn L [40] (opn L [110, 111, 116] s).2).2).1, cls (wnt L [41] (orr L (ntt L n) (opn L [40] (opn L [110, 111, 116] s).2).2).2))
    else cmp L (opn L [40] (opn L [110, 111, 116] s).2).2
structure Pt where
  va : ByteArray
  ty : ByteArray
  c : Cn
  w : Int
  n : Int
def encP (p : Pt) : List Dat := .lit (.string p.va) :: .lit (.string p.ty) :: (encC p.c ++ [.lit (.int .i64 p.w), .lit (.int .i64 p.n)])
def pat (L : List Tk) (s : St) : Pt × St :=
  let a := nam L s
  let b := nam L (wnt L [58] a.2)
  if see L [91] b.2 = true then
    let c := orr L (ntt L 7) b.2.adv
    (⟨a.1, b.1, c.1, 0, 0⟩, wnt L [93] c.2)
  else (⟨a.1, b.1, cn0, 0, 0⟩, b.2)
structure Op3 where
  r : Int
  lo : Int
  hi : Int
def encQ (o : Op3) : List Dat := [.lit (.int .i64 o.r), .lit (.int .i64 o.lo), .lit (.int .i64 o.hi)]
def opt (L : List Tk) (s : St) : Op3 × St :=
  let a := rel L s
  if see L [40] a.2 = true then
    let b := num L a.2.adv
    let c := wnt L [44] b.2
    if see L [97, 110, 121] c = true then (⟨a.1, b.1, -1⟩, wnt L [41] c.adv)
    else (⟨a.1, b.1, (num L c).1⟩, wnt L [41] (num L c).2)
  else (⟨a.1, 0, -1⟩, a.2)
structure Lk where
  l : ByteArray
  o : List Op3
  r : ByteArray
def encK (k : Lk) : List Dat := [.lit (.string k.l), .row 108 3 (k.o.map encQ), .lit (.string k.r)]
def lnk (L : List Tk) (s : St) : Lk × St :=
  let a := nam L s
  let b := opt L a.2
  let c := sep L [111, 114] (opt L) L.length b.2 [b.1]
  let d := nam L c.2
  (⟨a.1, c.1, d.1⟩, d.2)
structure Em where
  ty : ByteArray
  v : List Opd
def emt (L : List Tk) (s : St) : Em × St :=
  let a := nam L s
  let b := lst L [41] (sde L) (wnt L [40] a.2)
  (⟨a.1, b.1⟩, b.2)
structure Mn where
  c : Int
  f : ByteArray
  p : Pt
def encM (m : Mn) : List Dat := .lit (.int .i64 m.c) :: .lit (.string m.f) :: encP m.p
def mny (L : List Tk) (s : St) : Mn × St :=
  let a := num L s
  let b := if see L [111, 102] a.2 = true then nam L a.2.adv else (txt [], a.2)
  let c := pat L b.2
  let d := num L (wnt L [119, 105, 116, 104, 105, 110] c.2)
  (⟨a.1, b.1, ⟨c.1.va, c.1.ty, c.1.c, 1, d.1⟩⟩, d.2)
def whn (L : List Tk) (s : St) : Pt × St :=
  let p := pat L s
  if see L [111, 118, 101, 114] p.2 = true then
    let q : Int × St := if see L [116, 105, 109, 101] p.2.adv = true then (1, p.2.adv.adv) else if see L [108, 97, 115, 116] p.2.adv = true then (2, p.2.adv.adv) else (0, fal L p.2.adv)
    let d := num L q.2
    (⟨p.1.va, p.1.ty, p.1.c, q.1, d.1⟩, d.2)
  else p
structure Rl where
  n : ByteArray
  w : List Pt
  t : List Pt
  m : List Mn
  k : List Lk
  e : Em
def encR (r : Rl) : List Dat := [.lit (.string r.n), .row 65 18 (r.w.map encP), .row 65 18 (r.t.map encP), .row 68 20 (r.m.map encM), .row 103 3 (r.k.map encK), .lit (.string r.e.ty), .row 61 6 (r.e.v.map encO)]
def cla (L : List Tk) (u : Rl) (s : St) : Rl × St :=
  if see L [119, 104, 101, 110] s = true then ({ u with w := u.w ++ [(whn L s.adv).1] }, (whn L s.adv).2)
  else if see L [110, 111, 116] s = true then ({ u with t := u.t ++ [(pat L s.adv).1] }, (pat L s.adv).2)
  else if see L [109, 97, 110, 121] s = true then ({ u with m := u.m ++ [(mny L s.adv).1] }, (mny L s.adv).2)
  else if u.e.ty.data.toList = [] ∧ see L [101, 109, 105, 116] s = true then ({ u with e := (emt L s.adv).1 }, (emt L s.adv).2)
  else if see L [119, 104, 101, 114, 101] s = true then ({ u with k := u.k ++ [(lnk L s.adv).1] }, (lnk L s.adv).2)
  else (u, fal L s)
def rlp (L : List Tk) : Nat → Rl → St → Rl × St
  | 0, u, s => (u, s)
  | n + 1, u, s => if s.e = 0 then (if see L [125] s = true then (u, s.adv) else rlp L n (cla L u s).1 (wnt L [59] (cla L u s).2)) else (u, s)
def rle (L : List Tk) (s : St) : Rl × St := rlp L (L.length + 1) ⟨(nam L s).1, [], [], [], [], ⟨txt [], []⟩⟩ (wnt L [123] (nam L s).2)
structure Fd where
  n : ByteArray
  k : Int
def encF (f : Fd) : List Dat := [.lit (.string f.n), .lit (.int .i64 f.k)]
def fld (L : List Tk) (s : St) : Fd × St :=
  let a := nam L s
  let b := wnt L [58] a.2
  if see L [105, 110, 116] b = true then (⟨a.1, 1⟩, b.adv) else if see L [116, 101, 120, 116] b = true then (⟨a.1, 2⟩, b.adv) else (⟨a.1, 0⟩, fal L b)
structure Tp where
  n : ByteArray
  f : List Fd
def encY (t : Tp) : List Dat := [.lit (.string t.n), .row 93 2 (t.f.map encF)]
def typ (L : List Tk) (s : St) : Tp × St :=
  let a := nam L s
  let b := lst L [125] (fld L) (wnt L [123] a.2)
  (⟨a.1, b.1⟩, b.2)
structure Bk where
  t : List Tp
  r : List Rl
def encB (b : Bk) : List Dat := [.row 72 2 (b.t.map encY), .row 49 7 (b.r.map encR)]
def bkp (L : List Tk) : Nat → Bk → St → Bk × St
  | 0, b, s => (b, s)
  | n + 1, b, s =>
    if s.e = 0 ∧ s.i < L.length then
      (if see L [116, 121, 112, 101] s = true then bkp L n ⟨b.t ++ [(typ L s.adv).1], b.r⟩ (typ L s.adv).2
       else if see L [114, 117, 108, 101] s = true then bkp L n ⟨b.t, b.r ++ [(rle L s.adv).1]⟩ (rle L s.adv).2
       else bkp L n b (fal L s))
    else (b, s)
def bok (L : List Tk) : Bk × St := bkp L (L.length + 1) ⟨[], []⟩ ⟨0, 0, 0⟩
/-- The first token that may not be. -/
def tck : List Tk → Nat → Option (Nat × Int)
  | [], _ => none
  | t :: r, n => if tchk t = 0 then tck r (n + 1) else some (n, tchk t)
/-- What Parse tells. -/
def prs (L : List Tk) : Bk × Nat × Int :=
  if 700 < L.length then (⟨[], []⟩, 0, 8)
  else match tck L 0 with
    | some (i, e) => (⟨[], []⟩, i, e)
    | none => if (bok L).2.e = 0 then ((bok L).1, 0, 0) else (⟨[], []⟩, (bok L).2.i, (bok L).2.e)
end Go.Proofs.YthndlfdbmljkhaaGreatDoor
