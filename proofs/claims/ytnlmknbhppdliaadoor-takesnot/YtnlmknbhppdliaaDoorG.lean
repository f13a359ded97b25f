/-
  A reader does not go back, and closes what it opens; rows of data that a reader appends to. Tokens and raw tokens that came in, and the tables that the program's text lays: what lies in memory. Rows of tokens that the call owns; a copy of tokens that came in. What types of the program hold; a condition's cells. Parts of a condition with a word between them. Conditions, nested as deep as they may be. A pattern. Data that lie anywhere in memory and are only read; elements of rows, one by one. Words that are kept, as the reference has them. Names are found by their places; single faults, by the reference. Steps of regions that draw their order: a call, an append; a slice of one struct. Values and sides, by the reference. Sides and conditions, by the reference. Conditions, by the reference. Conditions within conditions, by the reference. Operations one by one: what each yields. Options, and fields that are summed up, by the reference. Does a rule speak of a type? By the reference. What comes of what, by the reference. A type, by the reference. The first elements of a row that is only read. What a rule emits, by the reference. A book, by the reference. A condition, by the reference. A pattern, by the reference. A link, by the reference. A rule, by the reference. A rule that is wrong at once, by the reference; every rule. A book, by the reference. Values, names, types and events in plain words.
-/
import Derived.Deep.Slices
import Derived.Deep.Strs
import Derived.Lib.SmallJoins
import Derived.MakeChecks
import Derived.FnData
import Derived.Deep.AppendLies
import Derived.Maps.OwnSet
import Derived.Maps.AppendAt
import Derived.Laws.OwnMore
import Derived.SizedLaws
import Derived.Deep.LoopGhost
import Derived.Defers
import Derived.RegionTactic
import Derived.Deep.RegionLaw
import Derived.Deep.RegionHeld3
import Derived.Shelf.Abstract
import Derived.Deep.CutBlock
import Derived.Test.YtnlmknbhppdliaaDoorRows
import Derived.Handy
import Derived.WalkSmall
import Derived.Deep.QuietTactic
import Derived.BigQuiet
import Derived.OwnWalk
import Derived.Lib.Bytealg
import Derived.Test.YtnlmknbhppdliaaDoorA
namespace Go.Proofs.YtnlmknbhppdliaaDoor
open Go.ChangeShapes Go.WideShapes Go.ChangeAt Go.RowKit Go.Maps
set_option linter.unusedVariables false
set_option linter.unusedSimpArgs false
end Go.Proofs.YtnlmknbhppdliaaDoor
namespace Go.Proofs.YtnlmknbhppdliaaDoor
open Go.ChangeShapes Go.WideShapes Go.ChangeAt Go.RowKit Go.Deep Go.Joins
open Go.ChangeMaps (open_string shut_string)
set_option linter.unusedVariables false
set_option linter.unusedSimpArgs false
set_option maxRecDepth 20000
variable {H : Type} {enc : TypeId × Value → H} {W : World} {base b0 : Nat} {r : Reach} {spare : Nat → Bool} {held : Bool} {v : Value} {d : DataW H} {p : List MemPlace}
end Go.Proofs.YtnlmknbhppdliaaDoor
namespace Go.Proofs.YtnlmknbhppdliaaDoor
open Go.ChangeShapes Go.WideShapes Go.ChangeAt Go.RowKit Go.Maps Go.Deep
set_option linter.unusedVariables false
set_option linter.unusedSimpArgs false
theorem zBP {w : World} {base : Nat} {e : TypeId} {size : Nat} {v : Value} {n : Nat} {xs : List Value} (h : w.ownsRow base e size v n xs) : ∃ p cap, v = .slice p n cap := by
  rcases h.2 with ⟨h1, h2⟩ | ⟨g, cap, cur, h1, _⟩
  . exact ⟨none, 0, by rw [h1, h2]⟩
  . exact ⟨_, cap, h1⟩
end Go.Proofs.YtnlmknbhppdliaaDoor
namespace Go.Proofs.YtnlmknbhppdliaaDoor
open Go.ChangeShapes Go.WideShapes Go.ChangeAt Go.RowKit Go.Maps
set_option linter.unusedVariables false
set_option linter.unusedSimpArgs false
abbrev zP : Value := .agg #[.string ByteArray.empty, .string ByteArray.empty, .int .i64 0, .slice none 0 0, .int .i64 0, .int .i64 0, .int .i64 0, .string ByteArray.empty, .string ByteArray.empty, .string ByteArray.empty, .int .i64 0, .int .i64 0, .int .i64 0, .string ByteArray.empty, .string ByteArray.empty, .string ByteArray.empty, .int .i64 0, .int .i64 0]
theorem infoP : (Tryd.prog.info? 47).map (fun i => (i.zero, i.size, i.bytes)) = some (some zP, 18, 224) := by kernel_rfl
abbrev ptC (a b : ByteArray) (k : Int) (v : Value) (l r : Opd) (w n : Int) : List Value := [.string a, .string b, .int .i64 k, v, .int .i64 l.k, .int .i64 l.vk, .int .i64 l.vi, .string l.vt, .string l.va, .string l.fd, .int .i64 r.k, .int .i64 r.vk, .int .i64 r.vi, .string r.vt, .string r.va, .string r.fd, .int .i64 w, .int .i64 n]
abbrev ptV (a b : ByteArray) (k : Int) (v : Value) (l r : Opd) (w n : Int) : Value := .agg #[.string a, .string b, .int .i64 k, v, .int .i64 l.k, .int .i64 l.vk, .int .i64 l.vi, .string l.vt, .string l.va, .string l.fd, .int .i64 r.k, .int .i64 r.vk, .int .i64 r.vi, .string r.vt, .string r.va, .string r.fd, .int .i64 w, .int .i64 n]
end Go.Proofs.YtnlmknbhppdliaaDoor
namespace Go.Proofs.YtnlmknbhppdliaaDoor.Chk
open Go.ChangeShapes Go.WideShapes Go.ChangeAt Go.RowKit Go.Maps
set_option linter.unusedVariables false
set_option linter.unusedSimpArgs false
set_option maxRecDepth 20000
inductive Rd (w : World) : Dat → Value → Prop
  | lit (v : Value) : Rd w (.lit v) v
  | nil (e z : Nat) (p : Option Addr) (cap : Nat) : cap ≤ maxLen → Rd w (.row e z []) (.slice p 0 cap)
  | row (e z : Nat) (l : List (List Dat)) (g off cap : Nat) (xs : List Value) : 0 < l.length → l.length ≤ cap → cap ≤ maxLen → w.rangeAt g off xs → l.flatten.length = xs.length →
      (∀ k (hk : k < l.flatten.length), Rd w (l.flatten[k]) (xs.getD k nilV)) → Rd w (.row e z l) (.slice (some ⟨g, off, none⟩) l.length cap)
theorem zAP {w w' : World} {g o : Nat} {l : List Value} (h : w.rangeAt g o l) (hb : Below w.heap.size w w') : w'.rangeAt g o l := fun j x hx => (hb.cell (p := ⟨g, o + j, none⟩) (World.block_lt_of_cell? _ _ (h j x hx))).trans (h j x hx)
theorem Rd.later {w w' : World} {d : Dat} {v : Value} (h : Rd w d v) (hb : Below w.heap.size w w') : Rd w' d v := by
  induction h with
  | lit v => exact .lit v
  | nil e z p cap h => exact .nil e z p cap h
  | row e z l g off cap xs h1 h2 h3 h4 h5 _ ih => exact .row e z l g off cap xs h1 h2 h3 (zAP h4 hb) h5 ih
def RdL (w : World) (ds : List Dat) (vs : List Value) : Prop := ds.length = vs.length ∧ ∀ k (hk : k < ds.length), Rd w (ds[k]) (vs.getD k nilV)
theorem RdL.below {w w' : World} {ds : List Dat} {vs : List Value} (h : RdL w ds vs) (hb : Below w.heap.size w w') : RdL w' ds vs := ⟨h.1, fun k hk => (h.2 k hk).later hb⟩
theorem RdL.none {w : World} {vs : List Value} (h : RdL w [] vs) : vs = [] := List.eq_nil_of_length_eq_zero h.1.symm
theorem RdL.one {w : World} {d : Dat} {ds : List Dat} {vs : List Value} (h : RdL w (d :: ds) vs) : ∃ v r, vs = v :: r ∧ Rd w d v ∧ RdL w ds r := by
  cases vs with
  | nil => have := h.1; simp at this
  | cons v r => exact ⟨v, r, rfl, h.2 0 (by simp), by simpa using h.1, fun k hk => h.2 (k + 1) (by simpa using hk)⟩
theorem RdL.nil (w : World) : RdL w [] [] := ⟨rfl, fun k hk => by simp at hk⟩
theorem RdL.cons {w : World} {d : Dat} {v : Value} {ds : List Dat} {vs : List Value} (h : Rd w d v) (hl : RdL w ds vs) : RdL w (d :: ds) (v :: vs) := by
  refine ⟨by simp [hl.1], fun k hk => ?_⟩
  cases k with
  | zero => exact h
  | succ k => exact hl.2 k (by simpa using hk)
theorem RdL.split {w : World} : ∀ {ds es : List Dat} {vs : List Value}, RdL w (ds ++ es) vs → ∃ us rs, vs = us ++ rs ∧ RdL w ds us ∧ RdL w es rs
 | [], es, vs, h => ⟨[], vs, rfl, RdL.nil w, h⟩
 | d :: ds, es, vs, h => by
  obtain ⟨v, r, rfl, h1, h2⟩ := RdL.one h
  obtain ⟨us, rs, rfl, h3, h4⟩ := RdL.split h2
  exact ⟨v :: us, rs, rfl, RdL.cons h1 h3, h4⟩
theorem RdL.drop {w : World} : ∀ (k : Nat) {ds : List Dat} {vs : List Value}, RdL w ds vs → RdL w (ds.drop k) (vs.drop k)
 | 0, ds, vs, h => by simpa using h
 | k + 1, [], vs, h => by rw [RdL.none h]; simpa using RdL.nil w
 | k + 1, d :: ds, vs, h => by
  obtain ⟨v, r, rfl, _, h2⟩ := RdL.one h
  simpa using RdL.drop k h2
theorem zAK {w : World} {v u : Value} (h : Rd w (.lit v) u) : u = v := by cases h; rfl
theorem zEZ {α : Type} {enc : α → List Dat} {z : Nat} (hz : ∀ x, (enc x).length = z) : ∀ (cs : List α) (k : Nat) (hk : k < cs.length), (cs.map enc).flatten.drop (k * z) = enc cs[k] ++ ((cs.drop (k + 1)).map enc).flatten
 | c :: r, 0, _ => by simp
 | c :: r, k + 1, hk => by
  have ih := zEZ hz r k (by simpa using hk)
  simp only [List.map_cons, List.flatten_cons, List.getElem_cons_succ, List.drop_succ_cons]
  rw [show (k + 1) * z = z + k * z by rw [Nat.add_mul, Nat.one_mul, Nat.add_comm], ← List.drop_drop, List.drop_left' (hz c)]
  exact ih
def At {α : Type} (enc : α → List Dat) (z : Nat) (w : World) (p : Option Addr) (cs : List α) : Prop := 0 < cs.length → ∃ g off, p = some ⟨g, off, none⟩ ∧ ∀ W, Below w.heap.size w W → ∀ k (hk : k < cs.length), ∃ us, W.rangeAt g (off + k * z) us ∧ RdL W (enc cs[k]) us
theorem zAG {α : Type} {enc : α → List Dat} {e z : Nat} (hz : ∀ x, (enc x).length = z) {w : World} {v : Value} {cs : List α} (h : Rd w (.row e z (cs.map enc)) v) : ∃ p cap, v = .slice p cs.length cap ∧ (cs.length : Int) ≤ 9223372036854775807 ∧ At enc z w p cs := by
 generalize hd : Dat.row e z (cs.map enc) = d at h
 cases h with
 | lit v => cases hd
 | nil e z p cap h1 =>
  simp only [Dat.row.injEq] at hd
  have h0 : cs.length = 0 := by have := congrArg List.length hd.2.2; simpa using this
  exact ⟨p, cap, by rw [h0], by rw [h0]; decide, fun hp => by omega⟩
 | row e' z' l g off cap xs h1 h2 h3 h4 h5 h6 =>
  simp only [Dat.row.injEq] at hd
  obtain ⟨rfl, rfl, rfl⟩ := hd
  rw [List.length_map] at h1 h2 ⊢
  refine ⟨_, cap, rfl, by unfold maxLen at h3; omega, fun _ => ⟨g, off, rfl, fun W hW k hk => ?_⟩⟩
  have hl : RdL w (cs.map enc).flatten xs := ⟨h5, h6⟩
  have hdr := RdL.drop (k * z) hl
  rw [zEZ hz cs k hk] at hdr
  obtain ⟨us, rs, e, q1, q2⟩ := RdL.split hdr
  refine ⟨us, zAP (fun j u hu => ?_) hW, q1.below hW⟩
  have hj : j < us.length := (List.getElem?_eq_some_iff.1 hu).1
  have h9 : xs[k * z + j]? = some u := by
   rw [← List.getElem?_drop, e, List.getElem?_append_left hj]
   exact hu
  have := h4 (k * z + j) u h9
  rw [← Nat.add_assoc] at this
  exact this
theorem rdP {w : World} {t : Pt} {vs : List Value} (h : RdL w (encP t) vs) : ∃ v, vs = ptC t.va t.ty t.c.k v t.c.l t.c.r t.w t.n ∧ Rd w (.row 33 14 t.c.sb) v := by
  obtain ⟨v0, r0, rfl, h0, h⟩ := RdL.one h
  obtain ⟨v1, r1, rfl, h1, h⟩ := RdL.one h
  obtain ⟨v2, r2, rfl, h2, h⟩ := RdL.one h
  obtain ⟨v3, r3, rfl, h3, h⟩ := RdL.one h
  obtain ⟨a0, r4, rfl, g0, h⟩ := RdL.one h
  obtain ⟨a1, r4, rfl, g1, h⟩ := RdL.one h
  obtain ⟨a2, r4, rfl, g2, h⟩ := RdL.one h
  obtain ⟨a3, r4, rfl, g3, h⟩ := RdL.one h
  obtain ⟨a4, r4, rfl, g4, h⟩ := RdL.one h
  obtain ⟨a5, r4, rfl, g5, h⟩ := RdL.one h
  obtain ⟨b0, r4, rfl, k0, h⟩ := RdL.one h
  obtain ⟨b1, r4, rfl, k1, h⟩ := RdL.one h
  obtain ⟨b2, r4, rfl, k2, h⟩ := RdL.one h
  obtain ⟨b3, r4, rfl, k3, h⟩ := RdL.one h
  obtain ⟨b4, r4, rfl, k4, h⟩ := RdL.one h
  obtain ⟨b5, r4, rfl, k5, h⟩ := RdL.one h
  obtain ⟨v4, r4, rfl, h4, h⟩ := RdL.one h
  obtain ⟨v5, r5, rfl, h5, h⟩ := RdL.one h
  rw [zAK h0, zAK h1, zAK h2, zAK g0, zAK g1, zAK g2, zAK g3, zAK g4, zAK g5, zAK k0, zAK k1, zAK k2, zAK k3, zAK k4, zAK k5, zAK h4, zAK h5, RdL.none h]
  exact ⟨v3, rfl, h3⟩
theorem rdF {w : World} {o : Fd} {vs : List Value} (h : RdL w (encF o) vs) : vs = [.string o.n, .int .i64 o.k] := by
  obtain ⟨v0, r0, rfl, h0, h⟩ := RdL.one h
  obtain ⟨v1, r1, rfl, h1, h⟩ := RdL.one h
  rw [zAK h0, zAK h1, RdL.none h]
theorem rdY {w : World} {t : Tp} {vs : List Value} (h : RdL w (encY t) vs) : ∃ v, vs = [.string t.n, v] ∧ Rd w (.row 69 2 (t.f.map encF)) v := by
  obtain ⟨v0, r0, rfl, h0, h⟩ := RdL.one h
  obtain ⟨v1, r1, rfl, h1, h⟩ := RdL.one h
  rw [zAK h0, RdL.none h]
  exact ⟨v1, rfl, h1⟩
theorem lenC (c : Cn) : (encC c).length = 14 := rfl
theorem lenP (c : Pt) : (encP c).length = 18 := rfl
theorem lenO (c : Opd) : (encO c).length = 6 := rfl
theorem lenM (c : Mn) : (encM c).length = 20 := rfl
theorem lenK (c : Lk) : (encK c).length = 3 := rfl
theorem lenQ (c : Op3) : (encQ c).length = 3 := rfl
theorem lenR (c : Rl) : (encR c).length = 7 := rfl
theorem lenY (c : Tp) : (encY c).length = 2 := rfl
theorem lenF (c : Fd) : (encF c).length = 2 := rfl
def ixq {α : Type} (q : α → Bool) : List α → Nat → Int
  | [], _ => -1
  | x :: r, n => if q x = true then (n : Int) else ixq q r (n + 1)
theorem zB2 {α : Type} {q : α → Bool} : ∀ (l : List α) (n k : Nat) (hk : k < l.length), (∀ j (hj : j < k), q (l[j]'(by omega)) = false) → q l[k] = true → ixq q l n = (n + k : Nat)
 | x :: r, n, 0, _, _, h => by simp only [List.getElem_cons_zero] at h; rw [ixq, if_pos h]; rfl
 | x :: r, n, k + 1, hk, h0, h => by
  have h1 : q x = false := h0 0 (by omega)
  rw [ixq, if_neg (by rw [h1]; decide), zB2 r (n + 1) k (by simpa using hk) (fun j hj => h0 (j + 1) (by omega)) h]
  simp only [Int.natCast_inj]
  omega
theorem zBL {α : Type} {q : α → Bool} : ∀ (l : List α) (n : Nat), (∀ x, x ∈ l → q x = false) → ixq q l n = -1
  | [], n, _ => rfl
  | x :: r, n, h => by rw [ixq, if_neg (by rw [h x (by simp)]; decide), zBL r (n + 1) fun y hy => h y (by simp [hy])]
theorem zBC {α : Type} {q : α → Bool} : ∀ (l : List α) (n : Nat), ixq q l n = -1 ∨ ∃ k : Nat, ∃ hk : k < l.length, ixq q l n = (n + k : Nat) ∧ q l[k] = true
 | [], n => .inl rfl
 | x :: r, n => by
  unfold ixq
  by_cases h : q x = true
  . rw [if_pos h]; exact .inr ⟨0, by simp, by simp, h⟩
  . rw [if_neg h]
    rcases zBC (q := q) r (n + 1) with c | ⟨k, hk, e, h2⟩
    . exact .inl c
    . exact .inr ⟨k + 1, by simpa using hk, by rw [e]; simp only [Int.natCast_inj]; omega, h2⟩
end Go.Proofs.YtnlmknbhppdliaaDoor.Chk
namespace Go.Proofs.YtnlmknbhppdliaaDoor
open Go.ChangeShapes Go.WideShapes Go.ChangeAt Go.RowKit
set_option linter.unusedVariables false
set_option linter.unusedSimpArgs false
end Go.Proofs.YtnlmknbhppdliaaDoor
namespace Go.Proofs.YtnlmknbhppdliaaDoor.Chk
open Go.ChangeShapes Go.WideShapes Go.ChangeAt Go.RowKit Go.Maps
set_option linter.unusedVariables false
set_option linter.unusedSimpArgs false
set_option maxRecDepth 20000
def seq (a b : ByteArray) : Bool := a.toList == b.toList
def tyq (ts : List Tp) (n : ByteArray) : Int := ixq (fun t => seq t.n n) ts 0
def ptq (l : List Pt) (n : ByteArray) : Int := ixq (fun p => seq p.va n) l 0
def fdq (fs : List Fd) (n : ByteArray) : Int := ixq (fun f => seq f.n n) fs 0
theorem zAN {B : Nat} {a w : World} (h : Below B a w) (n : Nat) : Below B a (w.drewN n) := h.trans ⟨rfl, rfl, rfl, Nat.le_refl _, fun _ _ => rfl⟩
def frn (s : ByteArray) : Int := if nchk s = 0 ∧ kpt s = true then 4 else nchk s
end Go.Proofs.YtnlmknbhppdliaaDoor.Chk
namespace Go.Proofs.YtnlmknbhppdliaaDoor
open Go.ChangeShapes Go.WideShapes Go.ChangeAt Go.RowKit Go.Maps
set_option linter.unusedVariables false
set_option linter.unusedSimpArgs false
end Go.Proofs.YtnlmknbhppdliaaDoor
namespace Go.Proofs.YtnlmknbhppdliaaDoor.Chk
open Go.ChangeShapes Go.WideShapes Go.ChangeAt Go.RowKit Go.Maps
set_option linter.unusedVariables false
set_option linter.unusedSimpArgs false
set_option maxRecDepth 20000
def emp (s : ByteArray) : Bool := s.toList == []
def vck (vk vi : Int) (vt : ByteArray) : Int :=
  if vk = 1 then (if emp vt = false then 4 else if -1125899906842624 ≤ vi ∧ vi ≤ 1125899906842624 then 0 else 2)
  else if vk = 2 then (if vi = 0 then (if 20 < vt.size then 1 else 0) else 4) else 3
theorem zC4 {s : ByteArray} (h : emp s = true) : s.toList = [] := by simpa [emp] using h
theorem zEL {s : ByteArray} (h : emp s = false) : ¬ s.toList = [] ∧ (s.toList == []) = false := ⟨by simpa [emp] using h, h⟩
def fck (fs : List Fd) (n : ByteArray) : Int × Int := if fdq fs n < 0 then (0, 6) else ((fs.getD (fdq fs n).toNat ⟨txt [], 0⟩).k, 0)
def tyOf (ts : List Tp) (kn : List Pt) (va : ByteArray) : Tp := ts.getD (tyq ts (kn.getD (ptq kn va).toNat ⟨txt [], txt [], cn0, 0, 0⟩).ty).toNat ⟨txt [], []⟩
def nzv (o : Opd) : Bool := !(decide (o.vk = 0) && decide (o.vi = 0) && emp o.vt)
def sdk (ts : List Tp) (kn : List Pt) (own : Tp) (o : Opd) : Int × Int :=
  if ¬ (1 ≤ o.k ∧ o.k ≤ 3) then (0, 3)
  else if o.k = 1 then (if emp o.va = false ∨ emp o.fd = false then (0, 4) else (o.vk, vck o.vk o.vi o.vt))
  else if o.k = 2 then (if emp o.va = false ∨ nzv o = true then (0, 4) else fck own.f o.fd)
  else (if ptq kn o.va < 0 then (0, 6) else if nzv o = true then (0, 4) else fck (tyOf ts kn o.va).f o.fd)
theorem zBG {P : Program} {ops : Array Oper} {Q : Exit → Act → World → Prop} {S : World → Prop} {id : Nat} {a : Act} {w : World} (n : Nat) (l : Array Bool) (hn : ops.size = n) (hl : Array.replicate n false = l) (hm : P.follows .mixedOrders = true) (hS : S w.drew)
  (h : S w.drew → wpAnyH P .any ops Q S n l a w.drew) : (Code.region id ops true).wp P Q a w := by
 subst hn hl
 exact wp_region_held_drew hm hS h
theorem zEB     {P : Program} {ops : Array Oper} {Q : Exit → Act → World → Prop} {md : Region.Mode} {S : World → Prop} {i : Nat} {d : _} {op : _} {t : _} {p : _} {af : _} {gd : _} {v : Value} {fuel : Nat} {listed : Array Bool} {a : Act} {w : World} (hi : ops[i]? = some (Oper.mk d op t p af gd))
    (hs : Region.noSelect ops = true) (hf : Region.free md ops listed i = true) (hr : (Region.ready md ops listed).contains i = true) (hQ : ∀ c a w, Q (.panic c) (a.put d v) w → Q (.panic c) a w) (hy : YieldsIf P ops S (Oper.mk d op t p af gd) v a) (hS : S w)
    (h : wpAnyH P md ops Q S fuel (listed.setIfInBounds i true) (a.put d v) w) : wpAnyH P md ops Q S (fuel + 1) listed a w := wpAnyH_take hi hs hf hr hQ hy hS h
theorem gLq {P : Program} {ops : Array Oper} {Q : Exit → Act → World → Prop} {d : _} {T : TypeId} {x : Operand} {t : _} {p : _} {af : _} {gd : _} {r : List Oper} {a : Act} {w : World} (h : wpList P ops Q (Oper.mk d (.load T x) t p af gd :: r) a w) : wpList P ops Q (Oper.mk d (.load T x) t p af gd :: r) a w := h
theorem gSq {P : Program} {ops : Array Oper} {Q : Exit → Act → World → Prop} {d : _} {T : TypeId} {x y : Operand} {t : _} {p : _} {af : _} {gd : _} {r : List Oper} {a : Act} {w : World} (h : wpList P ops Q (Oper.mk d (.store T x y) t p af gd :: r) a w) : wpList P ops Q (Oper.mk d (.store T x y) t p af gd :: r) a w := h
theorem puts : (∀ (a : Act) (i : Nat) (v : Value), a.put (some i) v = { a with tmps := a.tmps.setIfInBounds i v }) ∧ (∀ (a : Act) (v : Value), a.put none v = a) ∧ (∀ (l : List Value) (i : Nat) (v : Value), l.toArray.setIfInBounds i v = (l.set i v).toArray) ∧ (∀ (x y : Value) (l : List Value), (x :: l).set 0 y = y :: l) ∧ (∀ (x y : Value) (l : List Value) (n : Nat), (x :: l).set (n + 1) y = x :: l.set n y) :=
  ⟨fun _ _ _ => rfl, fun _ _ => rfl, fun _ _ _ => by simp, fun _ _ _ => rfl, fun _ _ _ _ => rfl⟩
theorem tlq {P : Program} {ops : Array Oper} {Q : Exit → Act → World → Prop} {md : Region.Mode} {S : World → Prop} {i : Nat} {d : _} {op : _} {t : _} {p : _} {af : _} {gd : _} {v : Value} {fuel : Nat} {listed : Array Bool} {a : Act} {w : World} (hi : ops[i]? = some (Oper.mk d op t p af gd)) (hy : YieldsIf P ops S (Oper.mk d op t p af gd) v a)
    (h : wpAnyH P md ops Q S fuel (listed.setIfInBounds i true) (a.put d v) w) (hs : Region.noSelect ops = true := by kernel_rfl) (hf : Region.free md ops listed i = true := by kernel_rfl) (hr : (Region.ready md ops listed).contains i = true := by kernel_rfl) (hQ : ∀ c a w, Q (.panic c) (a.put d v) w → Q (.panic c) a w := by exact fun _ _ _ h => h) (hS : S w := by assumption) : wpAnyH P md ops Q S (fuel + 1) listed a w := zEB hi hs hf hr hQ hy hS h
theorem tkq {P : Program} {ops : Array Oper} {Q : Exit → Act → World → Prop} {md : Region.Mode} {S : World → Prop} {i : Nat} {d : _} {op : _} {t : _} {p : _} {af : _} {gd : _} {v : Value} {fuel : Nat} {listed : Array Bool} {a : Act} {w : World} (hi : ops[i]? = some (Oper.mk d op t p af gd)) (hy : ∀ w, S w → (execOp a.eval (Oper.mk d op t p af gd)).run P w = .ok (.value v) w)
    (h : wpAnyH P md ops Q S fuel (listed.setIfInBounds i true) (a.put d v) w) (hw : Region.wanted (Oper.mk d op t p af gd) (yielded ops a.tmps) = true := by rfl) (hs : Region.noSelect ops = true := by kernel_rfl) (hf : Region.free md ops listed i = true := by kernel_rfl) (hr : (Region.ready md ops listed).contains i = true := by kernel_rfl) (hQ : ∀ c a w, Q (.panic c) (a.put d v) w → Q (.panic c) a w := by exact fun _ _ _ h => h) (hS : S w := by assumption) : wpAnyH P md ops Q S (fuel + 1) listed a w := zEB hi hs hf hr hQ (Or.inl ⟨hw, hy⟩) hS h
theorem zAQ     {P : Program} {ops : Array Oper} {Q : Exit → Act → World → Prop} {md : Region.Mode} {S : World → Prop} {i : Nat} {d : _} {op : _} {t : _} {p : _} {af : _} {gd : _} {fuel : Nat} {listed : Array Bool} {a : Act} {w : World} {rs : List Nat} (ho : ops[i]? = some (Oper.mk d op t p af gd))
    (h : ∀ K' : Act → World → Prop, Shut (∀ a w, S w → (S w → wpAnyH P md ops Q S fuel (listed.setIfInBounds i true) a w) → K' a w) → if Region.wanted (Oper.mk d op t p af gd) (yielded ops a.tmps) = true then Oper.wp P (Oper.mk d op t p af gd) a w K' Q else K' (a.put d undef) w)
    (hs : AllReadyH P md ops Q S fuel listed a w rs) : AllReadyH P md ops Q S fuel listed a w (i :: rs) := AllReadyH.cons ho h hs
def zBR (ts : List Tp) (kn : List Pt) : Prop := ∀ j (hj : j < kn.length), ∃ i, ∃ _ : i < ts.length, tyq ts kn[j].ty = (i : Int)
def eqz (o : Opd) : Bool := decide (o.k = 0) && decide (o.vk = 0) && decide (o.vi = 0) && emp o.vt && emp o.va && emp o.fd
def noc (c : Cn) : Bool := decide (c.k = 0) && decide (c.sb.length = 0) && eqz c.l && eqz c.r
def decO : List Dat → Option Opd
  | [.lit (.int .i64 a), .lit (.int .i64 b), .lit (.int .i64 c), .lit (.string x), .lit (.string y), .lit (.string z)] => some ⟨a, b, c, x, y, z⟩
  | _ => none
def decC : List Dat → Option Cn
  | .lit (.int .i64 k) :: .row _ _ sb :: rest => (match decO (rest.take 6), decO (rest.drop 6) with | some l, some r => some ⟨k, sb, l, r⟩ | _, _ => none)
  | _ => none
theorem decC_enc (c : Cn) : decC (encC c) = some c := rfl
def subs (c : Cn) : List Cn := c.sb.filterMap decC
theorem zH1 : ∀ cs : List Cn, (cs.map encC).filterMap decC = cs
  | [] => rfl
  | x :: r => by rw [List.map_cons, List.filterMap_cons, decC_enc, zH1 r]
theorem zFN {c : Cn} {cs : List Cn} (h : c.sb = cs.map encC) : subs c = cs := by
  unfold subs
  rw [h]
  exact zH1 cs
def cgo (f : Cn → Int × Int) : List Cn → Int → Int × Int
  | [], m => (m, 0)
  | x :: r, m => if (f x).2 ≠ 0 then (0, (f x).2) else if 12 < m + (f x).1 then (0, 1) else cgo f r (m + (f x).1)
def cdk (ts : List Tp) (kn : List Pt) (own : Tp) : Nat → Cn → Int × Int
  | 0, c => if 1 ≤ c.k ∧ c.k ≤ 7 then (0, 14) else (0, 3)
  | n + 1, c =>
    if ¬ (1 ≤ c.k ∧ c.k ≤ 7) then (0, 3)
    else if 3 < c.k then
      (if c.sb.length ≠ 0 then (0, 4)
       else if (sdk ts kn own c.l).2 ≠ 0 then (0, (sdk ts kn own c.l).2)
       else if (sdk ts kn own c.r).2 ≠ 0 then (0, (sdk ts kn own c.r).2)
       else if (sdk ts kn own c.l).1 ≠ (sdk ts kn own c.r).1 then (0, 13) else (1, 0))
    else if eqz c.l = false ∨ eqz c.r = false then (0, 4)
    else if (c.k = 3 ∧ c.sb.length ≠ 1) ∨ (c.k ≠ 3 ∧ c.sb.length < 2) then (0, 4)
    else cgo (cdk ts kn own n) (subs c) 0
structure Blk2 (w0 w : World) (us vs : List Value) (t1 t2 : TypeId) : Prop where
  bel : Below w0.heap.size w0 w
  b1 : w.heap[w0.heap.size]? = some (.cells us.toArray t1 (0, 0))
  b2 : w.heap[w0.heap.size + 1]? = some (.cells vs.toArray t2 (0, 0))
theorem Blk2.start (w : World) (us vs : List Value) (t1 t2 : TypeId) : Blk2 w ((w.alloc (.cells us.toArray t1)).alloc (.cells vs.toArray t2)) us vs t1 t2 :=
  ⟨((Below.refl _ _).alloc (Nat.le_refl _) _).alloc (by simp) _, (Below.heap_alloc _ _ _ (by simp)).trans (heap_alloc_new _ _), zC0 _ _ _⟩
section
variable {w0 w w' : World} {us vs : List Value} {t1 t2 : TypeId}
theorem Blk2.next (h : Blk2 w0 w us vs t1 t2) (hb : Below w.heap.size w w') : Blk2 w0 w' us vs t1 t2 := ⟨zAA h.bel hb h.bel.size, (hb.block _ (zAE h.b1)).trans h.b1, (hb.block _ (zAE h.b2)).trans h.b2⟩
theorem Blk2.drew (h : Blk2 w0 w us vs t1 t2) : Blk2 w0 w.drew us vs t1 t2 := ⟨h.bel.drew, h.b1, h.b2⟩
theorem Blk2.alloc (h : Blk2 w0 w us vs t1 t2) (o : Obj) : Blk2 w0 (w.alloc o) us vs t1 t2 := h.next ((Below.refl _ _).alloc (Nat.le_refl _) _)
theorem Blk2.c1 (h : Blk2 w0 w us vs t1 t2) (j : Nat) : w.cell? ⟨w0.heap.size, j, none⟩ = us[j]? := by rw [zAD h.b1]; simp
theorem Blk2.c2 (h : Blk2 w0 w us vs t1 t2) (j : Nat) : w.cell? ⟨w0.heap.size + 1, j, none⟩ = vs[j]? := by rw [zAD h.b2]; simp
end
theorem hid {p : Prop} (h : p) : Hid p := h
def CR (w : World) (r : Int × Int) (e : Ending) (w' : World) : Prop := ∃ m : Int, e = .returned (.tuple #[.int .i64 m, .int .i64 r.2]) ∧ (r.2 = 0 → m = r.1) ∧ Below w.heap.size w w'
theorem zE9 (f : Cn → Int × Int) (hf : ∀ x, 0 ≤ (f x).1 ∧ (f x).1 ≤ 12) : ∀ l m, 0 ≤ m ∧ m ≤ 12 → 0 ≤ (cgo f l m).1 ∧ (cgo f l m).1 ≤ 12
 | [], m, h => h
 | x :: r, m, h => by
  unfold cgo
  split
  . exact ⟨by simp, by simp⟩
  . split
    . exact ⟨by simp, by simp⟩
    . rename_i c
      exact zE9 f hf r _ ⟨by have := (hf x).1; omega, by omega⟩
theorem zER (ts : List Tp) (kn : List Pt) (own : Tp) : ∀ n c, 0 ≤ (cdk ts kn own n c).1 ∧ (cdk ts kn own n c).1 ≤ 12
 | 0, c => by unfold cdk; split <;> exact ⟨by simp, by simp⟩
 | n + 1, c => by
  unfold cdk
  repeat' split
  all_goals first
   | exact zE9 _ (zER ts kn own n) _ _ ⟨by decide, by decide⟩
   | exact ⟨by simp, by simp⟩
theorem zCU {w : World} {c : Cn} {vs : List Value} (h : RdL w (encC c) vs) : ∃ v, vs = cnC c.k v c.l c.r ∧ Rd w (.row 33 14 c.sb) v := by
  obtain ⟨v2, r2, rfl, h2, h⟩ := RdL.one h
  obtain ⟨v3, r3, rfl, h3, h⟩ := RdL.one h
  obtain ⟨a0, r4, rfl, g0, h⟩ := RdL.one h
  obtain ⟨a1, r4, rfl, g1, h⟩ := RdL.one h
  obtain ⟨a2, r4, rfl, g2, h⟩ := RdL.one h
  obtain ⟨a3, r4, rfl, g3, h⟩ := RdL.one h
  obtain ⟨a4, r4, rfl, g4, h⟩ := RdL.one h
  obtain ⟨a5, r4, rfl, g5, h⟩ := RdL.one h
  obtain ⟨b0, r4, rfl, k0, h⟩ := RdL.one h
  obtain ⟨b1, r4, rfl, k1, h⟩ := RdL.one h
  obtain ⟨b2, r4, rfl, k2, h⟩ := RdL.one h
  obtain ⟨b3, r4, rfl, k3, h⟩ := RdL.one h
  obtain ⟨b4, r4, rfl, k4, h⟩ := RdL.one h
  obtain ⟨b5, r4, rfl, k5, h⟩ := RdL.one h
  rw [zAK h2, zAK g0, zAK g1, zAK g2, zAK g3, zAK g4, zAK g5, zAK k0, zAK k1, zAK k2, zAK k3, zAK k4, zAK k5, RdL.none h]
  exact ⟨v3, rfl, h3⟩
section
variable {P : Program} {o : Oper} {a : Act} {w : World} {K : Act → World → Prop} {Q : Exit → Act → World → Prop}
theorem zAZ (v : Value) (h : (execOp a.eval o).run P w = .ok (.value v) w) (hk : K (a.put o.dst v) w) : Oper.wp P o a w K Q := by
  unfold Oper.wp
  rw [h]
  exact hk
theorem zEA (t : TypeId) (parts : Array (Nat × Operand)) (ho : o.op = .build t parts) (vals : Array (Nat × Value)) (hp : (parts.map fun x => (x.1, a.eval x.2)) = vals) (v : Value) (hv : (Instr.build t vals).run P w = .ok v w) (hk : K (a.put o.dst v) w) : Oper.wp P o a w K Q := by
  unfold Oper.wp execOp
  simp only [ho, Sem.run_bind, hp, hv, Result.andThen_ok, Sem.run_pure]
  exact hk
theorem zDZ (t : TypeId) (n : Nat) (parts : Array (Nat × Operand)) (ho : o.op = .buildSlice t n parts) (vals : Array (Nat × Value)) (hp : (parts.map fun x => (x.1, a.eval x.2)) = vals) (v : Value) (w' : World) (hv : (Instr.buildSlice t n vals).run P w = .ok v w') (hk : K (a.put o.dst v) w') : Oper.wp P o a w K Q := by
  unfold Oper.wp execOp
  simp only [ho, Sem.run_bind, hp, hv, Result.andThen_ok, Sem.run_pure]
  exact hk
theorem zFT (x : Operand) (ho : o.op = .move x ∨ o.op = .assign x) (v : Value) (hx : a.eval x = v) (hk : K (a.put o.dst v) w) : Oper.wp P o a w K Q := by
  unfold Oper.wp execOp
  rcases ho with ho | ho <;> (simp only [ho, hx, Sem.run_bind, Sem.run_pure, Result.andThen_ok]; exact hk)
theorem zDX (ty : TypeId) (x : Operand) (ho : o.op = .load ty x) (b f : Nat) (hx : a.eval x = .pointer (some ⟨b, f, none⟩)) (cs : List Value) (d : TypeDesc) (hc : w.rangeAt b f cs) (hu : P.underlying ty = some d) (hd : d.isRow = true) (hi : (P.info? ty).map (·.size) = some cs.length) (hk : K (a.put o.dst (.agg cs.toArray)) w) : Oper.wp P o a w K Q :=
  wp_load_mid ty x ho b f hx cs d hc hu hd hi hk
theorem op_st (ty : TypeId) (x y : Operand) (ho : o.op = .store ty x y) (b f : Nat) (cs : List Value) (U : TypeId) (v : Value) (vs : List Value) (hx : a.eval x = .pointer (some ⟨b, f, none⟩)) (hy : a.eval y = v) (hv : v.cells = vs.toArray) (hb : w.heap[b]? = some (.cells cs.toArray U (0, 0)))
  (hl : f + vs.length ≤ cs.length) (hi : (P.info? ty).map (·.size) = some vs.length) (h1 : vs.all (·.oneCell') = true)
  (h : ∀ w', w'.heap[b]? = some (.cells (ovr cs f vs).toArray U (0, 0)) → Fr (fun i => i = b) w w' → K (a.put o.dst undef) w') : Oper.wp P o a w K Q := by
 unfold Oper.wp execOp
 simp only [ho, hx, hy, Instr.storeAt, Instr.sureAddr, Sem.run_bind, Sem.run_pure, Result.andThen_ok, zFU w b f ty v vs.toArray hv (zB8 hb f _ (by simpa using hl)) (by simpa using hi) (all_oneCell_toArray (List.all_eq_true.1 h1))]
 exact h _ (zB6 vs f cs w hb hl) ((Fr.refl (fun i => i = b) w).setCells (.inl rfl))
theorem op_al (t : TypeId) (ho : o.op = .alloc t) (zs : List Value) (hz : (Instr.alloc t true (.tuple #[])).run P w = .ok (.pointer (some ⟨w.heap.size, 0, none⟩)) (w.alloc (.cells zs.toArray t))) (hk : K (a.put o.dst (.pointer (some ⟨w.heap.size, 0, none⟩))) (w.alloc (.cells zs.toArray t))) : Oper.wp P o a w K Q := by
  unfold Oper.wp execOp
  simp only [ho, Sem.run_bind, hz, Result.andThen_ok, Sem.run_pure]
  exact hk
theorem zAF.cons {f : Nat → Oper → Prop} {k : Nat} {x : Oper} {l : List Oper} (h : f k x) (r : zAF f (k + 1) l) : zAF f k (x :: l) := ⟨h, r⟩
theorem zAF.nil {f : Nat → Oper → Prop} {k : Nat} : zAF f k [] := trivial
theorem zB9 (f : FuncId) (he : ∀ args w, (callFunc f args).run P w = .ok (.enter f args) w) (xs : Array Operand) (ts : Array TypeId) (ho : o.op = .call { callee := .value (.func f), args := xs, argTypes := ts }) (us : Array Value) (hx : xs.map a.eval = us) (R : Ending → World → Prop) (hc : Calls P f us w R) (h : ∀ e w', R e w' → ∃ v, e = .returned v ∧ K (a.put o.dst v) w') : Oper.wp P o a w K Q := by
  unfold Oper.wp execOp
  have hf : a.eval (.func f) = Value.func (Fn.func f) #[] #[] := rfl
  simp [ho, resolve, invoke, Deferred.ofValue, hf, hx, he]
  refine hc.mono ?_
  intro e w' hr
  obtain ⟨v, rfl, hk⟩ := h e w' hr
  exact hk
end
theorem zF0 {P : Program} {ops : Array Oper} {rest : List Oper} {op : Oper} {a : Act} {w : World} {Q : Exit → Act → World → Prop} (hgd : op.guard = none) (t : TypeId) (parts : Array (Nat × Operand)) (ho : op.op = .build t parts) (vals : Array (Nat × Value)) (hp : (parts.map fun x => (x.1, a.eval x.2)) = vals) (v : Value) (hv : ∀ w, (Instr.build t vals).run P w = .ok v w)
  (h : wpList P ops Q rest (a.put op.dst v) w) : wpList P ops Q (op :: rest) a w :=
 wpList_plain hgd fun K hK => by
  unfold Oper.wp execOp
  simp only [ho, Sem.run_bind, hp, hv, Result.andThen_ok, Sem.run_pure]
  exact hK _ _ h
theorem ev_c (a : Act) (v : Value) : a.eval (.const v) = v := rfl
structure Hp (w0 W : World) (l : List (Nat × List Value × TypeId)) : Prop where
  bel : Below w0.heap.size w0 W
  b : ∀ i (hi : i < l.length), W.heap[l[i].1]? = some (.cells l[i].2.1.toArray l[i].2.2 (0, 0))
theorem Hp.next {w0 W W' : World} {l : List (Nat × List Value × TypeId)} (h : Hp w0 W l) (hb : Below W.heap.size W W') : Hp w0 W' l := ⟨zAA h.bel hb h.bel.size, fun i hi => (hb.block _ (zAE (h.b i hi))).trans (h.b i hi)⟩
theorem Hp.add {w0 W W' : World} {l : List (Nat × List Value × TypeId)} (h : Hp w0 W l) (hb : Below W.heap.size W W') {b : Nat} {cs : List Value} {t : TypeId} (hn : W'.heap[b]? = some (.cells cs.toArray t (0, 0))) : Hp w0 W' (l ++ [(b, cs, t)]) := by
 refine ⟨(h.next hb).bel, fun i hi => ?_⟩
 by_cases c : i < l.length
 . rw [List.getElem_append_left c]; exact (h.next hb).b i c
 . obtain rfl : i = l.length := by simp at hi; omega
   simpa using hn
theorem Hp.r {w0 W : World} {l : List (Nat × List Value × TypeId)} (h : Hp w0 W l) (i : Nat) (hi : i < l.length) : W.rangeAt l[i].1 0 l[i].2.1 := zAJ (h.b i hi)
theorem Hp.c {w0 W : World} {l : List (Nat × List Value × TypeId)} (h : Hp w0 W l) (i : Nat) (hi : i < l.length) (j : Nat) : W.cell? ⟨l[i].1, j, none⟩ = l[i].2.1[j]? := by rw [zAD (h.b i hi)]; simp
theorem zAT {w : World} : ∀ (vs : List Value), RdL w (vs.map Dat.lit) vs
  | [] => RdL.nil _
  | v :: r => .cons (.lit _) (zAT r)
def ock (r lo hi : Int) : Int := if ¬ (1 ≤ r ∧ r ≤ 13) then 3 else if ¬ (0 ≤ lo ∧ lo ≤ 1073741824) ∨ ¬ (-1 ≤ hi ∧ hi ≤ 1073741824) then 2 else if hi ≠ -1 ∧ hi < lo then 11 else 0
def sck (fs : List Fd) (n : ByteArray) : Int := if (fck fs n).2 ≠ 0 then 6 else if (fck fs n).1 = 1 then 0 else 13
structure BlkT (w0 w : World) (us : List Value) (t : TypeId) : Prop where
  bel : Below w0.heap.size w0 w
  b1 : w.heap[w0.heap.size]? = some (.cells us.toArray t (0, 0))
theorem BlkT.start (w : World) (us : List Value) (t : TypeId) : BlkT w (w.alloc (.cells us.toArray t)) us t := ⟨(Below.refl _ _).alloc (Nat.le_refl _) _, heap_alloc_new _ _⟩
theorem BlkT.next {w0 w w' : World} {us : List Value} {t : TypeId} (h : BlkT w0 w us t) (hb : Below w.heap.size w w') : BlkT w0 w' us t := ⟨zAA h.bel hb h.bel.size, (hb.block _ (zAE h.b1)).trans h.b1⟩
theorem BlkT.c {w0 w : World} {us : List Value} {t : TypeId} (h : BlkT w0 w us t) (j : Nat) : w.cell? ⟨w0.heap.size, j, none⟩ = us[j]? := by rw [zAD h.b1]; simp
theorem rdM {w : World} {m : Mn} {vs : List Value} (h : RdL w (encM m) vs) : ∃ us, vs = .int .i64 m.c :: .string m.f :: us ∧ RdL w (encP m.p) us := by
  obtain ⟨v0, r0, rfl, h0, h⟩ := RdL.one h
  obtain ⟨v1, r1, rfl, h1, h⟩ := RdL.one h
  rw [zAK h0, zAK h1]
  exact ⟨r1, rfl, h⟩
def spk (ws ns : List Pt) (ms : List Mn) (n : ByteArray) : Bool := ws.any (fun p => seq p.ty n) || ns.any (fun p => seq p.ty n) || ms.any (fun m => seq m.p.ty n)
theorem rdR {w : World} {r : Rl} {vs : List Value} (h : RdL w (encR r) vs) : ∃ v1 v2 v3 v4 v5, vs = [.string r.n, v1, v2, v3, v4, .string r.e.ty, v5] ∧ Rd w (.row 47 18 (r.w.map encP)) v1 ∧ Rd w (.row 47 18 (r.t.map encP)) v2 ∧ Rd w (.row 87 20 (r.m.map encM)) v3 ∧ Rd w (.row 127 3 (r.k.map encK)) v4 ∧ Rd w (.row 31 6 (r.e.v.map encO)) v5 := by
  obtain ⟨v0, r0, rfl, h0, h⟩ := RdL.one h
  obtain ⟨v1, r1, rfl, h1, h⟩ := RdL.one h
  obtain ⟨v2, r2, rfl, h2, h⟩ := RdL.one h
  obtain ⟨v3, r3, rfl, h3, h⟩ := RdL.one h
  obtain ⟨v4, r4, rfl, h4, h⟩ := RdL.one h
  obtain ⟨v5, r5, rfl, h5, h⟩ := RdL.one h
  obtain ⟨v6, r6, rfl, h6, h⟩ := RdL.one h
  rw [zAK h0, zAK h5, RdL.none h]
  exact ⟨v1, v2, v3, v4, v6, rfl, h1, h2, h3, h4, h6⟩
def cmo (rs : List Rl) (tt : ByteArray) : Nat → ByteArray → Bool
  | 0, _ => false
  | n + 1, nm => rs.any fun x => !(emp x.e.ty) && (spk x.w x.t x.m nm && (seq x.e.ty tt || cmo rs tt n x.e.ty))
def fdk (f : Fd) : Int := if nchk f.n ≠ 0 then nchk f.n else if 1 ≤ f.k ∧ f.k ≤ 2 then 0 else 3
def tfs (done : List Fd) : List Fd → Int
  | [] => 0
  | f :: r => if fdk f ≠ 0 then fdk f else if done.any (fun d => seq d.n f.n) = true then 7 else tfs (done ++ [f]) r
def tyk (n : ByteArray) (fs : List Fd) : Int := if nchk n ≠ 0 then nchk n else if 4 < fs.length then 1 else tfs [] fs
end Go.Proofs.YtnlmknbhppdliaaDoor.Chk
namespace Go.Proofs.YtnlmknbhppdliaaDoor.Chk
open Go.ChangeShapes Go.WideShapes Go.ChangeAt Go.RowKit Go.Maps
set_option linter.unusedVariables false
set_option linter.unusedSimpArgs false
theorem zH7 {α : Type} {enc : α → List Dat} (cs : List α) (k : Nat) : ∃ r, (cs.map enc).flatten = ((cs.take k).map enc).flatten ++ r := ⟨((cs.drop k).map enc).flatten, by rw [← List.flatten_append, ← List.map_append, List.take_append_drop]⟩
theorem rd_take {α : Type} {enc : α → List Dat} {e z : Nat} {w : World} {p : Option Addr} {n cap : Nat} {cs : List α} (h : Rd w (.row e z (cs.map enc)) (.slice p n cap)) (k : Nat) (hk : k ≤ cs.length) : Rd w (.row e z ((cs.take k).map enc)) (.slice p k cap) := by
 generalize hd : Dat.row e z (cs.map enc) = d at h
 generalize hv : Value.slice p n cap = v at h
 cases h with
 | lit v => cases hd
 | nil e' z' p' cap' h1 =>
  simp only [Dat.row.injEq] at hd
  simp only [Value.slice.injEq] at hv
  have h0 : cs.length = 0 := by have := congrArg List.length hd.2.2; simpa using this
  obtain rfl : k = 0 := by omega
  obtain ⟨rfl, _, rfl⟩ := hv
  have : (cs.take 0).map enc = [] := rfl
  rw [this]
  exact .nil _ _ _ _ h1
 | row e' z' l g off cap' xs h1 h2 h3 h4 h5 h6 =>
  simp only [Dat.row.injEq] at hd
  simp only [Value.slice.injEq] at hv
  obtain ⟨rfl, rfl, rfl⟩ := hd
  obtain ⟨rfl, rfl, rfl⟩ := hv
  by_cases h0 : k = 0
  . subst h0
    have : (cs.take 0).map enc = [] := rfl
    rw [this]
    exact .nil _ _ _ _ h3
  . obtain ⟨r, hr⟩ := zH7 (enc := enc) cs k
    have hl : ((cs.take k).map enc).length = k := by simp; omega
    have hlen : ((cs.take k).map enc).flatten.length ≤ xs.length := by rw [← h5, hr, List.length_append]; omega
    have key := Rd.row e z ((cs.take k).map enc) g off cap (xs.take ((cs.take k).map enc).flatten.length) (w := w) (by rw [hl]; omega) (by rw [hl]; rw [List.length_map] at h2; omega) h3 (fun j u hu => by
     have hj : j < ((cs.take k).map enc).flatten.length := by
      have := (List.getElem?_eq_some_iff.1 hu).1
      rw [List.length_take] at this
      omega
     rw [List.getElem?_take_of_lt hj] at hu
     exact h4 j u hu) (by rw [List.length_take]; omega) (fun q hq => by
     have h9 := h6 q (by rw [hr, List.length_append]; omega)
     have e1 : (cs.map enc).flatten[q]'(by rw [hr, List.length_append]; omega) = ((cs.take k).map enc).flatten[q] := by
      rw [List.getElem_of_eq hr, List.getElem_append_left hq]
     rw [e1] at h9
     have e2 : (xs.take ((cs.take k).map enc).flatten.length).getD q nilV = xs.getD q nilV := by
      rw [List.getD_eq_getElem?_getD, List.getD_eq_getElem?_getD, List.getElem?_take_of_lt hq]
     rw [e2]
     exact h9)
    rw [hl] at key
    exact key
end Go.Proofs.YtnlmknbhppdliaaDoor.Chk
namespace Go.Proofs.YtnlmknbhppdliaaDoor.Chk
open Go.ChangeShapes Go.WideShapes Go.ChangeAt Go.RowKit Go.Maps
set_option linter.unusedVariables false
set_option linter.unusedSimpArgs false
set_option maxRecDepth 20000
theorem rdO {w : World} {o : Opd} {vs : List Value} (h : RdL w (encO o) vs) : vs = [.int .i64 o.k, .int .i64 o.vk, .int .i64 o.vi, .string o.vt, .string o.va, .string o.fd] := by
  obtain ⟨v0, r0, rfl, h0, h⟩ := RdL.one h
  obtain ⟨v1, r1, rfl, h1, h⟩ := RdL.one h
  obtain ⟨v2, r2, rfl, h2, h⟩ := RdL.one h
  obtain ⟨v3, r3, rfl, h3, h⟩ := RdL.one h
  obtain ⟨v4, r4, rfl, h4, h⟩ := RdL.one h
  obtain ⟨v5, r5, rfl, h5, h⟩ := RdL.one h
  rw [zAK h0, zAK h1, zAK h2, zAK h3, zAK h4, zAK h5, RdL.none h]
def evs (ts : List Tp) (ws : List Pt) (t : Tp) : List Opd → List Fd → Int
  | o :: r, f :: g => if o.k = 2 then 4 else if (sdk ts ws t o).2 ≠ 0 then (sdk ts ws t o).2 else if (sdk ts ws t o).1 ≠ f.k then 13 else evs ts ws t r g
  | _, _ => 0
def eck (ts : List Tp) (ws : List Pt) (ety : ByteArray) (vs : List Opd) : Int :=
  if emp ety = true then (if 0 < vs.length then 4 else 0)
  else if tyq ts ety < 0 then 6
  else if vs.length ≠ (ts.getD (tyq ts ety).toNat ⟨txt [], []⟩).f.length then 13
  else evs ts ws (ts.getD (tyq ts ety).toNat ⟨txt [], []⟩) vs (ts.getD (tyq ts ety).toNat ⟨txt [], []⟩).f
def tks (done : List Tp) : List Tp → Int
  | [] => 0
  | t :: r => if tyk t.n t.f ≠ 0 then tyk t.n t.f else if kpt t.n = true then 4 else if t.f.any (fun f => kpt f.n) = true then 4 else if 0 ≤ tyq done t.n then 7 else tks (done ++ [t]) r
def rks (rk : Rl → Int) (done : List Rl) : List Rl → Int
  | [] => 0
  | x :: r => if rk x ≠ 0 then rk x else if done.any (fun d => seq d.n x.n) = true then 7 else rks rk (done ++ [x]) r
theorem rd_cap {α : Type} {enc : α → List Dat} {e z : Nat} {w : World} {p : Option Addr} {n cap : Nat} {cs : List α} (h : Rd w (.row e z (cs.map enc)) (.slice p n cap)) : cs.length ≤ cap := by
 generalize hd : Dat.row e z (cs.map enc) = d at h
 generalize hv : Value.slice p n cap = v at h
 cases h with
 | lit v => cases hd
 | nil e' z' p' cap' h1 =>
  simp only [Dat.row.injEq] at hd
  have h0 : cs.length = 0 := by have := congrArg List.length hd.2.2; simpa using this
  omega
 | row e' z' l g off cap' xs h1 h2 h3 h4 h5 h6 =>
  simp only [Dat.row.injEq] at hd
  simp only [Value.slice.injEq] at hv
  obtain ⟨rfl, rfl, rfl⟩ := hd
  obtain ⟨_, _, rfl⟩ := hv
  rw [List.length_map] at h2
  exact h2
def bkf (rk : Rl → Int) (ts : List Tp) (rs : List Rl) : Int :=
  if 6 < ts.length ∨ 5 < rs.length then 1
  else if tks [] ts ≠ 0 then tks [] ts
  else if rks rk [] rs ≠ 0 then rks rk [] rs
  else if ts.any (fun t => cmo rs t.n rs.length t.n) = true then 15 else 0
theorem zA2 {ops : Array Oper} {o : Oper} {a : Act} {w : World} {K : Act → World → Prop} {Q : Exit → Act → World → Prop} {E : Prop} (f : FuncId) (he : ∀ args w, (callFunc f args).run Tryd.prog w = .ok (.enter f args) w) (hw : Region.wanted o (yielded ops a.tmps) = true) (x1 x2 : Operand) (ts : Array TypeId) (ho : o.op = .call { callee := .value (.func f), args := #[x1, x2], argTypes := ts }) (u1 u2 : Value) (h1 : a.eval x1 = u1) (h2 : a.eval x2 = u2)
  (R : Ending → World → Prop) (hc : Calls Tryd.prog f #[u1, u2] w R) (h : ∀ e w', R e w' → ∃ v, e = .returned v ∧ K (a.put o.dst v) w') :
  if Region.wanted o (yielded ops a.tmps) = true then Oper.wp Tryd.prog o a w K Q else E := by
 rw [if_pos hw]
 unfold Oper.wp execOp
 have hf : a.eval (.func f) = Value.func (Fn.func f) #[] #[] := rfl
 simp [ho, resolve, invoke, Deferred.ofValue, hf, h1, h2, he]
 refine hc.mono ?_
 intro e w' hr
 obtain ⟨v, rfl, hk⟩ := h e w' hr
 exact hk
def wbad (part w n : Int) : Prop := (part = 0 ∧ ¬ (0 ≤ w ∧ w ≤ 2)) ∨ (part = 1 ∧ w ≠ 0) ∨ (part = 2 ∧ w ≠ 1) ∨ (w = 0 ∧ n ≠ 0)
def rbad (w n : Int) : Prop := (w = 1 ∧ ¬ (0 ≤ n ∧ n ≤ 1073741824)) ∨ (w = 2 ∧ ¬ (1 ≤ n ∧ n ≤ 120))
instance (part w n : Int) : Decidable (wbad part w n) := by unfold wbad; infer_instance
instance (w n : Int) : Decidable (rbad w n) := by unfold rbad; infer_instance
def pck (ts : List Tp) (kn : List Pt) (ah : List ByteArray) (p : Pt) (part : Int) : Int :=
  if frn p.va ≠ 0 then frn p.va
  else if ah.any (fun a => seq a p.va) = true then 7
  else if tyq ts p.ty < 0 then 6
  else if wbad part p.w p.n then 4
  else if rbad p.w p.n then 2
  else if noc p.c = true then 0
  else (cdk ts kn (ts.getD (tyq ts p.ty).toNat ⟨txt [], []⟩) 8 p.c).2
def ofs : List Op3 → Int
  | [] => 0
  | o :: r => if ock o.r o.lo o.hi ≠ 0 then ock o.r o.lo o.hi else ofs r
def lck (ws ns : List Pt) (kl kr : ByteArray) (os : List Op3) : Int :=
  if (ptq ws kl < 0 ∧ ptq ns kl < 0) ∨ (ptq ws kr < 0 ∧ ptq ns kr < 0) then 6
  else if seq kl kr = true ∨ (ptq ws kl < 0 ∧ ptq ws kr < 0) then 4
  else if ¬ (1 ≤ os.length ∧ os.length ≤ 6) then 1
  else ofs os
theorem rdQ {w : World} {o : Op3} {vs : List Value} (h : RdL w (encQ o) vs) : vs = [.int .i64 o.r, .int .i64 o.lo, .int .i64 o.hi] := by
  obtain ⟨v0, r0, rfl, h0, h⟩ := RdL.one h
  obtain ⟨v1, r1, rfl, h1, h⟩ := RdL.one h
  obtain ⟨v2, r2, rfl, h2, h⟩ := RdL.one h
  rw [zAK h0, zAK h1, zAK h2, RdL.none h]
def wfs (X : Int) (ts : List Tp) (done : List Pt) : List Pt → Int
  | [] => X
  | p :: r => if pck ts done (done.map Pt.va) p 0 ≠ 0 then pck ts done (done.map Pt.va) p 0 else wfs X ts (done ++ [p]) r
def nfs (X : Int) (ts : List Tp) (ws : List Pt) (ah : List ByteArray) : List Pt → Int
  | [] => X
  | p :: r => if pck ts ws ah p 1 ≠ 0 then pck ts ws ah p 1 else nfs X ts ws (ah ++ [p.va]) r
def mbad (m : Mn) : Bool := (emp m.f && !(decide (1 ≤ m.c) && decide (m.c ≤ 120))) || !(decide (0 ≤ m.c) && decide (m.c ≤ 1125899906842624))
def mck (ts : List Tp) (ws : List Pt) (ah : List ByteArray) (m : Mn) : Int :=
  if mbad m = true then 2
  else if pck ts ws ah m.p 2 ≠ 0 then pck ts ws ah m.p 2
  else if emp m.f = true then 0 else sck (ts.getD (tyq ts m.p.ty).toNat ⟨txt [], []⟩).f m.f
def mfs (X : Int) (ts : List Tp) (ws : List Pt) (ah : List ByteArray) : List Mn → Int
  | [] => X
  | m :: r => if mck ts ws ah m ≠ 0 then mck ts ws ah m else mfs X ts ws (ah ++ [m.p.va]) r
def lfs (X : Int) (ws ns : List Pt) : List Lk → Int
  | [] => X
  | k :: r => if lck ws ns k.l k.r k.o ≠ 0 then lck ws ns k.l k.r k.o else lfs X ws ns r
def szs (r : Rl) : Prop := 1 ≤ r.w.length ∧ r.w.length ≤ 3 ∧ r.t.length ≤ 2 ∧ r.m.length ≤ 2 ∧ r.k.length ≤ 6
instance (r : Rl) : Decidable (szs r) := by unfold szs; infer_instance
def rck (ts : List Tp) (r : Rl) : Int :=
  if frn r.n ≠ 0 then frn r.n else if ¬ szs r then 1
  else wfs (nfs (mfs (lfs (eck ts r.w r.e.ty r.e.v) r.w r.t r.k) ts r.w (r.w.map Pt.va ++ r.t.map Pt.va) r.m) ts r.w (r.w.map Pt.va) r.t) ts [] r.w
theorem zBD {ts : List Tp} {kn : List Pt} {ah : List ByteArray} {p : Pt} {part : Int} (h : pck ts kn ah p part = 0) : ∃ i, ∃ _ : i < ts.length, tyq ts p.ty = (i : Int) := by
 rcases zBC (q := fun t : Tp => seq t.n p.ty) ts 0 with c | ⟨i, hi, c, _⟩
 . exfalso
   have c0 : tyq ts p.ty = -1 := c
   unfold pck at h
   split at h
   . rename_i h1; exact h1 h
   . split at h
     . omega
     . rw [if_pos (by rw [c0]; decide)] at h
       omega
 . exact ⟨i, hi, by show ixq _ _ _ = _; rw [c]; simp⟩
theorem zGV {ts : List Tp} {kn : List Pt} {p : Pt} (h : zBR ts kn) (hp : ∃ i, ∃ _ : i < ts.length, tyq ts p.ty = (i : Int)) : zBR ts (kn ++ [p]) := fun j hj => by
 by_cases c : j < kn.length
 . rw [List.getElem_append_left c]
   exact h j c
 . have e : j = kn.length := by simp at hj; omega
   subst e
   simpa using hp
theorem rdK {w : World} {k : Lk} {vs : List Value} (h : RdL w (encK k) vs) : ∃ v, vs = [.string k.l, v, .string k.r] ∧ Rd w (.row 147 3 (k.o.map encQ)) v := by
  obtain ⟨v0, r0, rfl, h0, h⟩ := RdL.one h
  obtain ⟨v1, r1, rfl, h1, h⟩ := RdL.one h
  obtain ⟨v2, r2, rfl, h2, h⟩ := RdL.one h
  rw [zAK h0, zAK h2, RdL.none h]
  exact ⟨v1, rfl, h1⟩
theorem zAY {cs vs : List Value} (h : vs.length = cs.length) : ovr cs 0 vs = vs := by
  unfold ovr
  simp [h]
theorem zAH {w w1 : World} {o : Obj} (h : Fr (fun i => i = w.heap.size) (w.alloc o) w1) : Below w.heap.size w w1 :=
  ⟨h.os, h.tape, h.output, by have := h.size; simp at this; omega, fun k hk => (h.block k (by simp; omega) (by omega)).trans (Below.heap_alloc _ _ _ hk)⟩
theorem zCG {w : World} {b : Nat} {A B : List Value} {x y : Value} {t : TypeId} (h : w.heap[b]? = some (.cells A.toArray t (0, 0))) (hA : A = x :: y :: B) : w.rangeAt b 2 B := fun j v hv => by
  rw [zAD h, hA]
  rw [List.getElem?_toArray, show 2 + j = j + 1 + 1 by omega]
  simpa using hv
theorem zAB {w : World} {e z : Nat} {l : List (List Dat)} {v : Value} (h : Rd w (.row e z l) v) : ∃ p n cap, v = .slice p n cap := by
  cases h with
  | nil e z p cap h => exact ⟨_, _, _, rfl⟩
  | row e z l g off cap xs h1 h2 h3 h4 h5 h6 => exact ⟨_, _, _, rfl⟩
theorem zD2 {ts : List Tp} {ws : List Pt} {ah : List ByteArray} {m : Mn} (h : mbad m = true) : mck ts ws ah m = 2 := by unfold mck; rw [if_pos h]
theorem zH3 {ts : List Tp} {ws : List Pt} {ah : List ByteArray} {m : Mn} (h : mbad m = false) (h2 : pck ts ws ah m.p 2 ≠ 0) : mck ts ws ah m = pck ts ws ah m.p 2 := by unfold mck; rw [if_neg (by rw [h]; decide), if_pos h2]
theorem mck_ok {ts : List Tp} {ws : List Pt} {ah : List ByteArray} {m : Mn} (h : mbad m = false) (h2 : pck ts ws ah m.p 2 = 0) : mck ts ws ah m = if emp m.f = true then 0 else sck (ts.getD (tyq ts m.p.ty).toNat ⟨txt [], []⟩).f m.f := by unfold mck; rw [if_neg (by rw [h]; decide), if_neg (fun c => c h2)]
def bok (ts : List Tp) (rs : List Rl) : Int := bkf (rck ts) ts rs
end Go.Proofs.YtnlmknbhppdliaaDoor.Chk
namespace Go.Proofs.YtnlmknbhppdliaaDoor.V4
open Go.ChangeShapes Go.WideShapes Go.ChangeAt Go.RowKit
set_option linter.unusedVariables false
set_option linter.unusedSimpArgs false
set_option maxRecDepth 20000
structure Vl where
  k : Int
  n : Int
  s : ByteArray
structure Fd where
  s : ByteArray
  k : Int
structure Ty where
  s : ByteArray
  fs : List Fd
def eqS (a b : ByteArray) : Bool := a.toList == b.toList
def vchk (v : Vl) : Int :=
  if v.k ≠ 1 ∧ v.k ≠ 2 then 3
  else if (v.k = 1 ∧ v.s.toList ≠ []) ∨ (v.k = 2 ∧ v.n ≠ 0) then 4
  else if 20 < v.s.size then 1
  else if v.n < -1125899906842624 ∨ 1125899906842624 < v.n then 2 else 0
def fst (f : Nat → Int) : Nat → Int
  | 0 => 0
  | n + 1 => if fst f n ≠ 0 then fst f n else f n
theorem fst_hit {f : Nat → Int} {k n : Nat} (h0 : fst f k = 0) (h1 : f k ≠ 0) (hk : k < n) : fst f n = f k := by
 induction n with
 | zero => omega
 | succ n ih =>
  unfold fst
  by_cases e : k = n
  . subst e; simp [h0]
  . have := ih (by omega)
    rw [if_pos (by rw [this]; exact h1), this]
theorem fst_step {f : Nat → Int} {k : Nat} (h0 : fst f k = 0) (h1 : f k = 0) : fst f (k + 1) = 0 := by
  unfold fst; simp [h0, h1]
theorem fst_zero {f : Nat → Int} {n : Nat} (h : fst f n = 0) : ∀ k, k < n → f k = 0 := by
 induction n with
 | zero => intro k hk; omega
 | succ n ih =>
  unfold fst at h
  by_cases e : fst f n = 0
  . simp [e] at h
    intro k hk
    by_cases c : k = n
    . subst c; exact h
    . exact ih e k (by omega)
  . simp [e] at h
theorem size_nil {s : ByteArray} (h : s.toList = []) : s.size = 0 := by
  rw [Lib.toList_data] at h
  have := congrArg List.length h
  simpa using this
def zD1 (s : ByteArray) (i : Nat) : Int := ((s.data.toList.getD i 0).toNat : Int)
def isL (c : Int) : Prop := 97 ≤ c ∧ c ≤ 122
def isD (c : Int) : Prop := 48 ≤ c ∧ c ≤ 57
instance (c : Int) : Decidable (isL c) := by unfold isL; infer_instance
instance (c : Int) : Decidable (isD c) := by unfold isD; infer_instance
def sgn (s : ByteArray) (i : Nat) : Int := if isL (zD1 s i) ∨ (i ≠ 0 ∧ isD (zD1 s i)) then 0 else 4
def nchk (s : ByteArray) : Int := if s.size < 1 ∨ 10 < s.size then 1 else fst (sgn s) s.size
def fnd (name : ByteArray) : List Fd → Nat → Int
  | [], _ => -1
  | f :: l, k => if eqS f.s name = true then (k : Int) else fnd name l (k + 1)
def fchk (fs : List Fd) (i : Nat) : Int :=
  match fs[i]? with
  | none => 0
  | some f => if nchk f.s ≠ 0 then nchk f.s else if f.k ≠ 1 ∧ f.k ≠ 2 then 3 else if 0 ≤ fnd f.s (fs.take i) 0 then 7 else 0
def tchk (t : Ty) : Int := if nchk t.s ≠ 0 then nchk t.s else if 4 < t.fs.length then 1 else fst (fchk t.fs) t.fs.length
def vat (l : List Vl) (i : Nat) : Int := match l[i]? with | none => 0 | some v => vchk v
def kat (l : List Vl) (fs : List Fd) (i : Nat) : Int := match l[i]?, fs[i]? with | some v, some f => if v.k ≠ f.k then 13 else 0 | _, _ => 0
def fit (t : Ty) (l : List Vl) : Int :=
  if tchk t ≠ 0 then tchk t else if fst (vat l) l.length ≠ 0 then fst (vat l) l.length
  else if l.length ≠ t.fs.length then 13 else fst (kat l t.fs) l.length
abbrev vV (v : Vl) : Value := .agg #[.int .i64 v.k, .int .i64 v.n, .string v.s]
def FieldsAt (w : World) (v : Value) (fs : List Fd) : Prop :=
  ∃ p cap, v = .slice p fs.length cap ∧ fs.length ≤ cap ∧ cap ≤ maxLen ∧ (0 < fs.length → ∃ g off, p = some ⟨g, off, none⟩ ∧ ∀ j (hj : j < fs.length), g < w.heap.size ∧ w.cell? ⟨g, off + j * 2, none⟩ = some (.string fs[j].s) ∧ w.cell? ⟨g, off + j * 2 + 1, none⟩ = some (.int .i64 fs[j].k))
def ValsAt (w : World) (v : Value) (l : List Vl) : Prop :=
  ∃ p cap, v = .slice p l.length cap ∧ l.length ≤ cap ∧ cap ≤ maxLen ∧ (0 < l.length → ∃ g off, p = some ⟨g, off, none⟩ ∧ ∀ j (hj : j < l.length), g < w.heap.size ∧ w.cell? ⟨g, off + j * 3, none⟩ = some (.int .i64 l[j].k) ∧ w.cell? ⟨g, off + j * 3 + 1, none⟩ = some (.int .i64 l[j].n) ∧ w.cell? ⟨g, off + j * 3 + 2, none⟩ = some (.string l[j].s))
theorem FieldsAt.below {w w' : World} {v : Value} {fs : List Fd} (h : FieldsAt w v fs) (b : Below w.heap.size w w') : FieldsAt w' v fs := by
  obtain ⟨p, cap, h1, hc, hm, h2⟩ := h
  refine ⟨p, cap, h1, hc, hm, fun h0 => ?_⟩
  obtain ⟨g, off, h3, h4⟩ := h2 h0
  refine ⟨g, off, h3, fun j hj => ?_⟩
  obtain ⟨a, b0, b1⟩ := h4 j hj
  exact ⟨Nat.lt_of_lt_of_le a b.size, (b.cell (p := ⟨g, off + j * 2, none⟩) a).trans b0, (b.cell (p := ⟨g, off + j * 2 + 1, none⟩) a).trans b1⟩
theorem ValsAt.below {w w' : World} {v : Value} {fs : List Vl} (h : ValsAt w v fs) (b : Below w.heap.size w w') : ValsAt w' v fs := by
  obtain ⟨p, cap, h1, hc, hm, h2⟩ := h
  refine ⟨p, cap, h1, hc, hm, fun h0 => ?_⟩
  obtain ⟨g, off, h3, h4⟩ := h2 h0
  refine ⟨g, off, h3, fun j hj => ?_⟩
  obtain ⟨a, b0, b1, b2⟩ := h4 j hj
  exact ⟨Nat.lt_of_lt_of_le a b.size, (b.cell (p := ⟨g, off + j * 3, none⟩) a).trans b0, (b.cell (p := ⟨g, off + j * 3 + 1, none⟩) a).trans b1, (b.cell (p := ⟨g, off + j * 3 + 2, none⟩) a).trans b2⟩
theorem zAA {B B' : Nat} {w w1 w2 : World} (h : Below B w w1) (h2 : Below B' w1 w2) (hb : B ≤ B') : Below B w w2 :=
  ⟨h2.os.trans h.os, h2.tape.trans h.tape, h2.output.trans h.output, Nat.le_trans h.size h2.size, fun k hk => (h2.block k (by omega)).trans (h.block k hk)⟩
end Go.Proofs.YtnlmknbhppdliaaDoor.V4
