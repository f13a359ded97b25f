/-
  The arena in plain words, and what it is in memory.
-/
import Derived.Test.YtchiajedajabnaaRows
import Derived.Handy
import Derived.WalkSmall
import Derived.Deep.QuietTactic
import Derived.BigQuiet
import Derived.Deep.RegionHeld3
import Derived.Deep.AppendLies
import Derived.Deep.RegionLaw
import Derived.OwnWalk
import Derived.Maps.OwnSet
import Derived.Maps.AppendAt
import Derived.Laws.OwnMore
namespace Go.Proofs.Ytchiajedajabnaa
open Go.ChangeShapes Go.WideShapes Go.ChangeAt Go.RowKit Go.Maps
set_option linter.unusedVariables false
set_option linter.unusedSimpArgs false
/-- What is found: code, number, place, turn. A job: kind, number, place, turn. -/
abbrev Q4 := Int × Int × Int × Int
/-- All places (number, turn), and those that are free. -/
structure As where
  ps : List (Int × Int)
  fr : List Nat
def As.num (s : As) (p : Nat) : Int := (s.ps.getD p (0, 0)).1
def As.turn (s : As) (p : Nat) : Int := (s.ps.getD p (0, 0)).2
def As.live (s : As) : Int := (s.ps.length : Int) - (s.fr.length : Int)
def chk (s : As) (p t : Int) : Int :=
  if p < 0 ∨ (s.ps.length : Int) ≤ p then 6
  else if t < 1 ∨ s.turn p.toNat < t then 6
  else if t < s.turn p.toNat ∨ s.num p.toNat = 0 then 17 else 0
def lk (s : As) (p t : Int) : Q4 := if chk s p t = 0 then (0, s.num p.toNat, 0, 0) else (chk s p t, 0, 0, 0)
def bk (s : As) (p t : Int) : As := if chk s p t = 0 then ⟨s.ps.set p.toNat (0, s.turn p.toNat), s.fr ++ [p.toNat]⟩ else s
def tkAt (s : As) : Nat := if s.fr.length = 0 then s.ps.length else s.fr.getD (s.fr.length - 1) 0
def tk (s : As) : As := if s.fr.length = 0 then ⟨s.ps ++ [(0, 0)], s.fr⟩ else ⟨s.ps, s.fr.take (s.fr.length - 1)⟩
def ln (s : As) (n : Int) : Q4 × As :=
  if n < 1 ∨ 1048576 < n then ((2, 0, 0, 0), s) else if 120 ≤ s.live then ((8, 0, 0, 0), s)
  else ((0, 0, (tkAt s : Int), (tk s).turn (tkAt s) + 1), ⟨(tk s).ps.set (tkAt s) (n, (tk s).turn (tkAt s) + 1), (tk s).fr⟩)
def step (s : As) (j : Q4) : Q4 × As :=
  if j.1 = 1 then ln s j.2.1 else if j.1 = 2 then (lk s j.2.2.1 j.2.2.2, s) else if j.1 = 3 then (lk s j.2.2.1 j.2.2.2, bk s j.2.2.1 j.2.2.2)
  else if j.1 = 4 then ((0, s.live, 0, 0), s) else ((3, 0, 0, 0), s)
def play (s : As) : List Q4 → List Q4
  | [] => []
  | j :: l => (step s j).1 :: play (step s j).2 l
def after (s : As) : List Q4 → As
  | [] => s
  | j :: l => after (step s j).2 l
theorem play_len (s : As) (l : List Q4) : (play s l).length = l.length := by
  induction l generalizing s with
  | nil => rfl
  | cons j r ih => simp [play, ih]
theorem play_at (s : As) (l : List Q4) (k : Nat) (hk : k < l.length) : (play s l)[k]? = some (step (after s (l.take k)) l[k]).1 := by
  induction l generalizing s k with
  | nil => simp at hk
  | cons j r ih =>
    cases k with
    | zero => rfl
    | succ k => simp only [play, List.getElem?_cons_succ, List.take_succ_cons, after, List.getElem_cons_succ]; exact ih _ k (by simpa using hk)
theorem after_step (s : As) (l : List Q4) (k : Nat) (hk : k < l.length) : after s (l.take (k + 1)) = (step (after s (l.take k)) l[k]).2 := by
  induction l generalizing s k with
  | nil => simp at hk
  | cons j r ih =>
    cases k with
    | zero => rfl
    | succ k => simp only [List.take_succ_cons, after, List.getElem_cons_succ]; exact ih _ k (by simpa using hk)
/-- What is so of an arena behind k jobs. -/
structure Ai (s : As) (k : Nat) : Prop where
  pl : s.ps.length ≤ k
  fl : s.fr.length ≤ k
  fr : ∀ x, x ∈ s.fr → x < s.ps.length
  pn : ∀ p, p ∈ s.ps → 0 ≤ p.1 ∧ p.1 ≤ 1048576 ∧ 0 ≤ p.2 ∧ p.2 ≤ k
theorem Ai.none : Ai ⟨[], []⟩ 0 := ⟨by simp, by simp, by simp, by simp⟩
theorem Ai.more {s : As} {k : Nat} (h : Ai s k) : Ai s (k + 1) := ⟨by have := h.pl; omega, by have := h.fl; omega, h.fr, fun p hp => by have := h.pn p hp; omega⟩
theorem Ai.get {s : As} {k : Nat} (h : Ai s k) (p : Nat) : 0 ≤ s.num p ∧ s.num p ≤ 1048576 ∧ 0 ≤ s.turn p ∧ s.turn p ≤ k := by
  unfold As.num As.turn
  rw [List.getD_eq_getElem?_getD]
  cases hp : s.ps[p]? with
  | none => simp
  | some x => exact h.pn x (List.mem_of_getElem? hp)
theorem tkAt_lt {s : As} {k : Nat} (h : Ai s k) : tkAt s < (tk s).ps.length := by
  unfold tkAt tk
  split
  · simp
  · rename_i c
    refine h.fr _ ?_
    rw [List.getD_eq_getElem?_getD, List.getElem?_eq_getElem (by omega)]
    exact List.getElem_mem _
theorem Ai.tk {s : As} {k : Nat} (h : Ai s k) : Ai (tk s) (k + 1) := by
  unfold Ytchiajedajabnaa.tk
  split
  · refine ⟨by simp; exact h.pl, by have := h.fl; simp; omega, fun x hx => by have := h.fr x hx; simp; omega, fun p hp => ?_⟩
    rcases List.mem_append.1 hp with hp | hp
    · have := h.pn p hp; omega
    · simp at hp; subst hp; simp; omega
  · exact ⟨by have := h.pl; simp; omega, by have := h.fl; simp; omega, fun x hx => h.fr x (List.mem_of_mem_take hx), fun p hp => by have := h.pn p hp; omega⟩
theorem Ai.turn_tk {s : As} {k : Nat} (h : Ai s k) : (Ytchiajedajabnaa.tk s).turn (tkAt s) ≤ k := by
  have h1 : (Ytchiajedajabnaa.tk s).turn (tkAt s) = 0 ∨ (Ytchiajedajabnaa.tk s).turn (tkAt s) = s.turn (tkAt s) := by
    unfold Ytchiajedajabnaa.tk
    split
    · rename_i c
      refine Or.inl ?_
      simp [As.turn, tkAt, c]
    · exact Or.inr rfl
  have := (h.get (tkAt s)).2.2
  omega
theorem Ai.step {s : As} {k : Nat} (h : Ai s k) (j : Q4) : Ai (step s j).2 (k + 1) := by
  unfold Ytchiajedajabnaa.step
  split
  · unfold ln
    split
    · exact h.more
    · split
      · exact h.more
      · rename_i c _
        have ht := h.tk
        have hu := h.turn_tk
        have h0 := ht.get (tkAt s)
        refine ⟨by simpa using ht.pl, ht.fl, fun x hx => by simpa using ht.fr x hx, fun p hp => ?_⟩
        rcases List.mem_or_eq_of_mem_set hp with hp | rfl
        · exact ht.pn p hp
        · simp only; omega
  · split
    · exact h.more
    · split
      · show Ai (bk s _ _) (k + 1)
        unfold bk
        split
        · rename_i c
          have hp : ¬ j.2.2.1 < 0 ∧ j.2.2.1 < (s.ps.length : Int) := by
            unfold chk at c
            split at c
            · simp at c
            · omega
          refine ⟨by have := h.pl; simp; omega, by have := h.fl; simp; omega, fun x hx => ?_, fun p hp => ?_⟩
          · rcases List.mem_append.1 hx with hx | hx
            · simpa using h.fr x hx
            · simp at hx; subst hx; simp; omega
          · rcases List.mem_or_eq_of_mem_set hp with hp | rfl
            · have := h.pn p hp; omega
            · have := h.get j.2.2.1.toNat; simp only; omega
        · exact h.more
      · split <;> exact h.more
theorem Ai.after {s : As} {m : Nat} (h : Ai s m) (l : List Q4) : Ai (after s l) (m + l.length) := by
  induction l generalizing s m with
  | nil => exact h
  | cons j r ih =>
    have := ih (h.step j)
    simp only [Ytchiajedajabnaa.after, List.length_cons]
    rw [show m + (r.length + 1) = m + 1 + r.length by omega]
    exact this
/-! ### memory: what changes -/
/-- w' is w but for the blocks of S, and new ones. -/
structure Turn (S : Nat → Prop) (w w' : World) : Prop where
  os : w'.os = w.os
  tape : w'.tape = w.tape
  output : w'.output = w.output
  size : w.heap.size ≤ w'.heap.size
  block : ∀ k, k < w.heap.size → ¬ S k → w'.heap[k]? = w.heap[k]?
theorem Turn.refl (S : Nat → Prop) (w : World) : Turn S w w := ⟨rfl, rfl, rfl, Nat.le_refl _, fun _ _ _ => rfl⟩
theorem Turn.trans {S S1 : Nat → Prop} {a b c : World} (h : Turn S a b) (k : Turn S1 b c) (hS : ∀ k, k < a.heap.size → S1 k → S k) : Turn S a c :=
  ⟨k.os.trans h.os, k.tape.trans h.tape, k.output.trans h.output, Nat.le_trans h.size k.size, fun i hi hne => (k.block i (Nat.lt_of_lt_of_le hi h.size) (fun c => hne (hS i hi c))).trans (h.block i hi hne)⟩
theorem Turn.mono {S S1 : Nat → Prop} {a b : World} (h : Turn S1 a b) (hS : ∀ k, k < a.heap.size → S1 k → S k) : Turn S a b := (Turn.refl S a).trans h hS
theorem Turn.alloc {S : Nat → Prop} {a b : World} (h : Turn S a b) (o : Obj) : Turn S a (b.alloc o) :=
  h.trans (S1 := fun _ => False) ⟨rfl, rfl, rfl, by simp, fun k hk _ => by first | exact heap_alloc_old b o hk | exact heap_alloc_old b o k hk⟩ (fun _ _ h => h.elim)
theorem Turn.drew {S : Nat → Prop} {a b : World} (h : Turn S a b) : Turn S a b.drew := ⟨h.os, h.tape, h.output, h.size, h.block⟩
theorem Turn.drewN {S : Nat → Prop} {a b : World} (h : Turn S a b) (n : Nat) : Turn S a (b.drewN n) := ⟨h.os, h.tape, h.output, h.size, h.block⟩
theorem Turn.setCell {S : Nat → Prop} {a b : World} (h : Turn S a b) {p : Addr} (hp : S p.block) (u : Value) : Turn S a (b.setCell p u) :=
  ⟨h.os, h.tape, h.output, by rw [World.size_setCell]; exact h.size, fun k hk hne => by rw [RowKit.Below.heap_setCell _ _ _ _ (fun e => hne (by rw [e]; exact hp))]; exact h.block k hk hne⟩
theorem Turn.setNew {S : Nat → Prop} {a b : World} (h : Turn S a b) {p : Addr} (hp : a.heap.size ≤ p.block) (u : Value) : Turn S a (b.setCell p u) :=
  ⟨h.os, h.tape, h.output, by rw [World.size_setCell]; exact h.size, fun k hk hne => by rw [RowKit.Below.heap_setCell _ _ _ _ (fun e => by omega)]; exact h.block k hk hne⟩
theorem Turn.grown {S : Nat → Prop} {a b c : World} {row : Option Nat} (h : Turn S a b) (g : b.grownBy c row) (hr : ∀ k, row = some k → k < a.heap.size → S k) : Turn S a c :=
  h.trans (S1 := fun k => row = some k) ⟨g.os, g.tape, g.output, g.size, fun k hk hne => g.block k hk (fun e => hne e.symm)⟩ (fun k hk e => hr k e hk)
theorem Turn.below {S : Nat → Prop} {w w' : World} (h : Turn S w w') {B : Nat} (hB : B ≤ w.heap.size) (hS : ∀ k, k < B → ¬ S k) : Below B w w' :=
  ⟨h.os, h.tape, h.output, h.size, fun k hk => h.block k (by omega) (hS k hk)⟩
theorem Turn.of_below {S : Nat → Prop} {w w' : World} (h : Below w.heap.size w w') : Turn S w w' := ⟨h.os, h.tape, h.output, h.size, fun k hk _ => h.block k hk⟩
theorem Turn.cell {S : Nat → Prop} {w w' : World} (h : Turn S w w') {p : Addr} (hp : p.block < w.heap.size) (hS : ¬ S p.block) : w'.cell? p = w.cell? p := World.cell?_of_block (h.block _ hp hS)
theorem Turn.frozen {S : Nat → Prop} {w w' : World} (h : Turn S w w') {p : Addr} (hp : p.block < w.heap.size) (hS : ¬ S p.block) : w'.frozen? p = w.frozen? p := World.frozen?_of_block (h.block _ hp hS)
theorem below_new' (a : World) (o : Obj) : Below a.heap.size a (a.alloc o) := (Below.refl _ _).alloc (Nat.le_refl _) o
theorem below_drewN {B : Nat} {a b : World} (h : Below B a b) (n : Nat) : Below B a (b.drewN n) := ⟨h.os, h.tape, h.output, h.size, h.block⟩
theorem owns_block {w w' : World} {base : Nat} {e : TypeId} {size : Nat} {v : Value} {n : Nat} {xs : List Value} (h : w.ownsRow base e size v n xs) (hg : ∀ k, v.ownBlock = some k → w'.heap[k]? = w.heap[k]?) : w'.ownsRow base e size v n xs := by
  refine ⟨h.1, ?_⟩
  rcases h.2 with hn | ⟨g, cap, cur, rfl, hb, hgg, rest⟩
  · exact .inl hn
  · exact .inr ⟨g, cap, cur, rfl, hb, by rw [hg g rfl]; exact hgg, rest⟩
theorem cellA {W : World} {p : Addr} {v : Value} {o : Obj} (h : W.cell? p = some v) : (W.alloc o).cell? p = some v := by
  have := World.block_lt_of_cell? W p h
  rw [← h]; exact World.cell?_of_block (by first | exact heap_alloc_old _ _ this | exact heap_alloc_old _ _ _ this)
theorem frozA {W : World} {p : Addr} {o : Obj} (h : p.block < W.heap.size) : (W.alloc o).frozen? p = W.frozen? p :=
  World.frozen?_of_block (by first | exact heap_alloc_old _ _ h | exact heap_alloc_old _ _ _ h)
theorem cellS {W : World} {b o : Nat} {p : Addr} {v u : Value} (h : W.cell? p = some v) (hne : p.block ≠ b) : (W.setCell ⟨b, o, none⟩ u).cell? p = some v := by
  rw [World.cell?_setCell_other _ _ _ _ (fun c => hne (by rw [← c]))]; exact h
def wfI (x : Int) : Prop := -9223372036854775808 ≤ x ∧ x ≤ 9223372036854775807
/-! ### the arena in memory -/
def enc2 (p : Int × Int) : List Value := [.int .i64 p.1, .int .i64 p.2]
def encF (x : Nat) : Value := .int .i64 (x : Int)
theorem length_flat2 (l : List (Int × Int)) : (l.flatMap enc2).length = l.length * 2 := by
  induction l with
  | nil => rfl
  | cons t r ih => rw [List.flatMap_cons, List.length_append, ih]; simp [enc2]; omega
theorem flat2_at : ∀ (l : List (Int × Int)) (j : Nat) (hj : j < l.length), (l.flatMap enc2)[j * 2]? = some (.int .i64 l[j].1) ∧ (l.flatMap enc2)[j * 2 + 1]? = some (.int .i64 l[j].2)
  | [], j, h => by simp at h
  | t :: r, 0, h => by simp [enc2]
  | t :: r, j + 1, h => by
    have hl : (enc2 t).length = 2 := rfl
    obtain ⟨h1, h2⟩ := flat2_at r j (by simpa using h)
    rw [List.flatMap_cons]
    refine ⟨?_, ?_⟩
    · rw [List.getElem?_append_right (by omega), show (j + 1) * 2 - (enc2 t).length = j * 2 by rw [hl]; omega]; exact h1
    · rw [List.getElem?_append_right (by omega), show (j + 1) * 2 + 1 - (enc2 t).length = j * 2 + 1 by rw [hl]; omega]; exact h2
theorem flat2_set : ∀ (l : List (Int × Int)) (j : Nat) (z : Int × Int) (hj : j < l.length), ((l.flatMap enc2).set (j * 2) (.int .i64 z.1)).set (j * 2 + 1) (.int .i64 z.2) = (l.set j z).flatMap enc2
  | [], j, z, h => by simp at h
  | t :: r, 0, z, h => by simp [enc2]
  | t :: r, j + 1, z, h => by
    have ih := flat2_set r j z (by simpa using h)
    rw [List.set_cons_succ, List.flatMap_cons, List.flatMap_cons, ← ih]
    have e1 : (j + 1) * 2 = j * 2 + 1 + 1 := by omega
    rw [e1]
    simp [enc2]
theorem flat2_set1 (l : List (Int × Int)) (j : Nat) (a : Int) (hj : j < l.length) : (l.flatMap enc2).set (j * 2) (.int .i64 a) = (l.set j (a, l[j].2)).flatMap enc2 := by
  rw [← flat2_set l j (a, l[j].2) hj]
  have h2 : ((l.flatMap enc2).set (j * 2) (.int .i64 a))[j * 2 + 1]? = some (.int .i64 l[j].2) := by
    rw [List.getElem?_set_ne (by omega)]; exact (flat2_at l j hj).2
  obtain ⟨h3, h4⟩ := List.getElem?_eq_some_iff.1 h2
  apply List.ext_getElem?
  intro i
  by_cases e : j * 2 + 1 = i
  · subst e; rw [h2, List.getElem?_set_self (by simpa using h3)]
  · rw [List.getElem?_set_ne e]
structure Am (w : World) (B ab : Nat) (V F : Value) (s : As) : Prop where
  abB : ab < B
  BS : B ≤ w.heap.size
  c0 : w.cell? ⟨ab, 0, none⟩ = some V
  c1 : w.cell? ⟨ab, 1, none⟩ = some F
  fz : ∀ j, w.frozen? ⟨ab, j, none⟩ = false
  rp : w.ownsRow B 61 2 V s.ps.length (s.ps.flatMap enc2)
  rf : w.ownsRow B 3 1 F s.fr.length (s.fr.map encF)
  apart : V.ownBlock = none ∨ V.ownBlock ≠ F.ownBlock
def Own (ab : Nat) (V F : Value) (k : Nat) : Prop := k = ab ∨ V.ownBlock = some k ∨ F.ownBlock = some k
def After (B ab : Nat) (s' : As) (V F : Value) (w w' : World) : Prop :=
  ∃ V' F', Am w' B ab V' F' s' ∧ Turn (Own ab V F) w w' ∧ ∀ k, Own ab V' F' k → Own ab V F k ∨ w.heap.size ≤ k
theorem Am.turn {w w' : World} {B ab : Nat} {V F : Value} {s : As} (h : Am w B ab V F s) {S : Nat → Prop} (t : Turn S w w') (hS : ∀ k, S k → ¬ Own ab V F k) : Am w' B ab V F s := by
  have hc : ab < w.heap.size := Nat.lt_of_lt_of_le h.abB h.BS
  have hn : ¬ S ab := fun c => hS ab c (Or.inl rfl)
  refine ⟨h.abB, Nat.le_trans h.BS t.size, (t.cell (p := ⟨ab, 0, none⟩) hc hn).trans h.c0, (t.cell (p := ⟨ab, 1, none⟩) hc hn).trans h.c1, fun j => (t.frozen (p := ⟨ab, j, none⟩) hc hn).trans (h.fz j), owns_block h.rp (fun k hk => ?_), owns_block h.rf (fun k hk => ?_), h.apart⟩
  · exact t.block k (h.rp.lt k hk).2 (fun c => hS k c (Or.inr (Or.inl hk)))
  · exact t.block k (h.rf.lt k hk).2 (fun c => hS k c (Or.inr (Or.inr hk)))
theorem Am.below {w w' : World} {B ab : Nat} {V F : Value} {s : As} (h : Am w B ab V F s) (b : Below w.heap.size w w') : Am w' B ab V F s :=
  h.turn (Turn.of_below (S := fun _ => False) b) (fun _ h => h.elim)
theorem After.same {w w' : World} {B ab : Nat} {V F : Value} {s : As} (h : Am w B ab V F s) (b : Below w.heap.size w w') : After B ab s V F w w' :=
  ⟨V, F, h.below b, Turn.of_below b, fun k hk => Or.inl hk⟩
theorem After.from {w W w' : World} {B ab : Nat} {s' : As} {V F : Value} (h : After B ab s' V F W w') (b : Below w.heap.size w W) : After B ab s' V F w w' := by
  obtain ⟨V', F', h1, h2, h3⟩ := h
  exact ⟨V', F', h1, (Turn.of_below b).trans h2 (fun _ _ h => h), fun k hk => (h3 k hk).imp id (fun h => Nat.le_trans b.size h)⟩
theorem After.to {w W w' : World} {B ab : Nat} {s' : As} {V F : Value} (h : After B ab s' V F w W) (b : Below W.heap.size W w') : After B ab s' V F w w' := by
  obtain ⟨V', F', h1, h2, h3⟩ := h
  exact ⟨V', F', h1.below b, h2.trans (Turn.of_below (S := fun _ => False) b) (fun _ _ h => h.elim), h3⟩
theorem Am.shapeV {w : World} {B ab : Nat} {V F : Value} {s : As} (h : Am w B ab V F s) : ∃ p cap, V = .slice p s.ps.length cap ∧ (0 < s.ps.length → ∃ g, p = some ⟨g, 0, none⟩) := by
  rcases h.rp.2 with ⟨h1, h2⟩ | ⟨g, cap, cur, h1, _⟩
  · exact ⟨none, 0, by rw [h1, h2], fun h => by omega⟩
  · exact ⟨_, cap, h1, fun _ => ⟨g, rfl⟩⟩
theorem Am.shapeF {w : World} {B ab : Nat} {V F : Value} {s : As} (h : Am w B ab V F s) : ∃ p cap, F = .slice p s.fr.length cap ∧ (0 < s.fr.length → ∃ g, p = some ⟨g, 0, none⟩) := by
  rcases h.rf.2 with ⟨h1, h2⟩ | ⟨g, cap, cur, h1, _⟩
  · exact ⟨none, 0, by rw [h1, h2], fun h => by omega⟩
  · exact ⟨_, cap, h1, fun _ => ⟨g, rfl⟩⟩
theorem getD_eq {α : Type} (l : List α) (j : Nat) (d : α) (hj : j < l.length) : l.getD j d = l[j] := by
  rw [List.getD_eq_getElem?_getD, List.getElem?_eq_getElem hj]; rfl
theorem Am.place {w : World} {B ab g cap : Nat} {F : Value} {s : As} (h : Am w B ab (.slice (some ⟨g, 0, none⟩) s.ps.length cap) F s) {j : Nat} (hj : j < s.ps.length) :
    w.cell? ⟨g, j * 2, none⟩ = some (.int .i64 (s.num j)) ∧ w.cell? ⟨g, j * 2 + 1, none⟩ = some (.int .i64 (s.turn j)) ∧ ∀ i, w.frozen? ⟨g, i, none⟩ = false := by
  obtain ⟨h1, h2⟩ := flat2_at s.ps j hj
  refine ⟨?_, ?_, fun i => h.rp.frozenAt i⟩
  · rw [h.rp.cellAt _ (by omega), h1, As.num, getD_eq _ _ _ hj]
  · rw [h.rp.cellAt _ (by omega), h2, As.turn, getD_eq _ _ _ hj]
theorem Am.freeAt {w : World} {B ab g cap : Nat} {V : Value} {s : As} (h : Am w B ab V (.slice (some ⟨g, 0, none⟩) s.fr.length cap) s) {j : Nat} (hj : j < s.fr.length) :
    w.cell? ⟨g, j, none⟩ = some (.int .i64 (s.fr.getD j 0 : Nat)) := by
  rw [h.rf.cellAt _ (by omega), List.getElem?_map, List.getElem?_eq_getElem hj, getD_eq _ _ _ hj]; rfl
end Go.Proofs.Ytchiajedajabnaa
