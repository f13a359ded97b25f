/-
  What a clock is in memory: its block, its slots' rows, its map of places; what leaves it as it is.
-/
import Derived.Test.YtccddjfcceclnaaC
import Derived.Maps.OwnSet
import Derived.Maps.AppendAt
namespace Go.Proofs.Ytccddjfcceclnaa
open Go.ChangeShapes Go.WideShapes Go.ChangeAt Go.RowKit Go.Maps
set_option linter.unusedVariables false
set_option linter.unusedSimpArgs false
/-- w' is w but for the blocks of S, and new ones. -/
structure Turn (S : Nat → Prop) (w w' : World) : Prop where
  os : w'.os = w.os
  tape : w'.tape = w.tape
  output : w'.output = w.output
  size : w.heap.size ≤ w'.heap.size
  block : ∀ k, k < w.heap.size → ¬ S k → w'.heap[k]? = w.heap[k]?
theorem Turn.refl (S : Nat → Prop) (w : World) : Turn S w w := ⟨rfl, rfl, rfl, Nat.le_refl _, fun _ _ _ => rfl⟩
theorem Turn.trans {S S1 : Nat → Prop} {a b c : World} (h : Turn S a b) (k : Turn S1 b c) (hS : ∀ k, k < a.heap.size → S1 k → S k) : Turn S a c :=
  ⟨k.os.trans h.os, k.tape.trans h.tape, k.output.trans h.output, Nat.le_trans h.size k.size, fun i hi hne => (k.block i (Nat.lt_of_lt_of_le hi h.size) (fun c => hne (hS i hi c))).trans (h.block i hi hne)⟩
theorem Turn.mono {S S1 : Nat → Prop} {a b : World} (h : Turn S1 a b) (hS : ∀ k, k < a.heap.size → S1 k → S k) : Turn S a b := (Turn.refl S a).trans h hS
theorem Turn.alloc {S : Nat → Prop} {a b : World} (h : Turn S a b) (o : Obj) : Turn S a (b.alloc o) :=
  h.trans (S1 := fun _ => False) ⟨rfl, rfl, rfl, by simp, fun k hk _ => by first | exact heap_alloc_old b o hk | exact heap_alloc_old b o k hk⟩ (fun _ _ h => h.elim)
theorem Turn.drew {S : Nat → Prop} {a b : World} (h : Turn S a b) : Turn S a b.drew := ⟨h.os, h.tape, h.output, h.size, h.block⟩
theorem Turn.drewN {S : Nat → Prop} {a b : World} (h : Turn S a b) (n : Nat) : Turn S a (b.drewN n) := ⟨h.os, h.tape, h.output, h.size, h.block⟩
theorem Turn.setCell {S : Nat → Prop} {a b : World} (h : Turn S a b) {p : Addr} (hp : S p.block) (u : Value) : Turn S a (b.setCell p u) :=
  ⟨h.os, h.tape, h.output, by rw [World.size_setCell]; exact h.size, fun k hk hne => by rw [RowKit.Below.heap_setCell _ _ _ _ (fun e => hne (by rw [e]; exact hp))]; exact h.block k hk hne⟩
theorem Turn.setNew {S : Nat → Prop} {a b : World} (h : Turn S a b) {p : Addr} (hp : a.heap.size ≤ p.block) (u : Value) : Turn S a (b.setCell p u) :=
  ⟨h.os, h.tape, h.output, by rw [World.size_setCell]; exact h.size, fun k hk hne => by rw [RowKit.Below.heap_setCell _ _ _ _ (fun e => by omega)]; exact h.block k hk hne⟩
theorem Turn.grown {S : Nat → Prop} {a b c : World} {row : Option Nat} (h : Turn S a b) (g : b.grownBy c row) (hr : ∀ k, row = some k → k < a.heap.size → S k) : Turn S a c :=
  h.trans (S1 := fun k => row = some k) ⟨g.os, g.tape, g.output, g.size, fun k hk hne => g.block k hk (fun e => hne e.symm)⟩ (fun k hk e => hr k e hk)
theorem Turn.below {S : Nat → Prop} {w w' : World} (h : Turn S w w') {B : Nat} (hB : B ≤ w.heap.size) (hS : ∀ k, k < B → ¬ S k) : Below B w w' :=
  ⟨h.os, h.tape, h.output, h.size, fun k hk => h.block k (by omega) (hS k hk)⟩
theorem Turn.of_below {S : Nat → Prop} {w w' : World} (h : Below w.heap.size w w') : Turn S w w' := ⟨h.os, h.tape, h.output, h.size, fun k hk _ => h.block k hk⟩
theorem Turn.cell {S : Nat → Prop} {w w' : World} (h : Turn S w w') {p : Addr} (hp : p.block < w.heap.size) (hS : ¬ S p.block) : w'.cell? p = w.cell? p := World.cell?_of_block (h.block _ hp hS)
theorem Turn.frozen {S : Nat → Prop} {w w' : World} (h : Turn S w w') {p : Addr} (hp : p.block < w.heap.size) (hS : ¬ S p.block) : w'.frozen? p = w.frozen? p := World.frozen?_of_block (h.block _ hp hS)
theorem owns_block {w w' : World} {base : Nat} {e : TypeId} {size : Nat} {v : Value} {n : Nat} {xs : List Value} (h : w.ownsRow base e size v n xs) (hg : ∀ k, v.ownBlock = some k → w'.heap[k]? = w.heap[k]?) : w'.ownsRow base e size v n xs := by
  refine ⟨h.1, ?_⟩
  rcases h.2 with hn | ⟨g, cap, cur, rfl, hb, hgg, rest⟩
  · exact .inl hn
  · exact .inr ⟨g, cap, cur, rfl, hb, by rw [hg g rfl]; exact hgg, rest⟩
/-! ### the map of places -/
def plV (p : Nat × Nat × Nat) : Value := .agg #[.int .i64 p.1, .int .i64 p.2.1, .int .i64 p.2.2]
def plD (p : Nat × Nat × Nat) : DataW Unit := .agg [.lit (.int .i64 p.1), .lit (.int .i64 p.2.1), .lit (.int .i64 p.2.2)]
def plE : Value → Option (DataW Unit × List MemPlace)
  | .agg ⟨[.int .i64 a, .int .i64 b, .int .i64 c]⟩ => some (.agg [.lit (.int .i64 a), .lit (.int .i64 b), .lit (.int .i64 c)], [])
  | _ => none
theorem plE_mk (p : Nat × Nat × Nat) : plE (plV p) = some (plD p, []) := rfl
theorem plE_inv {v : Value} {p : Nat × Nat × Nat} {ps : List MemPlace} (h : plE v = some (plD p, ps)) : v = plV p := by
  unfold plE at h
  split at h
  · simp [plD] at h
    obtain ⟨⟨rfl, rfl, rfl⟩, _⟩ := h
    rfl
  · cases h
theorem law3 : Keyed Try.prog 3 := int_keyed Try.underlying3
theorem zero65 (w : World) : (zeroValue 65).run Try.prog w = .ok (plV (0, 0, 0)) w := by kernel_rfl
def wfI (x : Int) : Prop := -9223372036854775808 ≤ x ∧ x ≤ 9223372036854775807
theorem key3 {x : Int} (h : wfI x) : keyOf Try.prog 3 (.int .i64 x) = some (.int .i64 x) := keyOf_int_mk Try.underlying3 (WalkArith.wf_i64 h)
theorem lit_ne {x y : Int} (h : x ≠ y) : Lit.int .i64 x ≠ Lit.int .i64 y := fun e => h (by cases e; rfl)
def Mp (w : World) (mb : Nat) (M : Places) (n : Nat) : Prop :=
  ∃ D : DataW Unit, w.ownsMap Try.prog 3 plE mb n D ∧ Maps.size D = n ∧ (∀ x, Maps.has D (.int .i64 x) = (M x).isSome) ∧ ∀ x p, M x = some p → D.atKey (.int .i64 x) (plD (0, 0, 0)) = plD p
theorem owns_tight {w : World} {b n : Nat} {D : DataW Unit} (h : w.ownsMap Try.prog 3 plE b n D) : w.ownsMap Try.prog 3 plE b (Maps.size D) D := by
  obtain ⟨es, clock, hb, F, hs, rfl⟩ := h
  exact ⟨es, clock, hb, F, by simp [Maps.size, length_read], rfl⟩
theorem Mp.block {w w' : World} {mb : Nat} {M : Places} {n : Nat} (h : Mp w mb M n) (e : w'.heap[mb]? = w.heap[mb]?) : Mp w' mb M n := by
  obtain ⟨D, ⟨es, clock, hb, r⟩, r2⟩ := h
  exact ⟨D, ⟨es, clock, by rw [e]; exact hb, r⟩, r2⟩
theorem Mp.lt {w : World} {mb : Nat} {M : Places} {n : Nat} (h : Mp w mb M n) : mb < w.heap.size := let ⟨_, h, _⟩ := h; h.lt
theorem mp_made (w : World) : Mp (w.alloc (.map #[] 0)) w.heap.size (fun _ => none) 0 :=
  ⟨.map [], World.ownsMap_made _ _ _ _, rfl, fun x => rfl, fun x p h => by cases h⟩
theorem Mp.len {w : World} {mb : Nat} {M : Places} {n : Nat} (h : Mp w mb M n) (ty : TypeId) : (Builtin.len_ #[45] ty #[.map (some mb)]).run Try.prog w = .ok (.int .i64 n) w := by
  obtain ⟨D, h, hs, _⟩ := h
  rw [← hs]; exact h.len Try.underlying45 ty
theorem Mp.look {w : World} {mb : Nat} {M : Places} {n : Nat} (h : Mp w mb M n) {x : Int} (hx : wfI x) :
    (Instr.lookup 45 (.map (some mb)) (.int .i64 x) true).run Try.prog w = .ok (.tuple #[plV ((M x).getD (0, 0, 0)), .bool (M x).isSome]) w := by
  obtain ⟨D, h, hs, h1, h2⟩ := h
  obtain ⟨v, ps, hrun, hv⟩ := h.look_ok law3 Try.underlying45 (zero65 w) (plE_mk (0, 0, 0)) (key3 hx)
  rw [hrun, h1 x]
  have e : v = plV ((M x).getD (0, 0, 0)) := by
    cases hm : M x with
    | none =>
      have := h1 x
      rw [hm] at this
      rw [atKey_of_not_has this] at hv
      exact plE_inv hv
    | some p =>
      rw [h2 x p hm] at hv
      exact plE_inv hv
  rw [e]
theorem Mp.store {w : World} {mb : Nat} {M : Places} {n : Nat} (h : Mp w mb M n) {x : Int} (hx : wfI x) (hn : n ≤ 2000) (p : Nat × Nat × Nat) :
    ∃ w', (Instr.mapUpdate 45 (.map (some mb)) (.int .i64 x) (plV p)).run Try.prog w = .ok () w' ∧ Mp w' mb (M.put x p) (if (M x).isSome then n else n + 1) ∧ w.mapTurned w' mb := by
  obtain ⟨D, h, hs, h1, h2⟩ := h
  obtain ⟨w', hrun, ho, ht⟩ := h.store law3 Try.underlying45 (by unfold maxLen; omega) (key3 hx) (plE_mk p)
  have hsz : Maps.size (D.put (.int .i64 x) (plD p)) = if (M x).isSome then n else n + 1 := by
    rw [size_put (h.tidy law3), h1 x, hs]
  refine ⟨w', hrun, ⟨D.put (.int .i64 x) (plD p), hsz ▸ owns_tight ho, hsz, fun y => ?_, fun y q hq => ?_⟩, ht⟩
  · by_cases e : y = x
    · subst e; rw [has_put_same h.isMap (by trivial)]; simp [Places.put]
    · rw [has_put_other (lit_ne e), h1 y]; simp [Places.put, e]
  · by_cases e : y = x
    · subst e; rw [atKey_put_same h.isMap (by trivial)]; simp [Places.put] at hq; rw [hq]
    · rw [atKey_put_other (lit_ne e)]; simp [Places.put, e] at hq; exact h2 y q hq
theorem Mp.drop {w : World} {mb : Nat} {M : Places} {n : Nat} (h : Mp w mb M n) {x : Int} (hx : wfI x) (ty : TypeId) :
    ∃ w', (Builtin.delete_ #[45, 3] ty #[.map (some mb), .int .i64 x]).run Try.prog w = .ok (.tuple #[]) w' ∧ Mp w' mb (M.del x) (n - if (M x).isSome then 1 else 0) ∧ w.mapTurned w' mb := by
  obtain ⟨D, h, hs, h1, h2⟩ := h
  obtain ⟨w', hrun, ho, ht⟩ := h.drop law3 Try.underlying45 (key3 hx) ty
  have hsz : Maps.size (D.del (.int .i64 x)) = n - if (M x).isSome then 1 else 0 := by
    have := size_del (k := .int .i64 x) (h.tidy law3)
    rw [h1 x, hs] at this
    omega
  refine ⟨w', hrun, ⟨D.del (.int .i64 x), hsz ▸ owns_tight ho, hsz, fun y => ?_, fun y q hq => ?_⟩, ht⟩
  · by_cases e : y = x
    · subst e; rw [has_del_same]; simp [Places.del]
    · rw [has_del_other (lit_ne e), h1 y]; simp [Places.del, e]
  · by_cases e : y = x
    · subst e; simp [Places.del] at hq
    · rw [atKey_del_other (lit_ne e)]; simp [Places.del, e] at hq; exact h2 y q hq
/-! ### the clock -/
structure Clk (w : World) (B cb mb now ords : Nat) (V : Nat → Value) (T : Nat → List Tm) : Prop where
  cbB : cb < B
  mbB : mb < B
  ne : mb ≠ cb
  BS : B ≤ w.heap.size
  c0 : w.cell? ⟨cb, 0, none⟩ = some (.int .i64 now)
  c1 : w.cell? ⟨cb, 1, none⟩ = some (.int .i64 ords)
  cv : ∀ q, q < 448 → w.cell? ⟨cb, 2 + q, none⟩ = some (V q)
  cm : w.cell? ⟨cb, 450, none⟩ = some (.map (some mb))
  fz : ∀ j, w.frozen? ⟨cb, j, none⟩ = false
  rows : ∀ q, q < 448 → w.ownsRow B 69 3 (V q) (T q).length ((T q).flatMap encT)
  apart : ∀ q r, q < 448 → r < 448 → q ≠ r → (V q).ownBlock = none ∨ (V q).ownBlock ≠ (V r).ownBlock
/-- The blocks that a clock owns. -/
def Own (cb mb : Nat) (V : Nat → Value) (k : Nat) : Prop := k = cb ∨ k = mb ∨ ∃ q, q < 448 ∧ (V q).ownBlock = some k
theorem Clk.turn {w w' : World} {B cb mb now ords : Nat} {V : Nat → Value} {T : Nat → List Tm} (h : Clk w B cb mb now ords V T) {S : Nat → Prop} (t : Turn S w w') (hS : ∀ k, S k → k ≠ cb ∧ ∀ q, q < 448 → (V q).ownBlock ≠ some k) : Clk w' B cb mb now ords V T := by
  have hc : cb < w.heap.size := Nat.lt_of_lt_of_le h.cbB h.BS
  have hn : ¬ S cb := fun c => (hS cb c).1 rfl
  have e : ∀ j, w'.cell? ⟨cb, j, none⟩ = w.cell? ⟨cb, j, none⟩ := fun j => t.cell (p := ⟨cb, j, none⟩) hc hn
  refine ⟨h.cbB, h.mbB, h.ne, Nat.le_trans h.BS t.size, (e 0).trans h.c0, (e 1).trans h.c1, fun q hq => (e _).trans (h.cv q hq), (e 450).trans h.cm, fun j => (t.frozen (p := ⟨cb, j, none⟩) hc hn).trans (h.fz j), fun q hq => owns_block (h.rows q hq) (fun k hk => ?_), h.apart⟩
  exact t.block k ((h.rows q hq).lt k hk).2 (fun c => (hS k c).2 q hq hk)
theorem Clk.alloc {w : World} {B cb mb now ords : Nat} {V : Nat → Value} {T : Nat → List Tm} (h : Clk w B cb mb now ords V T) (o : Obj) : Clk (w.alloc o) B cb mb now ords V T :=
  h.turn ((Turn.refl (fun _ => False) w).alloc o) (fun _ h => h.elim)
theorem Clk.drew {w : World} {B cb mb now ords : Nat} {V : Nat → Value} {T : Nat → List Tm} (h : Clk w B cb mb now ords V T) : Clk w.drew B cb mb now ords V T :=
  h.turn ((Turn.refl (fun _ => False) w).drew) (fun _ h => h.elim)
theorem Clk.drewN {w : World} {B cb mb now ords : Nat} {V : Nat → Value} {T : Nat → List Tm} (h : Clk w B cb mb now ords V T) (n : Nat) : Clk (w.drewN n) B cb mb now ords V T :=
  h.turn ((Turn.refl (fun _ => False) w).drewN n) (fun _ h => h.elim)
def updV (V : Nat → Value) (q : Nat) (v : Value) : Nat → Value := fun r => if r = q then v else V r
/-- A slot's row is turned, and the slot's cell is laid anew. -/
theorem Clk.row {w w1 : World} {B cb mb now ords : Nat} {V : Nat → Value} {T : Nat → List Tm} (h : Clk w B cb mb now ords V T) {q : Nat} (hq : q < 448) {v : Value} {l : List Tm}
    (t : Turn (fun k => (V q).ownBlock = some k) w w1) (hrow : w1.ownsRow B 69 3 v l.length (l.flatMap encT)) (hat : ∀ g, v.ownBlock = some g → (V q).ownBlock = some g ∨ w.heap.size ≤ g) :
    Clk (w1.setCell ⟨cb, 2 + q, none⟩ v) B cb mb now ords (updV V q v) (upd T q l) := by
  have hc : cb < w.heap.size := Nat.lt_of_lt_of_le h.cbB h.BS
  have hbl : ∀ r, r < 448 → ∀ g, (V r).ownBlock = some g → B ≤ g ∧ g < w.heap.size := fun r hr g hg => (h.rows r hr).lt g hg
  have hn : ¬ (V q).ownBlock = some cb := fun c => by have := hbl q hq cb c; have := h.cbB; omega
  have e : ∀ j, w1.cell? ⟨cb, j, none⟩ = w.cell? ⟨cb, j, none⟩ := fun j => t.cell (p := ⟨cb, j, none⟩) hc hn
  have e2 : ∀ j, j ≠ 2 + q → (w1.setCell ⟨cb, 2 + q, none⟩ v).cell? ⟨cb, j, none⟩ = w.cell? ⟨cb, j, none⟩ := fun j hj => by
    rw [World.cell?_setCell_other _ _ _ _ (fun c => hj (by cases c; rfl))]; exact e j
  have hvg : ∀ g, v.ownBlock = some g → B ≤ g := fun g hg => (hrow.lt g hg).1
  refine ⟨h.cbB, h.mbB, h.ne, by rw [World.size_setCell]; exact Nat.le_trans h.BS t.size, (e2 0 (by omega)).trans h.c0, (e2 1 (by omega)).trans h.c1, fun r hr => ?_, (e2 450 (by omega)).trans h.cm, fun j => ?_, fun r hr => ?_, fun r s hr hs hrs => ?_⟩
  · by_cases c : r = q
    · subst c
      simp only [updV, if_true]
      have hsome : (w1.cell? ⟨cb, 2 + r, none⟩).isSome = true := by rw [e, h.cv r hr]; rfl
      obtain ⟨u, hu⟩ := Option.isSome_iff_exists.1 hsome
      exact World.cell?_setCell_same w1 _ _ hu
    · simp only [updV, c, if_false]; exact (e2 _ (by omega)).trans (h.cv r hr)
  · rw [World.frozen?_setCell]; exact (t.frozen (p := ⟨cb, j, none⟩) hc hn).trans (h.fz j)
  · have hcell : ∀ k, B ≤ k → (w1.setCell ⟨cb, 2 + q, none⟩ v).heap[k]? = w1.heap[k]? := fun k hk => RowKit.Below.heap_setCell _ _ _ _ (fun c => by have := h.cbB; simp at c; omega)
    by_cases c : r = q
    · subst c
      simp only [updV, upd, if_true]
      exact owns_block hrow (fun k hk => hcell k (hvg k hk))
    · simp only [updV, upd, c, if_false]
      refine owns_block (h.rows r hr) (fun k hk => ?_)
      obtain ⟨h1, h2⟩ := hbl r hr k hk
      rw [hcell k h1]
      refine t.block k h2 (fun c2 => ?_)
      rcases h.apart r q hr hq c with h3 | h3
      · rw [h3] at hk; cases hk
      · exact h3 (hk.trans c2.symm)
  · have new : ∀ s, s < 448 → s ≠ q → v.ownBlock = none ∨ v.ownBlock ≠ (V s).ownBlock := fun s hs hsq => by
      cases hv : v.ownBlock with
      | none => exact Or.inl rfl
      | some g =>
        right
        intro c
        rcases hat g hv with h3 | h3
        · rcases h.apart s q hs hq hsq with h4 | h4
          · rw [h4] at c; cases c
          · exact h4 (c.symm.trans h3.symm)
        · have := hbl s hs g c.symm; omega
    by_cases c : r = q
    · subst c
      have : ¬ s = r := fun e => hrs e.symm
      simp only [updV, if_true, this, if_false]
      exact new s hs this
    · by_cases c2 : s = q
      · subst c2
        simp only [updV, c, if_false, if_true]
        rcases new r hr c with h3 | h3
        · rw [h3]; cases (V r).ownBlock with
          | none => exact Or.inl rfl
          | some g => exact Or.inr (by simp)
        · exact Or.inr (fun e => h3 e.symm)
      · simp only [updV, c, c2, if_false]; exact h.apart r s hr hs hrs
theorem own_upd {cb mb : Nat} {V : Nat → Value} {q : Nat} {v : Value} {n : Nat} (hq : q < 448) (hat : ∀ g, v.ownBlock = some g → (V q).ownBlock = some g ∨ n ≤ g) : ∀ k, Own cb mb (updV V q v) k → Own cb mb V k ∨ n ≤ k := by
  rintro k (h | h | ⟨r, hr, h⟩)
  · exact Or.inl (Or.inl h)
  · exact Or.inl (Or.inr (Or.inl h))
  · by_cases c : r = q
    · subst c
      simp only [updV, if_true] at h
      rcases hat k h with h3 | h3
      · exact Or.inl (Or.inr (Or.inr ⟨r, hr, h3⟩))
      · exact Or.inr h3
    · simp only [updV, c, if_false] at h
      exact Or.inl (Or.inr (Or.inr ⟨r, hr, h⟩))
/-- A number of the clock is laid anew. -/
theorem Clk.num {w : World} {B cb mb now ords : Nat} {V : Nat → Value} {T : Nat → List Tm} (h : Clk w B cb mb now ords V T) :
    (∀ n : Nat, Clk (w.setCell ⟨cb, 0, none⟩ (.int .i64 n)) B cb mb n ords V T) ∧ (∀ n : Nat, Clk (w.setCell ⟨cb, 1, none⟩ (.int .i64 n)) B cb mb now n V T) := by
  have hc : cb < w.heap.size := Nat.lt_of_lt_of_le h.cbB h.BS
  have e2 : ∀ i v j, j ≠ i → (w.setCell ⟨cb, i, none⟩ v).cell? ⟨cb, j, none⟩ = w.cell? ⟨cb, j, none⟩ := fun i v j hj => World.cell?_setCell_other _ _ _ _ (fun c => hj (by cases c; rfl))
  have hcell : ∀ i v k, B ≤ k → (w.setCell ⟨cb, i, none⟩ v).heap[k]? = w.heap[k]? := fun i v k hk => RowKit.Below.heap_setCell _ _ _ _ (fun c => by have := h.cbB; simp at c; omega)
  constructor
  · intro n
    exact ⟨h.cbB, h.mbB, h.ne, by rw [World.size_setCell]; exact h.BS, World.cell?_setCell_same w _ _ h.c0, (e2 _ _ _ (by omega)).trans h.c1, fun q hq => (e2 _ _ _ (by omega)).trans (h.cv q hq), (e2 _ _ _ (by omega)).trans h.cm,
      fun j => by rw [World.frozen?_setCell]; exact h.fz j, fun q hq => owns_block (h.rows q hq) (fun k hk => hcell _ _ k ((h.rows q hq).lt k hk).1), h.apart⟩
  · intro n
    exact ⟨h.cbB, h.mbB, h.ne, by rw [World.size_setCell]; exact h.BS, (e2 _ _ _ (by omega)).trans h.c0, World.cell?_setCell_same w _ _ h.c1, fun q hq => (e2 _ _ _ (by omega)).trans (h.cv q hq), (e2 _ _ _ (by omega)).trans h.cm,
      fun j => by rw [World.frozen?_setCell]; exact h.fz j, fun q hq => owns_block (h.rows q hq) (fun k hk => hcell _ _ k ((h.rows q hq).lt k hk).1), h.apart⟩
end Go.Proofs.Ytccddjfcceclnaa
