/-
  A rule that the reference is reading: its rows, each in blocks of its own colour.
-/
import Derived.Test.YtnlmkdncifijlaaDoorY6
import Derived.Test.YtnlmkdncifijlaaDoorC1
namespace Go.Proofs.YtnlmkdncifijlaaDoor.Ref
open Go.ChangeShapes Go.WideShapes Go.ChangeAt Go.RowKit Go.Maps
set_option linter.unusedVariables false
set_option linter.unusedSimpArgs false
set_option maxRecDepth 20000
/-- Blocks from B on, of a colour. -/
def Cq (B : Nat) (col : Nat → Nat) (j i : Nat) : Prop := B ≤ i ∧ col i = j
/-- The rows of a rule. -/
structure RR (w : World) (B : Nat) (col : Nat → Nat) (r : Rl) (wv tv mv kv ev : Value) : Prop where
  r1 : Row w (Cq B col 1) 54 18 wv (r.w.map encP)
  r2 : Row w (Cq B col 2) 54 18 tv (r.t.map encP)
  r3 : Row w (Cq B col 3) 107 20 mv (r.m.map encM)
  r4 : Row w (Cq B col 4) 62 3 kv (r.k.map encK)
  r5 : Row w (Cq B col 5) 50 6 ev (r.e.v.map encO)
theorem RR.mono {w w' : World} {B : Nat} {col col' : Nat → Nat} {r : Rl} {wv tv mv kv ev : Value} (h : RR w B col r wv tv mv kv ev) (hs : ∀ i, B ≤ i → 1 ≤ col i → i < w.heap.size → col' i = col i ∧ w'.heap[i]? = w.heap[i]?) : RR w' B col' r wv tv mv kv ev := by
  have key : ∀ {j i : Nat}, 1 ≤ j → Cq B col j i → i < w.heap.size → Cq B col' j i ∧ w'.heap[i]? = w.heap[i]? := fun hj hi hl => by
    obtain ⟨a, b⟩ := hs _ hi.1 (by rw [hi.2]; exact hj) hl
    exact ⟨⟨hi.1, a.trans hi.2⟩, b⟩
  exact ⟨h.r1.mono fun i hi hl => key (by omega) hi hl, h.r2.mono fun i hi hl => key (by omega) hi hl, h.r3.mono fun i hi hl => key (by omega) hi hl, h.r4.mono fun i hi hl => key (by omega) hi hl, h.r5.mono fun i hi hl => key (by omega) hi hl⟩
abbrev ruC (n : ByteArray) (wv tv mv kv : Value) (ty : ByteArray) (ev : Value) : List Value := [.string n, wv, tv, mv, kv, .string ty, ev]
def ru0 : List Value := ruC (txt []) (.slice none 0 0) (.slice none 0 0) (.slice none 0 0) (.slice none 0 0) (txt []) (.slice none 0 0)
/-- What stands while a part of a rule is read: the rule in block U, what is answered in block R. -/
structure Pst (w0 w : World) (g : Nat) (V : Value) (L : List Tk) (s : St) (B U R : Nat) (col : Nat → Nat) (r : Rl) (wv tv mv kv ev : Value) : Prop where
  env : Env w g V L s
  rr : RR w B col r wv tv mv kv ev
  blk : w.heap[U]? = some (.cells (ruC r.n wv tv mv kv r.e.ty ev).toArray 44 (0, 0))
  res : w.heap[R]? = some (.cells ru0.toArray 44 (0, 0))
  fr : Fr (fun i => i = g ∨ B ≤ i) w0 w
  lo : g < B ∧ B ≤ U ∧ U < R
  c0 : col U = 0 ∧ col R = 0
section
variable {w0 w w' : World} {g B U R : Nat} {V : Value} {L : List Tk} {s s' : St} {col : Nat → Nat} {r : Rl} {wv tv mv kv ev : Value}
theorem Pst.call (h : Pst w0 w g V L s B U R col r wv tv mv kv ev) (he : Env w' g V L s') (hf : Fr (fun i => i = g) w w') : Pst w0 w' g V L s' B U R col r wv tv mv kv ev := by
  have hlo := h.lo
  exact ⟨he, h.rr.mono fun i hi _ hl => ⟨rfl, hf.block i hl (by show ¬ i = g; omega)⟩, (hf.block U (blk_lt h.blk) (by show ¬ U = g; omega)).trans h.blk, (hf.block R (blk_lt h.res) (by show ¬ R = g; omega)).trans h.res, h.fr.trans (hf.mono fun i hi _ => .inl hi), hlo, h.c0⟩
theorem Pst.on (h : Pst w0 w g V L s B U R col r wv tv mv kv ev) (hf : Fr (fun _ => False) w w') : Pst w0 w' g V L s B U R col r wv tv mv kv ev := h.call (h.env.fr hf) (hf.mono fun _ h _ => h.elim)
theorem Pst.alloc (h : Pst w0 w g V L s B U R col r wv tv mv kv ev) (o : Obj) : Pst w0 (w.alloc o) g V L s B U R col r wv tv mv kv ev := h.on ((Fr.refl _ _).alloc o)
/-- A store into a block without a colour. -/
theorem Pst.st {M : Nat} (h : Pst w0 w g V L s B U R col r wv tv mv kv ev) (hf : Fr (fun i => i = M) w w') (hM : col M = 0) (hB : R < M) : Pst w0 w' g V L s B U R col r wv tv mv kv ev := by
  have hlo := h.lo
  have hg := blk_lt h.env.blk
  refine ⟨h.env.on hf.size (fun k hk => hf.block k (by omega) (by show ¬ k = M; omega)) ((hf.block g hg (by show ¬ g = M; omega)).trans h.env.blk) h.env.pos, h.rr.mono fun i hi hc hl => ⟨rfl, hf.block i hl (by show ¬ i = M; rintro rfl; omega)⟩, (hf.block U (blk_lt h.blk) (by show ¬ U = M; omega)).trans h.blk, (hf.block R (blk_lt h.res) (by show ¬ R = M; omega)).trans h.res, h.fr.stored hf (.inl (.inr (by omega))), hlo, h.c0⟩
/-- Other colours for what has none. -/
theorem Pst.recol (h : Pst w0 w g V L s B U R col r wv tv mv kv ev) {col' : Nat → Nat} (hc : ∀ i, B ≤ i → 1 ≤ col i → i < w.heap.size → col' i = col i) (h0 : col' U = 0 ∧ col' R = 0) : Pst w0 w g V L s B U R col' r wv tv mv kv ev :=
  ⟨h.env, h.rr.mono fun i hi h1 hl => ⟨hc i hi h1 hl, rfl⟩, h.blk, h.res, h.fr, h.lo, h0⟩
theorem Pst.cell (h : Pst w0 w g V L s B U R col r wv tv mv kv ev) (j : Nat) : w.cell? ⟨U, j, none⟩ = (ruC r.n wv tv mv kv r.e.ty ev)[j]? := by rw [cell_of_blk h.blk]; simp
theorem Pst.fz (h : Pst w0 w g V L s B U R col r wv tv mv kv ev) (j : Nat) : w.frozen? ⟨U, j, none⟩ = false := free_of_blk h.blk j
end
theorem Env.grown {w w' : World} {g B : Nat} {V : Value} {L : List Tk} {s : St} {row : Option Nat} (h : Env w g V L s) (hg : w.grownBy w' row) (hr : ∀ k, row = some k → B ≤ k) (hB : g < B) : Env w' g V L s := by
  have hgl := blk_lt h.blk
  exact h.on hg.size (fun k hk => hg.block k (by omega) fun e => by have := hr k e.symm; omega) ((hg.block g hgl fun e => by have := hr g e.symm; omega).trans h.blk) h.pos
theorem Pst.app1 {w0 w w5 : World} {g B U R : Nat} {V : Value} {L : List Tk} {s : St} {col col' : Nat → Nat} {r : Rl} {wv tv mv kv ev v' : Value} {x : Pt} (h : Pst w0 w g V L s B U R col r wv tv mv kv ev) (hgb : w.grownBy w5 wv.ownBlock) (hown : ∀ k, wv.ownBlock = some k → Cq B col 1 k)
    (hcol : ∀ i, B ≤ i → 1 ≤ col i → i < w.heap.size → col' i = col i) (hc0 : col' U = 0 ∧ col' R = 0) (hrw : Row w5 (Cq B col' 1) 54 18 v' (r.w.map encP ++ [encP x])) : Pst w0 (w5.setCell ⟨U, 1, none⟩ v') g V L s B U R col' { r with w := r.w ++ [x] } v' tv mv kv ev := by
  have hlo := h.lo
  have h0 := h.c0
  have hset : ∀ i, i ≠ U → (w5.setCell ⟨U, 1, none⟩ v').heap[i]? = w5.heap[i]? := fun i hi => Below.heap_setCell _ _ _ _ hi
  have hne : ∀ i, col i = 0 → wv.ownBlock ≠ some i := fun i hi e => by have := (hown i e).2; omega
  have hU : w5.heap[U]? = w.heap[U]? := hgb.block U (blk_lt h.blk) fun e => hne U h0.1 e.symm
  have hR : w5.heap[R]? = w.heap[R]? := hgb.block R (blk_lt h.res) fun e => hne R h0.2 e.symm
  have other : ∀ (j : Nat) {T z : Nat} {v : Value} {l : List (List Dat)}, 1 ≤ j → j ≠ 1 → Row w (Cq B col j) T z v l → Row (w5.setCell ⟨U, 1, none⟩ v') (Cq B col' j) T z v l := by
    intro j T z v l hj hn hr
    exact hr.mono fun i hi hl => ⟨⟨hi.1, (hcol i hi.1 (by have := hi.2; omega) hl).trans hi.2⟩, (hset i (fun e => by have := hi.2; rw [e, h0.1] at this; omega)).trans (hgb.block i hl fun e => by have := (hown i e.symm).2; have := hi.2; omega)⟩
  refine ⟨(h.env.grown hgb (fun k hk => (hown k hk).1) hlo.1).setCell _ (by show g < U; omega) _, ⟨by show Row _ _ _ _ _ ((r.w ++ [x]).map encP); rw [List.map_append]; exact hrw.mono fun i hi hl => ⟨hi, hset i (fun e => by have := hi.2; rw [e, hc0.1] at this; omega)⟩, other 2 (by omega) (by omega) h.rr.r2, other 3 (by omega) (by omega) h.rr.r3, other 4 (by omega) (by omega) h.rr.r4, other 5 (by omega) (by omega) h.rr.r5⟩, ?_, (hset R (by omega)).trans (hR.trans h.res), (h.fr.grown hgb (fun k hk => .inl (.inr (hown k hk).1))).setCell (p := ⟨U, 1, none⟩) (.inl (.inr hlo.2.1)) _, hlo, hc0⟩
  rw [blk_set (hU.trans h.blk)]
  rfl
theorem Pst.app2 {w0 w w5 : World} {g B U R : Nat} {V : Value} {L : List Tk} {s : St} {col col' : Nat → Nat} {r : Rl} {wv tv mv kv ev v' : Value} {x : Pt} (h : Pst w0 w g V L s B U R col r wv tv mv kv ev) (hgb : w.grownBy w5 tv.ownBlock) (hown : ∀ k, tv.ownBlock = some k → Cq B col 2 k)
    (hcol : ∀ i, B ≤ i → 1 ≤ col i → i < w.heap.size → col' i = col i) (hc0 : col' U = 0 ∧ col' R = 0) (hrw : Row w5 (Cq B col' 2) 54 18 v' (r.t.map encP ++ [encP x])) : Pst w0 (w5.setCell ⟨U, 2, none⟩ v') g V L s B U R col' { r with t := r.t ++ [x] } wv v' mv kv ev := by
  have hlo := h.lo
  have h0 := h.c0
  have hset : ∀ i, i ≠ U → (w5.setCell ⟨U, 2, none⟩ v').heap[i]? = w5.heap[i]? := fun i hi => Below.heap_setCell _ _ _ _ hi
  have hne : ∀ i, col i = 0 → tv.ownBlock ≠ some i := fun i hi e => by have := (hown i e).2; omega
  have hU : w5.heap[U]? = w.heap[U]? := hgb.block U (blk_lt h.blk) fun e => hne U h0.1 e.symm
  have hR : w5.heap[R]? = w.heap[R]? := hgb.block R (blk_lt h.res) fun e => hne R h0.2 e.symm
  have other : ∀ (j : Nat) {T z : Nat} {v : Value} {l : List (List Dat)}, 1 ≤ j → j ≠ 2 → Row w (Cq B col j) T z v l → Row (w5.setCell ⟨U, 2, none⟩ v') (Cq B col' j) T z v l := by
    intro j T z v l hj hn hr
    exact hr.mono fun i hi hl => ⟨⟨hi.1, (hcol i hi.1 (by have := hi.2; omega) hl).trans hi.2⟩, (hset i (fun e => by have := hi.2; rw [e, h0.1] at this; omega)).trans (hgb.block i hl fun e => by have := (hown i e.symm).2; have := hi.2; omega)⟩
  refine ⟨(h.env.grown hgb (fun k hk => (hown k hk).1) hlo.1).setCell _ (by show g < U; omega) _, ⟨other 1 (by omega) (by omega) h.rr.r1, by show Row _ _ _ _ _ ((r.t ++ [x]).map encP); rw [List.map_append]; exact hrw.mono fun i hi hl => ⟨hi, hset i (fun e => by have := hi.2; rw [e, hc0.1] at this; omega)⟩, other 3 (by omega) (by omega) h.rr.r3, other 4 (by omega) (by omega) h.rr.r4, other 5 (by omega) (by omega) h.rr.r5⟩, ?_, (hset R (by omega)).trans (hR.trans h.res), (h.fr.grown hgb (fun k hk => .inl (.inr (hown k hk).1))).setCell (p := ⟨U, 2, none⟩) (.inl (.inr hlo.2.1)) _, hlo, hc0⟩
  rw [blk_set (hU.trans h.blk)]
  rfl
theorem Pst.app3 {w0 w w5 : World} {g B U R : Nat} {V : Value} {L : List Tk} {s : St} {col col' : Nat → Nat} {r : Rl} {wv tv mv kv ev v' : Value} {x : Mn} (h : Pst w0 w g V L s B U R col r wv tv mv kv ev) (hgb : w.grownBy w5 mv.ownBlock) (hown : ∀ k, mv.ownBlock = some k → Cq B col 3 k)
    (hcol : ∀ i, B ≤ i → 1 ≤ col i → i < w.heap.size → col' i = col i) (hc0 : col' U = 0 ∧ col' R = 0) (hrw : Row w5 (Cq B col' 3) 107 20 v' (r.m.map encM ++ [encM x])) : Pst w0 (w5.setCell ⟨U, 3, none⟩ v') g V L s B U R col' { r with m := r.m ++ [x] } wv tv v' kv ev := by
  have hlo := h.lo
  have h0 := h.c0
  have hset : ∀ i, i ≠ U → (w5.setCell ⟨U, 3, none⟩ v').heap[i]? = w5.heap[i]? := fun i hi => Below.heap_setCell _ _ _ _ hi
  have hne : ∀ i, col i = 0 → mv.ownBlock ≠ some i := fun i hi e => by have := (hown i e).2; omega
  have hU : w5.heap[U]? = w.heap[U]? := hgb.block U (blk_lt h.blk) fun e => hne U h0.1 e.symm
  have hR : w5.heap[R]? = w.heap[R]? := hgb.block R (blk_lt h.res) fun e => hne R h0.2 e.symm
  have other : ∀ (j : Nat) {T z : Nat} {v : Value} {l : List (List Dat)}, 1 ≤ j → j ≠ 3 → Row w (Cq B col j) T z v l → Row (w5.setCell ⟨U, 3, none⟩ v') (Cq B col' j) T z v l := by
    intro j T z v l hj hn hr
    exact hr.mono fun i hi hl => ⟨⟨hi.1, (hcol i hi.1 (by have := hi.2; omega) hl).trans hi.2⟩, (hset i (fun e => by have := hi.2; rw [e, h0.1] at this; omega)).trans (hgb.block i hl fun e => by have := (hown i e.symm).2; have := hi.2; omega)⟩
  refine ⟨(h.env.grown hgb (fun k hk => (hown k hk).1) hlo.1).setCell _ (by show g < U; omega) _, ⟨other 1 (by omega) (by omega) h.rr.r1, other 2 (by omega) (by omega) h.rr.r2, by show Row _ _ _ _ _ ((r.m ++ [x]).map encM); rw [List.map_append]; exact hrw.mono fun i hi hl => ⟨hi, hset i (fun e => by have := hi.2; rw [e, hc0.1] at this; omega)⟩, other 4 (by omega) (by omega) h.rr.r4, other 5 (by omega) (by omega) h.rr.r5⟩, ?_, (hset R (by omega)).trans (hR.trans h.res), (h.fr.grown hgb (fun k hk => .inl (.inr (hown k hk).1))).setCell (p := ⟨U, 3, none⟩) (.inl (.inr hlo.2.1)) _, hlo, hc0⟩
  rw [blk_set (hU.trans h.blk)]
  rfl
theorem Pst.app4 {w0 w w5 : World} {g B U R : Nat} {V : Value} {L : List Tk} {s : St} {col col' : Nat → Nat} {r : Rl} {wv tv mv kv ev v' : Value} {x : Lk} (h : Pst w0 w g V L s B U R col r wv tv mv kv ev) (hgb : w.grownBy w5 kv.ownBlock) (hown : ∀ k, kv.ownBlock = some k → Cq B col 4 k)
    (hcol : ∀ i, B ≤ i → 1 ≤ col i → i < w.heap.size → col' i = col i) (hc0 : col' U = 0 ∧ col' R = 0) (hrw : Row w5 (Cq B col' 4) 62 3 v' (r.k.map encK ++ [encK x])) : Pst w0 (w5.setCell ⟨U, 4, none⟩ v') g V L s B U R col' { r with k := r.k ++ [x] } wv tv mv v' ev := by
  have hlo := h.lo
  have h0 := h.c0
  have hset : ∀ i, i ≠ U → (w5.setCell ⟨U, 4, none⟩ v').heap[i]? = w5.heap[i]? := fun i hi => Below.heap_setCell _ _ _ _ hi
  have hne : ∀ i, col i = 0 → kv.ownBlock ≠ some i := fun i hi e => by have := (hown i e).2; omega
  have hU : w5.heap[U]? = w.heap[U]? := hgb.block U (blk_lt h.blk) fun e => hne U h0.1 e.symm
  have hR : w5.heap[R]? = w.heap[R]? := hgb.block R (blk_lt h.res) fun e => hne R h0.2 e.symm
  have other : ∀ (j : Nat) {T z : Nat} {v : Value} {l : List (List Dat)}, 1 ≤ j → j ≠ 4 → Row w (Cq B col j) T z v l → Row (w5.setCell ⟨U, 4, none⟩ v') (Cq B col' j) T z v l := by
    intro j T z v l hj hn hr
    exact hr.mono fun i hi hl => ⟨⟨hi.1, (hcol i hi.1 (by have := hi.2; omega) hl).trans hi.2⟩, (hset i (fun e => by have := hi.2; rw [e, h0.1] at this; omega)).trans (hgb.block i hl fun e => by have := (hown i e.symm).2; have := hi.2; omega)⟩
  refine ⟨(h.env.grown hgb (fun k hk => (hown k hk).1) hlo.1).setCell _ (by show g < U; omega) _, ⟨other 1 (by omega) (by omega) h.rr.r1, other 2 (by omega) (by omega) h.rr.r2, other 3 (by omega) (by omega) h.rr.r3, by show Row _ _ _ _ _ ((r.k ++ [x]).map encK); rw [List.map_append]; exact hrw.mono fun i hi hl => ⟨hi, hset i (fun e => by have := hi.2; rw [e, hc0.1] at this; omega)⟩, other 5 (by omega) (by omega) h.rr.r5⟩, ?_, (hset R (by omega)).trans (hR.trans h.res), (h.fr.grown hgb (fun k hk => .inl (.inr (hown k hk).1))).setCell (p := ⟨U, 4, none⟩) (.inl (.inr hlo.2.1)) _, hlo, hc0⟩
  rw [blk_set (hU.trans h.blk)]
  rfl
theorem Pst.app5 {w0 w w5 : World} {g B U R : Nat} {V : Value} {L : List Tk} {s : St} {col col' : Nat → Nat} {r : Rl} {wv tv mv kv ev v' : Value} {x : Opd} (h : Pst w0 w g V L s B U R col r wv tv mv kv ev) (hgb : w.grownBy w5 ev.ownBlock) (hown : ∀ k, ev.ownBlock = some k → Cq B col 5 k)
    (hcol : ∀ i, B ≤ i → 1 ≤ col i → i < w.heap.size → col' i = col i) (hc0 : col' U = 0 ∧ col' R = 0) (hrw : Row w5 (Cq B col' 5) 50 6 v' (r.e.v.map encO ++ [encO x])) : Pst w0 (w5.setCell ⟨U, 6, none⟩ v') g V L s B U R col' { r with e := ⟨r.e.ty, r.e.v ++ [x]⟩ } wv tv mv kv v' := by
  have hlo := h.lo
  have h0 := h.c0
  have hset : ∀ i, i ≠ U → (w5.setCell ⟨U, 6, none⟩ v').heap[i]? = w5.heap[i]? := fun i hi => Below.heap_setCell _ _ _ _ hi
  have hne : ∀ i, col i = 0 → ev.ownBlock ≠ some i := fun i hi e => by have := (hown i e).2; omega
  have hU : w5.heap[U]? = w.heap[U]? := hgb.block U (blk_lt h.blk) fun e => hne U h0.1 e.symm
  have hR : w5.heap[R]? = w.heap[R]? := hgb.block R (blk_lt h.res) fun e => hne R h0.2 e.symm
  have other : ∀ (j : Nat) {T z : Nat} {v : Value} {l : List (List Dat)}, 1 ≤ j → j ≠ 5 → Row w (Cq B col j) T z v l → Row (w5.setCell ⟨U, 6, none⟩ v') (Cq B col' j) T z v l := by
    intro j T z v l hj hn hr
    exact hr.mono fun i hi hl => ⟨⟨hi.1, (hcol i hi.1 (by have := hi.2; omega) hl).trans hi.2⟩, (hset i (fun e => by have := hi.2; rw [e, h0.1] at this; omega)).trans (hgb.block i hl fun e => by have := (hown i e.symm).2; have := hi.2; omega)⟩
  refine ⟨(h.env.grown hgb (fun k hk => (hown k hk).1) hlo.1).setCell _ (by show g < U; omega) _, ⟨other 1 (by omega) (by omega) h.rr.r1, other 2 (by omega) (by omega) h.rr.r2, other 3 (by omega) (by omega) h.rr.r3, other 4 (by omega) (by omega) h.rr.r4, by show Row _ _ _ _ _ ((r.e.v ++ [x]).map encO); rw [List.map_append]; exact hrw.mono fun i hi hl => ⟨hi, hset i (fun e => by have := hi.2; rw [e, hc0.1] at this; omega)⟩⟩, ?_, (hset R (by omega)).trans (hR.trans h.res), (h.fr.grown hgb (fun k hk => .inl (.inr (hown k hk).1))).setCell (p := ⟨U, 6, none⟩) (.inl (.inr hlo.2.1)) _, hlo, hc0⟩
  rw [blk_set (hU.trans h.blk)]
  rfl
/-- What a part of a rule leaves. -/
def PartPost (w : World) (g : Nat) (V : Value) (L : List Tk) (B : Nat) (r : Rl) (s : St) (e : Ending) (w' : World) : Prop :=
  ∃ col wv tv mv kv ev, e = .returned (.agg #[.string r.n, wv, tv, mv, kv, .string r.e.ty, ev]) ∧ RR w' B col r wv tv mv kv ev ∧ Env w' g V L s ∧ Fr (fun i => i = g ∨ B ≤ i) w w'
def pcol (col : Nat → Nat) (N : Nat) (i : Nat) : Nat := if i < N then col i else 0
/-- New blocks of a colour, but one. -/
def pcol2 (col : Nat → Nat) (N M j : Nat) (i : Nat) : Nat := if i < N then col i else if i = M then 0 else j
theorem pst_start {w : World} {g B : Nat} {V : Value} {L : List Tk} {s : St} {col : Nat → Nat} {r : Rl} {wv tv mv kv ev : Value} (h : Env w g V L s) (hr : RR w B col r wv tv mv kv ev) (hg : g < B) (hB : B ≤ w.heap.size) :
    Pst w ((w.alloc (.cells (ruC r.n wv tv mv kv r.e.ty ev).toArray 44)).alloc (.cells ru0.toArray 44)) g V L s B w.heap.size (w.heap.size + 1) (pcol col w.heap.size) r wv tv mv kv ev := by
  have e1 : (w.alloc (.cells (ruC r.n wv tv mv kv r.e.ty ev).toArray 44)).heap.size = w.heap.size + 1 := by simp
  refine ⟨(h.alloc _).alloc _, hr.mono fun i hi _ hl => ⟨by unfold pcol; rw [if_pos hl], (Below.heap_alloc _ _ _ (by rw [e1]; omega)).trans (Below.heap_alloc _ _ _ hl)⟩, ?_, ?_, ((Fr.refl _ _).alloc _).alloc _, ⟨hg, hB, by omega⟩, ?_⟩
  · rw [Below.heap_alloc _ _ _ (by rw [e1]; omega)]; exact heap_alloc_new _ _
  · have := heap_alloc_new (w.alloc (.cells (ruC r.n wv tv mv kv r.e.ty ev).toArray 44)) (.cells ru0.toArray 44)
    rw [e1] at this
    exact this
  · unfold pcol
    exact ⟨if_neg (by omega), if_neg (by omega)⟩
theorem rr_empty (w : World) (B : Nat) (col : Nat → Nat) (n : ByteArray) : RR w B col ⟨n, [], [], [], [], ⟨txt [], []⟩⟩ (.slice none 0 0) (.slice none 0 0) (.slice none 0 0) (.slice none 0 0) (.slice none 0 0) :=
  ⟨Row.nil _ _ _ _, Row.nil _ _ _ _, Row.nil _ _ _ _, Row.nil _ _ _ _, Row.nil _ _ _ _⟩
end Go.Proofs.YtnlmkdncifijlaaDoor.Ref
