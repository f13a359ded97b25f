/-
  The reference's book while it is being read; what its grammar keeps.
-/
import Derived.Test.YtnlmkdncifijlaaDoorYa
import Derived.Test.YtnlmkdncifijlaaDoorPa
namespace Go.Proofs.YtnlmkdncifijlaaDoor.Ref
open Go.ChangeShapes Go.WideShapes Go.ChangeAt Go.RowKit Go.Maps
set_option linter.unusedVariables false
set_option linter.unusedSimpArgs false
set_option maxRecDepth 20000
theorem cla'_g (L : List Tk) (r : Rl) (s : St) (h0 : s.o = 0) : s.i ≤ (cla' L r s).2.i ∧ (cla' L r s).2.o = s.o ∧ (cla' L r s).1.w.length + (cla' L r s).1.t.length + (cla' L r s).1.m.length + (cla' L r s).1.k.length ≤ r.w.length + r.t.length + r.m.length + r.k.length + ((cla' L r s).2.i - s.i) := by
  have e1 : s.adv.i = s.i + 1 := rfl
  have e2 : s.adv.o = s.o := rfl
  have a := whn_g L s.adv h0
  rw [← (whn_same L s.adv).1] at a
  have b := pat_g L s.adv h0
  have c := mny_g L s.adv h0
  have d := emt_g L s.adv
  have e := lnk_g L s.adv
  have f := fal_i L s
  unfold cla'
  split
  · simp only [List.length_append, List.length_singleton]; omega
  · split
    · simp only [List.length_append, List.length_singleton]; omega
    · split
      · simp only [List.length_append, List.length_singleton]; omega
      · split
        · simp only [List.length_append, List.length_singleton]; omega
        · split
          · simp only; omega
          · simp only; omega
theorem nam_full {L : List Tk} {s : St} (hL : ∀ t, t ∈ L → tchk t = 0) (h : (nam L s).2.e = 0) : (nam L s).1.data.toList ≠ [] := by
  unfold nam at h ⊢
  split
  · rename_i c
    intro hn
    have h1 := hL _ (nxt_mem (by rw [c.1]; decide))
    unfold tchk at h1
    rw [if_pos c.1] at h1
    split at h1
    · omega
    · unfold nchk at h1
      have he : (nxt L s).s = ByteArray.empty := by
        have h9 : (nxt L s).s.data = #[] := Array.toList_inj.1 hn
        cases h8 : (nxt L s).s with
        | mk d => rw [h8] at h9; simp only at h9; rw [h9]; rfl
      rw [if_pos (.inl (by rw [he]; decide))] at h1
      omega
  · rename_i c
    rw [if_neg c] at h
    exact absurd h (fal_bad _ _)
theorem lst_bad {α : Type} {L : List Tk} {w : List UInt8} {p : St → α × St} (hp : ∀ s, s.e ≠ 0 → (p s).2.e ≠ 0) {s : St} (h : s.e ≠ 0) : (lst L w p s).2.e ≠ 0 := by
  unfold lst
  rw [see_err h, if_neg (by decide)]
  simp only
  rw [sep_stop (see_err (hp s h))]
  rw [wnt_err (hp s h)]
  exact hp s h
theorem sde_bad {L : List Tk} {s : St} (h : s.e ≠ 0) : (sde L s).2.e ≠ 0 := by
  have e1 : (nam L s).2 = s := nam_err h
  unfold sde
  rw [nxt_err h, see_err h]
  simp only [e1, see_err h]
  first
  | exact h
  | (simp [no]; first | exact h | (rw [e1]; exact h))
theorem cla'_em (L : List Tk) (r : Rl) (s : St) (hL : ∀ t, t ∈ L → tchk t = 0) (hr : r.e.ty.data.toList = [] → r.e.v = []) (h : (wnt L [59] (cla' L r s).2).e = 0) : (cla' L r s).1.e.ty.data.toList = [] → (cla' L r s).1.e.v = [] := by
  have h2 : (cla' L r s).2.e = 0 := by
    by_cases c : (cla' L r s).2.e = 0
    · exact c
    · rw [wnt_err c] at h; exact h
  unfold cla' at h2 ⊢
  split
  · exact hr
  · rename_i c1
    rw [if_neg c1] at h2
    split
    · exact hr
    · rename_i c2
      rw [if_neg c2] at h2
      split
      · exact hr
      · rename_i c3
        rw [if_neg c3] at h2
        split
        · exact hr
        · rename_i c4
          rw [if_neg c4] at h2
          split
          · rename_i c5
            rw [if_pos c5] at h2
            intro hn
            exfalso
            have hn' : (nam L s.adv).1.data.toList = [] := hn
            have h4 : (nam L s.adv).2.e = 0 := by
              by_cases c : (nam L s.adv).2.e = 0
              · exact c
              · exfalso
                have h6 : (emt L s.adv).2.e ≠ 0 := lst_bad (fun _ => sde_bad) (by rw [wnt_err c]; exact c)
                exact h6 h2
            exact nam_full hL h4 hn'
          · exact hr
theorem rlp'_bad {L : List Tk} {u : Rl} {s : St} (h : ¬ s.e = 0) : ∀ n, rlp' L n u s = (u, s)
  | 0 => rfl
  | n + 1 => by rw [rlp', if_neg h]
theorem rlp'_end {L : List Tk} {u : Rl} {s : St} (h : s.e = 0) (h2 : see L [125] s = true) (n : Nat) : rlp' L (n + 1) u s = (u, s.adv) := by rw [rlp', if_pos h, if_pos h2]
theorem rlp'_step {L : List Tk} {u : Rl} {s : St} (h : s.e = 0) (h2 : see L [125] s = false) (n : Nat) : rlp' L (n + 1) u s = rlp' L n (cla' L u s).1 (wnt L [59] (cla' L u s).2) := by rw [rlp', if_pos h, if_neg (by rw [h2]; decide)]
theorem bkp'_end {L : List Tk} {b : Bk} {s : St} (h : ¬ (s.e = 0 ∧ s.i < L.length)) : ∀ n, bkp' L n b s = (b, s)
  | 0 => rfl
  | n + 1 => by rw [bkp', if_neg h]
theorem rle'_g (L : List Tk) (s : St) (h0 : s.o = 0) : s.i ≤ (rle' L s).2.i ∧ (rle' L s).2.o = s.o := by
  rw [(rle_same L s).1]
  exact rle_g L s h0
theorem typ'_g (L : List Tk) (s : St) : s.i ≤ (typ' L s).2.i ∧ (typ' L s).2.o = s.o := by
  rw [(typ_same L s).1]
  exact typ_g L s
theorem fld'_g (L : List Tk) : Good (fld' L) := fun s => by
  rw [(fld_same L s).1]
  exact fld_g L s
/-- The eye is kept where its tokens and its own block are. -/
theorem Env.on' {w w' : World} {g : Nat} {V : Value} {L : List Tk} {s s' : St} (h : Env w g V L s) (hs : w.heap.size ≤ w'.heap.size) (hb : 0 < L.length → ∀ k, V.ownBlock = some k → w'.heap[k]? = w.heap[k]?)
    (hg : w'.heap[g]? = some (.cells #[V, .int .i64 s'.i, .int .i64 s'.e] 72 (0, 0))) (hp : s'.i ≤ L.length) : Env w' g V L s' := by
  refine ⟨hg, ?_, h.low, h.len, hp, h.fin⟩
  obtain ⟨p, cap, rfl, h1, h2, h3⟩ := h.tok
  refine ⟨p, cap, rfl, h1, h2, fun h0 => ?_⟩
  obtain ⟨b, off, rfl, h4⟩ := h3 h0
  have hc : ∀ (o : Nat), w'.cell? ⟨b, o, none⟩ = w.cell? ⟨b, o, none⟩ := fun o => World.cell?_of_block (hb h0 b rfl)
  refine ⟨b, off, rfl, fun j hj => ?_⟩
  obtain ⟨a, b0, b1, b2⟩ := h4 j hj
  exact ⟨Nat.lt_of_lt_of_le a hs, (hc _).trans b0, (hc _).trans b1, (hc _).trans b2⟩
/-- A book that is being read: the eye in block g, the book in block U, the result in block R. -/
structure Bst (w0 w : World) (g : Nat) (V : Value) (L : List Tk) (s : St) (R U : Nat) (col : Nat → Nat) (b : Bk) (tv rv : Value) : Prop where
  env : Env w g V L s
  r1 : Row w (Cq (g + 1) col 1) 76 2 tv (b.t.map encY)
  r2 : Row w (Cq (g + 1) col 2) 44 7 rv (b.r.map encR)
  blk : w.heap[U]? = some (.cells [tv, rv].toArray 26 (0, 0))
  res : w.heap[R]? = some (.cells bk0.toArray 26 (0, 0))
  fr : Fr (fun _ => False) w0 w
  lo : w0.heap.size ≤ R ∧ R < U ∧ U < g
  lv : 0 < L.length → ∀ k, V.ownBlock = some k → k < w0.heap.size
section
variable {w0 w w' : World} {g B U R : Nat} {V : Value} {L : List Tk} {s s' : St} {col : Nat → Nat} {b : Bk} {tv rv : Value}
theorem Bst.part (h : Bst w0 w g V L s R U col b tv rv) (he : Env w' g V L s') (hf : Fr (fun i => i = g ∨ B ≤ i) w w') (hB : g < B) (hc : ∀ i, B ≤ i → col i = 0) : Bst w0 w' g V L s' R U col b tv rv := by
  have hlo := h.lo
  have key : ∀ {j i : Nat}, 1 ≤ j → Cq (g + 1) col j i → i < w.heap.size → Cq (g + 1) col j i ∧ w'.heap[i]? = w.heap[i]? := fun hj hi hl => ⟨hi, hf.block _ hl (by
    rintro (c | c)
    · have := hi.1; omega
    · have := hi.2; rw [hc _ c] at this; omega)⟩
  refine ⟨he, h.r1.mono fun i hi hl => key (by omega) hi hl, h.r2.mono fun i hi hl => key (by omega) hi hl, (hf.block U (blk_lt h.blk) (by rintro (c | c) <;> omega)).trans h.blk, (hf.block R (blk_lt h.res) (by rintro (c | c) <;> omega)).trans h.res, h.fr.then hf (fun i hi => .inr (by rcases hi with c | c <;> omega)), hlo, h.lv⟩
theorem Bst.call (h : Bst w0 w g V L s R U col b tv rv) (he : Env w' g V L s') (hf : Fr (fun i => i = g) w w') : Bst w0 w' g V L s' R U col b tv rv := by
  have hlo := h.lo
  refine ⟨he, h.r1.mono fun i hi hl => ⟨hi, hf.block i hl (by have := hi.1; show ¬ i = g; omega)⟩, h.r2.mono fun i hi hl => ⟨hi, hf.block i hl (by have := hi.1; show ¬ i = g; omega)⟩, (hf.block U (blk_lt h.blk) (by show ¬ U = g; omega)).trans h.blk, (hf.block R (blk_lt h.res) (by show ¬ R = g; omega)).trans h.res, h.fr.then hf (fun i hi => .inr (by have h1 : i = g := hi; omega)), hlo, h.lv⟩
theorem Bst.on (h : Bst w0 w g V L s R U col b tv rv) (hf : Fr (fun _ => False) w w') : Bst w0 w' g V L s R U col b tv rv := h.call (h.env.fr hf) (hf.mono fun _ h _ => h.elim)
theorem Bst.alloc (h : Bst w0 w g V L s R U col b tv rv) (o : Obj) : Bst w0 (w.alloc o) g V L s R U col b tv rv := h.on ((Fr.refl _ _).alloc o)
theorem Bst.drewN (h : Bst w0 w g V L s R U col b tv rv) (n : Nat) : Bst w0 (w.drewN n) g V L s R U col b tv rv := h.on ((Fr.refl _ _).drewN n)
/-- A store into a block without a colour. -/
theorem Bst.st {M : Nat} (h : Bst w0 w g V L s R U col b tv rv) (hf : Fr (fun i => i = M) w w') (hM : col M = 0) (hB : g < M) : Bst w0 w' g V L s R U col b tv rv := by
  have hlo := h.lo
  have hg := blk_lt h.env.blk
  refine ⟨h.env.on hf.size (fun k hk => hf.block k (by omega) (by show ¬ k = M; omega)) ((hf.block g hg (by show ¬ g = M; omega)).trans h.env.blk) h.env.pos, h.r1.mono fun i hi hl => ⟨hi, hf.block i hl (by show ¬ i = M; rintro rfl; have := hi.2; omega)⟩, h.r2.mono fun i hi hl => ⟨hi, hf.block i hl (by show ¬ i = M; rintro rfl; have := hi.2; omega)⟩, (hf.block U (blk_lt h.blk) (by show ¬ U = M; omega)).trans h.blk, (hf.block R (blk_lt h.res) (by show ¬ R = M; omega)).trans h.res, h.fr.stored hf (.inr (by omega)), hlo, h.lv⟩
theorem Bst.recol (h : Bst w0 w g V L s R U col b tv rv) {col' : Nat → Nat} (hc : ∀ i, g < i → 1 ≤ col i → i < w.heap.size → col' i = col i) : Bst w0 w g V L s R U col' b tv rv :=
  ⟨h.env, h.r1.mono fun i hi hl => ⟨⟨hi.1, (hc i hi.1 (by have := hi.2; omega) hl).trans hi.2⟩, rfl⟩, h.r2.mono fun i hi hl => ⟨⟨hi.1, (hc i hi.1 (by have := hi.2; omega) hl).trans hi.2⟩, rfl⟩, h.blk, h.res, h.fr, h.lo, h.lv⟩
theorem Bst.cell (h : Bst w0 w g V L s R U col b tv rv) (j : Nat) : w.cell? ⟨U, j, none⟩ = [tv, rv][j]? := by rw [cell_of_blk h.blk]; simp
theorem Bst.fz (h : Bst w0 w g V L s R U col b tv rv) (j : Nat) : w.frozen? ⟨U, j, none⟩ = false := free_of_blk h.blk j
theorem Bst.grown {row : Option Nat} (h : Bst w0 w g V L s R U col b tv rv) (hg : w.grownBy w' row) (hr : ∀ k, row = some k → g < k ∧ col k = 0) : Bst w0 w' g V L s R U col b tv rv := by
  have hlo := h.lo
  refine ⟨h.env.grown hg (fun k hk => (hr k hk).1) (Nat.lt_succ_self g), h.r1.mono fun i hi hl => ⟨hi, hg.block i hl fun e => by have := (hr i e.symm).2; have := hi.2; omega⟩, h.r2.mono fun i hi hl => ⟨hi, hg.block i hl fun e => by have := (hr i e.symm).2; have := hi.2; omega⟩, (hg.block U (blk_lt h.blk) fun e => by have := (hr U e.symm).1; omega).trans h.blk, (hg.block R (blk_lt h.res) fun e => by have := (hr R e.symm).1; omega).trans h.res, h.fr.grown hg (fun k hk => .inr (by have := (hr k hk).1; omega)), hlo, h.lv⟩
theorem Bst.app1 {w5 : World} {v' : Value} {x : Tp} (h : Bst w0 w g V L s R U col b tv rv) (hgb : w.grownBy w5 tv.ownBlock) (hown : ∀ k, tv.ownBlock = some k → Cq (g + 1) col 1 k)
    (hrw : Row w5 (Cq (g + 1) col 1) 76 2 v' (b.t.map encY ++ [encY x])) : Bst w0 (w5.setCell ⟨U, 0, none⟩ v') g V L s R U col ⟨b.t ++ [x], b.r⟩ v' rv := by
  have hlo := h.lo
  have hgl := blk_lt h.env.blk
  have hset : ∀ i, i ≠ U → (w5.setCell ⟨U, 0, none⟩ v').heap[i]? = w5.heap[i]? := fun i hi => Below.heap_setCell _ _ _ _ hi
  have hU : w5.heap[U]? = w.heap[U]? := hgb.block U (blk_lt h.blk) fun e => by have := (hown U e.symm).1; omega
  have hR : w5.heap[R]? = w.heap[R]? := hgb.block R (blk_lt h.res) fun e => by have := (hown R e.symm).1; omega
  have hE := h.env.grown hgb (fun k hk => (hown k hk).1) (Nat.lt_succ_self g)
  refine ⟨hE.on' (by simp [World.setCell]) (fun h0 k hk => hset k (by have := h.lv h0 k hk; omega)) ((hset g (by omega)).trans hE.blk) hE.pos, by rw [List.map_append]; exact hrw.mono fun i hi hl => ⟨hi, hset i (by have := hi.1; omega)⟩, h.r2.mono fun i hi hl => ⟨hi, (hset i (by have := hi.1; omega)).trans (hgb.block i hl fun e => by have := (hown i e.symm).2; have := hi.2; omega)⟩, ?_, (hset R (by omega)).trans (hR.trans h.res), (h.fr.grown hgb (fun k hk => .inr (by have := (hown k hk).1; omega))).setCell (p := ⟨U, 0, none⟩) (.inr (by show w0.heap.size ≤ U; omega)) _, hlo, h.lv⟩
  rw [blk_set (hU.trans h.blk)]
  rfl
theorem Bst.app2 {w5 : World} {v' : Value} {x : Rl} (h : Bst w0 w g V L s R U col b tv rv) (hgb : w.grownBy w5 rv.ownBlock) (hown : ∀ k, rv.ownBlock = some k → Cq (g + 1) col 2 k)
    (hrw : Row w5 (Cq (g + 1) col 2) 44 7 v' (b.r.map encR ++ [encR x])) : Bst w0 (w5.setCell ⟨U, 1, none⟩ v') g V L s R U col ⟨b.t, b.r ++ [x]⟩ tv v' := by
  have hlo := h.lo
  have hgl := blk_lt h.env.blk
  have hset : ∀ i, i ≠ U → (w5.setCell ⟨U, 1, none⟩ v').heap[i]? = w5.heap[i]? := fun i hi => Below.heap_setCell _ _ _ _ hi
  have hU : w5.heap[U]? = w.heap[U]? := hgb.block U (blk_lt h.blk) fun e => by have := (hown U e.symm).1; omega
  have hR : w5.heap[R]? = w.heap[R]? := hgb.block R (blk_lt h.res) fun e => by have := (hown R e.symm).1; omega
  have hE := h.env.grown hgb (fun k hk => (hown k hk).1) (Nat.lt_succ_self g)
  refine ⟨hE.on' (by simp [World.setCell]) (fun h0 k hk => hset k (by have := h.lv h0 k hk; omega)) ((hset g (by omega)).trans hE.blk) hE.pos, h.r1.mono fun i hi hl => ⟨hi, (hset i (by have := hi.1; omega)).trans (hgb.block i hl fun e => by have := (hown i e.symm).2; have := hi.2; omega)⟩, by rw [List.map_append]; exact hrw.mono fun i hi hl => ⟨hi, hset i (by have := hi.1; omega)⟩, ?_, (hset R (by omega)).trans (hR.trans h.res), (h.fr.grown hgb (fun k hk => .inr (by have := (hown k hk).1; omega))).setCell (p := ⟨U, 1, none⟩) (.inr (by show w0.heap.size ≤ U; omega)) _, hlo, h.lv⟩
  rw [blk_set (hU.trans h.blk)]
  rfl
end
/-- A type that is being read, in block M, with a field in block FB. -/
structure Fst (w0 w : World) (g : Nat) (V : Value) (L : List Tk) (s : St) (R U : Nat) (col : Nat → Nat) (b : Bk) (tv rv : Value) (M : Nat) (a : ByteArray) (vf : Value) (acc : List Fd) (FB : Nat) (fc : List Value) : Prop where
  bst : Bst w0 w g V L s R U col b tv rv
  mb : w.heap[M]? = some (.cells [.string a, vf].toArray 76 (0, 0))
  row : Row w (fun i => M < i ∧ i ≠ FB) 80 2 vf (acc.map encF)
  fb : w.heap[FB]? = some (.cells fc.toArray 80 (0, 0))
  lo : g < M ∧ M < FB
  cz : ∀ i, M ≤ i → col i = 0
/-- A rule that is being read, in block X. -/
structure Xst (w0 w : World) (g : Nat) (V : Value) (L : List Tk) (s : St) (R U : Nat) (col : Nat → Nat) (b : Bk) (tv rv : Value) (X : Nat) (xs : List Value) (cr : Nat → Nat) (r : Rl) (v1 v2 v3 v4 v5 : Value) : Prop where
  bst : Bst w0 w g V L s R U col b tv rv
  xb : w.heap[X]? = some (.cells xs.toArray 44 (0, 0))
  rr : RR w (X + 1) cr r v1 v2 v3 v4 v5
  lo : g < X
  cz : ∀ i, X ≤ i → col i = 0
section
variable {w0 w w' : World} {g B U R M FB X : Nat} {V : Value} {L : List Tk} {s s' : St} {col cr : Nat → Nat} {b : Bk} {tv rv vf v1 v2 v3 v4 v5 : Value} {a : ByteArray} {acc : List Fd} {fc xs : List Value} {r : Rl}
theorem Fst.start (h : Bst w0 w g V L s R U col b tv rv) (mb : w.heap[M]? = some (.cells [.string a, vf].toArray 76 (0, 0))) (row : Row w (fun i => M < i) 80 2 vf (acc.map encF)) (lo : g < M) (cz : ∀ i, M ≤ i → col i = 0) : Fst w0 (w.alloc (.cells fc.toArray 80)) g V L s R U col b tv rv M a vf acc w.heap.size fc :=
  ⟨h.alloc _, (Below.heap_alloc _ _ _ (blk_lt mb)).trans mb, row.mono fun i hi hl => ⟨⟨hi, by omega⟩, Below.heap_alloc _ _ _ hl⟩, heap_alloc_new _ _, ⟨lo, blk_lt mb⟩, cz⟩
theorem Fst.call (h : Fst w0 w g V L s R U col b tv rv M a vf acc FB fc) (he : Env w' g V L s') (hf : Fr (fun i => i = g) w w') : Fst w0 w' g V L s' R U col b tv rv M a vf acc FB fc := by
  have hlo := h.lo
  exact ⟨h.bst.call he hf, (hf.block M (blk_lt h.mb) (by show ¬ M = g; omega)).trans h.mb, h.row.mono fun i hi hl => ⟨hi, hf.block i hl (by have := hi.1; show ¬ i = g; omega)⟩, (hf.block FB (blk_lt h.fb) (by show ¬ FB = g; omega)).trans h.fb, hlo, h.cz⟩
theorem Fst.st {o : Nat} {vs : List Value} (h : Fst w0 w g V L s R U col b tv rv M a vf acc FB fc) (hb : w'.heap[FB]? = some (.cells (ovr fc o vs).toArray 80 (0, 0))) (hf : Fr (fun i => i = FB) w w') : Fst w0 w' g V L s R U col b tv rv M a vf acc FB (ovr fc o vs) := by
  have hlo := h.lo
  exact ⟨h.bst.st hf (h.cz _ (by omega)) (by omega), (hf.block M (blk_lt h.mb) (by show ¬ M = FB; omega)).trans h.mb, h.row.mono fun i hi hl => ⟨hi, hf.block i hl (by have := hi.2; show ¬ i = FB; omega)⟩, hb, hlo, h.cz⟩
theorem Fst.cell (h : Fst w0 w g V L s R U col b tv rv M a vf acc FB fc) : w.cell? ⟨M, 1, none⟩ = some vf := by rw [cell_of_blk h.mb]; rfl
theorem Fst.app {w5 : World} {v' : Value} {x : Fd} (o : Obj) (h : Fst w0 w g V L s R U col b tv rv M a vf acc FB fc) (hgb : (w.alloc o).grownBy w5 vf.ownBlock) (hown : ∀ k, vf.ownBlock = some k → M < k ∧ k ≠ FB) (hrw : Row w5 (fun i => M < i ∧ i ≠ FB) 80 2 v' (acc.map encF ++ [encF x])) :
    Bst w0 (w5.setCell ⟨M, 1, none⟩ v') g V L s R U col b tv rv ∧ (w5.setCell ⟨M, 1, none⟩ v').heap[M]? = some (.cells [.string a, v'].toArray 76 (0, 0)) ∧ Row (w5.setCell ⟨M, 1, none⟩ v') (fun i => M < i) 80 2 v' ((acc ++ [x]).map encF) ∧ w5.heap[M]? = some (.cells [.string a, vf].toArray 76 (0, 0)) := by
  have hlo := h.lo
  have hMl := blk_lt h.mb
  have hM : w5.heap[M]? = some (.cells [.string a, vf].toArray 76 (0, 0)) := (hgb.block M (by simp; omega) (fun e => by have := (hown _ e.symm).1; omega)).trans ((Below.heap_alloc _ _ _ hMl).trans h.mb)
  refine ⟨((h.bst.alloc o).grown hgb (fun k hk => ⟨by have := (hown k hk).1; omega, h.cz _ (by have := (hown k hk).1; omega)⟩)).st (fr_put w5 M 1 _) (h.cz _ (Nat.le_refl _)) hlo.1, ?_, ?_, hM⟩
  · rw [blk_set hM]; rfl
  · rw [List.map_append]
    exact hrw.mono fun i hi hl => ⟨hi.1, Below.heap_setCell _ _ _ _ (by have := hi.1; show i ≠ M; omega)⟩
theorem Xst.call (h : Xst w0 w g V L s R U col b tv rv X xs cr r v1 v2 v3 v4 v5) (he : Env w' g V L s') (hf : Fr (fun i => i = g) w w') : Xst w0 w' g V L s' R U col b tv rv X xs cr r v1 v2 v3 v4 v5 := by
  have hlo := h.lo
  exact ⟨h.bst.call he hf, (hf.block X (blk_lt h.xb) (by show ¬ X = g; omega)).trans h.xb, h.rr.mono fun i hi _ hl => ⟨rfl, hf.block i hl (by show ¬ i = g; omega)⟩, hlo, h.cz⟩
theorem Xst.part {cr' : Nat → Nat} {r' : Rl} {u1 u2 u3 u4 u5 : Value} (h : Xst w0 w g V L s R U col b tv rv X xs cr r v1 v2 v3 v4 v5) (hr : RR w' (X + 1) cr' r' u1 u2 u3 u4 u5) (he : Env w' g V L s') (hf : Fr (fun i => i = g ∨ X + 1 ≤ i) w w') : Xst w0 w' g V L s' R U col b tv rv X xs cr' r' u1 u2 u3 u4 u5 := by
  have hlo := h.lo
  exact ⟨h.bst.part he hf (by omega) (fun i hi => h.cz i (by omega)), (hf.block X (blk_lt h.xb) (by rintro (c | c) <;> omega)).trans h.xb, hr, hlo, h.cz⟩
theorem Xst.st {ys : List Value} (h : Xst w0 w g V L s R U col b tv rv X xs cr r v1 v2 v3 v4 v5) (hb : w'.heap[X]? = some (.cells ys.toArray 44 (0, 0))) (hf : Fr (fun i => i = X) w w') : Xst w0 w' g V L s R U col b tv rv X ys cr r v1 v2 v3 v4 v5 := by
  have hlo := h.lo
  exact ⟨h.bst.st hf (h.cz _ (Nat.le_refl _)) hlo, hb, h.rr.mono fun i hi _ hl => ⟨rfl, hf.block i hl (by show ¬ i = X; omega)⟩, hlo, h.cz⟩
theorem RR.holds (h : RR w B cr r v1 v2 v3 v4 v5) {S : Nat → Prop} (hs : ∀ i, B ≤ i → S i) : HoldsL w S (encR r) (ruC r.n v1 v2 v3 v4 r.e.ty v5) := by
  have key : ∀ {j i : Nat}, Cq B cr j i → i < w.heap.size → S i ∧ w.heap[i]? = w.heap[i]? := fun hi _ => ⟨hs _ hi.1, rfl⟩
  exact .cons (.lit _) (.cons (h.r1.holds.mono fun i hi hl => key hi hl) (.cons (h.r2.holds.mono fun i hi hl => key hi hl) (.cons (h.r3.holds.mono fun i hi hl => key hi hl) (.cons (h.r4.holds.mono fun i hi hl => key hi hl) (.cons (.lit _) (.cons (h.r5.holds.mono fun i hi hl => key hi hl) (.nil _ _)))))))
end
end Go.Proofs.YtnlmkdncifijlaaDoor.Ref
