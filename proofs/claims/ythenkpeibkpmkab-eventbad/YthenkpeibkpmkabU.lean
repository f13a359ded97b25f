/-
  A type that is made field by field.
-/
import Derived.Test.YthenkpeibkpmkabT
import Derived.Deep.RegionLawGrows
namespace Go.Proofs.Ythenkpeibkpmkab
open Go.ChangeShapes Go.WideShapes Go.ChangeAt Go.RowKit Go.Maps
set_option linter.unusedVariables false
set_option linter.unusedSimpArgs false
def nmB (i : Nat) : ByteArray := ⟨#[UInt8.ofNat (97 + i)]⟩
def tN : ByteArray := ⟨#[116]⟩
def fdsG (f : Nat → Int) (k : Nat) : List Fd := (List.range k).map fun i => ⟨nmB i, f i⟩
theorem fdsG_len (f : Nat → Int) (k : Nat) : (fdsG f k).length = k := by simp [fdsG]
theorem fdsG_succ (f : Nat → Int) (k : Nat) : fdsG f (k + 1) = fdsG f k ++ [⟨nmB k, f k⟩] := by simp [fdsG, List.range_succ]
theorem owns_block {w w' : World} {base : Nat} {e : TypeId} {size : Nat} {v : Value} {n : Nat} {xs : List Value} (h : w.ownsRow base e size v n xs) (hb : ∀ i, v.ownBlock = some i → w'.heap[i]? = w.heap[i]?) : w'.ownsRow base e size v n xs := by
  refine ⟨h.1, ?_⟩
  rcases h.2 with h2 | ⟨g, cap, cur, rfl, h1, h2, h3⟩
  · exact Or.inl h2
  · exact Or.inr ⟨g, cap, cur, rfl, h1, (hb g rfl).trans h2, h3⟩
/-- The type's box. -/
def TB (w : World) (b : Nat) (v : Value) : Prop := w.heap[b]? = some (.cells #[.string tN, v] 44 (0, 0))
theorem TB.lt {w : World} {b : Nat} {v : Value} (h : TB w b v) : b < w.heap.size := (Array.getElem?_eq_some_iff.1 h).1
theorem TB.c0 {w : World} {b : Nat} {v : Value} (h : TB w b v) : w.cell? ⟨b, 0, none⟩ = some (.string tN) := by rw [cell_of_row _ _ _ _ _ (0, 0) h]; rfl
theorem TB.c1 {w : World} {b : Nat} {v : Value} (h : TB w b v) : w.cell? ⟨b, 1, none⟩ = some v := by rw [cell_of_row _ _ _ _ _ (0, 0) h]; rfl
theorem TB.fz {w : World} {b : Nat} {v : Value} (h : TB w b v) (j : Nat) : w.frozen? ⟨b, j, none⟩ = false := frozen_of_row _ _ j _ _ h
theorem TB.block {w w' : World} {b : Nat} {v : Value} (h : TB w b v) (hb : w'.heap[b]? = w.heap[b]?) : TB w' b v := hb.trans h
theorem TB.below {w w' : World} {b : Nat} {v : Value} (h : TB w b v) (hb : Below w.heap.size w w') : TB w' b v := h.block (hb.block b h.lt)
theorem heap_set {W : World} {g i : Nat} {cur : Array Value} {e : TypeId} {fr : Nat × Nat} (v : Value) (h : W.heap[g]? = some (.cells cur e fr)) : (W.setCell ⟨g, i, none⟩ v).heap[g]? = some (.cells (cur.setIfInBounds i v) e fr) := by
  simp [World.setCell, Array.getElem?_modify, h]
theorem heap_other {W : World} {g i : Nat} (v : Value) {k : Nat} (h : k ≠ g) : (W.setCell ⟨g, i, none⟩ v).heap[k]? = W.heap[k]? := by
  simp [World.setCell, Array.getElem?_modify, h.symm]
theorem TB.set {w : World} {b : Nat} {v : Value} (h : TB w b v) (v' : Value) : TB (w.setCell ⟨b, 1, none⟩ v') b v' := by
  have := heap_set (i := 1) v' h
  simpa [TB] using this
theorem tb_new (w : World) (v : Value) : TB (w.alloc (.cells #[.string tN, v] 44)) w.heap.size v := by
  unfold TB
  first | exact heap_alloc_new w _ | exact _root_.Go.heap_alloc_new w _
/-- A type under way: its box, its fields. -/
structure Tw (w wr : World) (v : Value) (fs : List Fd) : Prop where
  box : TB wr w.heap.size v
  row : wr.ownsRow (w.heap.size + 1) 46 2 v fs.length (fs.flatMap encF)
  below : Below w.heap.size w wr
theorem Tw.start (w : World) : Tw w (w.alloc (.cells #[.string tN, .slice none 0 0] 44)) (.slice none 0 0) [] :=
  ⟨tb_new _ _, by simpa using World.ownsRow_nil _ (w.heap.size + 1) 46 2, (Below.refl _ w).alloc (Nat.le_refl _) _⟩
theorem Tw.less {w wr w' : World} {v : Value} {fs : List Fd} (h : Tw w wr v fs) (hb : Below wr.heap.size wr w') : Tw w w' v fs :=
  ⟨h.box.below hb, owns_block h.row (fun i hi => hb.block i (h.row.lt i hi).2), below_trans h.below hb h.below.size⟩
/-- What is left when a field has been appended, ahead of the store and behind it. -/
theorem Tw.append {w wr W w3 : World} {v v' : Value} {fs : List Fd} {f : Fd} (h : Tw w wr v fs) (hb : Below wr.heap.size wr W) (hg : W.grownBy w3 v.ownBlock) (hrow : w3.ownsRow (w.heap.size + 1) 46 2 v' (fs.length + 1) (fs.flatMap encF ++ encF f)) :
    TB w3 w.heap.size v ∧ Tw w (w3.setCell ⟨w.heap.size, 1, none⟩ v') v' (fs ++ [f]) := by
  have hW := h.less hb
  have hne : some w.heap.size ≠ v.ownBlock := fun c => by have := (hW.row.lt _ c.symm).1; omega
  have hbox : TB w3 w.heap.size v := hW.box.block (hg.block _ hW.box.lt hne)
  refine ⟨hbox, hbox.set v', ?_, ?_⟩
  · have hr : w3.ownsRow (w.heap.size + 1) 46 2 v' (fs ++ [f]).length ((fs ++ [f]).flatMap encF) := by simpa using hrow
    refine owns_block hr (fun i hi => heap_other v' ?_)
    have := (hr.lt i hi).1
    omega
  · have hB : Below w.heap.size w w3 := hW.below.grown hg hW.below.size (fun k hk => by have := (hW.row.lt k hk).1; omega)
    exact hB.setCell (p := ⟨w.heap.size, 1, none⟩) (Nat.le_refl _) _
theorem infoF : (Try.prog.info? 46).map (fun i => (i.zero, i.size, i.bytes)) = some (some (.agg #[.string ByteArray.empty, .int .i64 0]), 2, 24) := by kernel_rfl
theorem eqS_data (a b : ByteArray) : eqS a b = (a.data.toList == b.data.toList) := by
  unfold eqS; rw [Lib.toList_data, Lib.toList_data]
theorem nchk_nm (i : Nat) (h : i < 26) : nchk (nmB i) = 0 := by
  unfold nmB
  rw [nchk_one, if_pos]
  have : (UInt8.ofNat (97 + i)).toNat = 97 + i := by rw [UInt8.toNat_ofNat']; omega
  omega
theorem eq_nm {i j : Nat} (hi : i < 26) (hj : j < 26) : eqS (nmB i) (nmB j) = decide (i = j) := by
  rw [eqS_data]
  have h1 : (UInt8.ofNat (97 + i)).toNat = 97 + i := by rw [UInt8.toNat_ofNat']; omega
  have h2 : (UInt8.ofNat (97 + j)).toNat = 97 + j := by rw [UInt8.toNat_ofNat']; omega
  by_cases h : i = j
  · subst h; simp [nmB]
  · have : UInt8.ofNat (97 + i) ≠ UInt8.ofNat (97 + j) := fun c => by rw [c] at h1; omega
    rw [decide_eq_false h, beq_eq_false_iff_ne]
    intro c
    exact this (List.cons.inj (show [UInt8.ofNat (97 + i)] = [UInt8.ofNat (97 + j)] from c)).1
theorem nchk_t : nchk tN = 0 := by
  unfold tN; rw [nchk_one]; decide
/-- Such a type may be. -/
theorem tchk_fds (f : Nat → Int) (k : Nat) (hk : k ≤ 4) (hf : ∀ i, i < k → f i = 1 ∨ f i = 2) : tchk ⟨tN, fdsG f k⟩ = 0 := by
  rw [tchk_mid nchk_t (by rw [fdsG_len]; omega)]
  refine fst_all fun i hi => ?_
  have hi' : i < k := by rw [fdsG_len] at hi; exact hi
  rw [fchk_at hi]
  have e : (fdsG f k)[i] = ⟨nmB i, f i⟩ := by simp [fdsG]
  rw [e]
  have hany : anyS (nmB i) ((fdsG f k).take i) = false := by
    unfold anyS
    rw [List.any_eq_false]
    intro x hx
    obtain ⟨j, hj, rfl⟩ := List.getElem_of_mem hx
    have hj' : j < i := by rw [List.length_take] at hj; omega
    rw [List.getElem_take]
    have e2 : (fdsG f k)[j]'(by rw [fdsG_len]; omega) = ⟨nmB j, f j⟩ := by simp [fdsG]
    rw [e2, eq_nm (by omega) (by omega)]
    simp; omega
  unfold fck
  simp only
  rw [nchk_nm i (by omega), if_neg (by simp), if_neg (by have := hf i hi'; omega), hany]
  simp
theorem fnd_fds (f : Nat → Int) (p : Nat) : ∀ (k a : Nat), k ≤ 26 → p < k → a ≤ p → fnd (nmB p) ((fdsG f k).drop a) a = p := by
  intro k a hk hp ha
  induction h : p - a generalizing a with
  | zero =>
    obtain rfl : a = p := by omega
    exact fnd_hit (by rw [fdsG_len]; omega) (by simp [fdsG, eq_nm (show a < 26 by omega) (show a < 26 by omega)])
  | succ d ih =>
    rw [fnd_miss (by rw [fdsG_len]; omega) (by simp [fdsG, eq_nm (show a < 26 by omega) (show p < 26 by omega)]; omega)]
    exact ih (a + 1) (by omega) (by omega)
theorem fchk_take {l m : List Fd} {i : Nat} (h : i < l.length) : fchk (l ++ m) i = fchk l i := by
  rw [fchk_at h, fchk_at (by rw [List.length_append]; omega), List.getElem_append_left h, List.take_append_of_le_length (by omega)]
theorem tchk_twice (f : Nat → Int) (k p : Nat) (hk : k ≤ 3) (hp : p < k) (hf : ∀ i, i < k → f i = 1 ∨ f i = 2) : tchk ⟨tN, fdsG f k ++ [(⟨nmB p, f p⟩ : Fd)]⟩ = 7 := by
  have hl : (fdsG f k ++ [(⟨nmB p, f p⟩ : Fd)]).length = k + 1 := by simp [fdsG_len]
  rw [tchk_mid nchk_t (by simp only [hl]; omega)]
  simp only [hl]
  have h0 : fst (fchk (fdsG f k ++ [(⟨nmB p, f p⟩ : Fd)])) k = 0 := by
    rw [fst_congr (g := fchk (fdsG f k)) (fun i hi => fchk_take (by rw [fdsG_len]; exact hi))]
    have := tchk_fds f k (by omega) hf
    rw [tchk_mid nchk_t (by simp only [fdsG_len]; omega)] at this
    simpa [fdsG_len] using this
  have h1 : fchk (fdsG f k ++ [(⟨nmB p, f p⟩ : Fd)]) k = 7 := by
    rw [fchk_at (by rw [hl]; omega)]
    have e : (fdsG f k ++ [(⟨nmB p, f p⟩ : Fd)])[k]'(by rw [hl]; omega) = ⟨nmB p, f p⟩ := by
      rw [List.getElem_append_right (by rw [fdsG_len]; omega)]
      simp [fdsG_len]
    rw [e, List.take_append_of_le_length (by rw [fdsG_len]; omega), List.take_of_length_le (by rw [fdsG_len]; omega)]
    have hany : anyS (nmB p) (fdsG f k) = true := by
      unfold anyS
      rw [List.any_eq_true]
      refine ⟨⟨nmB p, f p⟩, ?_, ?_⟩
      · simp [fdsG]; exact ⟨p, hp, rfl, rfl⟩
      · rw [eq_nm (by omega) (by omega)]; simp
    unfold fck
    simp only
    rw [nchk_nm p (by omega), if_neg (by simp), if_neg (by have := hf p hp; omega), hany]
    simp
  rw [fst_hit h0 (by rw [h1]; omega) (by omega), h1]
theorem tchk_full (l : List Fd) (h : 4 < l.length) : tchk ⟨tN, l⟩ = 1 := by
  unfold tchk
  rw [if_neg (by simp [nchk_t]), if_pos h]
theorem fnd_no (f : Nat → Int) (k : Nat) (s : ByteArray) (hs : s.data.size ≠ 1) : fnd s (fdsG f k) 0 < 0 := by
  have h : ¬ (0 ≤ fnd s (fdsG f k) 0) := by
    rw [fnd_any]
    unfold anyS
    simp only [Bool.not_eq_true, List.any_eq_false]
    intro x hx
    simp [fdsG] at hx
    obtain ⟨i, _, rfl⟩ := hx
    rw [eqS_data, beq_eq_false_iff_ne]
    intro c
    have h2 : ((nmB i).data.toList).length = s.data.toList.length := congrArg List.length c
    have h3 : ((nmB i).data.toList).length = 1 := rfl
    rw [h3] at h2
    apply hs
    rw [h2, Array.length_toList]
  omega
end Go.Proofs.Ythenkpeibkpmkab
