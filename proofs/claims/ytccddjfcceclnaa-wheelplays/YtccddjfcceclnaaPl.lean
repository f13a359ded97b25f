/-
  What Play answers: the codes and the rows of the plain play.
-/
import Derived.Test.YtccddjfcceclnaaB
namespace Go.Proofs.Ytccddjfcceclnaa
open Go.ChangeShapes Go.WideShapes Go.ChangeAt Go.RowKit Go.Maps
set_option linter.unusedVariables false
set_option linter.unusedSimpArgs false
/-- Deeds in a slice, as they are read. -/
def DeedsAt (w : World) (v : Value) (ds : List Dd) : Prop :=
  (v = .slice none 0 0 ∧ ds = []) ∨ ∃ g off cap, v = .slice (some ⟨g, off, none⟩) ds.length cap ∧ ∀ j (hj : j < ds.length), g < w.heap.size ∧ w.cell? ⟨g, off + j * 3, none⟩ = some (.int .i64 ds[j].1) ∧ w.cell? ⟨g, off + j * 3 + 1, none⟩ = some (.int .i64 ds[j].2.1) ∧ w.cell? ⟨g, off + j * 3 + 2, none⟩ = some (.int .i64 ds[j].2.2)
/-- Whole numbers in a slice, as they are read. -/
def ListAt (w : World) (v : Value) (zs : List Int) : Prop :=
  (v = .slice none 0 0 ∧ zs = []) ∨ ∃ b cap, v = .slice (some ⟨b, 0, none⟩) zs.length cap ∧ b < w.heap.size ∧ ∀ j z, zs[j]? = some z → w.cell? ⟨b, j, none⟩ = some (.int .i64 z)
def RowsAt (w : World) (v : Value) (rows : List (List Int)) : Prop :=
  (v = .slice none 0 0 ∧ rows = []) ∨ ∃ b cap, ∃ us : Nat → Value, v = .slice (some ⟨b, 0, none⟩) rows.length cap ∧ b < w.heap.size ∧ ∀ j (hj : j < rows.length), w.cell? ⟨b, j, none⟩ = some (us j) ∧ ListAt w (us j) rows[j] ∧ rows[j].length ≤ 1000
def codes (s : Sp) (ds : List Dd) : List Int := (play s ds).map fun r => r.1
def rows (s : Sp) (ds : List Dd) : List (List Int) := (play s ds).map fun r => r.2.map fun t => (t.i : Int)
theorem play_len (s : Sp) (ds : List Dd) : (play s ds).length = ds.length := by
  induction ds generalizing s with
  | nil => rfl
  | cons d r ih => simp [play, ih]
theorem play_at (s : Sp) (ds : List Dd) (k : Nat) (hk : k < ds.length) : (play s ds)[k]? = some ((step (after s (ds.take k)) ds[k]).1, (step (after s (ds.take k)) ds[k]).2.1) := by
  induction ds generalizing s k with
  | nil => simp at hk
  | cons d r ih =>
    cases k with
    | zero => simp [play, after]
    | succ k =>
      simp only [play, List.getElem?_cons_succ, List.take_succ_cons, after, List.getElem_cons_succ]
      exact ih (step s d).2.2 k (by simpa using hk)
theorem after_step (s : Sp) (ds : List Dd) (k : Nat) (hk : k < ds.length) : after s (ds.take (k + 1)) = (step (after s (ds.take k)) ds[k]).2.2 := by
  induction ds generalizing s k with
  | nil => simp at hk
  | cons d r ih =>
    cases k with
    | zero => simp [after]
    | succ k =>
      simp only [List.take_succ_cons, after, List.getElem_cons_succ]
      exact ih (step s d).2.2 k (by simpa using hk)
theorem IntsAt.list {w : World} {v : Value} {zs : List Int} (h : IntsAt w v zs) : ListAt w v zs ∧ zs.length ≤ 1000 := by
  rcases h with ⟨h1, h2⟩ | ⟨b, cap, h1, h2, h3, h4⟩
  · exact ⟨Or.inl ⟨h1, h2⟩, by rw [h2]; simp⟩
  · exact ⟨Or.inr ⟨b, cap, h1, h2, h4⟩, h3⟩
theorem IntsAt.block {w w' : World} {v : Value} {zs : List Int} (h : IntsAt w v zs) (hs : w.heap.size ≤ w'.heap.size) (hb : ∀ b, v.ownBlock = some b → b < w.heap.size → w'.heap[b]? = w.heap[b]?) : IntsAt w' v zs := by
  rcases h with h1 | ⟨b, cap, h1, h2, h3, h4⟩
  · exact Or.inl h1
  · refine Or.inr ⟨b, cap, h1, by omega, h3, fun j z hj => ?_⟩
    rw [← h4 j z hj]
    exact World.cell?_of_block (hb b (by rw [h1]; rfl) h2)
theorem IntsAt.shape {w : World} {v : Value} {zs : List Int} (h : IntsAt w v zs) : ∃ p l c, v = .slice p l c := by
  rcases h with ⟨h1, h2⟩ | ⟨b', cap, h1, h2, h3, h4⟩
  · exact ⟨_, _, _, h1⟩
  · exact ⟨_, _, _, h1⟩
theorem IntsAt.lt {w : World} {v : Value} {zs : List Int} (h : IntsAt w v zs) {b : Nat} (hb : v.ownBlock = some b) : b < w.heap.size := by
  rcases h with ⟨h1, h2⟩ | ⟨b', cap, h1, h2, h3, h4⟩
  · rw [h1] at hb; cases hb
  · rw [h1] at hb; cases hb; exact h2
structure Pl (w wr : World) (B cb mb tb db : Nat) (s0 : Sp) (ds : List Dd) (k : Nat) (us : Nat → Value) (V : Nat → Value) (T : Nat → List Tm) (M : Places) : Prop where
  st : St wr B cb mb (after s0 (ds.take k)) V T M
  told : wr.rowIs tb 25 ds.length (fun j => if j < k then .int .i64 ((codes s0 ds).getD j 0) else .int .i64 0)
  due : wr.rowIs db 38 ds.length (fun j => if j < k then us j else .slice none 0 0)
  row : ∀ j, j < k → IntsAt wr (us j) ((rows s0 ds).getD j [])
  sep : ∀ j, j < k → ∀ b, (us j).ownBlock = some b → ¬ Own cb mb V b ∧ b ≠ tb ∧ b ≠ db
  tbo : ¬ Own cb mb V tb
  dbo : ¬ Own cb mb V db
  td : tb ≠ db
  own : ∀ b, Own cb mb V b → w.heap.size ≤ b
  tbs : w.heap.size ≤ tb
  dbs : w.heap.size ≤ db
  below : Below w.heap.size w wr
  ords : (after s0 (ds.take k)).ords ≤ k
theorem Pl.step {w wr W w' : World} {B cb mb tb db : Nat} {s0 : Sp} {ds : List Dd} {k : Nat} {us V : Nat → Value} {T : Nat → List Tm} {M : Places} {u : Value} (h : Pl w wr B cb mb tb db s0 ds k us V T M) (hk : k < ds.length) (b : Below wr.heap.size wr W)
    (p : DoPost B cb mb (after s0 (ds.take k)) ds[k] V W u w') :
    ∃ us' V' T' M', Pl w ((w'.setCell ⟨tb, k, none⟩ (.int .i64 (step (after s0 (ds.take k)) ds[k]).1)).setCell ⟨db, k, none⟩ u) B cb mb tb db s0 ds (k + 1) us' V' T' M' := by
  obtain ⟨hI, V', T', M', hst, ht, ho, hu⟩ := p
  have hall : Turn (Own cb mb V) wr w' := (Turn.of_below b).trans ht (fun _ _ h => h)
  have hW : wr.heap.size ≤ W.heap.size := b.size
  have htb := h.told.lt
  have hdb := h.due.lt
  have no' : ∀ x, x < wr.heap.size → ¬ Own cb mb V x → ¬ Own cb mb V' x := fun x hx hn c => by
    rcases ho x c with h1 | h1
    · exact hn h1
    · omega
  have hutb : ∀ x, u.ownBlock = some x → x ≠ tb ∧ x ≠ db := fun x hx => by have := (hu x hx).1; omega
  generalize hc : (Ytccddjfcceclnaa.step (after s0 (ds.take k)) ds[k]).1 = c
  have tF : Turn (fun x => x = tb ∨ x = db) w' ((w'.setCell ⟨tb, k, none⟩ (.int .i64 c)).setCell ⟨db, k, none⟩ u) := ((Turn.refl _ _).setCell (Or.inl rfl) _).setCell (Or.inr rfl) _
  have hF : ∀ x, x < w'.heap.size → x ≠ tb → x ≠ db → ((w'.setCell ⟨tb, k, none⟩ (.int .i64 c)).setCell ⟨db, k, none⟩ u).heap[x]? = w'.heap[x]? := fun x hx h1 h2 => tF.block x hx (fun c => by rcases c with c | c <;> contradiction)
  have hpc : (codes s0 ds).getD k 0 = c := by
    unfold codes
    rw [List.getD_eq_getElem?_getD, List.getElem?_map, play_at s0 ds k hk]
    exact hc
  have hpr : (rows s0 ds).getD k [] = (Ytccddjfcceclnaa.step (after s0 (ds.take k)) ds[k]).2.1.map fun t => (t.i : Int) := by
    unfold rows
    rw [List.getD_eq_getElem?_getD, List.getElem?_map, play_at s0 ds k hk]
    rfl
  refine ⟨fun j => if j = k then u else us j, V', T', M', ⟨?_, ?_, ?_, fun j hj => ?_, fun j hj x hx => ?_, no' tb htb h.tbo, no' db hdb h.dbo, h.td, fun x hx => ?_, h.tbs, h.dbs, ?_, ?_⟩⟩
  · rw [after_step s0 ds k hk]
    refine ⟨hst.clk.turn tF (fun x hx => ?_), hst.mp.block (hF mb hst.mp.lt ?_ ?_), hst.inv, hst.good⟩
    · have hn : ¬ Own cb mb V' x := by
        rcases hx with rfl | rfl
        · exact no' x htb h.tbo
        · exact no' x hdb h.dbo
      exact ⟨fun e => hn (Or.inl e), fun q hq e => hn (Or.inr (Or.inr ⟨q, hq, e⟩))⟩
    · exact fun e => no' tb htb h.tbo (Or.inr (Or.inl e.symm))
    · exact fun e => no' db hdb h.dbo (Or.inr (Or.inl e.symm))
  · refine (((h.told.of_block (hall.block tb htb h.tbo)).set k (.int .i64 c)).setOther (a := ⟨db, k, none⟩) h.td u).congr (fun j hj => ?_)
    by_cases e : j = k
    · subst e; rw [if_pos rfl, if_pos (Nat.lt_succ_self _), hpc]
    · by_cases e2 : j < k
      · rw [if_neg e, if_pos e2, if_pos (by omega)]
      · rw [if_neg e, if_neg e2, if_neg (by omega)]
  · refine (((h.due.of_block (hall.block db hdb h.dbo)).setOther (a := ⟨tb, k, none⟩) (Ne.symm h.td) (.int .i64 c)).set k u).congr (fun j hj => ?_)
    by_cases e : j = k
    · subst e; rw [if_pos rfl, if_pos (Nat.lt_succ_self _), if_pos rfl]
    · by_cases e2 : j < k
      · rw [if_neg e, if_pos e2, if_pos (by omega), if_neg e]
      · rw [if_neg e, if_neg e2, if_neg (by omega)]
  · have hle : w'.heap.size ≤ ((w'.setCell ⟨tb, k, none⟩ (.int .i64 c)).setCell ⟨db, k, none⟩ u).heap.size := tF.size
    by_cases e : j = k
    · subst e
      simp only [if_true]
      rw [hpr]
      exact hI.block hle (fun x hx hlt => hF x hlt (hutb x hx).1 (hutb x hx).2)
    · simp only [e, if_false]
      have hj' : j < k := by omega
      have h1 := h.row j hj'
      exact (h1.block hall.size (fun x hx hlt => hall.block x hlt (h.sep j hj' x hx).1)).block hle (fun x hx hlt => hF x hlt (h.sep j hj' x hx).2.1 (h.sep j hj' x hx).2.2)
  · by_cases e : j = k
    · subst e
      simp only [if_true] at hx
      exact ⟨(hu x hx).2, hutb x hx⟩
    · simp only [e, if_false] at hx
      have hj' : j < k := by omega
      have h1 := h.sep j hj' x hx
      exact ⟨no' x ((h.row j hj').lt hx) h1.1, h1.2⟩
  · rcases ho x hx with h1 | h1
    · exact h.own x h1
    · have := h.below.size; omega
  · exact ((h.below.trans (hall.below h.below.size (fun x hx c => by have := h.own x c; omega))).setCell (p := ⟨tb, k, none⟩) h.tbs _).setCell (p := ⟨db, k, none⟩) h.dbs _
  · rw [after_step s0 ds k hk]
    have := step_ords (after s0 (ds.take k)) ds[k]
    have := h.ords
    omega
theorem Pl.cells {w wr W w' : World} {B cb mb tb db : Nat} {s0 : Sp} {ds : List Dd} {k : Nat} {us V : Nat → Value} {T : Nat → List Tm} {M : Places} {u : Value} {d : Dd} (h : Pl w wr B cb mb tb db s0 ds k us V T M) (hk : k < ds.length) (b : Below wr.heap.size wr W)
    (p : DoPost B cb mb (after s0 (ds.take k)) d V W u w') :
    w'.cell? ⟨tb, k, none⟩ = some (.int .i64 0) ∧ w'.frozen? ⟨tb, k, none⟩ = false ∧ w'.cell? ⟨db, k, none⟩ = some (.slice none 0 0) ∧ w'.frozen? ⟨db, k, none⟩ = false := by
  obtain ⟨hI, V', T', M', hst, ht, ho, hu⟩ := p
  have hall : Turn (Own cb mb V) wr w' := (Turn.of_below b).trans ht (fun _ _ h => h)
  have h1 := h.told.of_block (hall.block tb h.told.lt h.tbo)
  have h2 := h.due.of_block (hall.block db h.due.lt h.dbo)
  exact ⟨(h1.cell hk).trans (by simp), h1.frozen k, (h2.cell hk).trans (by simp), h2.frozen k⟩
theorem Pl.done {w wr : World} {B cb mb tb db n : Nat} {s0 : Sp} {ds : List Dd} {us V : Nat → Value} {T : Nat → List Tm} {M : Places} (hn : ds.length = n) (h : Pl w wr B cb mb tb db s0 ds n us V T M) :
    ListAt wr (.slice (some ⟨tb, 0, none⟩) n n) (codes s0 ds) ∧ RowsAt wr (.slice (some ⟨db, 0, none⟩) n n) (rows s0 ds) := by
  have l1 : (codes s0 ds).length = n := by unfold codes; rw [List.length_map, play_len, hn]
  have l2 : (rows s0 ds).length = n := by unfold rows; rw [List.length_map, play_len, hn]
  refine ⟨Or.inr ⟨tb, n, by rw [l1], h.told.lt, fun j z hj => ?_⟩, Or.inr ⟨db, n, us, by rw [l2], h.due.lt, fun j hj => ?_⟩⟩
  · have hlt := (List.getElem?_eq_some_iff.1 hj).1
    rw [h.told.cell (by omega), if_pos (by omega), List.getD_eq_getElem?_getD, hj]
    rfl
  · have hlt : j < n := by omega
    refine ⟨?_, ?_⟩
    · rw [h.due.cell (by omega), if_pos hlt]
    · have := (h.row j hlt).list
      rw [List.getD_eq_getElem?_getD, List.getElem?_eq_getElem hj] at this
      exact this
theorem clkA_size (now : Int) (mb : Nat) : (clkL now mb).toArray.size = 451 := by
  have := clkL_len now mb
  simpa using this
theorem info25 : (Try.prog.info? 25).map (fun i => (i.zero, i.size, i.bytes)) = some (some (.int .i64 0), 1, 8) := by kernel_rfl
theorem info38 : (Try.prog.info? 38).map (fun i => (i.zero, i.size, i.bytes)) = some (some (.slice none 0 0), 1, 24) := by kernel_rfl
theorem pl_start {w W0 : World} {ds : List Dd} {now : Nat} (h : St W0 (w.heap.size + 2) (w.heap.size + 1) w.heap.size ⟨now, 0, []⟩ (fun _ => .slice none 0 0) (fun _ => []) (fun _ => none)) (b : Below w.heap.size w W0) (hs : W0.heap.size = w.heap.size + 2) :
    Pl w ((W0.alloc (.cells (madeCells #[.int .i64 0] ds.length) 25)).alloc (.cells (madeCells #[.slice none 0 0] ds.length) 38)) (w.heap.size + 2) (w.heap.size + 1) w.heap.size W0.heap.size (W0.heap.size + 1) ⟨now, 0, []⟩ ds 0 (fun _ => .slice none 0 0) (fun _ => .slice none 0 0) (fun _ => []) (fun _ => none) := by
  have b1 := below_new' W0 (.cells (madeCells #[.int .i64 0] ds.length) 25)
  have b2 := below_new' (W0.alloc (.cells (madeCells #[.int .i64 0] ds.length) 25)) (.cells (madeCells #[.slice none 0 0] ds.length) 38)
  have hno : ∀ x, Own (w.heap.size + 1) w.heap.size (fun _ => .slice none 0 0) x → x = w.heap.size + 1 ∨ x = w.heap.size := fun x hx => by
    rcases hx with h1 | h1 | ⟨q, _, h1⟩
    · exact Or.inl h1
    · exact Or.inr h1
    · cases h1
  have r2 := World.rowIs_made (W0.alloc (.cells (madeCells #[.int .i64 0] ds.length) 25)) (.slice none 0 0) ds.length 38
  rw [show (W0.alloc (.cells (madeCells #[.int .i64 0] ds.length) 25)).heap.size = W0.heap.size + 1 by simp] at r2
  refine ⟨(h.below b1).below b2, ?_, ?_, fun j hj => absurd hj (by omega), fun j hj => absurd hj (by omega), fun c => by have := hno _ c; omega, fun c => by have := hno _ c; omega, by omega, fun x hx => by have := hno x hx; omega, by omega, by omega, ?_, by simp [after]⟩
  · exact ((World.rowIs_made W0 (.int .i64 0) ds.length 25).alloc _).congr (fun j hj => by simp)
  · exact r2.congr (fun j hj => by simp)
  · exact (b.trans (b1.mono b.size)).trans (b2.mono (Nat.le_trans b.size b1.size))
set_option maxHeartbeats 4000000 in
theorem play_any (now : Nat) (v : Value) (ds : List Dd) (w : World) (hd : DeedsAt w v ds) (hwf : ∀ d, d ∈ ds → wfI d.2.1 ∧ wfI d.2.2) (hn : now ≤ 1099511627776) (hl : ds.length ≤ 2000) :
    Calls Try.prog 9 #[.int .i64 now, v] w fun e w' => ∃ tv dv, e = .returned (.tuple #[tv, dv, .int .i64 0]) ∧ ListAt w' tv (codes ⟨now, 0, []⟩ ds) ∧ RowsAt w' dv (rows ⟨now, 0, []⟩ ds) ∧ Below w.heap.size w w' := by
  have hit := isTime_any now
  have e : decide (0 ≤ (now : Int) ∧ (now : Int) ≤ 1099511627776) = true := by simp; omega
  rw [e] at hit
  have HT : Hid (∀ w, Calls Try.prog 16 #[.int .i64 now] w fun e w' => e = .returned (.bool true) ∧ w' = w) := hit
  obtain ⟨p, cap, hv, hp⟩ : ∃ p cap, v = .slice p ds.length cap ∧ (0 < ds.length → ∃ g off, p = some ⟨g, off, none⟩ ∧ ∀ j (hj : j < ds.length), g < w.heap.size ∧ w.cell? ⟨g, off + j * 3, none⟩ = some (.int .i64 ds[j].1) ∧ w.cell? ⟨g, off + j * 3 + 1, none⟩ = some (.int .i64 ds[j].2.1) ∧ w.cell? ⟨g, off + j * 3 + 2, none⟩ = some (.int .i64 ds[j].2.2)) := by
    rcases hd with ⟨rfl, rfl⟩ | ⟨g, off, cap, rfl, h⟩
    · exact ⟨none, 0, rfl, fun h => absurd h (by simp)⟩
    · exact ⟨_, cap, rfl, fun _ => ⟨g, off, rfl, h⟩⟩
  subst hv
  obtain ⟨n, hnl⟩ : ∃ n, ds.length = n := ⟨_, rfl⟩
  have HP : Hid (0 < ds.length → ∃ g off, p = some ⟨g, off, none⟩ ∧ ∀ j (hj : j < ds.length), g < w.heap.size ∧ w.cell? ⟨g, off + j * 3, none⟩ = some (.int .i64 ds[j].1) ∧ w.cell? ⟨g, off + j * 3 + 1, none⟩ = some (.int .i64 ds[j].2.1) ∧ w.cell? ⟨g, off + j * 3 + 2, none⟩ = some (.int .i64 ds[j].2.2)) := hp
  have HWF : Hid (∀ d, d ∈ ds → wfI d.2.1 ∧ wfI d.2.2) := hwf
  have hl2 : decide ((2000 : Int) < (n : Int)) = false := by simp; omega
  have HNL : Hid (ds.length = n) := hnl
  have hn2000 : n ≤ 2000 := by omega
  obtain ⟨i1, a1, a2, a3, a4⟩ := info_parts info25
  obtain ⟨i2, a5, a6, a7, a8⟩ := info_parts info38
  have HI1 : Hid (Try.prog.info? 25 = some i1 ∧ i1.zero = some (.int .i64 0) ∧ i1.size = 1 ∧ i1.bytes = 8) := ⟨a1, a2, a3, a4⟩
  have HI2 : Hid (Try.prog.info? 38 = some i2 ∧ i2.zero = some (.slice none 0 0) ∧ i2.size = 1 ∧ i2.bytes = 24) := ⟨a5, a6, a7, a8⟩
  obtain ⟨S1, S2, S3⟩ := st_start now (by unfold mt; exact hn) w
  obtain ⟨W0, hW0⟩ : ∃ W0, W0 = ((w.alloc (.map #[] 0)).alloc (.cells clkZ.toArray 50)).setCells (w.heap.size + 1) 0 (clkL now w.heap.size) := ⟨_, rfl⟩
  rw [← hW0] at S1 S2 S3
  have HW0 : Hid (W0 = ((w.alloc (.map #[] 0)).alloc (.cells clkZ.toArray 50)).setCells (w.heap.size + 1) 0 (clkL now w.heap.size)) := hW0
  have HPL := pl_start (ds := ds) S1 S2 S3
  rw [hnl] at HPL
  have HST : Hid (Pl w ((W0.alloc (.cells (madeCells #[.int .i64 0] n) 25)).alloc (.cells (madeCells #[.slice none 0 0] n) 38)) (w.heap.size + 2) (w.heap.size + 1) w.heap.size W0.heap.size (W0.heap.size + 1) ⟨now, 0, []⟩ ds 0 (fun _ => .slice none 0 0) (fun _ => .slice none 0 0) (fun _ => []) (fun _ => none)) := HPL
  have HTH : Hid (((w.alloc (.map #[] 0)).alloc (.cells clkZ.toArray 50)).there (w.heap.size + 1) 0 451) := by
    have := there50 (w.alloc (.map #[] 0))
    rw [show (w.alloc (.map #[] 0)).heap.size = w.heap.size + 1 by simp] at this
    exact this
  have HTH2 : Hid (((w.alloc (.map #[] 0)).alloc (.cells clkZ.toArray 50)).there (w.heap.size + 1) 0 (clkL now w.heap.size).toArray.size) := by
    show World.there _ _ _ _
    rw [clkA_size]; exact HTH.out
  have HSZ2 : Hid ((Try.prog.info? 50).map (·.size) = some (clkL now w.heap.size).toArray.size) := by
    show _ = _
    rw [clkA_size]; exact size50
  rw [hnl]
  clear hit e hd hp hwf hl hnl S1 S2 S3 hW0 HPL a1 a2 a3 a4 a5 a6 a7 a8
  have hmm := @run_makeMap Try.prog
  go_enter Try.func9, Try.ntmps9
  go_wp2_with (first
    | (go_at_call 16; refine (HT.out _).mono ?_; rintro e w ⟨rfl, rfl⟩)
    | (refine wpList_build50 _ (by rfl) _ _ (by rfl) now w.heap.size (by rfl) (by rfl) ?_)
    | (refine wpList_alloc50 _ (by rfl) (by rfl) (w.heap.size + 1) (by simp) ?_)
    | (refine wpList_store_mid (by rfl) 50 _ _ (by rfl) (w.heap.size + 1) 0 (clkL now w.heap.size).toArray (by rfl) (by rfl) HTH2.out HSZ2.out (all_oneCell_toArray (clkL_one _ _)) ?_; go_loud (rw [show ((w.alloc (.map #[] 0)).alloc (.cells clkZ.toArray 50)).setCells (w.heap.size + 1) 0 (clkL now w.heap.size).toArray.toList = W0 from HW0.out.symm]))
    | (refine wpList_make_row _ rfl _ _ 23 rfl 25 i1 (.int .i64 0) Try.underlying23 HI1.out.1 HI1.out.2.1 HI1.out.2.2.1 rfl .i64 .i64 n rfl rfl (by rw [HI1.out.2.2.2]; omega) (by omega) ?_)
    | (refine wpList_make_row _ rfl _ _ 24 rfl 38 i2 (.slice none 0 0) Try.underlying24 HI2.out.1 HI2.out.2.1 HI2.out.2.2.1 rfl .i64 .i64 n rfl rfl (by rw [HI2.out.2.2.2]; omega) (by omega) ?_))
  obtain ⟨tb, htb⟩ : ∃ tb, tb = W0.heap.size := ⟨_, rfl⟩
  have HST2 : Hid (Pl w ((W0.alloc (.cells (madeCells #[.int .i64 0] n) 25)).alloc (.cells (madeCells #[.slice none 0 0] n) 38)) (w.heap.size + 2) (w.heap.size + 1) w.heap.size tb (tb + 1) ⟨now, 0, []⟩ ds 0 (fun _ => .slice none 0 0) (fun _ => .slice none 0 0) (fun _ => []) (fun _ => none)) := by
    show Pl _ _ _ _ _ _ _ _ _ _ _ _ _ _
    rw [htb]; exact HST.out
  rw [← htb]
  clear htb HST HW0 hmm HT HTH HTH2 HSZ2 HI1 HI2
  go_loopw [29] (fun i wr => ∃ k us V T M, k ≤ n ∧ i = .int .i64 (k : Nat) ∧ Pl w wr (w.heap.size + 2) (w.heap.size + 1) w.heap.size tb (tb + 1) ⟨now, 0, []⟩ ds k us V T M) (fun i _ => n + 1 - (intOf i).toNat)
  case atStart => exact ⟨0, _, _, _, _, by omega, rfl, HST2.out⟩
  case round =>
    obtain ⟨k, us, V, T, M, hk, rfl, L⟩ := hrel
    by_cases hlt : k < n
    · have hkd : k < ds.length := by have := HNL.out; omega
      obtain ⟨g, off, hg, hc⟩ := HP.out (by omega)
      obtain ⟨hgs, c0, c1, c2⟩ := hc k hkd
      subst hg
      obtain ⟨d, hdk⟩ : ∃ d, ds[k] = d := ⟨_, rfl⟩
      rw [hdk] at c0 c1 c2
      have HDK : Hid (ds[k] = d) := hdk
      have b0 : wr.cell? ⟨g, off + k * 3, none⟩ = some (.int .i64 d.1) := (L.below.cell (p := ⟨g, off + k * 3, none⟩) hgs).trans c0
      have b1 : wr.cell? ⟨g, off + k * 3 + 1, none⟩ = some (.int .i64 d.2.1) := (L.below.cell (p := ⟨g, off + k * 3 + 1, none⟩) hgs).trans c1
      have b2 : wr.cell? ⟨g, off + k * 3 + 2, none⟩ = some (.int .i64 d.2.2) := (L.below.cell (p := ⟨g, off + k * 3 + 2, none⟩) hgs).trans c2
      have i1 : (0 : Int) ≤ (k : Int) := by omega
      have i2 : (k : Int) < (n : Int) := by omega
      have HL : Hid (Pl w wr (w.heap.size + 2) (w.heap.size + 1) w.heap.size tb (tb + 1) ⟨now, 0, []⟩ ds k us V T M) := L
      have HWd : Hid (wfI d.2.1 ∧ wfI d.2.2) := HWF.out d (by rw [← hdk]; exact List.getElem_mem _)
      have HOR : Hid ((after ⟨now, 0, []⟩ (ds.take k)).ords ≤ 2000) := by
        show _ ≤ _
        have := L.ords; omega
      have HKD : Hid (k < ds.length) := hkd
      clear hc L hdk c0 c1 c2 hgs
      go_wp2_with fail
      have bW := below_new' wr (.cells #[.int .i64 d.1, .int .i64 d.2.1, .int .i64 d.2.2] 36)
      refine (do_any _ _ _ _ V T M d.1 d.2.1 d.2.2 _ (HL.out.st.below bW) HWd.out.1 HWd.out.2 HOR.out).mono ?_
      rintro e w2 ⟨u, rfl, hp⟩
      obtain ⟨pu, lu, cu, rfl⟩ := hp.1.shape
      obtain ⟨q1, q2, q3, q4⟩ := HL.out.cells HKD.out bW hp
      have HPP : Hid (DoPost (w.heap.size + 2) (w.heap.size + 1) w.heap.size (after ⟨now, 0, []⟩ (ds.take k)) d V (wr.alloc (.cells #[.int .i64 d.1, .int .i64 d.2.1, .int .i64 d.2.2] 36)) (.slice pu lu cu) w2) := hp
      clear hp bW
      go_wp2
      go_roundw
      case rel =>
        have := HL.out.step HKD.out (below_new' wr (.cells #[.int .i64 d.1, .int .i64 d.2.1, .int .i64 d.2.2] 36)) (by rw [HDK.out]; exact HPP.out)
        rw [HDK.out] at this
        obtain ⟨us', V', T', M', h'⟩ := this
        exact ⟨k + 1, us', V', T', M', by omega, by go_num, h'⟩
      case measure => simp [intOf]; omega
    · obtain rfl : k = n := by omega
      have hdn := L.done HNL.out
      have hbb := L.below
      have HD1 : Hid (ListAt wr (.slice (some ⟨tb, 0, none⟩) k k) (codes ⟨now, 0, []⟩ ds) ∧ RowsAt wr (.slice (some ⟨tb + 1, 0, none⟩) k k) (rows ⟨now, 0, []⟩ ds) ∧ Below w.heap.size w wr) := ⟨hdn.1, hdn.2, hbb⟩
      clear L hdn hbb
      go_wp2
      go_ret3
      exact ⟨_, _, rfl, HD1.out⟩
end Go.Proofs.Ytccddjfcceclnaa
