/-
  What clear answers, and what it leaves.
-/
import Derived.Test.YtccddjfcceclnaaM
namespace Go.Proofs.Ytccddjfcceclnaa
open Go.ChangeShapes Go.WideShapes Go.ChangeAt Go.RowKit Go.Maps
set_option linter.unusedVariables false
set_option linter.unusedSimpArgs false
theorem set3_take (cur : Array Value) (l : List Tm) (j : Nat) (z : Tm) (hj : j < l.length) (hc : l.length * 3 ≤ cur.size) (ht : cur.toList.take (l.length * 3) = l.flatMap encT) :
    (((cur.setIfInBounds (j * 3) (.int .i64 z.i)).setIfInBounds (j * 3 + 1) (.int .i64 z.a)).setIfInBounds (j * 3 + 2) (.int .i64 z.o)).toList.take (l.length * 3) = (l.set j z).flatMap encT := by
  apply List.ext_getElem?
  intro r
  by_cases hr : r < l.length * 3
  · rw [List.getElem?_take_of_lt hr, Array.getElem?_toList, flat_at _ r (by simpa using hr)]
    have h0 : cur[r]? = some ((encT l[r / 3]!)[r % 3]!) := by
      rw [← flat_at l r hr, ← ht, List.getElem?_take_of_lt hr, Array.getElem?_toList]
    have hlt : r < cur.size := by omega
    have hq : r / 3 < l.length := by omega
    rw [Array.getElem?_setIfInBounds, Array.getElem?_setIfInBounds, Array.getElem?_setIfInBounds]
    by_cases e : r / 3 = j
    · have ez : (l.set j z)[r / 3]! = z := by
        rw [e, getElem!_pos (l.set j z) j (by simpa using hj)]; simp
      rw [ez]
      rcases (by omega : r = j * 3 ∨ r = j * 3 + 1 ∨ r = j * 3 + 2) with rfl | rfl | rfl
      · have : j * 3 % 3 = 0 := by omega
        simp [hlt, encT, this]
      · have : (j * 3 + 1) % 3 = 1 := by omega
        simp [hlt, encT, this]
      · have : (j * 3 + 2) % 3 = 2 := by omega
        simp [hlt, encT, this]
    · have ez : (l.set j z)[r / 3]! = l[r / 3]! := by
        rw [getElem!_pos (l.set j z) (r / 3) (by simpa using hq), getElem!_pos l (r / 3) hq, List.getElem_set, if_neg (fun h => e h.symm)]
      rw [ez, if_neg (by omega), if_neg (by omega), if_neg (by omega), h0]
  · rw [List.getElem?_take_eq_none (by omega), List.getElem?_eq_none (by rw [length_flat]; simpa using hr)]
theorem heap_set {W : World} {g i : Nat} {cur : Array Value} {e : TypeId} {fr : Nat × Nat} (v : Value) (h : W.heap[g]? = some (.cells cur e fr)) : (W.setCell ⟨g, i, none⟩ v).heap[g]? = some (.cells (cur.setIfInBounds i v) e fr) := by
  simp [World.setCell, Array.getElem?_modify, h]
theorem take_flat (l : List Tm) (m : Nat) : (l.flatMap encT).take (m * 3) = (l.take m).flatMap encT := by
  induction l generalizing m with
  | nil => simp
  | cons t r ih =>
    cases m with
    | zero => simp
    | succ m =>
      rw [List.take_succ_cons, List.flatMap_cons, List.flatMap_cons, ← ih m]
      have : (m + 1) * 3 = (encT t).length + m * 3 := by simp [encT]; omega
      rw [this, List.take_length_add_append]
/-- The last timer fills the gap, and the row is one shorter. -/
theorem row_swap {W : World} {B g cap j : Nat} {l : List Tm} (h : W.ownsRow B 69 3 (.slice (some ⟨g, 0, none⟩) l.length cap) l.length (l.flatMap encT)) (hj : j < l.length) (z : Tm) (hz : z = l.getD (l.length - 1) default) :
    (((W.setCell ⟨g, j * 3, none⟩ (.int .i64 z.i)).setCell ⟨g, j * 3 + 1, none⟩ (.int .i64 z.a)).setCell ⟨g, j * 3 + 2, none⟩ (.int .i64 z.o)).ownsRow B 69 3 (.slice (some ⟨g, 0, none⟩) (l.length - 1) cap) (swapOut l j).length ((swapOut l j).flatMap encT) := by
  rcases h.2 with ⟨h0, _⟩ | ⟨g', cap', cur, hv, h1, h2, h3, h4, h5, h6⟩
  · cases h0
  · have e : g' = g ∧ cap' = cap := by simp at hv; exact ⟨hv.1.symm, hv.2.symm⟩
    obtain ⟨rfl, rfl⟩ := e
    have hlen : (swapOut l j).length = l.length - 1 := by unfold swapOut; simp
    refine ⟨length_flat _, .inr ⟨g', cap', _, by rw [hlen], h1, heap_set _ (heap_set _ (heap_set _ h2)), by omega, h4, by simpa using h5, ?_⟩⟩
    have hs := set3_take cur l j z hj (by rw [h5]; exact Nat.mul_le_mul_right _ h3) h6
    have : (swapOut l j).flatMap encT = ((l.set j z).flatMap encT).take ((l.length - 1) * 3) := by
      rw [take_flat]; unfold swapOut; rw [← hz]
    rw [hlen, this, ← hs, List.take_take, Nat.min_eq_left (Nat.mul_le_mul_right _ (by omega))]
/-- A slot's row is turned, and others that are none of the clock's rows; the slot's cell is laid anew. -/
theorem Clk.row2 {w w1 : World} {B cb mb now ords : Nat} {V : Nat → Value} {T : Nat → List Tm} (h : Clk w B cb mb now ords V T) {q : Nat} (hq : q < 448) {v : Value} {l : List Tm}
    {S : Nat → Prop} (t : Turn S w w1) (hn : ¬ S cb) (hoth : ∀ r, r < 448 → r ≠ q → ∀ k, (V r).ownBlock = some k → ¬ S k) (hrow : w1.ownsRow B 69 3 v l.length (l.flatMap encT)) (hat : ∀ g, v.ownBlock = some g → (V q).ownBlock = some g ∨ w.heap.size ≤ g) :
    Clk (w1.setCell ⟨cb, 2 + q, none⟩ v) B cb mb now ords (updV V q v) (upd T q l) := by
  have hc : cb < w.heap.size := Nat.lt_of_lt_of_le h.cbB h.BS
  have hbl : ∀ r, r < 448 → ∀ g, (V r).ownBlock = some g → B ≤ g ∧ g < w.heap.size := fun r hr g hg => (h.rows r hr).lt g hg
  have e : ∀ j, w1.cell? ⟨cb, j, none⟩ = w.cell? ⟨cb, j, none⟩ := fun j => t.cell (p := ⟨cb, j, none⟩) hc hn
  have e2 : ∀ j, j ≠ 2 + q → (w1.setCell ⟨cb, 2 + q, none⟩ v).cell? ⟨cb, j, none⟩ = w.cell? ⟨cb, j, none⟩ := fun j hj => by
    rw [World.cell?_setCell_other _ _ _ _ (fun c => hj (by cases c; rfl))]; exact e j
  have hvg : ∀ g, v.ownBlock = some g → B ≤ g := fun g hg => (hrow.lt g hg).1
  refine ⟨h.cbB, h.mbB, h.ne, by rw [World.size_setCell]; exact Nat.le_trans h.BS t.size, (e2 0 (by omega)).trans h.c0, (e2 1 (by omega)).trans h.c1, fun r hr => ?_, (e2 450 (by omega)).trans h.cm, fun j => ?_, fun r hr => ?_, fun r s hr hs hrs => ?_⟩
  · by_cases c : r = q
    · subst c
      simp only [updV, if_true]
      have hsome : (w1.cell? ⟨cb, 2 + r, none⟩).isSome = true := by rw [e, h.cv r hr]; rfl
      obtain ⟨u, hu⟩ := Option.isSome_iff_exists.1 hsome
      exact World.cell?_setCell_same w1 _ _ hu
    · simp only [updV, c, if_false]; exact (e2 _ (by omega)).trans (h.cv r hr)
  · rw [World.frozen?_setCell]; exact (t.frozen (p := ⟨cb, j, none⟩) hc hn).trans (h.fz j)
  · have hcell : ∀ k, B ≤ k → (w1.setCell ⟨cb, 2 + q, none⟩ v).heap[k]? = w1.heap[k]? := fun k hk => RowKit.Below.heap_setCell _ _ _ _ (fun c => by have := h.cbB; simp at c; omega)
    by_cases c : r = q
    · subst c
      simp only [updV, upd, if_true]
      exact owns_block hrow (fun k hk => hcell k (hvg k hk))
    · simp only [updV, upd, c, if_false]
      refine owns_block (h.rows r hr) (fun k hk => ?_)
      obtain ⟨h1, h2⟩ := hbl r hr k hk
      rw [hcell k h1]
      exact t.block k h2 (hoth r hr c k hk)
  · have new : ∀ s, s < 448 → s ≠ q → v.ownBlock = none ∨ v.ownBlock ≠ (V s).ownBlock := fun s hs hsq => by
      cases hv : v.ownBlock with
      | none => exact Or.inl rfl
      | some g =>
        right
        intro c
        rcases hat g hv with h3 | h3
        · rcases h.apart s q hs hq hsq with h4 | h4
          · rw [h4] at c; cases c
          · exact h4 (c.symm.trans h3.symm)
        · have := hbl s hs g c.symm; omega
    by_cases c : r = q
    · subst c
      have : ¬ s = r := fun e => hrs e.symm
      simp only [updV, if_true, this, if_false]
      exact new s hs this
    · by_cases c2 : s = q
      · subst c2
        simp only [updV, c, if_false, if_true]
        rcases new r hr c with h3 | h3
        · rw [h3]; cases (V r).ownBlock with
          | none => exact Or.inl rfl
          | some g => exact Or.inr (by simp)
        · exact Or.inr (fun e => h3 e.symm)
      · simp only [updV, c, c2, if_false]; exact h.apart r s hr hs hrs
/-- What a clear leaves, in memory. -/
theorem clear_end {B cb mb now ords : Nat} {V : Nat → Value} {T : Nat → List Tm} {W W2 W3 : World} {q j g m cap : Nat} {z : Tm} (C : Clk W B cb mb now ords V T) (hq : q < 448) (hv : V q = .slice (some ⟨g, 0, none⟩) (m + 1) cap) (hl : (T q).length = m + 1) (hj : j < (T q).length)
    (hz : z = (T q).getD ((T q).length - 1) default)
    (hW2 : W2 = (((W.setCell ⟨g, j * 3, none⟩ (.int .i64 z.i)).setCell ⟨g, j * 3 + 1, none⟩ (.int .i64 z.a)).setCell ⟨g, j * 3 + 2, none⟩ (.int .i64 z.o))) (t3 : Turn (fun k => k = mb) W2 W3) :
    Clk (W3.setCell ⟨cb, 2 + q, none⟩ (.slice (some ⟨g, 0, none⟩) m cap)) B cb mb now ords (updV V q (.slice (some ⟨g, 0, none⟩) m cap)) (upd T q (swapOut (T q) j)) := by
  have hrow := C.rows q hq
  have hgl := hrow.lt g (by rw [hv]; rfl)
  have hgcb : g ≠ cb := by have := C.cbB; omega
  have hgmb : g ≠ mb := by have := C.mbB; omega
  have t2 : Turn (fun k => k = g) W W2 := by
    rw [hW2]; exact (((Turn.refl (fun k => k = g) W).setCell (p := ⟨g, j * 3, none⟩) rfl _).setCell (p := ⟨g, j * 3 + 1, none⟩) rfl _).setCell (p := ⟨g, j * 3 + 2, none⟩) rfl _
  have r2 : W2.ownsRow B 69 3 (.slice (some ⟨g, 0, none⟩) m cap) (swapOut (T q) j).length ((swapOut (T q) j).flatMap encT) := by
    rw [hv, ← hl] at hrow
    have := row_swap hrow hj z hz
    rw [show (T q).length - 1 = m by omega] at this
    rw [hW2]; exact this
  have r3 : W3.ownsRow B 69 3 (.slice (some ⟨g, 0, none⟩) m cap) (swapOut (T q) j).length ((swapOut (T q) j).flatMap encT) :=
    owns_block r2 (fun k hk => by
      have : g = k := by simpa [Value.ownBlock] using hk
      subst this
      exact t3.block g (Nat.lt_of_lt_of_le hgl.2 t2.size) hgmb)
  refine C.row2 hq (S := fun k => k = g ∨ k = mb) ((t2.mono (fun k _ h => Or.inl h)).trans t3 (fun k _ h => Or.inr h)) (fun c => ?_) (fun r hr hrq k hk c => ?_) r3 (fun k hk => Or.inl (by rw [hv]; exact hk))
  · rcases c with c | c
    · exact hgcb c.symm
    · exact C.ne c.symm
  · rcases c with rfl | rfl
    · rcases C.apart r q hr hq hrq with h | h
      · rw [h] at hk; cases hk
      · exact h (by rw [hk, hv]; rfl)
    · have := ((C.rows r hr).lt k hk).1
      have := C.mbB
      omega
theorem filter_len : ∀ {L : List Tm} {t : Tm}, (L.map Tm.i).Nodup → t ∈ L → (L.filter fun u => decide (u.i ≠ t.i)).length + 1 = L.length
  | [], t, _, ht => by cases ht
  | x :: r, t, hn, ht => by
    rw [List.map_cons, List.nodup_cons] at hn
    by_cases e : x.i = t.i
    · have hr : (r.filter fun u => decide (u.i ≠ t.i)) = r := List.filter_eq_self.2 (fun u hu => by
        simp only [decide_eq_true_eq]
        exact fun c => hn.1 (List.mem_map.2 ⟨u, hu, by omega⟩))
      rw [List.filter_cons_of_neg (by simp [e]), hr, List.length_cons]
    · have hm : t ∈ r := by
        rcases List.mem_cons.1 ht with h | h
        · exact absurd (by rw [h]) e
        · exact h
      rw [List.filter_cons_of_pos (by simp [e]), List.length_cons, List.length_cons, filter_len hn.2 hm]
set_option maxHeartbeats 4000000 in
theorem clear_any (B cb mb : Nat) (s : Sp) (V : Nat → Value) (T : Nat → List Tm) (M : Places) (id at' : Int) (w : World) (h : St w B cb mb s V T M) (hid : wfI id) :
    Calls Try.prog 25 #[.pointer (some ⟨cb, 0, none⟩), .int .i64 id] w fun e w' => e = .returned (.int .i64 (step s (2, id, at')).1) ∧ After B cb mb (step s (2, id, at')).2.2 V w w' := by
  have cm := h.clk.cm
  have HS : Hid (St w B cb mb s V T M) := h
  have HI : Hid (wfI id) := hid
  have hM := h.has id
  obtain ⟨n, hn⟩ : ∃ n, s.L.length = n := ⟨_, rfl⟩
  have HN : Hid (s.L.length = n) := hn
  have HMp : Hid (Mp w mb M n) := by show Mp w mb M n; rw [← hn]; exact h.mp
  have hg := h.good.step (2, id, at')
  unfold step at hg ⊢
  simp only [show ¬ ((2 : Int) = 1) by omega, if_false, if_true] at hg ⊢
  clear hn h hid
  cases hmi : M id with
  | none =>
    rw [hmi] at hM
    have hh : s.has id = false := by rw [← hM]; rfl
    simp only [hh, Bool.false_eq_true, if_false]
    have HP : Hid ((M id).getD (0, 0, 0) = (0, 0, 0)) := by show _ = _; rw [hmi]; rfl
    have HB : Hid ((M id).isSome = false) := by show _ = _; rw [hmi]; rfl
    clear hM hh hg hmi
    go_enter Try.func25, Try.ntmps25
    go_wp2_with (at_lookup; refine wpList_look_mp _ (by rfl) _ _ (by rfl) mb M n (by rfl) HMp.out id HI.out (by rfl) (0, 0, 0) false HP.out HB.out ?_)
    go_ret
    exact ⟨rfl, After.same HS.out (below_new' _ _)⟩
  | some p =>
    rw [hmi] at hM
    have hh : s.has id = true := by rw [← hM]; rfl
    simp only [hh, if_true] at hg ⊢
    obtain ⟨q, t, hq, e1, e2, hj, hti, htL⟩ := HS.out.inv.find hmi
    obtain ⟨wd, sd, j⟩ := p
    simp only at e1 e2 hj
    have HP : Hid ((M id).getD (0, 0, 0) = (wd, sd, j)) := by show _ = _; rw [hmi]; rfl
    have HB : Hid ((M id).isSome = true) := by show _ = _; rw [hmi]; rfl
    have hjl := (List.getElem?_eq_some_iff.1 hj).1
    obtain ⟨m, hm⟩ : ∃ m, (T q).length = m + 1 := ⟨(T q).length - 1, by omega⟩
    obtain ⟨g, cap, hv, hgB, hgs⟩ := (HS.out.clk.rows q hq).form (by omega)
    have hgw : g < w.heap.size := hgs
    have hgcb : g ≠ cb := by have := HS.out.clk.cbB; omega
    have hgmb : g ≠ mb := by have := HS.out.clk.mbB; omega
    have hcbw : cb < w.heap.size := Nat.lt_of_lt_of_le HS.out.clk.cbB HS.out.clk.BS
    have hrow := HS.out.clk.rows q hq
    rw [hv] at hrow
    have cj := cell3 hrow hjl
    rw [(List.getElem?_eq_some_iff.1 hj).2] at cj
    have cz := cell3 hrow (show m < (T q).length by omega)
    have hlast : (T q)[m] = (T q).getD ((T q).length - 1) default := by
      have e0 : (T q).length - 1 = m := by omega
      rw [e0, List.getD_eq_getElem?_getD, List.getElem?_eq_getElem (by omega)]; rfl
    generalize hz : (T q)[m] = z at cz hlast
    have HST : Hid (q < 448 ∧ wd = q / 64 ∧ sd = q % 64 ∧ (T q)[j]? = some t ∧ (t.i : Int) = id ∧ z = (T q).getD ((T q).length - 1) default) := ⟨hq, e1, e2, hj, hti, hlast⟩
    have HV : Hid (V q = .slice (some ⟨g, 0, none⟩) (m + 1) cap) := by show _ = _; rw [hv, hm]
    have HL : Hid ((T q).length = m + 1) := hm
    have HGd : Hid (Good ⟨s.now, s.ords, s.L.filter fun t => decide ((t.i : Int) ≠ id)⟩) := hg
    have cq : w.cell? ⟨cb, 2 + wd * 64 + sd, none⟩ = some (.slice (some ⟨g, 0, none⟩) (m + 1) cap) := by
      rw [← HV.out, ← HS.out.clk.cv _ hq]; congr 2; omega
    have i1 : (0 : Int) ≤ (wd : Int) := by omega
    have i2 : (wd : Int) < 7 := by omega
    have i3 : (0 : Int) ≤ (sd : Int) := by omega
    have i4 : (sd : Int) < 64 := by omega
    have i5 : (0 : Int) ≤ (j : Int) := by omega
    have i6 : (j : Int) < (m : Int) + 1 := by omega
    have i7 : (0 : Int) ≤ (m : Int) := by omega
    have i9 : (m : Int) ≤ (cap : Int) := by
      rcases hrow.2 with ⟨h0, _⟩ | ⟨g', cap', cur, hv', h1, h2, h3, _⟩
      · cases h0
      · have : cap' = cap := by simp at hv'; exact hv'.2.symm
        omega
    have i8 : (m : Int) ≤ 1000 := by have h1 := HS.out.inv.len hq; have h2 := HS.out.good.few; omega
    have fc := HS.out.clk.fz (2 + wd * 64 + sd)
    have fg : ∀ i, w.frozen? ⟨g, i, none⟩ = false := by
      rcases hrow.2 with ⟨h0, _⟩ | ⟨g', cap', cur, hv', h1, h2, _⟩
      · cases h0
      · have : g' = g := by simp at hv'; exact hv'.1.symm
        subst this
        intro i; simp [World.frozen?, h2]
    obtain ⟨cj0, cj1, cj2⟩ := cj
    obtain ⟨cz0, cz1, cz2⟩ := cz
    obtain ⟨W, hW⟩ : ∃ W, W = w.alloc (.cells #[.int .i64 wd, .int .i64 sd, .int .i64 j] 65) := ⟨_, rfl⟩
    have a0 : W.cell? ⟨g, j * 3, none⟩ = some (.int .i64 t.i) := by rw [hW]; exact cellA cj0
    have a1 : W.cell? ⟨g, j * 3 + 1, none⟩ = some (.int .i64 t.a) := by rw [hW]; exact cellA cj1
    have a2 : W.cell? ⟨g, j * 3 + 2, none⟩ = some (.int .i64 t.o) := by rw [hW]; exact cellA cj2
    have z0 : W.cell? ⟨g, m * 3, none⟩ = some (.int .i64 z.i) := by rw [hW]; exact cellA cz0
    have z1 : W.cell? ⟨g, m * 3 + 1, none⟩ = some (.int .i64 z.a) := by rw [hW]; exact cellA cz1
    have z2 : W.cell? ⟨g, m * 3 + 2, none⟩ = some (.int .i64 z.o) := by rw [hW]; exact cellA cz2
    have b0 : W.cell? ⟨w.heap.size, 0, none⟩ = some (.int .i64 wd) := by rw [hW]; go_simp
    have b1 : W.cell? ⟨w.heap.size, 1, none⟩ = some (.int .i64 sd) := by rw [hW]; go_simp
    have b2 : W.cell? ⟨w.heap.size, 2, none⟩ = some (.int .i64 j) := by rw [hW]; go_simp
    have dq : W.cell? ⟨cb, 2 + wd * 64 + sd, none⟩ = some (.slice (some ⟨g, 0, none⟩) (m + 1) cap) := by rw [hW]; exact cellA cq
    have dm : W.cell? ⟨cb, 450, none⟩ = some (.map (some mb)) := by rw [hW]; exact cellA cm
    have dfc : W.frozen? ⟨cb, 2 + wd * 64 + sd, none⟩ = false := by rw [hW]; exact (frozA (p := ⟨cb, 2 + wd * 64 + sd, none⟩) hcbw).trans fc
    have dfg : ∀ i, W.frozen? ⟨g, i, none⟩ = false := fun i => by rw [hW]; exact (frozA (p := ⟨g, i, none⟩) hgw).trans (fg i)
    have HC : Hid (Clk W B cb mb s.now s.ords V T) := by show Clk W _ _ _ _ _ _ _; rw [hW]; exact HS.out.clk.alloc _
    have HM : Hid (Mp W mb M n) := by
      show Mp W mb M n
      rw [hW]; exact HMp.out.block (by first | exact heap_alloc_old _ _ HMp.out.lt | exact heap_alloc_old _ _ _ HMp.out.lt)
    have HT : Hid (Turn (Own cb mb V) w W) := by show Turn _ _ _; rw [hW]; exact (Turn.refl _ _).alloc _
    have n1 : w.heap.size ≠ cb := by omega
    have n2 : w.heap.size ≠ g := by omega
    have n3 : w.heap.size ≠ mb := by have := HMp.out.lt; omega
    have hcm : cb ≠ mb := HS.out.clk.ne.symm
    clear hM hh hg hmi hrow hv hm hjl hj hti htL hz hlast hq e1 e2 cj0 cj1 cj2 cz0 cz1 cz2 cq fc fg hgs hgw hcbw
    go_enter Try.func25, Try.ntmps25
    go_wp2_with (at_lookup; refine wpList_look_mp _ (by rfl) _ _ (by rfl) mb M n (by rfl) HMp.out id HI.out (by rfl) (wd, sd, j) true HP.out HB.out ?_)
    rw [← hW]
    clear hW
    go_quiet (fail)
    go_wp2
    go_region
    go_wp2_with fail
    obtain ⟨W1, hW1⟩ : ∃ W1, W1 = W.drewN (nq + 1) := ⟨_, rfl⟩
    have HC1 : Hid (Clk W1 B cb mb s.now s.ords V T) := by show Clk W1 _ _ _ _ _ _ _; rw [hW1]; exact HC.out.drewN _
    have HM1 : Hid (Mp W1 mb M n) := by show Mp W1 _ _ _; rw [hW1]; exact HM.out.block rfl
    have HT1 : Hid (Turn (Own cb mb V) w W1) := by show Turn _ _ _; rw [hW1]; exact HT.out.drewN _
    rw [← hW1]
    obtain ⟨W2, hW2⟩ : ∃ W2, W2 = (((W1.setCell ⟨g, j * 3, none⟩ (.int .i64 z.i)).setCell ⟨g, j * 3 + 1, none⟩ (.int .i64 z.a)).setCell ⟨g, j * 3 + 2, none⟩ (.int .i64 z.o)) := ⟨_, rfl⟩
    have k3 : ∀ {p v}, W.cell? p = some v → p.block ≠ g → W2.cell? p = some v := fun {p v} hp hne => by
      rw [hW2, hW1]; exact cellS (cellS (cellS hp hne) hne) hne
    have y0 : W2.cell? ⟨w.heap.size, 0, none⟩ = some (.int .i64 wd) := k3 b0 n2
    have y1 : W2.cell? ⟨w.heap.size, 1, none⟩ = some (.int .i64 sd) := k3 b1 n2
    have y2 : W2.cell? ⟨w.heap.size, 2, none⟩ = some (.int .i64 j) := k3 b2 n2
    have yq : W2.cell? ⟨cb, 2 + wd * 64 + sd, none⟩ = some (.slice (some ⟨g, 0, none⟩) (m + 1) cap) := k3 dq hgcb.symm
    have ym : W2.cell? ⟨cb, 450, none⟩ = some (.map (some mb)) := k3 dm hgcb.symm
    have yf : W2.frozen? ⟨cb, 2 + wd * 64 + sd, none⟩ = false := by rw [hW2, hW1]; simp [dfc]
    have yg : W2.cell? ⟨g, j * 3, none⟩ = some (.int .i64 z.i) := by
      rw [hW2, World.cell?_setCell_other _ _ _ _ (fun c => by simp at c), World.cell?_setCell_other _ _ _ _ (fun c => by simp at c)]
      exact World.cell?_setCell_same _ _ _ (by rw [hW1]; exact a0)
    have HW2 : Hid (W2 = (((W1.setCell ⟨g, j * 3, none⟩ (.int .i64 z.i)).setCell ⟨g, j * 3 + 1, none⟩ (.int .i64 z.a)).setCell ⟨g, j * 3 + 2, none⟩ (.int .i64 z.o))) := hW2
    have HM2 : Hid (Mp W2 mb M n) := by
      show Mp W2 mb M n
      refine HM1.out.block ?_
      rw [hW2, RowKit.Below.heap_setCell _ _ _ _ hgmb.symm, RowKit.Below.heap_setCell _ _ _ _ hgmb.symm, RowKit.Below.heap_setCell _ _ _ _ hgmb.symm]
    have HZ : Hid (wfI z.i) := by
      show wfI _
      obtain ⟨hq, _, _, _, _, hz⟩ := HST.out
      have hzm : z ∈ T q := by
        rw [hz, List.getD_eq_getElem?_getD, List.getElem?_eq_getElem (by have := HL.out; omega)]
        exact List.getElem_mem _
      have := HS.out.good.ids z (HS.out.inv.mem hq hzm).1
      unfold wfI; omega
    rw [← hW2]
    clear hW2 hW1 k3 a0 a1 a2 z0 z1 z2 b0 b1 b2 dq dm dfc dfg HC HM HT
    have hns : n ≤ 2000 := by have h1 := HS.out.good.few; have := HN.out; omega
    have hpw := HM2.out.putW_run HZ.out hns (wd, sd, j)
    have hmt := (HM2.out.block (w' := W2.drew) rfl).putW_run HZ.out hns (wd, sd, j)
    have hrun : (Instr.mapUpdate 45 (.map (some mb)) (.int .i64 z.i) (.agg #[.int .i64 wd, .int .i64 sd, .int .i64 j])).run Try.prog W2.drew = .ok () (putW mb z.i (wd, sd, j) W2.drew) := hmt.1
    have x0 : (putW mb z.i (wd, sd, j) W2.drew).cell? ⟨w.heap.size, 0, none⟩ = some (.int .i64 wd) := cell_of_turned hmt.2.2 y0 n3
    have x1 : (putW mb z.i (wd, sd, j) W2.drew).cell? ⟨w.heap.size, 1, none⟩ = some (.int .i64 sd) := cell_of_turned hmt.2.2 y1 n3
    have x2 : (putW mb z.i (wd, sd, j) W2.drew).cell? ⟨w.heap.size, 2, none⟩ = some (.int .i64 j) := cell_of_turned hmt.2.2 y2 n3
    have xq : (putW mb z.i (wd, sd, j) W2.drew).cell? ⟨cb, 2 + wd * 64 + sd, none⟩ = some (.slice (some ⟨g, 0, none⟩) (m + 1) cap) := cell_of_turned hmt.2.2 yq hcm
    have xm : (putW mb z.i (wd, sd, j) W2.drew).cell? ⟨cb, 450, none⟩ = some (.map (some mb)) := cell_of_turned hmt.2.2 ym hcm
    have xf : (putW mb z.i (wd, sd, j) W2.drew).frozen? ⟨cb, 2 + wd * 64 + sd, none⟩ = false := (hmt.2.2.frozen _).trans yf
    have xg : (putW mb z.i (wd, sd, j) W2.drew).cell? ⟨g, j * 3, none⟩ = some (.int .i64 z.i) := cell_of_turned hmt.2.2 yg hgmb
    have HX : Hid (Mp (putW mb z.i (wd, sd, j) W2.drew) mb (M.put z.i (wd, sd, j)) (if (M z.i).isSome then n else n + 1) ∧ W2.drew.mapTurned (putW mb z.i (wd, sd, j) W2.drew) mb) := hmt.2
    clear hmt hpw
    go_region_held3 (fun w' => w'.cell? ⟨cb, 450, none⟩ = some (.map (some mb)) ∧ w'.cell? ⟨w.heap.size, 0, none⟩ = some (.int .i64 wd) ∧ w'.cell? ⟨w.heap.size, 1, none⟩ = some (.int .i64 sd) ∧ w'.cell? ⟨w.heap.size, 2, none⟩ = some (.int .i64 j) ∧ w'.cell? ⟨g, j * 3, none⟩ = some (.int .i64 z.i)) (go_keep) (fail)
    go_wp2_with fail
    obtain ⟨W3, hW3⟩ : ∃ W3, W3 = putW mb z.i (wd, sd, j) W2.drew := ⟨_, rfl⟩
    have HX3 : Hid (Mp W3 mb (M.put z.i (wd, sd, j)) (if (M z.i).isSome then n else n + 1) ∧ W2.drew.mapTurned W3 mb) := by show _ ∧ _; rw [hW3]; exact HX.out
    rw [← hW3] at x0 x1 x2 xq xm xf
    rw [← hW3]
    clear hW3 hrun xg y0 y1 y2 yq ym yf yg HX
    go_region
    go_wp2_with (at_delete; refine wpList_delete_mp _ (by rfl) _ _ (by rfl) mb (M.put z.i (wd, sd, j)) (if (M z.i).isSome then n else n + 1) (by rfl) ((HX3.out.1.block rfl).block (RowKit.Below.heap_setCell _ _ _ _ hcm.symm)) id HI.out (by rfl) ?_; intro w5 hM5 ht5)
    go_ret
    obtain ⟨hq, e1, e2, hj, hti, hz⟩ := HST.out
    have hjl := (List.getElem?_eq_some_iff.1 hj).1
    have ea : 2 + wd * 64 + sd = 2 + q := by omega
    rw [ea] at ht5
    have t3 : Turn (fun k => k = mb) W2 W3 := ((Turn.refl _ _).drew).grown HX3.out.2.grown (fun k hk _ => by cases hk; rfl)
    have C4 := clear_end HC1.out hq HV.out HL.out hjl hz HW2.out t3
    have t5 : Turn (fun k => k = mb) (W3.setCell ⟨cb, 2 + q, none⟩ (.slice (some ⟨g, 0, none⟩) m cap)) w5 := ((Turn.refl _ _).drew).grown ht5.grown (fun k hk _ => by cases hk; rfl)
    have C5 := C4.turn t5 (fun k hk => by
      subst hk
      exact ⟨C4.ne, fun r hr c => by have := ((C4.rows r hr).lt k c).1; have := C4.mbB; omega⟩)
    have ef : (s.L.filter fun u => decide ((u.i : Int) ≠ id)) = s.L.filter fun u => decide (u.i ≠ t.i) := by
      refine List.filter_congr (fun u _ => ?_)
      rw [← hti, decide_eq_decide]; omega
    have htL : t ∈ s.L := (HS.out.inv.mem hq (List.mem_of_getElem? hj)).1
    have hzL : z ∈ s.L := (HS.out.inv.mem hq (by
      rw [hz, List.getD_eq_getElem?_getD, List.getElem?_eq_getElem (by have := HL.out; omega)]
      exact List.getElem_mem _)).1
    have hMz : (M z.i).isSome = true := (HS.out.inv.there z.i).2 ⟨z, by simpa using hzL, rfl⟩
    have hMid : (M.put z.i (wd, sd, j) id).isSome = true := by
      unfold Places.put
      by_cases c : id = z.i
      · simp [c]
      · simp [c]; exact HB.out
    have hlen := filter_len HS.out.good.apart htL
    refine ⟨rfl, updV V q (.slice (some ⟨g, 0, none⟩) m cap), upd T q (swapOut (T q) j), (M.put z.i (q / 64, q % 64, j)).del t.i, ⟨C5, ?_, ?_, HGd.out⟩, ?_, own_upd hq (fun k hk => Or.inl (by rw [HV.out]; exact hk))⟩
    · rw [hMz, hMid] at hM5
      show Mp w5 mb _ (s.L.filter fun u => decide ((u.i : Int) ≠ id)).length
      rw [ef, show (s.L.filter fun u => decide (u.i ≠ t.i)).length = n - 1 by have := HN.out; omega, ← e1, ← e2, hti]
      simpa using hM5
    · show Inv s.now (s.L.filter fun u => decide ((u.i : Int) ≠ id)) [] _ _
      rw [ef, hz]
      exact HS.out.inv.clear hq hj
    · have hgo : Own cb mb V g := Or.inr (Or.inr ⟨q, hq, by rw [HV.out]; rfl⟩)
      have t2 : Turn (Own cb mb V) w W2 := by
        rw [HW2.out]; exact ((HT1.out.setCell (p := ⟨g, j * 3, none⟩) hgo _).setCell (p := ⟨g, j * 3 + 1, none⟩) hgo _).setCell (p := ⟨g, j * 3 + 2, none⟩) hgo _
      exact (((t2.trans t3 (fun k _ h => Or.inr (Or.inl h))).setCell (p := ⟨cb, 2 + q, none⟩) (Or.inl rfl) _).trans t5 (fun k _ h => Or.inr (Or.inl h)))
end Go.Proofs.Ytccddjfcceclnaa
