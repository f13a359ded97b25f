/-
  One step or two: the plain facts; appends of deeds and of numbers.
-/
import Derived.Test.YtccddjfcceclnaaDe
import Derived.Test.YtccddjfcceclnaaW2
namespace Go.Proofs.Ytccddjfcceclnaa
open Go.ChangeShapes Go.WideShapes Go.ChangeAt Go.RowKit
set_option linter.unusedVariables false
set_option linter.unusedSimpArgs false
theorem Step1.one {n m k : Nat} {d : Dd} (h : Step1 n d m) (h' : Step1 n d k) : m = k := by
  unfold Step1 at h h'; omega
theorem Okd.one {n m k : Nat} {ds : List Dd} (h : Okd n ds m) (h' : Okd n ds k) : m = k := by
  induction ds generalizing n with
  | nil => simp [Okd] at h h'; omega
  | cons d r ih =>
    obtain ⟨a, h1, h2⟩ := h
    obtain ⟨b, h3, h4⟩ := h'
    rw [h1.one h3] at h2
    exact ih h2 h4
theorem Okd.le {n m : Nat} {ds : List Dd} (h : Okd n ds m) : n ≤ m := by
  induction ds generalizing n with
  | nil => simp [Okd] at h; omega
  | cons d r ih =>
    obtain ⟨a, h1, h2⟩ := h
    have := ih h2
    unfold Step1 at h1; omega
theorem Okd.take {n m : Nat} {ds : List Dd} (h : Okd n ds m) (k : Nat) (hk : k < ds.length) : ∃ a b, Okd n (ds.take k) a ∧ Step1 a ds[k] b ∧ Okd n (ds.take (k + 1)) b := by
  induction ds generalizing n k with
  | nil => simp at hk
  | cons d r ih =>
    obtain ⟨x, h1, h2⟩ := h
    cases k with
    | zero => exact ⟨n, x, rfl, h1, x, h1, rfl⟩
    | succ k =>
      obtain ⟨a, b, r1, r2, r3⟩ := ih h2 k (by simpa using hk)
      exact ⟨a, b, ⟨x, h1, r1⟩, r2, ⟨x, h1, r3⟩⟩
theorem step_now {s : Sp} {d : Dd} {m : Nat} (h : Step1 s.now d m) (hm : m ≤ mt) : (step s d).2.2.now = m := by
  unfold Step1 at h
  unfold mt at hm
  unfold step
  rcases h.2.2 with ⟨h1, h2, h3, rfl⟩ | ⟨h1, h2, rfl⟩ | ⟨h1, h2, h3, h4⟩
  · simp only [h1, if_true]
    repeat' split
    all_goals rfl
  · simp only [h1, show ¬ ((2 : Int) = 1) by omega, if_true, if_false]
    split <;> rfl
  · have e1 : ¬ d.2.2 < (s.now : Int) := by omega
    have e2 : ¬ 1099511627776 < d.2.2 := by omega
    simp only [h1, show ¬ ((3 : Int) = 1) by omega, show ¬ ((3 : Int) = 2) by omega, e1, e2, or_self, if_true, if_false]
    omega
theorem after_now {s : Sp} {ds : List Dd} {m : Nat} (h : Okd s.now ds m) (hm : m ≤ mt) : (after s ds).now = m := by
  induction ds generalizing s with
  | nil => simp [Okd] at h; simp [after, h]
  | cons d r ih =>
    obtain ⟨k, h1, h2⟩ := h
    have hk := h2.le
    have := step_now h1 (by omega)
    simp only [after]
    exact ih (by rw [this]; exact h2)
theorem after_good {s : Sp} (h : Good s) (ds : List Dd) : Good (after s ds) := by
  induction ds generalizing s with
  | nil => exact h
  | cons d r ih => exact ih (h.step d)
theorem rows_app (s : Sp) (ds es : List Dd) : rows s (ds ++ es) = rows s ds ++ rows (after s ds) es := by
  induction ds generalizing s with
  | nil => simp [rows, play, after]
  | cons d r ih =>
    have := ih (step s d).2.2
    simp only [rows, play, after, List.cons_append, List.map_cons] at this ⊢
    rw [this]
theorem rows_len (s : Sp) (ds : List Dd) : (rows s ds).length = ds.length := by simp [rows, play_len]
theorem codes_len (s : Sp) (ds : List Dd) : (codes s ds).length = ds.length := by simp [codes, play_len]
theorem srt_cut {L : List Tm} (h : L.Pairwise fun t u => t.o < u.o) (x y : Int) (hxy : x ≤ y) :
    srt (L.filter fun t => decide ((t.a : Int) ≤ y)) = srt (L.filter fun t => decide ((t.a : Int) ≤ x)) ++ srt ((L.filter fun t => !decide ((t.a : Int) ≤ x)).filter fun t => decide ((t.a : Int) ≤ y)) := by
  refine (srt_one ?_ ?_ (fun t u ht hu e => ordd_one h (List.mem_filter.1 ht).1 (List.mem_filter.1 hu).1 e)).symm
  · rw [List.pairwise_append]
    refine ⟨srt_sorted _, srt_sorted _, fun a ha b hb => ?_⟩
    have h1 := (List.mem_filter.1 ((srt_perm _).mem_iff.1 ha)).2
    have h2 := (List.mem_filter.1 (List.mem_filter.1 ((srt_perm _).mem_iff.1 hb)).1).2
    simp at h1 h2
    rw [tle_iff]; omega
  · refine ((srt_perm _).append (srt_perm _)).trans ?_
    have e1 : (L.filter fun t => decide ((t.a : Int) ≤ x)) = (L.filter fun t => decide ((t.a : Int) ≤ y)).filter fun t => decide ((t.a : Int) ≤ x) := by
      rw [List.filter_filter]; refine List.filter_congr fun t _ => ?_
      rw [Bool.eq_iff_iff]; simp; omega
    have e2 : ((L.filter fun t => !decide ((t.a : Int) ≤ x)).filter fun t => decide ((t.a : Int) ≤ y)) = (L.filter fun t => decide ((t.a : Int) ≤ y)).filter fun t => !decide ((t.a : Int) ≤ x) := by
      rw [List.filter_filter, List.filter_filter]; refine List.filter_congr fun t _ => ?_
      rw [Bool.and_comm]
    rw [e1, e2]
    exact List.filter_append_perm _ _
/-- One step or two. -/
theorem steps_rows {s : Sp} (h : Good s) (x y : Nat) (hx : s.now ≤ x) (hxy : x ≤ y) (hy : y ≤ mt) :
    ∃ r1 r2 r3, rows s [(3, 0, (y : Int))] = [r1] ∧ rows s [(3, 0, (x : Int)), (3, 0, (y : Int))] = [r2, r3] ∧ r1 = r2 ++ r3 := by
  unfold mt at hy
  have e1 : ¬ (y : Int) < (s.now : Int) := by omega
  have e2 : ¬ 1099511627776 < (y : Int) := by omega
  have e3 : ¬ (x : Int) < (s.now : Int) := by omega
  have e4 : ¬ 1099511627776 < (x : Int) := by omega
  have e5 : ¬ (y : Int) < (x : Int) := by omega
  refine ⟨_, _, _, rfl, rfl, ?_⟩
  simp only [step, show ¬ ((3 : Int) = 1) by omega, show ¬ ((3 : Int) = 2) by omega, e1, e2, e3, e4, or_self, if_true, if_false, Int.toNat_natCast, e5]
  rw [srt_cut h.ordd (x : Int) (y : Int) (by omega), List.map_append]
theorem length_flatD (l : List Dd) : (l.flatMap encD).length = l.length * 3 := by
  induction l with
  | nil => rfl
  | cons t r ih => rw [List.flatMap_cons, List.length_append, ih]; simp [encD]; omega
theorem flatD_at : ∀ (l : List Dd) (j : Nat) (hj : j < l.length), (l.flatMap encD)[j * 3]? = some (.int .i64 l[j].1) ∧ (l.flatMap encD)[j * 3 + 1]? = some (.int .i64 l[j].2.1) ∧ (l.flatMap encD)[j * 3 + 2]? = some (.int .i64 l[j].2.2)
  | [], j, h => by simp at h
  | t :: r, 0, h => by simp [encD]
  | t :: r, j + 1, h => by
    have hl : (encD t).length = 3 := rfl
    obtain ⟨h1, h2, h3⟩ := flatD_at r j (by simpa using h)
    rw [List.flatMap_cons]
    refine ⟨?_, ?_, ?_⟩
    · rw [List.getElem?_append_right (by omega), show (j + 1) * 3 - (encD t).length = j * 3 by rw [hl]; omega]; exact h1
    · rw [List.getElem?_append_right (by omega), show (j + 1) * 3 + 1 - (encD t).length = j * 3 + 1 by rw [hl]; omega]; exact h2
    · rw [List.getElem?_append_right (by omega), show (j + 1) * 3 + 2 - (encD t).length = j * 3 + 2 by rw [hl]; omega]; exact h3
theorem deeds_own {w : World} {base : Nat} {v : Value} {ds : List Dd} (h : w.ownsRow base 36 3 v ds.length (ds.flatMap encD)) : DeedsAt w v ds := by
  rcases h.2 with ⟨h1, h2⟩ | ⟨g, cap, cur, rfl, h1, h2, _⟩
  · exact Or.inl ⟨h1, List.eq_nil_of_length_eq_zero h2⟩
  · have hlt := (Array.getElem?_eq_some_iff.1 h2).1
    refine Or.inr ⟨g, 0, cap, rfl, fun j hj => ?_⟩
    have c : ∀ i u, (ds.flatMap encD)[i]? = some u → w.cell? ⟨g, 0 + i, none⟩ = some u := fun i u hu => by
      have := h.cells rfl i u hu
      rw [Addr.add_mid] at this
      exact this
    obtain ⟨q0, q1, q2⟩ := flatD_at ds j hj
    refine ⟨hlt, c _ _ q0, ?_, ?_⟩
    · rw [Nat.add_assoc]; exact c _ _ q1
    · rw [Nat.add_assoc]; exact c _ _ q2
theorem cells_oneD (l : List Dd) : ∀ u ∈ l.flatMap encD, u.oneCell' = true := by
  intro u hu
  obtain ⟨t, _, ht⟩ := List.mem_flatMap.1 hu
  simp [encD] at ht
  rcases ht with rfl | rfl | rfl <;> rfl
theorem run_append_deeds (w : World) (ty : TypeId) (base B : Nat) {v u : Value} {n m : Nat} {xs : List Value} {l : List Dd} (hown : w.ownsRow base 36 3 v n xs) (hu : w.ownsRow B 36 3 u m (l.flatMap encD))
    (hb : n + m ≤ 5000000000000) (hbase : base ≤ w.heap.size) :
    ∃ v' w', (Builtin.append_ #[22, 22] ty #[v, u]).run Try.prog w = .ok v' w' ∧ w'.ownsRow base 36 3 v' (n + m) (xs ++ l.flatMap encD) ∧ w.grownBy w' v.ownBlock ∧ (v'.ownBlock = v.ownBlock ∨ v'.ownBlock = some w.heap.size) := by
  obtain ⟨i0, hi, hz0, hz1, hz2⟩ := info_parts info36
  rcases hu.2 with ⟨rfl, rfl⟩ | ⟨g, cap, cur, rfl, h1, h2, h3, h4, h5, h6⟩
  · have e : l.flatMap encD = [] := List.eq_nil_of_length_eq_zero (by simpa using hu.1)
    rw [e]
    refine ⟨v, w, ?_, by simpa using hown, World.grownBy.refl _ _, Or.inl rfl⟩
    rcases hown.2 with ⟨rfl, rfl⟩ | ⟨g, cap, cur, rfl, h1, h2, h3, h4, h5, h6⟩
    · simp [Builtin.append_, run_underlying Try.underlying22, sizeOf, typeInfo, hi, Builtin.lenOf, Builtin.firstCells, loadCells, loadCellsFrom]
    · simp [Builtin.append_, run_underlying Try.underlying22, sizeOf, typeInfo, hi, Builtin.lenOf, Builtin.firstCells, loadCells, loadCellsFrom, h3, storeCells]
  · obtain ⟨v', w', r1, r2, r3, _, r5⟩ := run_append_own_at (P := Try.prog) w base 22 ty 36 i0 (.agg #[.int .i64 0, .int .i64 0, .int .i64 0]) 3 24 Try.underlying22 hi hz0 hz1 hz2 rfl (by omega) v n xs hown ⟨g, 0, none⟩ m cap (l.flatMap encD) hu.1 (hu.cells rfl) (cells_oneD l) (by unfold maxLen; omega) (by omega) hbase
    exact ⟨v', w', r1, r2, r3, r5⟩
theorem wpList_append_deeds (w : World) {ops : Array Oper} {rest : List Oper} {o : Oper} {a : Act} {Q : Exit → Act → World → Prop} (hgd : o.guard = none) (s x : Operand)
    (ho : o.op = .call { callee := .builtin .append, args := #[s, x], argTypes := #[22, 22] }) (base B : Nat) (v u : Value) (n m : Nat) (xs : List Value) (l : List Dd) (hs : a.eval s = v) (hx : a.eval x = u)
    (hown : w.ownsRow base 36 3 v n xs) (hu : w.ownsRow B 36 3 u m (l.flatMap encD)) (hb : n + m ≤ 5000000000000) (hbase : base ≤ w.heap.size)
    (h : ∀ v' w', w'.ownsRow base 36 3 v' (n + m) (xs ++ l.flatMap encD) → w.grownBy w' v.ownBlock → (v'.ownBlock = v.ownBlock ∨ v'.ownBlock = some w.heap.size) → wpList Try.prog ops Q rest (a.put o.dst v') w') :
    wpList Try.prog ops Q (o :: rest) a w := by
  refine wpList_plain hgd fun K hK => ?_
  obtain ⟨v', w', hr, h2, h3, h5⟩ := run_append_deeds w o.type base B hown hu hb hbase
  unfold Oper.wp execOp
  simp only [ho, resolve, invoke, builtin, Sem.run_bind, Sem.run_pure, Result.andThen_ok, List.map_toArray, List.map_cons, List.map_nil, hs, hx, hr]
  exact hK _ _ (h v' w' h2 h3 h5)
theorem row_new (w : World) (ds : List Dd) (cs : Array Value) (h : cs.toList = ds.flatMap encD) (hn : ds.length ≤ 2000) : (w.alloc (.cells cs 36)).ownsRow w.heap.size 36 3 (.slice (some ⟨w.heap.size, 0, none⟩) ds.length ds.length) ds.length (ds.flatMap encD) := by
  have hb : (w.alloc (.cells cs 36)).heap[w.heap.size]? = some (.cells cs 36 (0, 0)) := by first | exact heap_alloc_new w _ | exact _root_.Go.heap_alloc_new w _
  have hl : cs.size = ds.length * 3 := by rw [← Array.length_toList, h, length_flatD]
  refine ⟨length_flatD _, Or.inr ⟨w.heap.size, ds.length, cs, rfl, Nat.le_refl _, hb, Nat.le_refl _, by unfold maxLen; omega, hl, ?_⟩⟩
  rw [List.take_of_length_le (by rw [Array.length_toList, hl]; exact Nat.le_refl _), h]
theorem run_append_ints (w : World) (ty : TypeId) (base : Nat) {v u : Value} {xs ys : List Int} (hown : w.ownsRow base 3 1 v xs.length (xs.map fun z => .int .i64 z)) (hu : ListAt w u ys) (hb : xs.length + ys.length ≤ 5000) (hbase : base ≤ w.heap.size) :
    ∃ v' w', (Builtin.append_ #[38, 38] ty #[v, u]).run Try.prog w = .ok v' w' ∧ w'.ownsRow base 3 1 v' (xs ++ ys).length ((xs ++ ys).map fun z => .int .i64 z) ∧ w.grownBy w' v.ownBlock := by
  obtain ⟨i0, hi, hz0, hz1, hz2⟩ := info_parts info3
  rcases hu with ⟨rfl, rfl⟩ | ⟨g, cap, rfl, h2, h3⟩
  · refine ⟨v, w, ?_, by simpa using hown, World.grownBy.refl _ _⟩
    rcases hown.2 with ⟨rfl, h0⟩ | ⟨g, cap, cur, rfl, h1, h2, h3, h4, h5, h6⟩
    · simp [Builtin.append_, run_underlying Try.underlying38, sizeOf, typeInfo, hi, Builtin.lenOf, Builtin.firstCells, loadCells, loadCellsFrom]
    · simp [Builtin.append_, run_underlying Try.underlying38, sizeOf, typeInfo, hi, Builtin.lenOf, Builtin.firstCells, loadCells, loadCellsFrom, h3, storeCells]
  · obtain ⟨v', w', r1, r2, r3, _, r5⟩ := run_append_own_at (P := Try.prog) w base 38 ty 3 i0 (.int .i64 0) 1 8 Try.underlying38 hi hz0 hz1 hz2 rfl (by omega) v xs.length (xs.map fun z => .int .i64 z) hown ⟨g, 0, none⟩ ys.length cap (ys.map fun z => .int .i64 z) (by simp) (fun j u hj => by
      rw [Addr.add_mid, Nat.zero_add]
      rw [List.getElem?_map] at hj
      obtain ⟨z, hz, rfl⟩ := Option.map_eq_some_iff.1 hj
      exact h3 j z hz) (fun u hu => by obtain ⟨z, _, rfl⟩ := List.mem_map.1 hu; rfl) (by unfold maxLen; omega) (by omega) hbase
    refine ⟨v', w', r1, ?_, r3⟩
    rw [List.length_append, List.map_append]; exact r2
theorem step_append_ints (w : World) {ops : Array Oper} {o : Oper} {a : Act} {K : Act → World → Prop} {Q : Exit → Act → World → Prop} {E : Prop} (hgd : o.guard = none) (s x : Operand)
    (ho : o.op = .call { callee := .builtin .append, args := #[s, x], argTypes := #[38, 38] }) (base : Nat) (v u : Value) (xs ys : List Int) (hs : a.eval s = v) (hx : a.eval x = u)
    (hown : w.ownsRow base 3 1 v xs.length (xs.map fun z => .int .i64 z)) (hu : ListAt w u ys) (hb : xs.length + ys.length ≤ 5000) (hbase : base ≤ w.heap.size)
    (h : ∀ v' w', w'.ownsRow base 3 1 v' (xs ++ ys).length ((xs ++ ys).map fun z => .int .i64 z) → w.grownBy w' v.ownBlock → K (a.put o.dst v') w') :
    if Region.wanted o (yielded ops a.tmps) = true then Oper.wp Try.prog o a w K Q else E := by
  have hw : Region.wanted o (yielded ops a.tmps) = true := by simp [Region.wanted, hgd]
  rw [if_pos hw]
  obtain ⟨v', w', hr, h2, h3⟩ := run_append_ints w o.type base hown hu hb hbase
  unfold Oper.wp execOp
  simp only [ho, resolve, invoke, builtin, Sem.run_bind, Sem.run_pure, Result.andThen_ok, List.map_toArray, List.map_cons, List.map_nil, hs, hx, hr]
  exact h v' w' h2 h3
theorem list_own {w : World} {base : Nat} {v : Value} {xs : List Int} (h : w.ownsRow base 3 1 v xs.length (xs.map fun z => .int .i64 z)) : ListAt w v xs := by
  rcases h.2 with ⟨h1, h2⟩ | ⟨g, cap, cur, rfl, h1, h2, _⟩
  · exact Or.inl ⟨h1, List.eq_nil_of_length_eq_zero h2⟩
  · refine Or.inr ⟨g, cap, rfl, (Array.getElem?_eq_some_iff.1 h2).1, fun j z hj => ?_⟩
    have := h.cells rfl j (.int .i64 z) (by rw [List.getElem?_map, hj]; rfl)
    rw [Addr.add_mid, Nat.zero_add] at this
    exact this
theorem RowsAt.below {w w' : World} {v : Value} {rs : List (List Int)} (h : RowsAt w v rs) (b : Below w.heap.size w w') : RowsAt w' v rs := by
  rcases h with h | ⟨g, cap, us, h1, h2, h3⟩
  · exact Or.inl h
  · exact Or.inr ⟨g, cap, us, h1, Nat.lt_of_lt_of_le h2 b.size, fun j hj => ⟨(b.cell (p := ⟨g, j, none⟩) h2).trans (h3 j hj).1, (h3 j hj).2.1.below b, (h3 j hj).2.2⟩⟩
end Go.Proofs.Ytccddjfcceclnaa
