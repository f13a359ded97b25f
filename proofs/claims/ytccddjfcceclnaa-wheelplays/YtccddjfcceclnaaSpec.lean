/-
  Plain facts: the wheels' arithmetic, the timers' order, what a play of deeds answers.
-/
import Derived.Below
namespace Go.Proofs.Ytccddjfcceclnaa
/-- A time's number at a level: how many whole turns of 64^k. -/
def lv (k x : Nat) : Nat := x / 64 ^ k
theorem lv_add (k j x : Nat) : lv (k + j) x = lv j (lv k x) := by
  unfold lv; rw [Nat.pow_add, Nat.div_div_eq_div_mul]
theorem lv_up {k x y : Nat} (h : lv k x = lv k y) {m : Nat} (hm : k ≤ m) : lv m x = lv m y := by
  obtain ⟨j, rfl⟩ := Nat.le.dest hm
  rw [lv_add, lv_add, h]
theorem lv_mono (k : Nat) {x y : Nat} (h : x ≤ y) : lv k x ≤ lv k y := Nat.div_le_div_right h
theorem lv_step (k x : Nat) : lv k x = 64 * lv (k + 1) x + lv k x % 64 := by
  rw [lv_add k 1 x]; unfold lv; simp; omega
def whF (a b : Nat) : Nat → Nat → Nat
  | 0, w => w
  | n + 1, w => if lv (w + 1) a = lv (w + 1) b then w else whF a b n (w + 1)
def wh (a b : Nat) : Nat := whF a b 6 0
/-- w is the least wheel that has both within one turn. -/
def IsWh (a b w : Nat) : Prop := w ≤ 6 ∧ lv (w + 1) a = lv (w + 1) b ∧ ∀ v, v < w → lv (v + 1) a ≠ lv (v + 1) b
theorem lv7 {x : Nat} (h : x ≤ 1099511627776) : lv 7 x = 0 := by
  unfold lv; exact Nat.div_eq_of_lt (by omega)
theorem whF_is {a b : Nat} (ha : a ≤ 1099511627776) (hb : b ≤ 1099511627776) : ∀ n w, n + w = 6 → (∀ v, v < w → lv (v + 1) a ≠ lv (v + 1) b) → IsWh a b (whF a b n w)
  | 0, w, h, hv => ⟨by simp [whF]; omega, by simp only [whF]; obtain rfl : w = 6 := by omega
                                             rw [lv7 ha, lv7 hb], by simpa [whF] using hv⟩
  | n + 1, w, h, hv => by
    simp only [whF]
    split
    · rename_i e; exact ⟨by omega, e, hv⟩
    · rename_i e
      refine whF_is ha hb n (w + 1) (by omega) (fun v hlt => ?_)
      rcases Nat.lt_or_ge v w with h1 | h1
      · exact hv v h1
      · obtain rfl : v = w := by omega
        exact e
theorem wh_is {a b : Nat} (ha : a ≤ 1099511627776) (hb : b ≤ 1099511627776) : IsWh a b (wh a b) := whF_is ha hb 6 0 rfl (by omega)
theorem IsWh.one {a b w v : Nat} (h : IsWh a b w) (k : IsWh a b v) : w = v := by
  rcases Nat.lt_trichotomy w v with h1 | h1 | h1
  · exact absurd h.2.1 (k.2.2 w h1)
  · exact h1
  · exact absurd k.2.1 (h.2.2 v h1)
theorem IsWh.eq {a b w : Nat} (ha : a ≤ 1099511627776) (hb : b ≤ 1099511627776) (h : IsWh a b w) : w = wh a b := h.one (wh_is ha hb)
/-- The slot's number of a time, seen from another. -/
def sl (w t : Nat) : Nat := lv w t % 64
def ix (now t : Nat) : Nat := 64 * wh now t + sl (wh now t) t
theorem ix_lt {a b : Nat} (ha : a ≤ 1099511627776) (hb : b ≤ 1099511627776) : ix a b < 448 := by
  have := (wh_is ha hb).1
  unfold ix sl
  have := Nat.mod_lt (lv (wh a b) b) (show 64 > 0 by decide)
  omega
/-- Is slot q among those that a step from now to t takes out? -/
def taken (now t q : Nat) : Bool := decide (q < 64 * wh now t + sl (wh now t) t + 1)
theorem ix_div (a b : Nat) : ix a b / 64 = wh a b := by
  unfold ix sl; omega
theorem ix_mod (a b : Nat) : ix a b % 64 = sl (wh a b) b := by
  unfold ix sl; omega
/-- What is not taken is later, and stays where it is. -/
theorem untaken {now t x : Nat} (hnow : now ≤ t) (ht : t ≤ 1099511627776) (hx : x ≤ 1099511627776) (hnx : now < x) (h : taken now t (ix now x) = false) :
    t < x ∧ ix t x = ix now x := by
  have W := wh_is (Nat.le_trans hnow ht) ht
  have X := wh_is (Nat.le_trans hnow ht) hx
  have Y := wh_is ht hx
  have hix : ∀ v, IsWh t x v → ix t x = 64 * v + sl v x := fun v hv => by rw [← (hv.one Y).symm] ; rfl
  simp only [taken, decide_eq_false_iff_not, Nat.not_lt] at h
  generalize hw : wh now t = w at *
  generalize hv : wh now x = v at *
  have e1 : ix now x = 64 * v + sl v x := by rw [← hv]; rfl
  rw [e1] at h ⊢
  have s1 : sl v x < 64 := Nat.mod_lt _ (by decide)
  have s2 : sl w t < 64 := Nat.mod_lt _ (by decide)
  rcases Nat.lt_trichotomy v w with c | c | c
  · omega
  · subst c
    have hs : sl v t < sl v x := by omega
    have eu : lv (v + 1) t = lv (v + 1) x := W.2.1.symm.trans X.2.1
    have g1 := lv_step v t
    have g2 := lv_step v x
    unfold sl at hs
    have hlt : lv v t < lv v x := by omega
    refine ⟨?_, hix v ⟨X.1, eu, fun u hu e => ?_⟩⟩
    · rcases Nat.lt_or_ge t x with q | q
      · exact q
      · have := lv_mono v q; omega
    · have := lv_up e (show u + 1 ≤ v by omega); omega
  · have eu : lv (w + 1) now = lv (w + 1) t := W.2.1
    have ne : lv (w + 1) now ≠ lv (w + 1) x := X.2.2 w c
    have := lv_mono (w + 1) (Nat.le_of_lt hnx)
    refine ⟨?_, hix v ⟨X.1, ?_, fun u hu e => ?_⟩⟩
    · rcases Nat.lt_or_ge t x with q | q
      · exact q
      · have := lv_mono (w + 1) q; omega
    · rw [← lv_up eu (show w + 1 ≤ v + 1 by omega)]; exact X.2.1
    · rcases Nat.lt_or_ge u w with q | q
      · have := lv_up e (show u + 1 ≤ w + 1 by omega); omega
      · exact X.2.2 u hu (by rw [lv_up eu (show w + 1 ≤ u + 1 by omega)]; exact e)
/-! ### timers, slots, places -/
structure Tm where
  i : Nat
  a : Nat
  o : Nat
deriving Inhabited, DecidableEq
abbrev Places := Int → Option (Nat × Nat × Nat)
def Places.put (M : Places) (x : Int) (p : Nat × Nat × Nat) : Places := fun y => if y = x then some p else M y
def Places.del (M : Places) (x : Int) : Places := fun y => if y = x then none else M y
def upd (T : Nat → List Tm) (q : Nat) (l : List Tm) : Nat → List Tm := fun r => if r = q then l else T r
def mt : Nat := 1099511627776
/-- What the wheels and the places hold: L in the slots, R in the places alone. -/
structure Inv (now : Nat) (L R : List Tm) (T : Nat → List Tm) (M : Places) : Prop where
  perm : ∀ q, q < 448 → (T q).Perm (L.filter fun t => decide (ix now t.a = q))
  late : ∀ t, t ∈ L → now < t.a ∧ t.a ≤ mt
  apart : ((L ++ R).map Tm.i).Nodup
  pos : ∀ q, q < 448 → ∀ j t, (T q)[j]? = some t → M t.i = some (q / 64, q % 64, j)
  there : ∀ x : Int, (M x).isSome = true ↔ ∃ t, t ∈ L ++ R ∧ (t.i : Int) = x
theorem Inv.nowle {now : Nat} {L R : List Tm} {T : Nat → List Tm} {M : Places} (h : Inv now L R T M) {t : Tm} (ht : t ∈ L) : now ≤ mt := by
  have := h.late t ht; omega
theorem Inv.slot {now : Nat} {L R : List Tm} {T : Nat → List Tm} {M : Places} (h : Inv now L R T M) {t : Tm} (ht : t ∈ L) : ix now t.a < 448 ∧ t ∈ T (ix now t.a) := by
  have h1 := h.late t ht
  have h2 : ix now t.a < 448 := ix_lt (by unfold mt at h1; omega) (by unfold mt at h1; omega)
  exact ⟨h2, (h.perm _ h2).mem_iff.2 (by simp [ht])⟩
theorem Inv.mem {now : Nat} {L R : List Tm} {T : Nat → List Tm} {M : Places} (h : Inv now L R T M) {q : Nat} (hq : q < 448) {t : Tm} (ht : t ∈ T q) : t ∈ L ∧ ix now t.a = q := by
  have := (h.perm q hq).mem_iff.1 ht
  simpa using this
theorem Inv.swap {now : Nat} {L L' R R' : List Tm} {T : Nat → List Tm} {M : Places} (h : Inv now L R T M) (p : L.Perm L') (r : R.Perm R') : Inv now L' R' T M where
  perm q hq := (h.perm q hq).trans (p.filter _)
  late t ht := h.late t (p.mem_iff.2 ht)
  apart := ((p.append r).map Tm.i).nodup_iff.1 h.apart
  pos := h.pos
  there x := (h.there x).trans ⟨fun ⟨t, ht, e⟩ => ⟨t, (p.append r).mem_iff.1 ht, e⟩, fun ⟨t, ht, e⟩ => ⟨t, (p.append r).mem_iff.2 ht, e⟩⟩
theorem Inv.len {now : Nat} {L R : List Tm} {T : Nat → List Tm} {M : Places} (h : Inv now L R T M) {q : Nat} (hq : q < 448) : (T q).length ≤ L.length := by
  rw [(h.perm q hq).length_eq]; exact List.length_filter_le _ _
theorem inv_none (now : Nat) : Inv now [] [] (fun _ => []) (fun _ => none) where
  perm q _ := by simp
  late t ht := by cases ht
  apart := by simp
  pos q _ j t h := by simp at h
  there x := by simp
/-- A timer is put on its wheel. -/
theorem inv_put {now : Nat} {L R : List Tm} {T : Nat → List Tm} {M : Places} {t : Tm}
    (perm : ∀ q, q < 448 → (T q).Perm (L.filter fun t => decide (ix now t.a = q))) (late : ∀ t, t ∈ L → now < t.a ∧ t.a ≤ mt)
    (pos : ∀ q, q < 448 → ∀ j t, (T q)[j]? = some t → M t.i = some (q / 64, q % 64, j))
    (apart : ((t :: (L ++ R)).map Tm.i).Nodup) (there : ∀ x : Int, x ≠ t.i → ((M x).isSome = true ↔ ∃ u, u ∈ L ++ R ∧ (u.i : Int) = x))
    (ht : now < t.a ∧ t.a ≤ mt) :
    Inv now (L ++ [t]) R (upd T (ix now t.a) (T (ix now t.a) ++ [t])) (M.put t.i (wh now t.a, sl (wh now t.a) t.a, (T (ix now t.a)).length)) where
  perm q hq := by
    by_cases e : q = ix now t.a
    · subst e; simp [upd, List.filter_append]; exact (perm _ hq).append_right _
    · have : ¬ ix now t.a = q := fun h => e h.symm
      simp [upd, e, List.filter_append, this]; exact perm q hq
  late u hu := by
    rcases List.mem_append.1 hu with h | h
    · exact late u h
    · rw [List.mem_singleton.1 h]; exact ht
  apart := by
    refine List.Perm.nodup_iff (List.Perm.map _ ?_) |>.1 apart
    rw [List.append_assoc]
    exact (List.perm_middle (l₁ := L) (a := t) (l₂ := R)).symm
  pos q hq j u hj := by
    have hne : ∀ u, u ∈ L → (u.i : Int) ≠ t.i := fun u hu e => by
      simp at apart
      exact apart.1.1 u hu (by omega)
    have old : ∀ j u, (T q)[j]? = some u → (M.put t.i (wh now t.a, sl (wh now t.a) t.a, (T (ix now t.a)).length)) u.i = some (q / 64, q % 64, j) := fun j u hju => by
      have hm : u ∈ L := by
        have := (perm q hq).mem_iff.1 (List.mem_of_getElem? hju); simp at this; exact this.1
      simp [Places.put, hne u hm]
      exact pos q hq j u hju
    by_cases e : q = ix now t.a
    · subst e
      simp only [upd, if_true] at hj
      rw [List.getElem?_append] at hj
      split at hj
      · exact old j u hj
      · rename_i hlt
        have hj0 : j - (T (ix now t.a)).length = 0 := by
          rcases Nat.eq_zero_or_pos (j - (T (ix now t.a)).length) with h | h
          · exact h
          · rw [List.getElem?_eq_none (by simp; omega)] at hj; cases hj
        rw [hj0] at hj; simp at hj; subst hj
        have : j = (T (ix now t.a)).length := by omega
        subst this
        simp [Places.put, ix_div, ix_mod]
    · simp only [upd, e, if_false] at hj
      exact old j u hj
  there x := by
    by_cases e : x = t.i
    · subst e; simp [Places.put]; exact ⟨t, Or.inr (Or.inl rfl), rfl⟩
    · simp only [Places.put, e, if_false]
      rw [there x e]
      constructor
      · rintro ⟨u, hu, h⟩
        refine ⟨u, ?_, h⟩
        simp at hu ⊢; rcases hu with h1 | h1 <;> simp [h1]
      · rintro ⟨u, hu, h⟩
        refine ⟨u, ?_, h⟩
        simp at hu ⊢
        rcases hu with h1 | rfl | h1
        · exact Or.inl h1
        · exact absurd h.symm e
        · exact Or.inr h1
theorem Inv.put_out {now : Nat} {L R : List Tm} {T : Nat → List Tm} {M : Places} {t : Tm} (h : Inv now L (t :: R) T M) (ht : now < t.a ∧ t.a ≤ mt) :
    Inv now (L ++ [t]) R (upd T (ix now t.a) (T (ix now t.a) ++ [t])) (M.put t.i (wh now t.a, sl (wh now t.a) t.a, (T (ix now t.a)).length)) :=
  inv_put h.perm h.late h.pos (((List.perm_middle (l₁ := L) (a := t) (l₂ := R)).map Tm.i).nodup_iff.1 h.apart) (fun x hx => (h.there x).trans ⟨fun ⟨u, hu, e⟩ => ⟨u, by
    simp at hu ⊢
    rcases hu with h1 | rfl | h1
    · exact Or.inl h1
    · exact absurd e.symm hx
    · exact Or.inr h1, e⟩, fun ⟨u, hu, e⟩ => ⟨u, by simp at hu ⊢; rcases hu with h1 | h1 <;> simp [h1], e⟩⟩) ht
theorem Inv.put_new {now : Nat} {L R : List Tm} {T : Nat → List Tm} {M : Places} {t : Tm} (h : Inv now L R T M) (hn : (M t.i).isSome = false) (ht : now < t.a ∧ t.a ≤ mt) :
    Inv now (L ++ [t]) R (upd T (ix now t.a) (T (ix now t.a) ++ [t])) (M.put t.i (wh now t.a, sl (wh now t.a) t.a, (T (ix now t.a)).length)) :=
  inv_put h.perm h.late h.pos (by
    rw [List.map_cons, List.nodup_cons]
    refine ⟨fun hm => ?_, h.apart⟩
    obtain ⟨u, hu, e⟩ := List.mem_map.1 hm
    have := (h.there t.i).2 ⟨u, hu, by omega⟩
    rw [hn] at this; cases this) (fun x _ => h.there x) ht
/-- A timer that is in the places alone is struck. -/
theorem Inv.del_out {now : Nat} {L R : List Tm} {T : Nat → List Tm} {M : Places} {t : Tm} (h : Inv now L (t :: R) T M) : Inv now L R T (M.del t.i) := by
  have ap : ((t :: (L ++ R)).map Tm.i).Nodup := ((List.perm_middle (l₁ := L) (a := t) (l₂ := R)).map Tm.i).nodup_iff.1 h.apart
  have hne : ∀ u, u ∈ L ++ R → u.i ≠ t.i := fun u hu e => by
    rw [List.map_cons, List.nodup_cons] at ap
    exact ap.1 (List.mem_map.2 ⟨u, hu, e⟩)
  refine ⟨h.perm, h.late, ?_, fun q hq j u hj => ?_, fun x => ?_⟩
  · rw [List.map_cons, List.nodup_cons] at ap; exact ap.2
  · have := hne u (List.mem_append_left _ (h.mem hq (List.mem_of_getElem? hj)).1)
    simp [Places.del, show ¬ (u.i : Int) = t.i by omega]
    exact h.pos q hq j u hj
  · by_cases e : x = t.i
    · subst e
      simp only [Places.del, if_true]
      constructor
      · intro h; cases h
      · rintro ⟨u, hu, e⟩; exact absurd (by omega : u.i = t.i) (hne u hu)
    · simp only [Places.del, e, if_false]
      rw [h.there x]
      constructor
      · rintro ⟨u, hu, e'⟩
        refine ⟨u, ?_, e'⟩
        simp at hu ⊢
        rcases hu with h1 | rfl | h1
        · exact Or.inl h1
        · exact absurd e'.symm e
        · exact Or.inr h1
      · rintro ⟨u, hu, e'⟩
        refine ⟨u, ?_, e'⟩
        simp at hu ⊢; rcases hu with h1 | h1 <;> simp [h1]
theorem nodup_one : ∀ {L : List Tm}, (L.map Tm.i).Nodup → ∀ {u v : Tm}, u ∈ L → v ∈ L → u.i = v.i → u = v
  | [], _, u, v, hu, _, _ => by cases hu
  | x :: L, h, u, v, hu, hv, e => by
    rw [List.map_cons, List.nodup_cons] at h
    rcases List.mem_cons.1 hu with h1 | h1 <;> rcases List.mem_cons.1 hv with h2 | h2
    · rw [h1, h2]
    · exact absurd (List.mem_map.2 ⟨v, h2, e.symm.trans (by rw [h1])⟩) h.1
    · exact absurd (List.mem_map.2 ⟨u, h1, e.trans (by rw [h2])⟩) h.1
    · exact nodup_one h.2 h1 h2 e
theorem nodup_plain {L : List Tm} (h : (L.map Tm.i).Nodup) : L.Nodup := (List.pairwise_map.1 h).imp (fun h e => h (by rw [e]))
theorem Inv.one {now : Nat} {L R : List Tm} {T : Nat → List Tm} {M : Places} (h : Inv now L R T M) {u v : Tm} (hu : u ∈ L) (hv : v ∈ L) (e : u.i = v.i) : u = v := by
  have hn : (L.map Tm.i).Nodup := by
    have := h.apart; rw [List.map_append, List.nodup_append] at this; exact this.1
  exact nodup_one hn hu hv e
theorem Inv.slot_nodup {now : Nat} {L R : List Tm} {T : Nat → List Tm} {M : Places} (h : Inv now L R T M) {q : Nat} (hq : q < 448) : ((T q).map Tm.i).Nodup := by
  have hn : (L.map Tm.i).Nodup := by
    have := h.apart; rw [List.map_append, List.nodup_append] at this; exact this.1
  exact ((h.perm q hq).map Tm.i).nodup_iff.2 (List.Nodup.sublist (List.Sublist.map _ List.filter_sublist) hn)
/-- Where a timer that is set stands. -/
theorem Inv.find {now : Nat} {L : List Tm} {T : Nat → List Tm} {M : Places} (h : Inv now L [] T M) {x : Int} {p : Nat × Nat × Nat} (hp : M x = some p) :
    ∃ q t, q < 448 ∧ p.1 = q / 64 ∧ p.2.1 = q % 64 ∧ (T q)[p.2.2]? = some t ∧ (t.i : Int) = x ∧ t ∈ L := by
  obtain ⟨t, ht, e⟩ := (h.there x).1 (by rw [hp]; rfl)
  rw [List.append_nil] at ht
  obtain ⟨h1, h2⟩ := h.slot ht
  obtain ⟨j, hj⟩ := List.mem_iff_getElem?.1 h2
  have := h.pos _ h1 j t hj
  rw [e, hp] at this
  cases this
  exact ⟨_, t, h1, rfl, rfl, hj, e, ht⟩
/-- The last one fills the gap. -/
def swapOut (l : List Tm) (j : Nat) : List Tm := (l.set j (l.getD (l.length - 1) default)).take (l.length - 1)
theorem parts {l : List Tm} {j : Nat} {t : Tm} (h : l[j]? = some t) : ∃ A B, l = A ++ t :: B ∧ A.length = j := by
  obtain ⟨hlt, rfl⟩ := List.getElem?_eq_some_iff.1 h
  exact ⟨l.take j, l.drop (j + 1), by rw [← List.drop_eq_getElem_cons hlt, List.take_append_drop], by simp; omega⟩
theorem swapOut_form {l : List Tm} {j : Nat} {t : Tm} (h : l[j]? = some t) :
    (∃ A, l = A ++ [t] ∧ A.length = j ∧ swapOut l j = A) ∨ (∃ A B u, l = A ++ t :: (B ++ [u]) ∧ A.length = j ∧ swapOut l j = A ++ u :: B) := by
  obtain ⟨A, B, rfl, rfl⟩ := parts h
  rcases List.eq_nil_or_concat B with rfl | ⟨B, u, rfl⟩
  · refine Or.inl ⟨A, rfl, rfl, ?_⟩
    unfold swapOut; simp
  · refine Or.inr ⟨A, B, u, by simp, rfl, ?_⟩
    unfold swapOut
    have e1 : (A ++ t :: B.concat u).length - 1 = A.length + (B.length + 1) := by simp
    rw [e1]
    have e2 : (A ++ t :: B.concat u).getD (A.length + (B.length + 1)) default = u := by
      simp [List.getD]
    rw [e2]
    simp [List.take_append, List.take_of_length_le]
theorem swapOut_at {l : List Tm} {j : Nat} {t : Tm} (h : l[j]? = some t) {k : Nat} {u : Tm} (hk : (swapOut l j)[k]? = some u) :
    (k = j ∧ u = l.getD (l.length - 1) default ∧ j < l.length - 1) ∨ (k ≠ j ∧ l[k]? = some u ∧ k < l.length - 1) := by
  have hj := (List.getElem?_eq_some_iff.1 h).1
  unfold swapOut at hk
  rw [List.getElem?_take] at hk
  split at hk
  · rename_i hlt
    rw [List.getElem?_set] at hk
    split at hk
    · rename_i e
      subst e
      exact Or.inl ⟨rfl, (Option.some.inj hk).symm, hlt⟩
    · rename_i e
      exact Or.inr ⟨fun h => e h.symm, hk, hlt⟩
  · cases hk
theorem swapOut_perm {l : List Tm} {j : Nat} {t : Tm} (h : l[j]? = some t) (hn : (l.map Tm.i).Nodup) : (swapOut l j).Perm (l.filter fun u => decide (u.i ≠ t.i)) := by
  rcases swapOut_form h with ⟨A, rfl, _, e⟩ | ⟨A, B, u, rfl, _, e⟩
  · rw [e]
    simp [List.nodup_append] at hn
    simp [List.filter_append]
    rw [List.filter_eq_self.2]
    intro x hx; simp; exact hn.2 x hx
  · rw [e]
    simp [List.nodup_append] at hn
    obtain ⟨_, ⟨⟨h1, h2⟩, h3⟩, h4⟩ := hn
    simp [List.filter_append]
    have ea : (A.filter fun x => !decide (x.i = t.i)) = A := List.filter_eq_self.2 (fun x hx => by simp; exact (h4 x hx).1)
    have eb : (B.filter fun x => !decide (x.i = t.i)) = B := List.filter_eq_self.2 (fun x hx => by simp; exact fun e => h1 x hx e)
    have eu : ¬ u.i = t.i := fun e => h2 e.symm
    rw [ea, eb, List.filter_cons_of_pos (by simpa using eu)]
    simp
    exact (List.perm_append_comm (l₁ := B) (l₂ := [u])).symm.append_left A
theorem Inv.clear {now : Nat} {L : List Tm} {T : Nat → List Tm} {M : Places} (h : Inv now L [] T M) {q j : Nat} {t : Tm} (hq : q < 448) (hj : (T q)[j]? = some t) :
    Inv now (L.filter fun u => decide (u.i ≠ t.i)) [] (upd T q (swapOut (T q) j)) ((M.put ((T q).getD ((T q).length - 1) default).i (q / 64, q % 64, j)).del t.i) := by
  have hjl := (List.getElem?_eq_some_iff.1 hj).1
  have htL : t ∈ L := (h.mem hq (List.mem_of_getElem? hj)).1
  have hlast : (T q)[(T q).length - 1]? = some ((T q).getD ((T q).length - 1) default) := by
    rw [List.getD, List.getElem?_eq_getElem (by omega)]; rfl
  generalize hu : (T q).getD ((T q).length - 1) default = z at *
  have hzL : z ∈ L := (h.mem hq (List.mem_of_getElem? hlast)).1
  refine ⟨fun r hr => ?_, fun u hu => h.late u (List.mem_filter.1 hu).1, ?_, fun r hr k u hk => ?_, fun x => ?_⟩
  · by_cases e : r = q
    · subst e
      simp only [upd, if_true]
      refine (swapOut_perm hj (h.slot_nodup hq)).trans (((h.perm r hq).filter _).trans ?_)
      rw [List.filter_filter, List.filter_filter]
      simp [Bool.and_comm]
    · simp only [upd, e, if_false]
      refine (h.perm r hr).trans ?_
      rw [List.filter_filter]
      refine List.Perm.of_eq (List.filter_congr fun u hu => ?_)
      by_cases c : ix now u.a = r
      · simp [c]
        intro e'
        have := h.one hu htL e'
        subst this
        exact e (c.symm.trans (h.mem hq (List.mem_of_getElem? hj)).2)
      · simp [c]
  · have := h.apart
    rw [List.append_nil] at this ⊢
    exact List.Nodup.sublist (List.Sublist.map _ List.filter_sublist) this
  · by_cases e : r = q
    · subst e
      simp only [upd, if_true] at hk
      rcases swapOut_at hj hk with ⟨rfl, rfl, hlt⟩ | ⟨hkj, hkk, hlt⟩
      · rw [hu]
        have : z.i ≠ t.i := fun e => by
          have e2 := h.one hzL htL e
          rw [← e2] at hj
          have i1 := (List.getElem?_eq_some_iff.1 hj).2
          have i2 := (List.getElem?_eq_some_iff.1 hlast).2
          have := (List.getElem_inj (i := k) (j := (T r).length - 1) (h₀ := by omega) (h₁ := by omega) (nodup_plain (h.slot_nodup hq))).1 (i1.trans i2.symm)
          omega
        simp [Places.del, Places.put, show ¬ (z.i : Int) = t.i by omega]
      · have huL : u ∈ L := (h.mem hr (List.mem_of_getElem? hkk)).1
        have inj : ∀ {k' v}, (T r)[k']? = some v → u.i = v.i → k = k' := fun {k' v} hv e => by
          have e2 := h.one huL (h.mem hr (List.mem_of_getElem? hv)).1 e
          subst e2
          have i1 := (List.getElem?_eq_some_iff.1 hkk).2
          have i2 := (List.getElem?_eq_some_iff.1 hv).2
          have l1 := (List.getElem?_eq_some_iff.1 hkk).1
          have l2 := (List.getElem?_eq_some_iff.1 hv).1
          exact (List.getElem_inj (i := k) (j := k') (h₀ := l1) (h₁ := l2) (nodup_plain (h.slot_nodup hq))).1 (i1.trans i2.symm)
        have n1 : ¬ (u.i : Int) = t.i := fun e => hkj (inj hj (by omega))
        have n2 : ¬ (u.i : Int) = z.i := fun e => by have := inj hlast (by omega); omega
        simp [Places.del, Places.put, n1, n2]
        exact h.pos r hr k u hkk
    · simp only [upd, e, if_false] at hk
      obtain ⟨huL, hui⟩ := h.mem hr (List.mem_of_getElem? hk)
      have ne : ∀ v, v ∈ T q → ¬ (u.i : Int) = v.i := fun v hv e' => by
        obtain ⟨hvL, hvi⟩ := h.mem hq hv
        have := h.one huL hvL (by omega)
        subst this
        exact e (hui.symm.trans hvi)
      have n1 := ne t (List.mem_of_getElem? hj)
      have n2 := ne z (List.mem_of_getElem? hlast)
      simp [Places.del, Places.put, n1, n2]
      exact h.pos r hr k u hk
  · by_cases e : x = t.i
    · subst e
      simp only [Places.del, if_true]
      constructor
      · intro h; cases h
      · rintro ⟨u, hu, e⟩
        simp at hu
        exact absurd (by omega : u.i = t.i) hu.2
    · have hs : ((M.put z.i (q / 64, q % 64, j)).del t.i x).isSome = (M x).isSome := by
        simp only [Places.del, e, if_false, Places.put]
        by_cases c : x = z.i
        · subst c; simp; rw [h.pos q hq _ _ hlast]; rfl
        · simp [c]
      rw [hs, h.there x]
      constructor
      · rintro ⟨u, hu, e'⟩
        exact ⟨u, by simp at hu ⊢; exact ⟨hu, fun c => e (by omega)⟩, e'⟩
      · rintro ⟨u, hu, e'⟩
        exact ⟨u, by simp at hu ⊢; exact hu.1, e'⟩
/-! ### a step of the time -/
theorem reached_perm {now : Nat} {L R : List Tm} {T : Nat → List Tm} {M : Places} (h : Inv now L R T M) : ∀ m, m ≤ 448 → ((List.range m).flatMap T).Perm (L.filter fun t => decide (ix now t.a < m))
  | 0, _ => by simp
  | m + 1, hm => by
    rw [List.range_succ, List.flatMap_append]
    have ih := reached_perm h m (by omega)
    refine (ih.append (by simpa using h.perm m (by omega))).trans ?_
    have e1 : (L.filter fun t => decide (ix now t.a < m)) = (L.filter fun t => decide (ix now t.a < m + 1)).filter fun t => decide (ix now t.a < m) := by
      rw [List.filter_filter]; refine List.filter_congr fun t _ => ?_
      by_cases c : ix now t.a < m
      · simp [c, Nat.lt_succ_of_lt c]
      · simp [c]
    have e2 : (L.filter fun t => decide (ix now t.a = m)) = (L.filter fun t => decide (ix now t.a < m + 1)).filter fun t => !decide (ix now t.a < m) := by
      rw [List.filter_filter]; refine List.filter_congr fun t _ => ?_
      rw [Bool.eq_iff_iff]; simp; omega
    rw [e1, e2]
    exact List.filter_append_perm _ _
theorem Inv.take {now at' : Nat} {L : List Tm} {T : Nat → List Tm} {M : Places} (h : Inv now L [] T M) (hnow : now ≤ at') (hat : at' ≤ mt) :
    Inv at' (L.filter fun t => !decide (ix now t.a < ix now at' + 1)) ((List.range (ix now at' + 1)).flatMap T) (fun q => if q < ix now at' + 1 then [] else T q) M := by
  have hm : ix now at' + 1 ≤ 448 := ix_lt (by unfold mt at hat; omega) (by unfold mt at hat; omega)
  have hp := reached_perm h _ hm
  have un : ∀ t, t ∈ L → ¬ ix now t.a < ix now at' + 1 → at' < t.a ∧ ix at' t.a = ix now t.a := fun t ht hc =>
    untaken hnow (by unfold mt at hat; omega) (by have := (h.late t ht).2; unfold mt at this; omega) (h.late t ht).1 (by unfold taken; exact decide_eq_false hc)
  have hall : ((L.filter fun t => !decide (ix now t.a < ix now at' + 1)) ++ (List.range (ix now at' + 1)).flatMap T).Perm (L ++ []) := by
    rw [List.append_nil]
    exact ((List.Perm.refl _).append hp).trans (List.perm_append_comm.trans (List.filter_append_perm _ _))
  refine ⟨fun q hq => ?_, fun t ht => ?_, (hall.map Tm.i).nodup_iff.2 h.apart, fun q hq j t hj => ?_, fun x => (h.there x).trans ⟨fun ⟨t, ht, e⟩ => ⟨t, hall.mem_iff.2 ht, e⟩, fun ⟨t, ht, e⟩ => ⟨t, hall.mem_iff.1 ht, e⟩⟩⟩
  · have e1 : ((L.filter fun t => !decide (ix now t.a < ix now at' + 1)).filter fun t => decide (ix at' t.a = q)) = L.filter fun t => decide (ix now t.a = q) && !decide (q < ix now at' + 1) := by
      rw [List.filter_filter]
      refine List.filter_congr fun t ht => ?_
      by_cases c : ix now t.a < ix now at' + 1
      · rw [Bool.eq_iff_iff]; simp [c]; omega
      · rw [(un t ht c).2, Bool.eq_iff_iff]; simp; omega
    rw [e1]
    by_cases c : q < ix now at' + 1
    · simp [c]
    · simp [c]; exact h.perm q hq
  · obtain ⟨h1, h2⟩ := List.mem_filter.1 ht
    exact ⟨(un t h1 (by simpa using h2)).1, (h.late t h1).2⟩
  · by_cases c : q < ix now at' + 1
    · simp [c] at hj
    · simp only [c, if_false] at hj; exact h.pos q hq j t hj
/-! ### the order of what is due -/
def tle (t u : Tm) : Bool := decide (t.a < u.a) || (decide (t.a = u.a) && decide (t.o ≤ u.o))
def srt (l : List Tm) : List Tm := l.mergeSort tle
theorem tle_iff (t u : Tm) : tle t u = true ↔ t.a < u.a ∨ (t.a = u.a ∧ t.o ≤ u.o) := by simp [tle]
theorem srt_perm (l : List Tm) : (srt l).Perm l := List.mergeSort_perm _ _
theorem srt_sorted (l : List Tm) : (srt l).Pairwise fun t u => tle t u = true :=
  List.pairwise_mergeSort (fun a b c h1 h2 => by rw [tle_iff] at *; omega) (fun a b => by rw [Bool.or_eq_true, tle_iff, tle_iff]; omega) l
theorem srt_one {l m : List Tm} (hs : l.Pairwise fun t u => tle t u = true) (hp : l.Perm m) (ho : ∀ t u, t ∈ m → u ∈ m → t.o = u.o → t = u) : l = srt m := by
  refine List.Perm.eq_of_pairwise (fun a b ha hb h1 h2 => ?_) hs (srt_sorted m) (hp.trans (srt_perm m).symm)
  rw [tle_iff] at h1 h2
  exact ho a b (hp.mem_iff.1 ha) ((srt_perm m).mem_iff.1 hb) (by omega)
/-! ### what is answered -/
structure Sp where
  now : Nat
  ords : Nat
  L : List Tm
abbrev Dd := Int × Int × Int
def Sp.has (s : Sp) (x : Int) : Bool := s.L.any fun t => decide ((t.i : Int) = x)
/-- One deed: what it is told, what is due by it, what is set behind it. -/
def step (s : Sp) (d : Dd) : Int × List Tm × Sp :=
  if d.1 = 1 then
    if d.2.1 < 1 ∨ 1048576 < d.2.1 then (2, [], s)
    else if d.2.2 ≤ s.now ∨ 1099511627776 < d.2.2 then (12, [], s)
    else if 1000 ≤ s.L.length then (8, [], s)
    else if s.has d.2.1 then (7, [], s)
    else (0, [], ⟨s.now, s.ords + 1, s.L ++ [⟨d.2.1.toNat, d.2.2.toNat, s.ords + 1⟩]⟩)
  else if d.1 = 2 then
    if s.has d.2.1 then (0, [], ⟨s.now, s.ords, s.L.filter fun t => decide ((t.i : Int) ≠ d.2.1)⟩) else (6, [], s)
  else if d.1 = 3 then
    if d.2.2 < s.now ∨ 1099511627776 < d.2.2 then (12, [], s)
    else (0, srt (s.L.filter fun t => decide ((t.a : Int) ≤ d.2.2)), ⟨d.2.2.toNat, s.ords, s.L.filter fun t => !decide ((t.a : Int) ≤ d.2.2)⟩)
  else (3, [], s)
def play (s : Sp) : List Dd → List (Int × List Tm)
  | [] => []
  | d :: l => ((step s d).1, (step s d).2.1) :: play (step s d).2.2 l
def after (s : Sp) : List Dd → Sp
  | [] => s
  | d :: l => after (step s d).2.2 l
structure Good (s : Sp) : Prop where
  now : s.now ≤ mt
  ordd : s.L.Pairwise fun t u => t.o < u.o
  ords : ∀ t, t ∈ s.L → t.o ≤ s.ords
  late : ∀ t, t ∈ s.L → s.now < t.a ∧ t.a ≤ mt
  ids : ∀ t, t ∈ s.L → 1 ≤ t.i ∧ t.i ≤ 1048576
  apart : (s.L.map Tm.i).Nodup
  few : s.L.length ≤ 1000
theorem ordd_one {L : List Tm} (h : L.Pairwise fun t u => t.o < u.o) {t u : Tm} (ht : t ∈ L) (hu : u ∈ L) (e : t.o = u.o) : t = u := by
  induction L with
  | nil => cases ht
  | cons x L ih =>
    rw [List.pairwise_cons] at h
    rcases List.mem_cons.1 ht with h1 | h1 <;> rcases List.mem_cons.1 hu with h2 | h2
    · rw [h1, h2]
    · have := h.1 u h2; rw [h1] at e; omega
    · have := h.1 t h1; rw [h2] at e; omega
    · exact ih h.2 h1 h2
theorem good_none {now : Nat} (h : now ≤ mt) : Good ⟨now, 0, []⟩ := ⟨h, by simp, by simp, by simp, by simp, by simp, by simp⟩
theorem Sp.has_iff (s : Sp) (x : Int) : s.has x = true ↔ ∃ t, t ∈ s.L ∧ (t.i : Int) = x := by simp [Sp.has]
theorem Good.step {s : Sp} (h : Good s) (d : Dd) : Good (step s d).2.2 := by
  unfold Ytccddjfcceclnaa.step
  repeat' split
  all_goals try exact h
  · rename_i h1 h2 h3 h4 h5
    have hi : ∀ t, t ∈ s.L → (t.i : Int) ≠ d.2.1 := fun t ht e => h5 ((s.has_iff _).2 ⟨t, ht, e⟩)
    refine ⟨h.now, ?_, ?_, ?_, ?_, ?_, ?_⟩
    · simp only [List.pairwise_append, h.ordd, true_and, List.mem_singleton, List.pairwise_singleton]
      rintro a ha b rfl; have := h.ords a ha; show a.o < s.ords + 1; omega
    · simp only [List.mem_append, List.mem_singleton]
      rintro t (ht | rfl)
      · have := h.ords t ht; omega
      · exact Nat.le_refl _
    · simp only [List.mem_append, List.mem_singleton]
      rintro t (ht | rfl)
      · exact h.late t ht
      · unfold mt; show s.now < d.2.2.toNat ∧ d.2.2.toNat ≤ _; omega
    · simp only [List.mem_append, List.mem_singleton]
      rintro t (ht | rfl)
      · exact h.ids t ht
      · show 1 ≤ d.2.1.toNat ∧ d.2.1.toNat ≤ _; omega
    · simp only [List.map_append, List.nodup_append, h.apart, true_and]
      refine ⟨by simp, ?_⟩
      intro a ha b hb e
      obtain ⟨t, ht, rfl⟩ := List.mem_map.1 ha
      simp at hb
      exact hi t ht (by omega)
    · simp; omega
  · exact ⟨h.now, h.ordd.sublist List.filter_sublist, fun t ht => h.ords t (List.mem_filter.1 ht).1, fun t ht => h.late t (List.mem_filter.1 ht).1, fun t ht => h.ids t (List.mem_filter.1 ht).1,
      List.Nodup.sublist (List.Sublist.map _ List.filter_sublist) h.apart, Nat.le_trans (List.length_filter_le _ _) h.few⟩
  · refine ⟨?_, h.ordd.sublist List.filter_sublist, fun t ht => h.ords t (List.mem_filter.1 ht).1, fun t ht => ?_, fun t ht => h.ids t (List.mem_filter.1 ht).1,
      List.Nodup.sublist (List.Sublist.map _ List.filter_sublist) h.apart, Nat.le_trans (List.length_filter_le _ _) h.few⟩
    · unfold mt; show d.2.2.toNat ≤ _; omega
    · obtain ⟨h1, h2⟩ := List.mem_filter.1 ht
      have := h.late t h1
      simp at h2
      show d.2.2.toNat < t.a ∧ _
      omega
theorem step_ords (s : Sp) (d : Dd) : (step s d).2.2.ords ≤ s.ords + 1 := by
  unfold step
  repeat' split
  all_goals simp
end Go.Proofs.Ytccddjfcceclnaa
