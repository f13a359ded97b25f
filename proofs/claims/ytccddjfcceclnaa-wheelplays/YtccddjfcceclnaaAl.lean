/-
  The document's alarms: a plain list; which one has a name, which one is the earliest, the list without one.
-/
import Derived.Test.YtccddjfcceclnaaW4
import Derived.Deep.CutRange
namespace Go.Proofs.Ytccddjfcceclnaa
open Go.ChangeShapes Go.WideShapes Go.ChangeAt Go.RowKit Go.Maps
set_option linter.unusedVariables false
set_option linter.unusedSimpArgs false
def encA (t : Tm) : List Value := [.int .i64 t.i, .int .i64 t.a]
theorem length_flatA (l : List Tm) : (l.flatMap encA).length = l.length * 2 := by
  induction l with
  | nil => rfl
  | cons t r ih => rw [List.flatMap_cons, List.length_append, ih]; simp [encA]; omega
theorem flatA_at : ∀ (l : List Tm) (j : Nat) (hj : j < l.length), (l.flatMap encA)[j * 2]? = some (.int .i64 l[j].i) ∧ (l.flatMap encA)[j * 2 + 1]? = some (.int .i64 l[j].a)
  | [], j, h => by simp at h
  | t :: r, 0, h => by simp [encA]
  | t :: r, j + 1, h => by
    have hl : (encA t).length = 2 := rfl
    obtain ⟨h1, h2⟩ := flatA_at r j (by simpa using h)
    rw [List.flatMap_cons]
    refine ⟨?_, ?_⟩
    · rw [List.getElem?_append_right (by omega), show (j + 1) * 2 - (encA t).length = j * 2 by rw [hl]; omega]; exact h1
    · rw [List.getElem?_append_right (by omega), show (j + 1) * 2 + 1 - (encA t).length = j * 2 + 1 by rw [hl]; omega]; exact h2
/-- Alarms in a slice, as they are read. -/
def AlAt (w : World) (v : Value) (l : List Tm) : Prop :=
  ∃ p cap, v = .slice p l.length cap ∧ (0 < l.length → ∃ g, p = some ⟨g, 0, none⟩ ∧ ∀ j (hj : j < l.length), g < w.heap.size ∧ w.cell? ⟨g, j * 2, none⟩ = some (.int .i64 l[j].i) ∧ w.cell? ⟨g, j * 2 + 1, none⟩ = some (.int .i64 l[j].a))
theorem al_own {w : World} {base : Nat} {e : TypeId} {v : Value} {l : List Tm} (h : w.ownsRow base e 2 v l.length (l.flatMap encA)) : AlAt w v l := by
  rcases h.2 with ⟨h1, h2⟩ | ⟨g, cap, cur, rfl, h1, h2, _⟩
  · exact ⟨none, 0, by rw [h1, h2], fun c => by omega⟩
  · have hlt := (Array.getElem?_eq_some_iff.1 h2).1
    refine ⟨_, cap, rfl, fun _ => ⟨g, rfl, fun j hj => ?_⟩⟩
    obtain ⟨q0, q1⟩ := flatA_at l j hj
    refine ⟨hlt, ?_, ?_⟩ <;> rw [h.cellAt _ (by omega)] <;> assumption
/-- The place of an alarm, from place k on. -/
def fa (x : Int) : List Tm → Nat → Int
  | [], _ => -1
  | t :: l, k => if (t.i : Int) = x then (k : Int) else fa x l (k + 1)
theorem fa_hit {x : Int} {l : List Tm} {k : Nat} (h : k < l.length) (he : (l[k].i : Int) = x) : fa x (l.drop k) k = k := by
  rw [List.drop_eq_getElem_cons h]; unfold fa; rw [if_pos he]
theorem fa_miss {x : Int} {l : List Tm} {k : Nat} (h : k < l.length) (he : (l[k].i : Int) ≠ x) : fa x (l.drop k) k = fa x (l.drop (k + 1)) (k + 1) := by
  rw [List.drop_eq_getElem_cons h]; conv => lhs; unfold fa
  rw [if_neg he]
theorem fa_has (x : Int) : ∀ (l : List Tm) (k : Nat), (fa x l k < 0 ∧ ∀ t, t ∈ l → (t.i : Int) ≠ x) ∨ ∃ j, ∃ h : j < l.length, fa x l k = ((k + j : Nat) : Int) ∧ (l[j].i : Int) = x
  | [], k => by left; exact ⟨by simp [fa], fun t ht => by cases ht⟩
  | t :: l, k => by
    unfold fa
    by_cases c : (t.i : Int) = x
    · right; exact ⟨0, by simp, by simp [c], by simpa using c⟩
    · rw [if_neg c]
      rcases fa_has x l (k + 1) with ⟨h1, h2⟩ | ⟨j, h, h1, h2⟩
      · left
        refine ⟨h1, fun u hu => ?_⟩
        rcases List.mem_cons.1 hu with rfl | hu
        · exact c
        · exact h2 u hu
      · right
        exact ⟨j + 1, by simpa using h, by rw [h1]; congr 1; omega, by simpa using h2⟩
/-- What is left without the one of a name, names being apart. -/
theorem erase_name {l : List Tm} {j : Nat} (h : j < l.length) (hn : (l.map Tm.i).Nodup) : l.eraseIdx j = l.filter fun t => decide ((t.i : Int) ≠ (l[j].i : Int)) := by
  induction l generalizing j with
  | nil => simp at h
  | cons t r ih =>
    rw [List.map_cons, List.nodup_cons] at hn
    cases j with
    | zero =>
      have hr : r.filter (fun u => decide ((u.i : Int) ≠ (t.i : Int))) = r := by
        rw [List.filter_eq_self]
        intro u hu
        have : u.i ≠ t.i := fun e => hn.1 (by rw [← e]; exact List.mem_map.2 ⟨u, hu, rfl⟩)
        simp; omega
      rw [List.eraseIdx_cons_zero]
      have e0 : ((t :: r)[0]'h) = t := rfl
      rw [e0, List.filter_cons_of_neg (by simp)]
      exact hr.symm
    | succ j =>
      have hj : j < r.length := by simpa using h
      have hne : t.i ≠ r[j].i := fun e => hn.1 (by rw [e]; exact List.mem_map.2 ⟨r[j], List.getElem_mem _, rfl⟩)
      have e := ih hj hn.2
      have e0 : ((t :: r)[j + 1]'h) = r[j] := rfl
      rw [List.eraseIdx_cons_succ, e0, List.filter_cons_of_pos (by simp; omega), ← e]
/-- b is the first one of those that are due the soonest. -/
def Soon (l : List Tm) (b : Nat) : Prop := ∃ h : b < l.length, (∀ j (hj : j < l.length), l[b].a ≤ l[j].a) ∧ ∀ j (hj : j < b), l[b].a < (l[j]'(by omega)).a
theorem perm_erase {l : List Tm} {b : Nat} (h : b < l.length) : l.Perm (l[b] :: l.eraseIdx b) := by
  have e := List.take_append_drop b l
  rw [List.drop_eq_getElem_cons h] at e
  rw [List.eraseIdx_eq_take_drop_succ]
  conv => lhs; rw [← e]
  exact List.perm_middle
theorem mem_erase {l : List Tm} {b : Nat} {u : Tm} (h : u ∈ l.eraseIdx b) : ∃ j, ∃ hj : j < l.length, j ≠ b ∧ l[j] = u := by
  rw [List.eraseIdx_eq_take_drop_succ, List.mem_append] at h
  rcases h with h | h
  · obtain ⟨j, hj, e⟩ := List.getElem_of_mem h
    rw [List.length_take] at hj
    exact ⟨j, by omega, by omega, by rw [← e, List.getElem_take]⟩
  · obtain ⟨j, hj, e⟩ := List.getElem_of_mem h
    rw [List.length_drop] at hj
    exact ⟨b + 1 + j, by omega, by omega, by rw [← e, List.getElem_drop]⟩
/-- What is due, one by one. -/
theorem pop_one {l : List Tm} {b n : Nat} (ho : l.Pairwise fun t u => t.o < u.o) (hb : Soon l b) (hn : (l[b]'hb.1).a ≤ n) :
    srt (l.filter fun t => decide (t.a ≤ n)) = (l[b]'hb.1) :: srt ((l.eraseIdx b).filter fun t => decide (t.a ≤ n)) := by
  obtain ⟨h, h1, h2⟩ := hb
  have hp : (l.filter fun t => decide (t.a ≤ n)).Perm (l[b] :: (l.eraseIdx b).filter fun t => decide (t.a ≤ n)) := by
    have := (perm_erase h).filter (fun t => decide (t.a ≤ n))
    rwa [List.filter_cons_of_pos (by simpa using hn)] at this
  refine (srt_one (l := l[b] :: srt ((l.eraseIdx b).filter fun t => decide (t.a ≤ n))) ?_ ?_ ?_).symm
  · rw [List.pairwise_cons]
    refine ⟨fun u hu => ?_, srt_sorted _⟩
    have hu' := (List.mem_filter.1 ((srt_perm _).mem_iff.1 hu)).1
    obtain ⟨j, hjl, hjb, e⟩ := mem_erase hu'
    rw [tle_iff, ← e]
    rcases Nat.lt_trichotomy j b with c | c | c
    · left; exact h2 j c
    · omega
    · have h3 := h1 j hjl
      rcases Nat.lt_or_ge l[b].a l[j].a with q | q
      · left; exact q
      · right
        refine ⟨by omega, Nat.le_of_lt ?_⟩
        exact List.pairwise_iff_getElem.1 ho b j h hjl c
  · exact ((srt_perm _).cons _).trans hp.symm
  · intro t u ht hu e
    exact ordd_one ho (List.mem_filter.1 ht).1 (List.mem_filter.1 hu).1 e
end Go.Proofs.Ytccddjfcceclnaa
