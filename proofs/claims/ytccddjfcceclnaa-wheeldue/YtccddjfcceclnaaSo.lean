/-
  The sort of what is due: a permutation, by time and then by order.
-/
import Derived.Test.YtccddjfcceclnaaH
import Derived.Test.YtccddjfcceclnaaK
import Derived.Shelf.SlSortCmp.NoneTotal
import Derived.Test.YtccddjfcceclnaaSl
namespace Go.Proofs.Ytccddjfcceclnaa
open Go.Shelf Go.RowKit Go.Lib Go.Sort
set_option linter.unusedVariables false
set_option linter.unusedSimpArgs false
theorem flat_at : ∀ (l : List Tm) (j : Nat), j < l.length * 3 → (l.flatMap encT)[j]? = some ((encT l[j / 3]!)[j % 3]!)
  | [], j, h => by simp at h
  | t :: r, j, h => by
    rw [List.flatMap_cons]
    have hl : (encT t).length = 3 := rfl
    by_cases c : j < 3
    · rw [List.getElem?_append_left (by omega)]
      have : j / 3 = 0 := by omega
      rw [this]
      rcases (by omega : j = 0 ∨ j = 1 ∨ j = 2) with rfl | rfl | rfl <;> rfl
    · rw [List.getElem?_append_right (by omega), hl, flat_at r (j - 3) (by simp at h; omega)]
      have e1 : j / 3 = (j - 3) / 3 + 1 := by omega
      have e2 : (j - 3) % 3 = j % 3 := by omega
      rw [e1, e2]
      simp
theorem length_flat (l : List Tm) : (l.flatMap encT).length = l.length * 3 := by
  induction l with
  | nil => rfl
  | cons t r ih => rw [List.flatMap_cons, List.length_append, ih]; simp [encT]; omega
theorem flat_eq (l : List Tm) : (flatK encT 3 l.toArray).toList = l.flatMap encT := by
  apply List.ext_getElem?
  intro j
  by_cases h : j < l.length * 3
  · rw [flat_at l j h, Array.getElem?_toList, Array.getElem?_eq_getElem (by simpa using h)]
    simp [flatK]
  · rw [List.getElem?_eq_none (by simpa using h), List.getElem?_eq_none (by rw [length_flat]; omega)]
theorem holdsK_of {w : World} {g : Nat} {cur : Array Value} {e : TypeId} {l : List Tm} (hb : w.heap[g]? = some (.cells cur e (0, 0))) (ht : cur.toList.take (l.length * 3) = l.flatMap encT) : HoldsK encT 3 w g 0 l.toArray := by
  intro j hj
  have hj' : j < l.length * 3 := by simpa using hj
  refine ⟨?_, by simp [World.frozen?, hb]⟩
  have h1 : (cur.toList.take (l.length * 3))[j]? = (flatK encT 3 l.toArray).toList[j]? := by rw [ht, flat_eq]
  rw [List.getElem?_take_of_lt hj'] at h1
  simp only [World.cell?, hb, Nat.zero_add]
  simp only [Option.isSome_none, Bool.false_eq_true, if_false]
  rw [← Array.getElem?_toList, h1, Array.getElem?_toList, Array.getElem?_eq_getElem hj]
  simp only [id]
  rw [getElem!_pos (flatK encT 3 l.toArray) j hj]
theorem heap_sortedK {w : World} {g n : Nat} {os : Array Obj} {cur : Array Value} {e : TypeId} {fr : Nat × Nat} (d : Array Tm) (hb : w.heap[g]? = some (.cells cur e fr)) :
    (sortWorldK encT 3 w g 0 n d os).heap[g]? = some (.cells (putCells id 0 (flatK encT 3 d) cur) e fr) := by
  have hg : g < w.heap.size := (Array.getElem?_eq_some_iff.1 hb).1
  unfold sortWorldK putRowK
  rw [heap_grow_old _ _ (by simpa using hg)]
  simp [putRow, mapBlock, Sort.ahead, Array.getElem?_modify, hb, onCells]
theorem turn_sortedK {w : World} {g n : Nat} {os : Array Obj} (d : Array Tm) : Turn (fun k => k = g) w (sortWorldK encT 3 w g 0 n d os) := by
  unfold sortWorldK putRowK
  refine ⟨rfl, rfl, rfl, by simp, fun k hk hne => ?_⟩
  rw [heap_grow_old _ _ (by simpa using hk)]
  have : g ≠ k := fun e => hne e.symm
  simp [putRow, mapBlock, Sort.ahead, Array.getElem?_modify, this]
theorem take_putCellsK (cur : Array Value) (l : List Tm) (h : l.length * 3 ≤ cur.size) : (putCells id 0 (flatK encT 3 l.toArray) cur).toList.take (l.length * 3) = l.flatMap encT := by
  rw [← flat_eq]
  apply List.ext_getElem?
  intro j
  by_cases hj : j < l.length * 3
  · rw [List.getElem?_take_of_lt hj, Array.getElem?_toList, Array.getElem?_toList]
    simp [putCells, hj, show j < cur.size by omega]
  · rw [List.getElem?_take_eq_none (by omega), List.getElem?_eq_none (by simpa using hj)]
theorem cmpT_lt (t u : Tm) : ltOf cmpT t u = decide (t.a < u.a ∨ (t.a = u.a ∧ t.o < u.o)) := by
  unfold ltOf cmpT orI cmpI
  rw [decide_eq_decide]
  by_cases h1 : t.a < u.a
  · simp [h1]
  · by_cases h2 : u.a < t.a
    · simp [h1, h2]; omega
    · have e : t.a = u.a := by omega
      simp [e]
      by_cases h3 : t.o < u.o
      · simp [h3]
      · by_cases h4 : u.o < t.o
        · simp [h3, h4]
        · simp [h3, h4]
theorem swoT : SWO (ltOf cmpT) where
  irrefl x := by rw [cmpT_lt]; simp
  trans x y z h1 h2 := by rw [cmpT_lt] at *; simp at *; omega
  ntrans x y z h1 h2 := by rw [cmpT_lt] at *; simp at *; omega
theorem cmpLays30 (blk off size : Nat) (w : World) : CmpLays Try.prog 30 #[] encT 3 cmpT blk off size w := fun _ _ _ _ x y => closure_any x y _
/-- The sort of what is due. -/
theorem sort_any (l : List Tm) (base : Nat) (v : Value) (w : World) (hown : w.ownsRow base 69 3 v l.length (l.flatMap encT)) (hl : l.length ≤ 2000) :
    Calls Try.prog 29 #[v, .func (.func 30) #[] #[]] w fun e w' => e = .returned (.tuple #[]) ∧ ∃ l' : List Tm, l'.Perm l ∧ (l'.Pairwise fun t u => tle t u = true) ∧ w'.ownsRow base 69 3 v l'.length (l'.flatMap encT) ∧ Turn (fun k => v.ownBlock = some k) w w' := by
  rcases hown.2 with ⟨rfl, h0⟩ | ⟨g, cap, cur, rfl, h1, h2, h3, h4, h5, h6⟩
  · have hcon := AnyF.slices_SortFunc_none Try.sortTm none 0 (.func (.func 30) #[] #[]) w
    refine hcon.mono ?_
    rintro e w' ⟨rfl, rfl⟩
    have : l = [] := List.eq_nil_of_length_eq_zero h0
    subst this
    exact ⟨rfl, [], List.Perm.refl _, List.Pairwise.nil, hown, Turn.refl _ _⟩
  · have eg : ∀ args w, (callFunc 30 args).run Try.prog w = .ok (.enter 30 args) w := enters_of Try.func30 (by kernel_rfl) rfl
    have hcon := AnyQ.slices_SortFunc Try.sortTm 3 Try.isAgg69 Try.sizeOf69 encT (fun _ => rfl) (fun x v hv => by simp [encT] at hv; rcases hv with rfl | rfl | rfl <;> rfl) cmpT swoT 30 #[] g 0 cap l.toArray w eg (cmpLays30 g 0 _ w) (holdsK_of h2 h6) (Array.getElem?_eq_some_iff.1 h2).1 (by simp; omega)
    simp only [List.size_toArray] at hcon
    refine hcon.mono ?_
    rintro e w' ⟨rfl, d', n, os, ⟨p1, p2, p3⟩, p4, rfl⟩
    have hd : d'.size = l.length := by simpa using p1
    have hp : d'.toList.Perm l := by
      have : (d'.extract 0 l.length).toList = d'.toList := by rw [← hd]; simp
      rw [this] at p3
      simpa using p3
    have hlen : d'.toList.length = l.length := hp.length_eq
    refine ⟨rfl, d'.toList, hp, ?_, ?_, ?_⟩
    · rw [List.pairwise_iff_getElem]
      intro i j hi hj hij
      have := p4 i j (Nat.zero_le _) hij (by omega)
      rw [cmpT_lt] at this
      simp at this
      have e1 : d'[i]! = d'.toList[i] := by simp [getElem!_pos, show i < d'.size by simpa using hi]
      have e2 : d'[j]! = d'.toList[j] := by simp [getElem!_pos, show j < d'.size by simpa using hj]
      rw [e1, e2] at this
      rw [tle_iff]
      omega
    · refine ⟨length_flat _, .inr ⟨g, cap, _, by rw [hlen], h1, heap_sortedK d' h2, by omega, h4, by simp [putCells, h5], ?_⟩⟩
      have := take_putCellsK cur d'.toList (by rw [hlen, h5]; exact Nat.mul_le_mul_right _ h3)
      simpa using this
    · exact (turn_sortedK d').mono (fun k _ h => by rw [h]; rfl)
end Go.Proofs.Ytccddjfcceclnaa
