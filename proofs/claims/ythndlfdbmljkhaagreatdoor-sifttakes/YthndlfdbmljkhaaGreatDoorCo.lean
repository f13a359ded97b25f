/-
  The first elements of a row that is only read.
-/
import Derived.Test.YthndlfdbmljkhaaGreatDoorCa
namespace Go.Proofs.YthndlfdbmljkhaaGreatDoor.Chk
open Go.ChangeShapes Go.WideShapes Go.ChangeAt Go.RowKit Go.Maps
set_option linter.unusedVariables false
set_option linter.unusedSimpArgs false
theorem flat_take {α : Type} {enc : α → List Dat} (cs : List α) (k : Nat) : ∃ r, (cs.map enc).flatten = ((cs.take k).map enc).flatten ++ r := ⟨((cs.drop k).map enc).flatten, by rw [← List.flatten_append, ← List.map_append, List.take_append_drop]⟩
/-- The first k elements of a row, as x[:k] has them. -/
theorem rd_take {α : Type} {enc : α → List Dat} {e z : Nat} {w : World} {p : Option Addr} {n cap : Nat} {cs : List α} (h : Rd w (.row e z (cs.map enc)) (.slice p n cap)) (k : Nat) (hk : k ≤ cs.length) : Rd w (.row e z ((cs.take k).map enc)) (.slice p k cap) := by
  generalize hd : Dat.row e z (cs.map enc) = d at h
  generalize hv : Value.slice p n cap = v at h
  cases h with
  | lit v => cases hd
  | nil e' z' p' cap' h1 =>
    simp only [Dat.row.injEq] at hd
    simp only [Value.slice.injEq] at hv
    have h0 : cs.length = 0 := by have := congrArg List.length hd.2.2; simpa using this
    obtain rfl : k = 0 := by omega
    obtain ⟨rfl, _, rfl⟩ := hv
    have : (cs.take 0).map enc = [] := rfl
    rw [this]
    exact .nil _ _ _ _ h1
  | row e' z' l g off cap' xs h1 h2 h3 h4 h5 h6 =>
    simp only [Dat.row.injEq] at hd
    simp only [Value.slice.injEq] at hv
    obtain ⟨rfl, rfl, rfl⟩ := hd
    obtain ⟨rfl, rfl, rfl⟩ := hv
    by_cases h0 : k = 0
    · subst h0
      have : (cs.take 0).map enc = [] := rfl
      rw [this]
      exact .nil _ _ _ _ h3
    · obtain ⟨r, hr⟩ := flat_take (enc := enc) cs k
      have hl : ((cs.take k).map enc).length = k := by simp; omega
      have hlen : ((cs.take k).map enc).flatten.length ≤ xs.length := by rw [← h5, hr, List.length_append]; omega
      have key := Rd.row e z ((cs.take k).map enc) g off cap (xs.take ((cs.take k).map enc).flatten.length) (w := w) (by rw [hl]; omega) (by rw [hl]; rw [List.length_map] at h2; omega) h3 (fun j u hu => by
        have hj : j < ((cs.take k).map enc).flatten.length := by
          have := (List.getElem?_eq_some_iff.1 hu).1
          rw [List.length_take] at this
          omega
        rw [List.getElem?_take_of_lt hj] at hu
        exact h4 j u hu) (by rw [List.length_take]; omega) (fun q hq => by
        have h9 := h6 q (by rw [hr, List.length_append]; omega)
        have e1 : (cs.map enc).flatten[q]'(by rw [hr, List.length_append]; omega) = ((cs.take k).map enc).flatten[q] := by
          rw [List.getElem_of_eq hr, List.getElem_append_left hq]
        rw [e1] at h9
        have e2 : (xs.take ((cs.take k).map enc).flatten.length).getD q nilV = xs.getD q nilV := by
          rw [List.getD_eq_getElem?_getD, List.getD_eq_getElem?_getD, List.getElem?_take_of_lt hq]
        rw [e2]
        exact h9)
      rw [hl] at key
      exact key
end Go.Proofs.YthndlfdbmljkhaaGreatDoor.Chk
