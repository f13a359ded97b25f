/-
  Of a torn tape just the whole acts count: TapeTorn.
-/
import Derived.Test.YtepgkemnpcadiaaBg
import Derived.Test.YtepgkemnpcadiaaCj
namespace Go.Proofs.Ytepgkemnpcadiaa
open Go.ChangeShapes Go.WideShapes Go.ChangeAt Go.RowKit Go.Maps
set_option linter.unusedVariables false
set_option linter.unusedSimpArgs false
set_option maxRecDepth 20000
theorem tpd_app (A B : List Ac) : tpd (A ++ B) = tpd A ++ tpd B := by
  unfold tpd
  rw [List.flatMap_append]
theorem tpd_take (La : List Ac) (j : Nat) : (tpd La).take (tpd (La.take j)).length = tpd (La.take j) := by
  have e : tpd La = tpd (La.take j) ++ tpd (La.drop j) := by rw [← tpd_app, List.take_append_drop]
  rw [e, List.take_left]
theorem trc_cut {La : List Ac} (h : ∀ a ∈ La, ach a = 0) (K : Nat) (s : Int) (hl : K ≤ 200000) (hK : K ≤ (tpd La).length) (hs : 0 ≤ s ∧ s ≤ K) :
    ∃ j, j ≤ La.length ∧ trc ((tpd La).take K) s = (La.take j, tpd (La.take j), (if s ≤ ((tpd (La.take j)).length : Int) then s else ((tpd (La.take j)).length : Int)), 0) ∧ (tpd (La.take j)).length ≤ K ∧ (j = La.length ↔ (tpd La).length ≤ K) := by
  obtain ⟨j, h1, h2, h3, h4⟩ := rcA_take La h K
  refine ⟨j, h1, ?_, h3, h4⟩
  have e : ((tpd La).take K).length = K := by rw [List.length_take]; omega
  unfold trc
  rw [if_pos (by unfold tmay; rw [e]; simp; omega), h2]
  simp only
  rw [List.take_take, Nat.min_eq_left h3, tpd_take]
theorem trc_all {La : List Ac} (h : ∀ a ∈ La, ach a = 0) (s : Int) (hl : (tpd La).length ≤ 200000) (hs : 0 ≤ s ∧ s ≤ (tpd La).length) : trc (tpd La) s = (La, tpd La, s, 0) := by
  unfold trc
  rw [if_pos (by unfold tmay; simp; omega), rcA_all h]
  simp only
  rw [List.take_length, if_pos hs.2]
theorem trc_none : trc [] 1 = ([], [], 0, 9) := by
  unfold trc
  rw [if_neg (by decide)]
end Go.Proofs.Ytepgkemnpcadiaa
