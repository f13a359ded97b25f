/-
  Plain functions on integers: what package tick of the program answers, and facts about them. Nothing of any program stands here.
-/
namespace Go.Proofs.Ytakimdbkkmafnab
/-- The greatest time. -/
abbrev mt : Int := 1099511627776
def addV (t d : Int) : Int := if 0 ≤ t ∧ t ≤ 1099511627776 ∧ 0 ≤ d ∧ t + d ≤ 1099511627776 then t + d else 0
def addE (t d : Int) : Int := if 0 ≤ t ∧ t ≤ 1099511627776 ∧ 0 ≤ d then (if t + d ≤ 1099511627776 then 0 else 10) else 2
def spanE (s e : Int) : Int := if 0 ≤ s ∧ s ≤ 1099511627776 ∧ 0 ≤ e ∧ e ≤ 1099511627776 then (if s ≤ e then 0 else 11) else 2
def optE (r l h : Int) : Int := if 1 ≤ r ∧ r ≤ 13 then (if 0 ≤ l ∧ l ≤ 1073741824 ∧ -1 ≤ h ∧ h ≤ 1073741824 then (if h ≠ -1 ∧ h < l then 11 else 0) else 2) else 3
end Go.Proofs.Ytakimdbkkmafnab
