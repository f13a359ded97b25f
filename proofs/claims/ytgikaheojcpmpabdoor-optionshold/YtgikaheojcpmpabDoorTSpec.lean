/-
  Plain functions on integers: what package tick of the program answers, and facts about them. Nothing of any program stands here.
-/
namespace Go.Proofs.YtgikaheojcpmpabDoor.T1
set_option linter.unusedVariables false
def addV (t d : Int) : Int := if 0 ≤ t ∧ t ≤ 1099511627776 ∧ 0 ≤ d ∧ t + d ≤ 1099511627776 then t + d else 0
def addE (t d : Int) : Int := if 0 ≤ t ∧ t ≤ 1099511627776 ∧ 0 ≤ d then (if t + d ≤ 1099511627776 then 0 else 10) else 2
def spanE (s e : Int) : Int := if 0 ≤ s ∧ s ≤ 1099511627776 ∧ 0 ≤ e ∧ e ≤ 1099511627776 then (if s ≤ e then 0 else 11) else 2
def optE (r l h : Int) : Int := if 1 ≤ r ∧ r ≤ 13 then (if 0 ≤ l ∧ l ≤ 1073741824 ∧ -1 ≤ h ∧ h ≤ 1073741824 then (if h ≠ -1 ∧ h < l then 11 else 0) else 2) else 3
/-- What two spans are refused for: the first one's fault, else the other one's. -/
def bothE (a1 a2 b1 b2 : Int) : Int := if spanE a1 a2 = 0 then spanE b1 b2 else spanE a1 a2
/-- The inverse of a relation. -/
def inv (r : Int) : Int := if r = 13 then 13 else if r % 2 = 0 then r - 1 else r + 1
/-- A relation of a span from a1 to a2 to a span from b1 to b2. -/
def rel (r a1 a2 b1 b2 : Int) : Bool :=
  if r = 1 then decide (a2 < b1)
  else if r = 2 then decide (b2 < a1)
  else if r = 3 then decide (a2 = b1 ∧ a1 < b1 ∧ a2 < b2)
  else if r = 4 then decide (b2 = a1 ∧ b1 < a1 ∧ b2 < a2)
  else if r = 5 then decide (a1 < b1 ∧ b1 < a2 ∧ a2 < b2)
  else if r = 6 then decide (b1 < a1 ∧ a1 < b2 ∧ b2 < a2)
  else if r = 7 then decide (a1 = b1 ∧ a2 < b2)
  else if r = 8 then decide (a1 = b1 ∧ b2 < a2)
  else if r = 9 then decide (b1 < a1 ∧ a2 < b2)
  else if r = 10 then decide (a1 < b1 ∧ b2 < a2)
  else if r = 11 then decide (b1 < a1 ∧ a2 = b2)
  else if r = 12 then decide (a1 < b1 ∧ a2 = b2)
  else decide (a1 = b1 ∧ a2 = b2)
/-- The distance by a relation. -/
def gp (r a1 a2 b1 b2 : Int) : Int :=
  if r = 1 then b1 - a2 else if r = 2 then a1 - b2 else if r = 5 then a2 - b1 else if r = 6 then b2 - a1
  else if r = 7 then b2 - a2 else if r = 8 then a2 - b2 else if r = 9 then a1 - b1 else if r = 10 then b1 - a1
  else if r = 11 then a1 - b1 else if r = 12 then b1 - a1 else 0
theorem rel_num (r : Int) (h1 : 1 ≤ r) (h2 : r ≤ 13) : r = 1 ∨ r = 2 ∨ r = 3 ∨ r = 4 ∨ r = 5 ∨ r = 6 ∨ r = 7 ∨ r = 8 ∨ r = 9 ∨ r = 10 ∨ r = 11 ∨ r = 12 ∨ r = 13 := by omega
/-- What Holds, Distance, Inverse, Fits answer: the fault, and the answer. -/
def hE (r a1 a2 b1 b2 : Int) : Int := if 1 ≤ r ∧ r ≤ 13 then bothE a1 a2 b1 b2 else 3
def hV (r a1 a2 b1 b2 : Int) : Bool := decide (hE r a1 a2 b1 b2 = 0) && rel r a1 a2 b1 b2
def dE (r a1 a2 b1 b2 : Int) : Int := if hE r a1 a2 b1 b2 = 0 then (if rel r a1 a2 b1 b2 = true then 0 else 6) else hE r a1 a2 b1 b2
def dV (r a1 a2 b1 b2 : Int) : Int := if hE r a1 a2 b1 b2 = 0 ∧ rel r a1 a2 b1 b2 = true then gp r a1 a2 b1 b2 else 0
def iE (r : Int) : Int := if 1 ≤ r ∧ r ≤ 13 then 0 else 3
def iV (r : Int) : Int := if 1 ≤ r ∧ r ≤ 13 then inv r else 0
def fE (r l h a1 a2 b1 b2 : Int) : Int := if optE r l h = 0 then bothE a1 a2 b1 b2 else optE r l h
def fV (r l h a1 a2 b1 b2 : Int) : Bool := decide (fE r l h a1 a2 b1 b2 = 0) && (rel r a1 a2 b1 b2 && (decide (l ≤ gp r a1 a2 b1 b2) && (decide (h = -1) || decide (gp r a1 a2 b1 b2 ≤ h))))
theorem both_ok {a1 a2 b1 b2 : Int} (h : bothE a1 a2 b1 b2 = 0) : 0 ≤ a1 ∧ a1 ≤ a2 ∧ a2 ≤ 1099511627776 ∧ 0 ≤ b1 ∧ b1 ≤ b2 ∧ b2 ≤ 1099511627776 := by
  unfold bothE at h
  have key : ∀ s e : Int, spanE s e = 0 → 0 ≤ s ∧ s ≤ e ∧ e ≤ 1099511627776 := by
    intro s e hs
    unfold spanE at hs
    split at hs
    · split at hs
      · omega
      · cases hs
    · cases hs
  split at h
  · rename_i q
    have := key _ _ q
    have := key _ _ h
    omega
  · contradiction
theorem both_mk {a1 a2 b1 b2 : Int} (h0 : 0 ≤ a1) (h1 : a1 ≤ a2) (h2 : a2 ≤ 1099511627776) (h3 : 0 ≤ b1) (h4 : b1 ≤ b2) (h5 : b2 ≤ 1099511627776) : bothE a1 a2 b1 b2 = 0 := by
  have e1 : spanE a1 a2 = 0 := by unfold spanE; rw [if_pos (by omega), if_pos h1]
  have e2 : spanE b1 b2 = 0 := by unfold spanE; rw [if_pos (by omega), if_pos h4]
  unfold bothE; rw [if_pos e1]; exact e2
theorem opt_ok {r l h : Int} (e : optE r l h = 0) : 1 ≤ r ∧ r ≤ 13 ∧ 0 ≤ l ∧ l ≤ 1073741824 ∧ -1 ≤ h ∧ h ≤ 1073741824 ∧ (h = -1 ∨ l ≤ h) := by
  unfold optE at e
  split at e
  · split at e
    · split at e
      · cases e
      · omega
    · cases e
  · cases e
/-- The first relation that holds. -/
def IsFirst (k a1 a2 b1 b2 : Int) : Prop := 1 ≤ k ∧ k ≤ 13 ∧ rel k a1 a2 b1 b2 = true ∧ ∀ j, 1 ≤ j → j < k → rel j a1 a2 b1 b2 = false
theorem IsFirst.one {k j a1 a2 b1 b2 : Int} (h : IsFirst k a1 a2 b1 b2) (g : IsFirst j a1 a2 b1 b2) : k = j := by
  obtain ⟨h1, h2, h3, h4⟩ := h
  obtain ⟨g1, g2, g3, g4⟩ := g
  rcases Int.lt_trichotomy k j with x | x | x
  · rw [g4 k h1 x] at h3; cases h3
  · exact x
  · rw [h4 j g1 x] at g3; cases g3
theorem rel_last {a1 a2 b1 b2 : Int} (ha : a1 ≤ a2) (hb : b1 ≤ b2) (h : ∀ j, 1 ≤ j → j < 13 → rel j a1 a2 b1 b2 = false) : rel 13 a1 a2 b1 b2 = true := by
  have h1 := h 1 (by omega) (by omega)
  have h2 := h 2 (by omega) (by omega)
  have h3 := h 3 (by omega) (by omega)
  have h4 := h 4 (by omega) (by omega)
  have h5 := h 5 (by omega) (by omega)
  have h6 := h 6 (by omega) (by omega)
  have h7 := h 7 (by omega) (by omega)
  have h8 := h 8 (by omega) (by omega)
  have h9 := h 9 (by omega) (by omega)
  have h10 := h 10 (by omega) (by omega)
  have h11 := h 11 (by omega) (by omega)
  have h12 := h 12 (by omega) (by omega)
  clear h
  unfold rel at *
  simp at h1 h2 h3 h4 h5 h6 h7 h8 h9 h10 h11 h12
  simp
  omega
/-- Sign of a difference. -/
def sg (a b : Int) : Int := if a < b then -1 else if b < a then 1 else 0
theorem sg_spec (a b : Int) : (a < b ∧ sg a b = -1) ∨ (b < a ∧ sg a b = 1) ∨ (a = b ∧ sg a b = 0) := by
  unfold sg
  by_cases h : a < b
  · left; exact ⟨h, if_pos h⟩
  · by_cases g : b < a
    · right; left; exact ⟨g, by rw [if_neg h, if_pos g]⟩
    · right; right; exact ⟨by omega, by rw [if_neg h, if_neg g]⟩
theorem sg_lt (a b : Int) : sg a b < 0 ↔ a < b := by have := sg_spec a b; omega
theorem sg_gt (a b : Int) : 0 < sg a b ↔ b < a := by have := sg_spec a b; omega
theorem sg_eq (a b : Int) : sg a b = 0 ↔ a = b := by have := sg_spec a b; omega
end Go.Proofs.YtgikaheojcpmpabDoor.T1
