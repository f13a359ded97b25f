/-
  Options that may be, and what each of them tells.
-/
import Derived.Test.YtgikaheojcpmpabDoorO4
namespace Go.Proofs.YtgikaheojcpmpabDoor
open Go.ChangeShapes Go.WideShapes Go.ChangeAt Go.RowKit Go.Maps
set_option linter.unusedVariables false
set_option linter.unusedSimpArgs false
set_option maxRecDepth 20000
def optE (r l h : Int) : Int := if 1 ≤ r ∧ r ≤ 13 then (if 0 ≤ l ∧ l ≤ 1073741824 ∧ -1 ≤ h ∧ h ≤ 1073741824 then (if h ≠ -1 ∧ h < l then 11 else 0) else 2) else 3
theorem optE_ok {r l h : Int} (e : optE r l h = 0) : 1 ≤ r ∧ r ≤ 13 ∧ 0 ≤ l ∧ l ≤ 1073741824 ∧ (h = -1 ∨ (l ≤ h ∧ h ≤ 1073741824)) := by
  unfold optE at e
  split at e
  · split at e
    · split at e
      · simp at e
      · omega
    · simp at e
  · simp at e
theorem opt_cases (r l h : Int) : ¬ 1 ≤ r ∨ (1 ≤ r ∧ ¬ r ≤ 13) ∨ (1 ≤ r ∧ r ≤ 13 ∧ ¬ 0 ≤ l) ∨ (1 ≤ r ∧ r ≤ 13 ∧ 0 ≤ l ∧ ¬ l ≤ 1073741824) ∨ (1 ≤ r ∧ r ≤ 13 ∧ 0 ≤ l ∧ l ≤ 1073741824 ∧ ¬ -1 ≤ h) ∨ (1 ≤ r ∧ r ≤ 13 ∧ 0 ≤ l ∧ l ≤ 1073741824 ∧ -1 ≤ h ∧ ¬ h ≤ 1073741824)
    ∨ (1 ≤ r ∧ r ≤ 13 ∧ 0 ≤ l ∧ l ≤ 1073741824 ∧ h = -1) ∨ (1 ≤ r ∧ r ≤ 13 ∧ 0 ≤ l ∧ l ≤ 1073741824 ∧ 0 ≤ h ∧ h ≤ 1073741824 ∧ l ≤ h) ∨ (1 ≤ r ∧ r ≤ 13 ∧ 0 ≤ l ∧ l ≤ 1073741824 ∧ 0 ≤ h ∧ h ≤ 1073741824 ∧ ¬ l ≤ h) := by omega
set_option maxHeartbeats 1000000 in
theorem opt_any (r l h : Int) (w : World) :
    Calls Tryd.prog 11 #[.agg #[.int .i64 r, .int .i64 l, .int .i64 h]] w fun e w' => e = .returned (.int .i64 (optE r l h)) ∧ Below w.heap.size w w' := by
  rcases opt_cases r l h with h0 | ⟨h0, h1⟩ | ⟨h0, h1, h2⟩ | ⟨h0, h1, h2, h3⟩ | ⟨h0, h1, h2, h3, h4⟩ | ⟨h0, h1, h2, h3, h4, h5⟩ | ⟨h0, h1, h2, h3, h4⟩ | ⟨h0, h1, h2, h3, h4, h5, h6⟩ | ⟨h0, h1, h2, h3, h4, h5, h6⟩
  · rw [show optE r l h = 3 from by unfold optE; rw [if_neg (by omega)]]
    go_enter Tryd.func11, Tryd.ntmps11
    go_wp2
    go_ret
    exact ⟨rfl, by go_grown⟩
  · rw [show optE r l h = 3 from by unfold optE; rw [if_neg (by omega)]]
    go_enter Tryd.func11, Tryd.ntmps11
    go_wp2
    go_ret
    exact ⟨rfl, by go_grown⟩
  · rw [show optE r l h = 2 from by unfold optE; rw [if_pos (by omega), if_neg (by omega)]]
    go_enter Tryd.func11, Tryd.ntmps11
    go_wp2
    go_ret
    exact ⟨rfl, by go_grown⟩
  · rw [show optE r l h = 2 from by unfold optE; rw [if_pos (by omega), if_neg (by omega)]]
    go_enter Tryd.func11, Tryd.ntmps11
    go_wp2
    go_ret
    exact ⟨rfl, by go_grown⟩
  · rw [show optE r l h = 2 from by unfold optE; rw [if_pos (by omega), if_neg (by omega)]]
    go_enter Tryd.func11, Tryd.ntmps11
    go_wp2
    go_ret
    exact ⟨rfl, by go_grown⟩
  · rw [show optE r l h = 2 from by unfold optE; rw [if_pos (by omega), if_neg (by omega)]]
    go_enter Tryd.func11, Tryd.ntmps11
    go_wp2
    go_ret
    exact ⟨rfl, by go_grown⟩
  · rw [show optE r l h = 0 from by unfold optE; rw [if_pos (by omega), if_pos (by omega), if_neg (by omega)]]
    subst h4
    go_enter Tryd.func11, Tryd.ntmps11
    go_wp2
    go_ret
    exact ⟨rfl, by go_grown⟩
  · rw [show optE r l h = 0 from by unfold optE; rw [if_pos (by omega), if_pos (by omega), if_neg (by omega)]]
    have hn : (h != -1) = true := by simp; omega
    go_enter Tryd.func11, Tryd.ntmps11
    go_wp2
    go_ret
    exact ⟨rfl, by go_grown⟩
  · rw [show optE r l h = 11 from by unfold optE; rw [if_pos (by omega), if_pos (by omega), if_pos (by omega)]]
    have hn : (h != -1) = true := by simp; omega
    go_enter Tryd.func11, Tryd.ntmps11
    go_wp2
    go_ret
    exact ⟨rfl, by go_grown⟩
def invN (k : Nat) : Nat := if k = 13 then 13 else if k % 2 = 1 then k + 1 else k - 1
/-- The table of inverses, as it was laid. -/
def Tab (w : World) : Prop := 0 < w.heap.size ∧ ∀ k, 1 ≤ k → k ≤ 13 → w.cell? ⟨0, k, none⟩ = some (.int .i64 (invN k : Nat))
theorem Tab.later {w w' : World} (h : Tab w) (hb : Below w.heap.size w w') : Tab w' := ⟨Nat.lt_of_lt_of_le h.1 hb.size, fun k h1 h2 => (hb.cell (p := ⟨0, k, none⟩) h.1).trans (h.2 k h1 h2)⟩
def pmI : Nat → Nat := fun k => k
def pmS : Nat → Nat := fun k => (k + 2) % 4
def upv (r : Nat) : Nat := if r % 2 = 0 then r - 1 else r
def upm (r : Nat) : Nat → Nat := if r % 2 = 0 then pmS else pmI
theorem pmI_lt : ∀ k, k < 4 → pmI k < 4 := fun k h => h
theorem pmS_lt : ∀ k, k < 4 → pmS k < 4 := fun k h => Nat.mod_lt _ (by decide)
theorem upright_even {r : Nat} {w : World} (h : Tab w) (h1 : 1 ≤ r) (h2 : r ≤ 13) (he : r % 2 = 0) : ∀ W, Below w.heap.size w W → Calls Tryd.prog 25 #[.int .i64 (r : Int)] W fun e w' => e = .returned (.tuple #[.int .i64 ((r - 1 : Nat) : Int), fourV (pmS 0 : Nat) (pmS 1 : Nat) (pmS 2 : Nat) (pmS 3 : Nat)]) ∧ Below W.heap.size W w' := fun W hW => by
  have hc := (h.later hW).2 r h1 h2
  rw [show invN r = r - 1 by unfold invN; rw [if_neg (by omega), if_neg (by omega)]] at hc
  exact upright_swap r (r - 1) W h1 h2 (h.later hW).1 hc (by omega)
theorem upright_odd {r : Nat} {w : World} (h : Tab w) (h1 : 1 ≤ r) (h2 : r ≤ 13) (he : r % 2 = 1) : ∀ W, Below w.heap.size w W → Calls Tryd.prog 25 #[.int .i64 (r : Int)] W fun e w' => e = .returned (.tuple #[.int .i64 (r : Int), fourV (pmI 0 : Nat) (pmI 1 : Nat) (pmI 2 : Nat) (pmI 3 : Nat)]) ∧ Below W.heap.size W w' := fun W hW => by
  exact upright_id r (invN r) W h1 h2 (h.later hW).1 ((h.later hW).2 r h1 h2) (by unfold invN; split <;> first | omega | (split <;> omega))
theorem told_any (r : Nat) (lo hi : Int) (w : World) (ht : Tab w) (h1 : 1 ≤ r) (h2 : r ≤ 13) (h3 : 0 ≤ lo) (h4 : lo ≤ 1073741824) :
    Calls Tryd.prog 13 #[.agg #[.int .i64 (r : Int), .int .i64 lo, .int .i64 hi]] w fun e w' => (∃ V, e = .returned V ∧ New w w' V 4 (fun _ => 4) (toldZ (upv r) (upm r) lo hi)) ∧ Below w.heap.size w w' := by
  rcases (by omega : r = 1 ∨ r = 2 ∨ r = 3 ∨ r = 4 ∨ r = 5 ∨ r = 6 ∨ r = 7 ∨ r = 8 ∨ r = 9 ∨ r = 10 ∨ r = 11 ∨ r = 12 ∨ r = 13) with rfl | rfl | rfl | rfl | rfl | rfl | rfl | rfl | rfl | rfl | rfl | rfl | rfl
  · by_cases c : hi = -1
    · exact told1_none 1 lo hi pmI w (upright_odd (r := 1) ht (by decide) (by decide) (by decide)) pmI_lt h3 h4 c
    · exact told1_some 1 lo hi pmI w (upright_odd (r := 1) ht (by decide) (by decide) (by decide)) pmI_lt h3 h4 c
  · by_cases c : hi = -1
    · exact told1_none 2 lo hi pmS w (upright_even (r := 2) ht (by decide) (by decide) (by decide)) pmS_lt h3 h4 c
    · exact told1_some 2 lo hi pmS w (upright_even (r := 2) ht (by decide) (by decide) (by decide)) pmS_lt h3 h4 c
  · by_cases c : hi = -1
    · exact told3_none 3 lo hi pmI w (upright_odd (r := 3) ht (by decide) (by decide) (by decide)) pmI_lt h3 h4 c
    · exact told3_some 3 lo hi pmI w (upright_odd (r := 3) ht (by decide) (by decide) (by decide)) pmI_lt h3 h4 c
  · by_cases c : hi = -1
    · exact told3_none 4 lo hi pmS w (upright_even (r := 4) ht (by decide) (by decide) (by decide)) pmS_lt h3 h4 c
    · exact told3_some 4 lo hi pmS w (upright_even (r := 4) ht (by decide) (by decide) (by decide)) pmS_lt h3 h4 c
  · by_cases c : hi = -1
    · exact told5_none 5 lo hi pmI w (upright_odd (r := 5) ht (by decide) (by decide) (by decide)) pmI_lt h3 h4 c
    · exact told5_some 5 lo hi pmI w (upright_odd (r := 5) ht (by decide) (by decide) (by decide)) pmI_lt h3 h4 c
  · by_cases c : hi = -1
    · exact told5_none 6 lo hi pmS w (upright_even (r := 6) ht (by decide) (by decide) (by decide)) pmS_lt h3 h4 c
    · exact told5_some 6 lo hi pmS w (upright_even (r := 6) ht (by decide) (by decide) (by decide)) pmS_lt h3 h4 c
  · by_cases c : hi = -1
    · exact told7_none 7 lo hi pmI w (upright_odd (r := 7) ht (by decide) (by decide) (by decide)) pmI_lt h3 h4 c
    · exact told7_some 7 lo hi pmI w (upright_odd (r := 7) ht (by decide) (by decide) (by decide)) pmI_lt h3 h4 c
  · by_cases c : hi = -1
    · exact told7_none 8 lo hi pmS w (upright_even (r := 8) ht (by decide) (by decide) (by decide)) pmS_lt h3 h4 c
    · exact told7_some 8 lo hi pmS w (upright_even (r := 8) ht (by decide) (by decide) (by decide)) pmS_lt h3 h4 c
  · by_cases c : hi = -1
    · exact told9_none 9 lo hi pmI w (upright_odd (r := 9) ht (by decide) (by decide) (by decide)) pmI_lt h3 h4 c
    · exact told9_some 9 lo hi pmI w (upright_odd (r := 9) ht (by decide) (by decide) (by decide)) pmI_lt h3 h4 c
  · by_cases c : hi = -1
    · exact told9_none 10 lo hi pmS w (upright_even (r := 10) ht (by decide) (by decide) (by decide)) pmS_lt h3 h4 c
    · exact told9_some 10 lo hi pmS w (upright_even (r := 10) ht (by decide) (by decide) (by decide)) pmS_lt h3 h4 c
  · by_cases c : hi = -1
    · exact told11_none 11 lo hi pmI w (upright_odd (r := 11) ht (by decide) (by decide) (by decide)) pmI_lt h3 h4 c
    · exact told11_some 11 lo hi pmI w (upright_odd (r := 11) ht (by decide) (by decide) (by decide)) pmI_lt h3 h4 c
  · by_cases c : hi = -1
    · exact told11_none 12 lo hi pmS w (upright_even (r := 12) ht (by decide) (by decide) (by decide)) pmS_lt h3 h4 c
    · exact told11_some 12 lo hi pmS w (upright_even (r := 12) ht (by decide) (by decide) (by decide)) pmS_lt h3 h4 c
  · by_cases c : hi = -1
    · exact told13_none 13 lo hi pmI w (upright_odd (r := 13) ht (by decide) (by decide) (by decide)) pmI_lt h3 h4 c
    · exact told13_some 13 lo hi pmI w (upright_odd (r := 13) ht (by decide) (by decide) (by decide)) pmI_lt h3 h4 c
end Go.Proofs.YtgikaheojcpmpabDoor
