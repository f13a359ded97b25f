/-
  Plain facts: which places are free, how many keep something.
-/
import Derived.Test.YtchiajedajabnaaJo
namespace Go.Proofs.Ytchiajedajabnaa
open Go.ChangeShapes Go.WideShapes Go.ChangeAt Go.RowKit
set_option linter.unusedVariables false
set_option linter.unusedSimpArgs false
structure Ab (s : As) : Prop where
  nd : s.fr.Nodup
  rg : ∀ x, x ∈ s.fr → x < s.ps.length
  zr : ∀ p, p < s.ps.length → (p ∈ s.fr ↔ s.num p = 0)
  cz : s.fr.length = s.ps.countP (fun p => p.1 == 0)
theorem Ab.none : Ab s0 := ⟨List.nodup_nil, by simp [s0], by simp [s0], by simp [s0]⟩
theorem Ab.live {s : As} (h : Ab s) : 0 ≤ s.live := by
  have := h.cz
  have := List.countP_le_length (p := fun p : Int × Int => p.1 == 0) (l := s.ps)
  unfold As.live
  omega
theorem num_set (ps : List (Int × Int)) (fr : List Nat) (i : Nat) (x : Int × Int) (hi : i < ps.length) (p : Nat) : (⟨ps.set i x, fr⟩ : As).num p = if p = i then x.1 else (⟨ps, fr⟩ : As).num p := by
  unfold As.num
  simp only [List.getD_eq_getElem?_getD]
  by_cases c : p = i
  · subst c; rw [List.getElem?_set_self hi, if_pos rfl]; rfl
  · rw [List.getElem?_set_ne (Ne.symm c), if_neg c]
theorem turn_set (ps : List (Int × Int)) (fr : List Nat) (i : Nat) (x : Int × Int) (hi : i < ps.length) (p : Nat) : (⟨ps.set i x, fr⟩ : As).turn p = if p = i then x.2 else (⟨ps, fr⟩ : As).turn p := by
  unfold As.turn
  simp only [List.getD_eq_getElem?_getD]
  by_cases c : p = i
  · subst c; rw [List.getElem?_set_self hi, if_pos rfl]; rfl
  · rw [List.getElem?_set_ne (Ne.symm c), if_neg c]
theorem num_get {s : As} {p : Nat} (hp : p < s.ps.length) : s.num p = s.ps[p].1 := by rw [As.num, getD_eq _ _ _ hp]
theorem fr_split {s : As} (h : ¬ s.fr.length = 0) : s.fr = s.fr.take (s.fr.length - 1) ++ [s.fr.getD (s.fr.length - 1) 0] := by
  have hl : s.fr.length - 1 < s.fr.length := by omega
  rw [getD_eq _ _ _ hl, ← List.take_succ_eq_append_getElem hl, show s.fr.length - 1 + 1 = s.fr.length by omega, List.take_length]
/-- What lend does, where it does something. -/
theorem ln_new {s : As} {n : Int} (h1 : ¬ (n < 1 ∨ 1048576 < n)) (h2 : ¬ 120 ≤ s.live) (h3 : s.fr.length = 0) : ln s n = ((0, 0, (s.ps.length : Int), 1), ⟨s.ps ++ [(n, 1)], s.fr⟩) := by
  have ht : (tk s).turn (tkAt s) = 0 := by simp [tk, tkAt, h3, As.turn]
  unfold ln
  rw [if_neg h1, if_neg h2, ht]
  simp [tk, tkAt, h3]
theorem ln_pop {s : As} {n : Int} (h1 : ¬ (n < 1 ∨ 1048576 < n)) (h2 : ¬ 120 ≤ s.live) (h3 : ¬ s.fr.length = 0) : ln s n = ((0, 0, ((s.fr.getD (s.fr.length - 1) 0 : Nat) : Int), s.turn (s.fr.getD (s.fr.length - 1) 0) + 1), ⟨s.ps.set (s.fr.getD (s.fr.length - 1) 0) (n, s.turn (s.fr.getD (s.fr.length - 1) 0) + 1), s.fr.take (s.fr.length - 1)⟩) := by
  have e1 : tk s = ⟨s.ps, s.fr.take (s.fr.length - 1)⟩ := by unfold tk; rw [if_neg h3]
  have e2 : tkAt s = s.fr.getD (s.fr.length - 1) 0 := by unfold tkAt; rw [if_neg h3]
  unfold ln
  rw [if_neg h1, if_neg h2, e1, e2]
  rfl
theorem chk_zero {s : As} {p t : Int} (h : chk s p t = 0) : ∃ j : Nat, p = j ∧ j < s.ps.length ∧ t = s.turn j ∧ 1 ≤ t ∧ s.num j ≠ 0 := by
  unfold chk at h
  split at h
  · simp at h
  · rename_i c
    obtain ⟨j, rfl⟩ := Int.eq_ofNat_of_zero_le (show 0 ≤ p by omega)
    rw [Int.toNat_natCast] at h
    split at h
    · simp at h
    · split at h
      · simp at h
      · rename_i c1 c2
        exact ⟨j, rfl, by omega, by omega, by omega, fun e => c2 (Or.inr e)⟩
theorem Ab.step {s : As} (h : Ab s) (j : Q4) : Ab (step s j).2 := by
  unfold Ytchiajedajabnaa.step
  split
  · by_cases h1 : j.2.1 < 1 ∨ 1048576 < j.2.1
    · unfold ln; rw [if_pos h1]; exact h
    · by_cases h2 : 120 ≤ s.live
      · unfold ln; rw [if_neg h1, if_pos h2]; exact h
      · by_cases h3 : s.fr.length = 0
        · rw [ln_new h1 h2 h3]
          have h0 : s.fr = [] := List.eq_nil_of_length_eq_zero h3
          refine ⟨h.nd, fun x hx => by have := h.rg x hx; simp; omega, fun p hp => ?_, ?_⟩
          · have hp' : p < s.ps.length + 1 := by simpa using hp
            rw [num_get hp]
            by_cases c : p < s.ps.length
            · rw [List.getElem_append_left c, ← num_get c]; exact h.zr p c
            · obtain rfl : p = s.ps.length := by omega
              simp [h0]; omega
          · have := h.cz
            have e : ¬ j.2.1 = 0 := by omega
            simp [e]; exact this
        · rw [ln_pop h1 h2 h3]
          obtain ⟨a, ha⟩ : ∃ a, s.fr.getD (s.fr.length - 1) 0 = a := ⟨_, rfl⟩
          obtain ⟨u, hu⟩ : ∃ u, s.turn a + 1 = u := ⟨_, rfl⟩
          have hsp := fr_split h3
          rw [ha] at hsp ⊢
          rw [hu]
          have ham : a ∈ s.fr := by rw [hsp]; simp
          have hal := h.rg a ham
          have hnd := h.nd
          rw [hsp, List.nodup_append] at hnd
          have hna : a ∉ s.fr.take (s.fr.length - 1) := fun c => hnd.2.2 a c a (by simp) rfl
          refine ⟨hnd.1, fun x hx => by simpa using h.rg x (List.mem_of_mem_take hx), fun p hp => ?_, ?_⟩
          · have hp' : p < s.ps.length := by simpa using hp
            rw [num_set _ _ _ _ hal]
            by_cases c : p = a
            · subst c
              simp only [if_true]
              exact ⟨fun c => absurd c hna, fun c => by omega⟩
            · rw [if_neg c]
              have := h.zr p hp'
              rw [show (⟨s.ps, s.fr.take (s.fr.length - 1)⟩ : As).num p = s.num p from rfl, ← this]
              constructor
              · exact fun c => List.mem_of_mem_take c
              · intro hm
                rw [hsp] at hm
                rcases List.mem_append.1 hm with d | d
                · exact d
                · simp at d; exact absurd d c
          · have hz := (h.zr a hal).1 ham
            rw [num_get hal] at hz
            have hcz := h.cz
            have e : ¬ j.2.1 = 0 := by omega
            show (s.fr.take (s.fr.length - 1)).length = (s.ps.set a (j.2.1, u)).countP _
            rw [List.countP_set hal]
            simp [hz, e]
            omega
  · split
    · exact h
    · split
      · show Ab (bk s _ _)
        unfold bk
        split
        · rename_i c
          obtain ⟨p, hp, hpl, ht, ht1, hn⟩ := chk_zero c
          rw [hp, Int.toNat_natCast]
          have hnm : p ∉ s.fr := fun m => hn ((h.zr p hpl).1 m)
          refine ⟨?_, fun x hx => ?_, fun q hq => ?_, ?_⟩
          · rw [List.nodup_append]
            exact ⟨h.nd, by simp, fun a ha b hb e => by simp at hb; subst hb; subst e; exact hnm ha⟩
          · rcases List.mem_append.1 hx with d | d
            · simpa using h.rg x d
            · simp at d; subst d; simpa using hpl
          · have hq' : q < s.ps.length := by simpa using hq
            rw [num_set _ _ _ _ hpl]
            by_cases d : q = p
            · subst d; simp
            · rw [if_neg d]
              rw [show (⟨s.ps, s.fr ++ [p]⟩ : As).num q = s.num q from rfl, ← h.zr q hq']
              simp [d]
          · have hcz := h.cz
            rw [num_get hpl] at hn
            show (s.fr ++ [p]).length = (s.ps.set p (0, s.turn p)).countP _
            rw [List.countP_set hpl]
            have e : ¬ s.ps[p].fst = 0 := hn
            simp [e]
            omega
        · exact h
      · split <;> exact h
theorem Ab.after {s : As} (h : Ab s) (l : List Q4) : Ab (after s l) := by
  induction l generalizing s with
  | nil => exact h
  | cons j r ih => exact ih (h.step j)
/-- One more by each that was lent, one less by each that was given back. -/
theorem step_live (s : As) (j : Q4) : (step s j).2.live = s.live + (if j.1 = 1 ∧ (step s j).1.1 = 0 then 1 else 0) - (if j.1 = 3 ∧ (step s j).1.1 = 0 then 1 else 0) := by
  unfold step
  split
  · rename_i c
    have e3 : ¬ j.1 = 3 := by omega
    by_cases h1 : j.2.1 < 1 ∨ 1048576 < j.2.1
    · unfold ln; rw [if_pos h1]; simp [c]
    · by_cases h2 : 120 ≤ s.live
      · unfold ln; rw [if_neg h1, if_pos h2]; simp [c]
      · by_cases h3 : s.fr.length = 0
        · rw [ln_new h1 h2 h3]; simp [c, As.live]; omega
        · rw [ln_pop h1 h2 h3]; simp [c, As.live]; omega
  · rename_i c
    split
    · rename_i c2
      have e3 : ¬ j.1 = 3 := by omega
      simp [c, e3]
    · split
      · rename_i c2 c3
        unfold bk lk
        by_cases h : chk s j.2.2.1 j.2.2.2 = 0
        · simp [c3, h, As.live]; omega
        · simp [c3, h]
      · rename_i c2 c3
        split <;> simp [c, c3]
theorem after_bd {js : List Q4} (h : js.length ≤ 100) (k : Nat) : -100 ≤ (after s0 (js.take k)).live ∧ (after s0 (js.take k)).live ≤ 100 := by
  have h1 := Ai.none.after (js.take k)
  have h2 := h1.pl
  have h3 := h1.fl
  have h4 : (js.take k).length ≤ 100 := by rw [List.length_take]; omega
  have e : after s0 (js.take k) = after ⟨[], []⟩ (js.take k) := rfl
  unfold As.live
  rw [e]
  omega
theorem count_end (ds : List Q4) : 0 < (after s0 (ds ++ [(1, 1, 0, 0), (4, 0, 0, 0)])).live ∧ (play s0 (ds ++ [(1, 1, 0, 0), (4, 0, 0, 0)]))[ds.length + 1]? = some (0, (after s0 (ds ++ [(1, 1, 0, 0), (4, 0, 0, 0)])).live, 0, 0) := by
  have hl : (play s0 ds).length = ds.length := play_len _ _
  have h0 := (Ab.none.after ds).live
  have e1 := step_live (after s0 ds) (1, 1, 0, 0)
  rw [after_app, play_app, List.getElem?_append_right (by omega), hl, Nat.add_sub_cancel_left]
  have e2 : step (step (after s0 ds) (1, 1, 0, 0)).2 (4, 0, 0, 0) = ((0, (step (after s0 ds) (1, 1, 0, 0)).2.live, 0, 0), (step (after s0 ds) (1, 1, 0, 0)).2) := by
    generalize (step (after s0 ds) (1, 1, 0, 0)).2 = S
    simp [step]
  have e3 : after (after s0 ds) [(1, 1, 0, 0), (4, 0, 0, 0)] = (step (after s0 ds) (1, 1, 0, 0)).2 := by
    simp only [after, e2]
  have e4 : (play (after s0 ds) [(1, 1, 0, 0), (4, 0, 0, 0)])[1]? = some (0, (step (after s0 ds) (1, 1, 0, 0)).2.live, 0, 0) := by
    simp only [play, e2]; rfl
  rw [e3, e4]
  refine ⟨?_, rfl⟩
  rw [e1]
  by_cases h2 : 120 ≤ (after s0 ds).live
  · have : (step (after s0 ds) (1, 1, 0, 0)).1.1 = 8 := by simp [step, ln, h2]
    simp [this]; omega
  · have : (step (after s0 ds) (1, 1, 0, 0)).1.1 = 0 := by simp [step, ln, h2]
    simp [this]; omega
end Go.Proofs.Ytchiajedajabnaa
