/-
  Plain facts of ArenaModel: what is kept, what was given.
-/
import Derived.Test.YtchiajedajabnaaMh
namespace Go.Proofs.Ytchiajedajabnaa
open Go.ChangeShapes Go.WideShapes Go.ChangeAt Go.RowKit
set_option linter.unusedVariables false
set_option linter.unusedSimpArgs false
def keptF (s : As) : Hm := fun p t => if 0 ≤ p ∧ p < (s.ps.length : Int) ∧ s.num p.toNat ≠ 0 ∧ t = s.turn p.toNat then some (.int .i64 (s.num p.toNat)) else none
def givenF (s : As) : Hm := fun p t => if 0 ≤ p ∧ p < (s.ps.length : Int) ∧ 1 ≤ t ∧ t ≤ s.turn p.toNat then some (.bool true) else none
def Ac (s : As) : Prop := ∀ p, p < s.ps.length → 1 ≤ s.turn p
theorem turn_get {s : As} {p : Nat} (hp : p < s.ps.length) : s.turn p = s.ps[p].2 := by rw [As.turn, getD_eq _ _ _ hp]
theorem num_app {ps : List (Int × Int)} {fr fr' : List Nat} {x : Int × Int} {p : Nat} (hp : p < ps.length) : (⟨ps ++ [x], fr⟩ : As).num p = (⟨ps, fr'⟩ : As).num p ∧ (⟨ps ++ [x], fr⟩ : As).turn p = (⟨ps, fr'⟩ : As).turn p := by
  unfold As.num As.turn
  simp only [List.getD_eq_getElem?_getD]
  rw [List.getElem?_append_left hp]
  exact ⟨rfl, rfl⟩
theorem num_last {ps : List (Int × Int)} {fr : List Nat} {x : Int × Int} : (⟨ps ++ [x], fr⟩ : As).num ps.length = x.1 ∧ (⟨ps ++ [x], fr⟩ : As).turn ps.length = x.2 := by
  unfold As.num As.turn
  simp
/-- A lend that is done. -/
structure Lent (s : As) (n : Int) (q : Q4) (s' : As) (a : Nat) (u : Int) : Prop where
  found : q = (0, 0, (a : Int), u + 1)
  u0 : 0 ≤ u
  kept : ∀ p t, keptF s' p t = (keptF s).put a (u + 1) (.int .i64 n) p t
  given : ∀ p t, givenF s' p t = (givenF s).put a (u + 1) (.bool true) p t
  new : keptF s a (u + 1) = none
  fresh : givenF s a (u + 1) = none
  ac : Ac s'
  lv : s'.live = s.live + 1
theorem lent {s : As} {k : Nat} {n : Int} (hb : Ab s) (hi : Ai s k) (hc : Ac s) (h1 : ¬ (n < 1 ∨ 1048576 < n)) (h2 : ¬ 120 ≤ s.live) : ∃ (a : Nat) (u : Int), Lent s n (ln s n).1 (ln s n).2 a u ∧ a ≤ k ∧ u ≤ k := by
  by_cases h3 : s.fr.length = 0
  · rw [ln_new h1 h2 h3]
    have hpl := hi.pl
    have hl : ((s.ps ++ [(n, (1 : Int))]).length : Int) = (s.ps.length : Int) + 1 := by simp
    have N : ∀ p, (⟨s.ps ++ [(n, 1)], s.fr⟩ : As).num p = if p = s.ps.length then n else s.num p := fun p => by
      by_cases c : p = s.ps.length
      · subst c; rw [if_pos rfl]; exact num_last.1
      · rw [if_neg c]
        unfold As.num
        simp only [List.getD_eq_getElem?_getD]
        by_cases d : p < s.ps.length
        · rw [List.getElem?_append_left d]
        · rw [List.getElem?_eq_none (by simp; omega), List.getElem?_eq_none (by omega)]
    have T : ∀ p, (⟨s.ps ++ [(n, 1)], s.fr⟩ : As).turn p = if p = s.ps.length then 1 else s.turn p := fun p => by
      by_cases c : p = s.ps.length
      · subst c; rw [if_pos rfl]; exact num_last.2
      · rw [if_neg c]
        unfold As.turn
        simp only [List.getD_eq_getElem?_getD]
        by_cases d : p < s.ps.length
        · rw [List.getElem?_append_left d]
        · rw [List.getElem?_eq_none (by simp; omega), List.getElem?_eq_none (by omega)]
    refine ⟨s.ps.length, 0, ⟨by simp, by omega, fun p t => ?_, fun p t => ?_, ?_, ?_, fun p hp => ?_, by simp [As.live]; omega⟩, hpl, by omega⟩
    · unfold keptF Hm.put
      dsimp only
      rw [N, T, hl]
      by_cases c : p = (s.ps.length : Int)
      · subst c
        have e : ¬ n = 0 := by omega
        by_cases ct : t = 1
        · subst ct; simp [e]; omega
        · simp [ct]
      · by_cases d : 0 ≤ p
        · obtain ⟨j, rfl⟩ := Int.eq_ofNat_of_zero_le d
          have e1 : ¬ j = s.ps.length := by omega
          have e2 : ((j : Int) < (s.ps.length : Int) + 1) = ((j : Int) < (s.ps.length : Int)) := by rw [eq_iff_iff]; omega
          simp only [e2]
          simp [c, e1]
        · simp [c, d]
    · unfold givenF Hm.put
      dsimp only
      rw [T, hl]
      by_cases c : p = (s.ps.length : Int)
      · subst c
        by_cases ct : t = 1
        · subst ct; simp; omega
        · have e1 : ¬ (1 ≤ t ∧ t ≤ 1) := by omega
          have e2 : ¬ t = 0 + 1 := by omega
          simp [e1, e2]
          omega
      · by_cases d : 0 ≤ p
        · obtain ⟨j, rfl⟩ := Int.eq_ofNat_of_zero_le d
          have e1 : ¬ j = s.ps.length := by omega
          have e2 : ((j : Int) < (s.ps.length : Int) + 1) = ((j : Int) < (s.ps.length : Int)) := by rw [eq_iff_iff]; omega
          simp only [e2]
          simp [c, e1]
        · simp [c, d]
    · unfold keptF; rw [if_neg (fun x => by omega)]
    · unfold givenF; rw [if_neg (fun x => by omega)]
    · have hp' : p < s.ps.length + 1 := by simpa using hp
      rw [T]
      split
      · omega
      · exact hc p (by omega)
  · rw [ln_pop h1 h2 h3]
    obtain ⟨a, ha⟩ : ∃ a, s.fr.getD (s.fr.length - 1) 0 = a := ⟨_, rfl⟩
    have hsp := fr_split h3
    rw [ha] at hsp ⊢
    have ham : a ∈ s.fr := by rw [hsp]; simp
    have hal := hb.rg a ham
    have hz := (hb.zr a hal).1 ham
    have hu := (hi.get a).2.2.1
    have hpl := hi.pl
    have N : ∀ p, (⟨s.ps.set a (n, s.turn a + 1), s.fr.take (s.fr.length - 1)⟩ : As).num p = if p = a then n else s.num p := fun p => num_set _ _ _ _ hal p
    have T : ∀ p, (⟨s.ps.set a (n, s.turn a + 1), s.fr.take (s.fr.length - 1)⟩ : As).turn p = if p = a then s.turn a + 1 else s.turn p := fun p => turn_set _ _ _ _ hal p
    refine ⟨a, s.turn a, ⟨rfl, hu, fun p t => ?_, fun p t => ?_, ?_, ?_, fun p hp => ?_, by simp [As.live]; omega⟩, by omega, (hi.get a).2.2.2⟩
    · unfold keptF Hm.put
      rw [N, T]
      by_cases c : p = (a : Int)
      · subst c
        have e : ¬ n = 0 := by omega
        by_cases ct : t = s.turn a + 1
        · subst ct; simp [e, hal]
        · simp [ct, hz]
      · by_cases d : 0 ≤ p
        · obtain ⟨j, rfl⟩ := Int.eq_ofNat_of_zero_le d
          have e1 : ¬ j = a := by omega
          simp [c, e1]
        · simp [c, d]
    · unfold givenF Hm.put
      rw [T]
      by_cases c : p = (a : Int)
      · subst c
        by_cases ct : t = s.turn a + 1
        · subst ct; simp [hal]; omega
        · have e1 : (t ≤ s.turn a + 1) = (t ≤ s.turn a) := by rw [eq_iff_iff]; omega
          simp [ct, e1]
      · by_cases d : 0 ≤ p
        · obtain ⟨j, rfl⟩ := Int.eq_ofNat_of_zero_le d
          have e1 : ¬ j = a := by omega
          simp [c, e1]
        · simp [c, d]
    · unfold keptF; simp [hz]
    · unfold givenF; rw [Int.toNat_natCast, if_neg (fun x => by have := x.2.2.2; omega)]
    · have hp' : p < s.ps.length := by simpa using hp
      rw [T]
      split
      · omega
      · exact hc p hp'
/-- A look. -/
theorem looked {s : As} (hc : Ac s) (p t : Int) :
    (chk s p t = 0 ∧ keptF s p t = some (.int .i64 (s.num p.toNat)) ∧ lk s p t = (0, s.num p.toNat, 0, 0)) ∨ ((chk s p t = 6 ∨ chk s p t = 17) ∧ keptF s p t = none ∧ lk s p t = (chk s p t, 0, 0, 0)) := by
  by_cases h : chk s p t = 0
  · obtain ⟨j, rfl, hj, ht, ht1, hn⟩ := chk_zero h
    refine Or.inl ⟨h, ?_, by unfold lk; rw [if_pos h]⟩
    unfold keptF
    rw [Int.toNat_natCast, if_pos ⟨by omega, by omega, hn, ht⟩]
  · refine Or.inr ⟨?_, ?_, by unfold lk; rw [if_neg h]⟩
    · unfold chk at h ⊢
      split
      · exact Or.inl rfl
      · split
        · exact Or.inl rfl
        · split
          · exact Or.inr rfl
          · rename_i c1 c2 c3
            rw [if_neg c1, if_neg c2, if_neg c3] at h
            exact absurd rfl h
    · unfold keptF
      rw [if_neg]
      rintro ⟨h1, h2, h3, h4⟩
      obtain ⟨j, rfl⟩ := Int.eq_ofNat_of_zero_le h1
      rw [Int.toNat_natCast] at h3 h4
      have h5 := hc j (by omega)
      apply h
      unfold chk
      rw [Int.toNat_natCast, if_neg (by omega), if_neg (by omega), if_neg (by omega)]
/-- A back. -/
theorem backed {s : As} (hc : Ac s) (p t : Int) : (∀ a b, keptF (bk s p t) a b = (keptF s).del p t a b) ∧ (∀ a b, givenF (bk s p t) a b = givenF s a b) ∧ Ac (bk s p t) ∧ ((keptF s p t).isSome = true → (bk s p t).live = s.live - 1) ∧ ((keptF s p t).isSome = false → (bk s p t).live = s.live) := by
  rcases looked hc p t with ⟨h, hk, _⟩ | ⟨h, hk, _⟩
  · obtain ⟨j, rfl, hj, ht, ht1, hn⟩ := chk_zero h
    have e : bk s (j : Int) t = ⟨s.ps.set j (0, s.turn j), s.fr ++ [j]⟩ := by unfold bk; rw [if_pos h, Int.toNat_natCast]
    have N : ∀ p, (⟨s.ps.set j (0, s.turn j), s.fr ++ [j]⟩ : As).num p = if p = j then 0 else s.num p := fun p => num_set _ _ _ _ hj p
    have T : ∀ p, (⟨s.ps.set j (0, s.turn j), s.fr ++ [j]⟩ : As).turn p = s.turn p := fun p => by
      rw [turn_set _ _ _ _ hj p]
      split
      · rename_i c; rw [c]
      · rfl
    rw [e]
    refine ⟨fun a b => ?_, fun a b => ?_, fun p hp => ?_, fun _ => by simp [As.live]; omega, fun c => by rw [hk] at c; cases c⟩
    · unfold keptF Hm.del
      rw [N, T]
      by_cases c : a = (j : Int)
      · subst c
        by_cases ct : b = t
        · simp [ct]
        · have : ¬ b = s.turn j := fun e => ct (e.trans ht.symm)
          simp [ct, this]
      · by_cases d : 0 ≤ a
        · obtain ⟨i, rfl⟩ := Int.eq_ofNat_of_zero_le d
          have e1 : ¬ i = j := by omega
          simp [c, e1]
        · simp [c, d]
    · unfold givenF
      rw [T]
      simp
    · rw [T]; exact hc p (by simpa using hp)
  · have hne : ¬ chk s p t = 0 := by omega
    have e : bk s p t = s := by unfold bk; rw [if_neg hne]
    rw [e]
    refine ⟨fun a b => ?_, fun a b => rfl, hc, fun c => (by rw [hk] at c; cases c), fun _ => rfl⟩
    unfold Hm.del
    split
    · rename_i c; rw [c.1, c.2]; exact hk
    · rfl
end Go.Proofs.Ytchiajedajabnaa
