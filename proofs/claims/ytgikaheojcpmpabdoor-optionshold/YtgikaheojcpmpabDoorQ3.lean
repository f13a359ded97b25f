/-
  An option and one that equals: their bounds, and those of the inverse, in plain words.
-/
import Derived.Test.YtgikaheojcpmpabDoorQ1
namespace Go.Proofs.YtgikaheojcpmpabDoor
open Go.ChangeShapes Go.WideShapes Go.ChangeAt Go.RowKit Go.Maps
set_option linter.unusedVariables false
set_option linter.unusedSimpArgs false
set_option maxRecDepth 20000
def teE : Mx := tellZ 13 pmI (am pmI (am pmI fre 0 1 0) 2 3 0)
theorem teE02 : teE 0 2 = 0 := by decide
theorem teE20 : teE 2 0 = 0 := by decide
theorem am_same {Z : Mx} {p q : Nat} {m : Int} (h : Z p q ≤ m) : am pmI Z p q m = Z := by
  funext a b
  unfold am upd
  split
  · rename_i e
    obtain ⟨e1, e2⟩ := e
    have e1' : a = p := e1
    have e2' : b = q := e2
    subst e1' e2'
    show min (Z a b) m = Z a b
    omega
  · rfl
theorem told13 (lo hi : Int) : toldZ 13 pmI lo hi = if hi = -1 then am pmI teE 2 0 (-lo) else am pmI (am pmI teE 2 0 (-lo)) 0 2 hi := rfl
theorem told13_0 {hi : Int} (h : hi = -1 ∨ 0 ≤ hi) : toldZ 13 pmI 0 hi = teE := by
  rw [told13]
  have e1 : am pmI teE 2 0 (-0) = teE := am_same (by rw [teE20]; decide)
  rw [e1]
  split
  · rfl
  · rw [am_same (by rw [teE02]; omega)]
theorem swp_teE : Swp teE teE := by
  intro x y hx hy
  rcases (by omega : x = 0 ∨ x = 1 ∨ x = 2 ∨ x = 3) with rfl | rfl | rfl | rfl <;> rcases (by omega : y = 0 ∨ y = 1 ∨ y = 2 ∨ y = 3) with rfl | rfl | rfl | rfl <;> decide
/-- The option that equals. -/
def eqO : Op3 := ⟨13, 0, -1⟩
theorem tz_eq : tzO eqO = teE := told13_0 (.inl rfl)
theorem gd_eq : Gd 4 4 teE := by
  intro s hs i hi
  rcases (by omega : s = 0 ∨ s = 1 ∨ s = 2 ∨ s = 3 ∨ s = 4) with rfl | rfl | rfl | rfl | rfl <;> rcases (by omega : i = 0 ∨ i = 1 ∨ i = 2 ∨ i = 3) with rfl | rfl | rfl | rfl <;> decide
theorem ok_eq : OkZ teE := by
  have := tz_ok (o := eqO) (by decide)
  rwa [tz_eq] at this
theorem can_eq : canB eqO = true := by
  unfold canB
  rw [tz_eq, (gd_iff ok_eq.1).1 gd_eq]
  rfl
/-- Two options. -/
def two (o p : Op3) : Nat → Op3 := fun i => if i = 0 then o else p
/-- The bounds of an option and one that equals. -/
def bothR (o : Op3) : Mx := if canB o = true then (fun a b => max (fw (tzO o) 4 a b) (fw teE 4 a b)) else fw teE 4
theorem opE_two {o p : Op3} (h : optE o.r o.lo o.hi = 0) (h2 : optE p.r p.lo p.hi = 0) : opE (two o p) 2 = 0 := by
  have e0 : opE (two o p) 0 = 0 := rfl
  have e1 : opE (two o p) 1 = 0 := by
    rw [opE, e0, if_neg (by decide)]
    exact h
  rw [opE, e1, if_neg (by decide)]
  exact h2
theorem opR_eq (o : Op3) : opR (two o eqO) 2 = some (bothR o) := by
  have e0 : two o eqO 0 = o := rfl
  have e1 : two o eqO 1 = eqO := rfl
  unfold bothR
  rw [opR, opR, opR, e0, e1, if_pos can_eq, tz_eq]
  by_cases c : canB o = true
  · rw [if_pos c, if_pos c]
  · rw [if_neg c, if_neg c]
/-- The inverse. -/
def invO (o : Op3) : Op3 := ⟨(invN o.r.toNat : Nat), o.lo, o.hi⟩
theorem invO_ok {o : Op3} (h : optE o.r o.lo o.hi = 0) : optE (invO o).r (invO o).lo (invO o).hi = 0 := by
  obtain ⟨h1, h2, h3, h4, h5⟩ := optE_ok h
  unfold invO
  show optE (invN o.r.toNat : Nat) o.lo o.hi = 0
  unfold optE invN
  have : 1 ≤ ((if o.r.toNat = 13 then 13 else if o.r.toNat % 2 = 1 then o.r.toNat + 1 else o.r.toNat - 1 : Nat) : Int) ∧ ((if o.r.toNat = 13 then 13 else if o.r.toNat % 2 = 1 then o.r.toNat + 1 else o.r.toNat - 1 : Nat) : Int) ≤ 13 := by
    split
    · omega
    · split <;> omega
  rw [if_pos this, if_pos (by omega), if_neg (by omega)]
theorem swp_inv {o : Op3} (h : optE o.r o.lo o.hi = 0) (h13 : o.r = 13 → o.lo = 0) : Swp (tzO (invO o)) (tzO o) := by
  obtain ⟨h1, h2, h3, h4, h5⟩ := optE_ok h
  obtain ⟨r, lo, hi⟩ := o
  simp only at h1 h2 h3 h4 h5 h13
  obtain ⟨rn, rfl⟩ : ∃ rn : Nat, r = (rn : Int) := ⟨r.toNat, by omega⟩
  show Swp (toldZ (upv ((invN ((rn : Int).toNat) : Nat) : Int).toNat) (upm ((invN ((rn : Int).toNat) : Nat) : Int).toNat) lo hi) (toldZ (upv ((rn : Int).toNat)) (upm ((rn : Int).toNat)) lo hi)
  rw [show ((rn : Int)).toNat = rn by omega, show ((invN rn : Nat) : Int).toNat = invN rn by omega]
  by_cases c : rn = 13
  · subst c
    have l0 := h13 (by omega)
    subst l0
    have e : toldZ (upv 13) (upm 13) 0 hi = teE := told13_0 (by omega)
    have e' : toldZ (upv (invN 13)) (upm (invN 13)) 0 hi = teE := told13_0 (by omega)
    rw [e, e']
    exact swp_teE
  · by_cases d : rn % 2 = 1
    · have i1 : invN rn = rn + 1 := by unfold invN; rw [if_neg c, if_pos d]
      rw [i1]
      have u1 : upv (rn + 1) = rn := by unfold upv; rw [if_pos (by omega)]; omega
      have u2 : upm (rn + 1) = pmS := by unfold upm; rw [if_pos (by omega)]
      have u3 : upv rn = rn := by unfold upv; rw [if_neg (by omega)]
      have u4 : upm rn = pmI := by unfold upm; rw [if_neg (by omega)]
      rw [u1, u2, u3, u4]
      exact swp_told (by omega)
    · have i1 : invN rn = rn - 1 := by unfold invN; rw [if_neg c, if_neg d]
      rw [i1]
      have u1 : upv (rn - 1) = rn - 1 := by unfold upv; rw [if_neg (by omega)]
      have u2 : upm (rn - 1) = pmI := by unfold upm; rw [if_neg (by omega)]
      have u3 : upv rn = rn - 1 := by unfold upv; rw [if_pos (by omega)]
      have u4 : upm rn = pmS := by unfold upm; rw [if_pos (by omega)]
      rw [u1, u2, u3, u4]
      exact (swp_told (by omega)).symm
theorem swp_max {A' A B' B : Mx} (h1 : Swp A' A) (h2 : Swp B' B) : Swp (fun a b => max (A' a b) (B' a b)) (fun a b => max (A a b) (B a b)) := fun x y hx hy => by
  show max (A' x y) (B' x y) = max (A _ _) (B _ _)
  rw [h1 x y hx hy, h2 x y hx hy]
theorem swp_both {o : Op3} (h : optE o.r o.lo o.hi = 0) (h13 : o.r = 13 → o.lo = 0) : Swp (bothR (invO o)) (bothR o) := by
  have hs := swp_inv h h13
  have k1 := tz_ok h
  have k2 := tz_ok (invO_ok h)
  have hc := swp_can hs k1 k2
  have he : Swp (fw teE 4) (fw teE 4) := swp_fw swp_teE ok_eq ok_eq gd_eq
  unfold bothR
  by_cases c : canB o = true
  · rw [hc, if_pos c, if_pos c]
    refine swp_max (swp_fw hs k1 k2 ((gd_iff k1.1).2 ?_)) he
    unfold canB at c
    simpa using c
  · rw [hc, if_neg c, if_neg c]
    exact he
/-- The option of raw numbers may be. -/
theorem optE_raw {r l h : Int} (h1 : 1 ≤ r) (h2 : r ≤ 13) (h3 : 0 ≤ l) (h4 : l ≤ 100) (h5 : h = -1 ∨ (l ≤ h ∧ h ≤ 100)) : optE r l h = 0 := by
  unfold optE
  rw [if_pos ⟨h1, h2⟩, if_pos (by omega), if_neg (by omega)]
theorem opts_two {w : World} {g : Nat} {o p : Op3} (h0 : w.cell? ⟨g, 0, none⟩ = some (.int .i64 o.r)) (h1 : w.cell? ⟨g, 1, none⟩ = some (.int .i64 o.lo)) (h2 : w.cell? ⟨g, 2, none⟩ = some (.int .i64 o.hi)) (h3 : w.cell? ⟨g, 3, none⟩ = some (.int .i64 p.r)) (h4 : w.cell? ⟨g, 4, none⟩ = some (.int .i64 p.lo)) (h5 : w.cell? ⟨g, 5, none⟩ = some (.int .i64 p.hi)) :
    OptsAt w (.slice (some ⟨g, 0, none⟩) 2 2) 2 (two o p) := by
  refine ⟨_, 2, rfl, Nat.le_refl _, by unfold maxLen; omega, fun _ => ⟨g, 0, rfl, fun i hi => ?_⟩⟩
  rcases (by omega : i = 0 ∨ i = 1) with rfl | rfl
  · exact ⟨h0, h1, h2⟩
  · exact ⟨h3, h4, h5⟩
end Go.Proofs.YtgikaheojcpmpabDoor
