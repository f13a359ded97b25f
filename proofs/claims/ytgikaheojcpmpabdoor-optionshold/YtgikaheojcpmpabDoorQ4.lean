/-
  Spans of which an option holds keep to its bounds, in plain words.
-/
import Derived.Test.YtgikaheojcpmpabDoorQ3
import Derived.Test.YtgikaheojcpmpabDoorTSpec
namespace Go.Proofs.YtgikaheojcpmpabDoor
open Go.ChangeShapes Go.WideShapes Go.ChangeAt Go.RowKit Go.Maps
set_option linter.unusedVariables false
set_option linter.unusedSimpArgs false
set_option maxRecDepth 20000
def tt (a1 a2 b1 b2 : Int) : Nat → Int := fun i => if i = 0 then a1 else if i = 1 then a2 else if i = 2 then b1 else b2
def Keep (t : Nat → Int) (Z : Mx) : Prop := ∀ i j, i < 4 → j < 4 → t i - t j ≤ Z i j
theorem keep_fre {a1 a2 b1 b2 : Int} (h1 : 0 ≤ a1 ∧ a1 ≤ 100) (h2 : 0 ≤ a2 ∧ a2 ≤ 100) (h3 : 0 ≤ b1 ∧ b1 ≤ 100) (h4 : 0 ≤ b2 ∧ b2 ≤ 100) : Keep (tt a1 a2 b1 b2) fre := by
  intro i j hi hj
  unfold fre
  rcases (by omega : i = 0 ∨ i = 1 ∨ i = 2 ∨ i = 3) with rfl | rfl | rfl | rfl <;> rcases (by omega : j = 0 ∨ j = 1 ∨ j = 2 ∨ j = 3) with rfl | rfl | rfl | rfl <;> simp [tt] <;> omega
theorem am_keep {t : Nat → Int} {Z : Mx} {pm : Nat → Nat} {p q : Nat} {m : Int} (h : Keep t Z) (hlt : ∀ k, k < 4 → pm k < 4) (hp : p < 4) (hq : q < 4) (hm : t (pm p) - t (pm q) ≤ m) : Keep t (am pm Z p q m) := by
  intro i j hi hj
  unfold am upd
  split
  · rename_i e
    obtain ⟨rfl, rfl⟩ := e
    have := h _ _ (hlt p hp) (hlt q hq)
    omega
  · exact h i j hi hj
theorem tt0 (a1 a2 b1 b2 : Int) : tt a1 a2 b1 b2 0 = a1 := rfl
theorem tt1 (a1 a2 b1 b2 : Int) : tt a1 a2 b1 b2 1 = a2 := rfl
theorem tt2 (a1 a2 b1 b2 : Int) : tt a1 a2 b1 b2 2 = b1 := rfl
theorem tt3 (a1 a2 b1 b2 : Int) : tt a1 a2 b1 b2 3 = b2 := rfl
theorem pS0 : pmS 0 = 2 := rfl
theorem pS1 : pmS 1 = 3 := rfl
theorem pS2 : pmS 2 = 0 := rfl
theorem pS3 : pmS 3 = 1 := rfl
theorem pI (k : Nat) : pmI k = k := rfl
theorem keep_of {o : Op3} {a1 a2 b1 b2 : Int} (ho : optE o.r o.lo o.hi = 0) (ha : 0 ≤ a1 ∧ a1 ≤ a2 ∧ a2 ≤ 100) (hb : 0 ≤ b1 ∧ b1 ≤ b2 ∧ b2 ≤ 100) (hf : T1.fV o.r o.lo o.hi a1 a2 b1 b2 = true) : Keep (tt a1 a2 b1 b2) (tzO o) := by
  obtain ⟨h1, h2, h3, h4, h5⟩ := optE_ok ho
  obtain ⟨r, lo, hi⟩ := o
  simp only at h1 h2 h3 h4 h5 hf
  have hF : Keep (tt a1 a2 b1 b2) fre := keep_fre (by omega) (by omega) (by omega) (by omega)
  unfold T1.fV at hf
  simp only [Bool.and_eq_true, decide_eq_true_eq, Bool.or_eq_true] at hf
  obtain ⟨_, hr, hg1, hg2⟩ := hf
  show Keep _ (toldZ (upv r.toNat) (upm r.toNat) lo hi)
  rcases T1.rel_num r h1 h2 with rfl | rfl | rfl | rfl | rfl | rfl | rfl | rfl | rfl | rfl | rfl | rfl | rfl <;> simp [T1.rel, T1.gp] at hr hg1 hg2 <;> simp only [upv, upm, toldZ, apF, apT] <;> simp only [tellZ] <;> simp only [show Int.toNat 1 = 1 from rfl, show Int.toNat 2 = 2 from rfl, show Int.toNat 3 = 3 from rfl, show Int.toNat 4 = 4 from rfl, show Int.toNat 5 = 5 from rfl, show Int.toNat 6 = 6 from rfl, show Int.toNat 7 = 7 from rfl, show Int.toNat 8 = 8 from rfl, show Int.toNat 9 = 9 from rfl, show Int.toNat 10 = 10 from rfl, show Int.toNat 11 = 11 from rfl, show Int.toNat 12 = 12 from rfl, show Int.toNat 13 = 13 from rfl] <;> simp <;> split <;> repeat (first | exact hF | (refine am_keep ?_ (by first | exact pmI_lt | exact pmS_lt) (by decide) (by decide) (by simp only [pS0, pS1, pS2, pS3, pI, tt0, tt1, tt2, tt3]; omega)))
theorem pot_cls {n : Nat} (t : Nat → Int) : Cls n n (fun i j => t i - t j) := fun i k j _ _ _ _ _ => by
  show t i - t j ≤ (t i - t k) + (t k - t j)
  omega
theorem pot_gd {n : Nat} {t : Nat → Int} {m : Mx} (hn : n ≤ 12) (hb : Bnd n 2147483648 m) (hd : ∀ i, i < n → m i i = 0) (hm : ∀ a b, a < n → b < n → t a - t b ≤ m a b) : Gd n n m := fun s hs i hi => by
  have h1 := cls_le hn hb (pot_cls t) hm s hs i i hi hi
  have h2 := fw_mono m (Nat.zero_le s) i i
  have h3 : fw m 0 i i = 0 := hd i hi
  have h4 : (fun i j => t i - t j) i i = t i - t i := rfl
  omega
/-- The bounds of two options of which the second one can be. -/
def eitherR (o p : Op3) : Mx := if canB o = true then (fun a b => max (fw (tzO o) 4 a b) (fw (tzO p) 4 a b)) else fw (tzO p) 4
theorem opR_two {o p : Op3} (hp : canB p = true) : opR (two o p) 2 = some (eitherR o p) := by
  have e0 : two o p 0 = o := rfl
  have e1 : two o p 1 = p := rfl
  unfold eitherR
  rw [opR, opR, opR, e0, e1, if_pos hp]
  by_cases c : canB o = true
  · rw [if_pos c, if_pos c]
  · rw [if_neg c, if_neg c]
theorem keep_fw {o : Op3} {t : Nat → Int} (ho : optE o.r o.lo o.hi = 0) (h : Keep t (tzO o)) : canB o = true ∧ Keep t (fw (tzO o) 4) := by
  have hk := tz_ok ho
  have hB : Bnd 4 2147483648 (tzO o) := hk.2.mono (by decide)
  constructor
  · unfold canB
    rw [(gd_iff hk.1).1 (pot_gd (by decide) hB hk.1 h)]
    rfl
  · exact fun i j hi hj => cls_le (by decide) hB (pot_cls t) h 4 (Nat.le_refl _) i j hi hj
theorem keep_either {o p : Op3} {t : Nat → Int} (h : (canB o = true ∧ Keep t (fw (tzO o) 4)) ∨ Keep t (fw (tzO p) 4)) : Keep t (eitherR o p) := by
  intro i j hi hj
  unfold eitherR
  rcases h with ⟨h1, h2⟩ | h2
  · rw [if_pos h1]
    have := h2 i j hi hj
    show _ ≤ max _ _
    omega
  · have := h2 i j hi hj
    by_cases c : canB o = true
    · rw [if_pos c]
      show _ ≤ max _ _
      omega
    · rw [if_neg c]
      exact this
theorem can_plain {r : Int} (h1 : 1 ≤ r) (h2 : r ≤ 13) : canB ⟨r, 0, -1⟩ = true := by
  rcases T1.rel_num r h1 h2 with rfl | rfl | rfl | rfl | rfl | rfl | rfl | rfl | rfl | rfl | rfl | rfl | rfl <;> decide
theorem can_not : canB ⟨13, 1, 2⟩ = false := by decide
theorem opR_not : opR (fun _ => ⟨13, 1, 2⟩) 1 = none := by
  rw [opR, if_neg (by rw [can_not]; decide), opR]
theorem opE_not : opE (fun _ => ⟨13, 1, 2⟩) 1 = 0 := by decide
theorem opts_one {w : World} {g : Nat} {o : Op3} (h0 : w.cell? ⟨g, 0, none⟩ = some (.int .i64 o.r)) (h1 : w.cell? ⟨g, 1, none⟩ = some (.int .i64 o.lo)) (h2 : w.cell? ⟨g, 2, none⟩ = some (.int .i64 o.hi)) :
    OptsAt w (.slice (some ⟨g, 0, none⟩) 1 1) 1 (fun _ => o) := by
  refine ⟨_, 1, rfl, Nat.le_refl _, by unfold maxLen; omega, fun _ => ⟨g, 0, rfl, fun i hi => ?_⟩⟩
  obtain rfl : i = 0 := by omega
  exact ⟨h0, h1, h2⟩
end Go.Proofs.YtgikaheojcpmpabDoor
