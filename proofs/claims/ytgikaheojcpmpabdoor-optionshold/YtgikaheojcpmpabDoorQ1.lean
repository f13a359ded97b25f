/-
  The bounds of the inverse, in plain words.
-/
import Derived.Test.YtgikaheojcpmpabDoorO6
namespace Go.Proofs.YtgikaheojcpmpabDoor
open Go.ChangeShapes Go.WideShapes Go.ChangeAt Go.RowKit Go.Maps
set_option linter.unusedVariables false
set_option linter.unusedSimpArgs false
set_option maxRecDepth 20000
/-- Z' is Z with the spans in each other's place. -/
def Swp (Z' Z : Mx) : Prop := ∀ x y, x < 4 → y < 4 → Z' x y = Z (pmS x) (pmS y)
theorem pmS_pmS {x : Nat} (h : x < 4) : pmS (pmS x) = x := by unfold pmS; omega
theorem Swp.symm {Z' Z : Mx} (h : Swp Z' Z) : Swp Z Z' := fun x y hx hy => by
  rw [h _ _ (pmS_lt x hx) (pmS_lt y hy), pmS_pmS hx, pmS_pmS hy]
theorem swp_fre : Swp fre fre := fun x y hx hy => by
  unfold fre pmS
  by_cases c : x = y
  · subst c; rw [if_pos rfl, if_pos rfl]
  · rw [if_neg c, if_neg (by omega)]
theorem swp_am {Z' Z : Mx} (h : Swp Z' Z) {p q : Nat} (hp : p < 4) (hq : q < 4) (m : Int) : Swp (am pmS Z' p q m) (am pmI Z p q m) := fun x y hx hy => by
  unfold am upd pmI
  have e1 : Z' (pmS p) (pmS q) = Z p q := by rw [h _ _ (pmS_lt p hp) (pmS_lt q hq), pmS_pmS hp, pmS_pmS hq]
  by_cases c : x = pmS p ∧ y = pmS q
  · obtain ⟨rfl, rfl⟩ := c
    rw [if_pos ⟨rfl, rfl⟩, if_pos ⟨pmS_pmS hp, pmS_pmS hq⟩, e1]
  · rw [if_neg c, if_neg (fun d => c (by
      obtain ⟨d1, d2⟩ := d
      constructor
      · rw [← d1, pmS_pmS hx]
      · rw [← d2, pmS_pmS hy]))]
    exact h x y hx hy
theorem swp_told {v : Nat} {lo hi : Int} (hv : v = 1 ∨ v = 3 ∨ v = 5 ∨ v = 7 ∨ v = 9 ∨ v = 11 ∨ v = 13) : Swp (toldZ v pmS lo hi) (toldZ v pmI lo hi) := by
  unfold toldZ
  rcases hv with rfl | rfl | rfl | rfl | rfl | rfl | rfl <;> split <;> simp only [tellZ, apF, apT] <;> repeat (first | exact swp_fre | (refine swp_am ?_ (by decide) (by decide) _))
theorem swp_cls {Z' Z : Mx} (h : Swp Z' Z) (hc : Cls 4 4 Z) : Cls 4 4 Z' := fun i k j hi hk hj h1 h2 => by
  rw [h i j hi hj, h i k hi hk, h k j hk hj]
  rw [h i k hi hk] at h1
  rw [h k j hk hj] at h2
  exact hc _ _ _ (pmS_lt i hi) (pmS_lt k hk) (pmS_lt j hj) h1 h2
/-- What is closed of the one is closed of the other. -/
theorem swp_le {Z' Z : Mx} (h : Swp Z' Z) (hb : Bnd 4 1073741824 Z) (hb' : Bnd 4 1073741824 Z') (hg : Gd 4 4 Z) : ∀ t, t ≤ 4 → ∀ x y, x < 4 → y < 4 → fw Z 4 (pmS x) (pmS y) ≤ fw Z' t x y := by
  have hB : Bnd 4 2147483648 Z := hb.mono (by decide)
  have hc := fw_cls (by decide) hB (Nat.le_refl 4) hg
  have hs : Swp (fun x y => fw Z 4 (pmS x) (pmS y)) (fw Z 4) := fun x y _ _ => rfl
  exact cls_le (Q := fun x y => fw Z 4 (pmS x) (pmS y)) (by decide) (hb'.mono (by decide)) (swp_cls hs hc) (fun a b ha hb2 => by
    show fw Z 4 (pmS a) (pmS b) ≤ Z' a b
    rw [h a b ha hb2]
    exact fw_mono Z (Nat.zero_le 4) _ _)
theorem swp_gd {Z' Z : Mx} (h : Swp Z' Z) (hb : Bnd 4 1073741824 Z) (hb' : Bnd 4 1073741824 Z') (hd : ∀ i, i < 4 → Z' i i = 0) (hg : Gd 4 4 Z) : Gd 4 4 Z' := fun s hs i hi => by
  have h1 := swp_le h hb hb' hg s hs i i hi hi
  have h2 := fw_mono Z' (Nat.zero_le s) i i
  have h3 : fw Z' 0 i i = 0 := hd i hi
  have h4 := hg 4 (Nat.le_refl _) (pmS i) (pmS_lt i hi)
  omega
theorem swp_fw {Z' Z : Mx} (h : Swp Z' Z) (hk : OkZ Z) (hk' : OkZ Z') (hg : Gd 4 4 Z) : Swp (fw Z' 4) (fw Z 4) := fun x y hx hy => by
  have hg' := swp_gd h hk.2 hk'.2 hk'.1 hg
  have h1 := swp_le h hk.2 hk'.2 hg 4 (Nat.le_refl _) x y hx hy
  have h2 := swp_le h.symm hk'.2 hk.2 hg' 4 (Nat.le_refl _) (pmS x) (pmS y) (pmS_lt x hx) (pmS_lt y hy)
  rw [pmS_pmS hx, pmS_pmS hy] at h2
  omega
theorem swp_can {o' o : Op3} (h : Swp (tzO o') (tzO o)) (hk : OkZ (tzO o)) (hk' : OkZ (tzO o')) : canB o' = canB o := by
  have g1 := gd_iff (n := 4) hk.1
  have g2 := gd_iff (n := 4) hk'.1
  unfold canB
  cases h1 : ngb (fw (tzO o) 4) 4 with
  | false => rw [g2.1 (swp_gd h hk.2 hk'.2 hk'.1 (g1.2 h1))]
  | true =>
    cases h2 : ngb (fw (tzO o') 4) 4 with
    | true => rfl
    | false => rw [g1.1 (swp_gd h.symm hk'.2 hk.2 hk.1 (g2.2 h2))] at h1; simp at h1
end Go.Proofs.YtgikaheojcpmpabDoor
