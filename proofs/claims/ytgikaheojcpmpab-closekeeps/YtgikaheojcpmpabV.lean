/-
  What is closed stays closed; raw matrices are closed.
-/
import Derived.Test.YtgikaheojcpmpabY
import Derived.Test.YtgikaheojcpmpabN1
import Derived.Test.YtgikaheojcpmpabH2
namespace Go.Proofs.Ytgikaheojcpmpab
open Go.ChangeShapes Go.WideShapes Go.ChangeAt Go.RowKit Go.Maps
set_option linter.unusedVariables false
set_option linter.unusedSimpArgs false
set_option maxRecDepth 20000
theorem fw_fix {n : Nat} {C : Mx} (hC : Cls n n C) : ∀ t, t ≤ n → ∀ a b, a < n → b < n → fw C t a b = C a b
  | 0, _, a, b, _, _ => rfl
  | t + 1, ht, a, b, ha, hb => by
    have e1 := fw_fix hC t (by omega) a b ha hb
    have e2 := fw_fix hC t (by omega) a t ha (by omega)
    have e3 := fw_fix hC t (by omega) t b (by omega) hb
    show stepF (fw C t) t a b = C a b
    unfold stepF
    rw [e1, e2, e3]
    have c := hC a t b ha (by omega) hb
    split
    · rfl
    · omega
theorem gd_fix {n : Nat} {C : Mx} (hC : Cls n n C) (hd : ∀ i, i < n → C i i = 0) : Gd n n C := fun s hs i hi => by rw [fw_fix hC s hs i i hi hi]; exact hd i hi
theorem owR_of {n : Nat} {Z : Mx} (hd : ∀ i, i < n → Z i i = 0) (hb : Bnd n 2147483648 Z) : ∀ {j : Nat}, j ≤ n → owR n Z j = 0
  | 0, _ => rfl
  | j + 1, hj => by
    rw [owR, owR_of hd hb (by omega), if_neg (by decide), if_neg (by rw [hd j (by omega)]; decide), if_pos (wth_of fun k hk => hb j k (by omega) hk)]
theorem own_of {n : Nat} {Z : Mx} (hn : n ≤ 12) (hd : ∀ i, i < n → Z i i = 0) (hb : Bnd n 2147483648 Z) : own n (fun _ => n) Z = 0 := by
  unfold own
  rw [chk_sq hn (fun _ _ => rfl) (fun i hi k hk => by have := hb i k hi hk; unfold inb; omega), if_neg (by decide), owR_of hd hb (Nat.le_refl _)]
theorem raw_bnd {n : Nat} {Z : Mx} (h : Raw n Z) : Bnd n 44 Z := fun a b ha hb => by have := h.2 a b ha hb; omega
theorem fw_raw {n : Nat} {Z : Mx} (hn : n ≤ 12) (h : Bnd n 64 Z) {t : Nat} (ht : t ≤ n) : Bnd n 262144 (fw Z t) := by
  refine (fw_bnd h (by decide) t ht).mono ?_
  have h2 : (2 : Int) ^ t ≤ 4096 := pow_le12 (by omega)
  have h3 : (2 : Int) ^ t * 64 ≤ 4096 * 64 := Int.mul_le_mul_of_nonneg_right h2 (by decide)
  exact Int.le_trans h3 (by decide)
/-- Two points, 3 apart at most. -/
def two3 : Mx := fun i k => if i = k then 0 else if i = 0 then 3 else 1152921504606846976
theorem two3_gd : Gd 2 2 two3 := by
  intro s hs i hi
  rcases (by omega : s = 0 ∨ s = 1 ∨ s = 2) with rfl | rfl | rfl <;> rcases (by omega : i = 0 ∨ i = 1) with rfl | rfl <;> decide
theorem two3_at : fw two3 2 0 1 = 3 := by decide
theorem two3_own : own 2 (fun _ => 2) two3 = 0 := own_of (by decide) (fun i hi => by simp [two3]) (fun a b ha hb => by unfold two3; split; omega; split <;> omega)
theorem mat_two (w : World) (x0 x1 x2 x3 : Int) (Z : Mx) (h0 : Z 0 0 = x0) (h1 : Z 0 1 = x1) (h2 : Z 1 0 = x2) (h3 : Z 1 1 = x3) :
    MatAt (((w.alloc (.cells #[.int .i64 x0, .int .i64 x1] 3)).alloc (.cells #[.int .i64 x2, .int .i64 x3] 3)).alloc (.cells #[.slice (some ⟨w.heap.size, 0, none⟩) 2 2, .slice (some ⟨w.heap.size + 1, 0, none⟩) 2 2] 22)) (.slice (some ⟨w.heap.size + 1 + 1, 0, none⟩) 2 2) 2 (fun _ => 2) Z := by
  refine ⟨_, 2, rfl, Nat.le_refl _, by unfold maxLen; omega, fun _ => ⟨w.heap.size + 1 + 1, 0, rfl, fun i hi => ?_⟩⟩
  rcases (by omega : i = 0 ∨ i = 1) with rfl | rfl
  · refine ⟨.slice (some ⟨w.heap.size, 0, none⟩) 2 2, by go_simp, _, 2, rfl, Nat.le_refl _, by unfold maxLen; omega, fun _ => ⟨w.heap.size, 0, rfl, fun k hk => ?_⟩⟩
    have hk2 : k < 2 := hk
    rcases (by omega : k = 0 ∨ k = 1) with rfl | rfl
    · rw [h0]; go_simp
    · rw [h1]; go_simp
  · refine ⟨.slice (some ⟨w.heap.size + 1, 0, none⟩) 2 2, by go_simp, _, 2, rfl, Nat.le_refl _, by unfold maxLen; omega, fun _ => ⟨w.heap.size + 1, 0, rfl, fun k hk => ?_⟩⟩
    have hk2 : k < 2 := hk
    rcases (by omega : k = 0 ∨ k = 1) with rfl | rfl
    · rw [h2]; go_simp
    · rw [h3]; go_simp
theorem OwnM.at2' {w : World} {B b n : Nat} {G C : Nat → Nat} {Z : Nat → Nat → Int} (h : OwnM w B b n (fun _ => n) G C Z) {i j : Nat} (hi : i < n) (hj : j < n) :
    w.cell? ⟨b, i, none⟩ = some (.slice (some ⟨G i, 0, none⟩) n (C i)) ∧ w.cell? ⟨G i, j, none⟩ = some (.int .i64 (Z i j)) ∧ n ≤ C i := by
  obtain ⟨q1, e1, f1⟩ := h.top i hi
  rw [f1 (by omega)] at e1
  exact ⟨e1, (h.row i hi (by omega)).cell hj, (h.cp i hi).1⟩
/-- A matrix that lies at hand. -/
def Hnd (w : World) (V : Value) (n cap b : Nat) (p : Option Addr) (G C : Nat → Nat) (Z : Mx) : Prop := V = .slice p n cap ∧ (0 < n → p = some ⟨b, 0, none⟩) ∧ n ≤ cap ∧ cap ≤ maxLen ∧ OwnM w 0 b n (fun _ => n) G C Z
theorem New.hnd {w w' : World} {V : Value} {n : Nat} {Z : Mx} (h : New w w' V n (fun _ => n) Z) : ∃ p cap b G C, Hnd w' V n cap b p G C Z := by
  obtain ⟨p, cap, b, G, C, h1, h2, h3, h4, h5⟩ := h
  exact ⟨p, cap, b, G, C, h1, h2, h3, h4, h5.base (Nat.zero_le _)⟩
theorem Hnd.later {w w' : World} {V : Value} {n cap b : Nat} {p : Option Addr} {G C : Nat → Nat} {Z : Mx} (h : Hnd w V n cap b p G C Z) (hb : Below w.heap.size w w') : Hnd w' V n cap b p G C Z := ⟨h.1, h.2.1, h.2.2.1, h.2.2.2.1, h.2.2.2.2.of_below hb⟩
theorem Hnd.mat {w : World} {V : Value} {n cap b : Nat} {p : Option Addr} {G C : Nat → Nat} {Z : Mx} (h : Hnd w V n cap b p G C Z) : MatAt w V n (fun _ => n) Z := by
  obtain ⟨rfl, h2, h3, h4, h5⟩ := h
  exact h5.mat h2 h3 h4
theorem below_dn4 {w : World} {m : Nat} {w' : World} (h : w' = w.drewN m) : Below w.heap.size w w' := by subst h; exact below_drewN (Below.refl _ _) _
end Go.Proofs.Ytgikaheojcpmpab
