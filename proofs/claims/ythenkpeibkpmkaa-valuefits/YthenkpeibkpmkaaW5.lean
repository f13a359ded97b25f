/-
  The walk of ValueFits.
-/
import Derived.Test.YthenkpeibkpmkaaL
import Derived.Test.YthenkpeibkpmkaaN
namespace Go.Proofs.Ythenkpeibkpmkaa
open Go.ChangeShapes Go.WideShapes Go.ChangeAt Go.RowKit
set_option linter.unusedVariables false
set_option linter.unusedSimpArgs false
set_option maxHeartbeats 4000000 in
theorem valueFits_walk (t : Ty) (v u : Value) (l : List Vl) (w : World) (hv : FieldsAt w v t.fs) (hu : ValsAt w u l) (hb : l.length * 32 ≤ 140737488355328) :
    Calls Try.prog 7 #[.agg #[.string t.s, v], u] w fun e w' => e = .returned (.bool true) ∧ Below w.heap.size w w' := by
  obtain ⟨s, fs⟩ := t
  obtain ⟨r, hr⟩ : ∃ r, fit ⟨s, fs⟩ l = r := ⟨_, rfl⟩
  have HV : Hid (FieldsAt w v fs) := hv
  have HU : Hid (ValsAt w u l) := hu
  have HBL : Hid (l.length * 32 ≤ 140737488355328) := hb
  have H1 : Hid (∀ W u', Below w.heap.size w W → ValsAt W u' l → Calls Try.prog 17 #[.agg #[.string s, v], u'] W fun e w' => e = .returned (.int .i64 r) ∧ Below W.heap.size W w') := fun W u' hb hu' => by rw [← hr]; exact fit_any ⟨s, fs⟩ _ _ _ _ (HV.out.below hb) hu'
  have H2 : Hid (∀ W, Below w.heap.size w W → Calls Try.prog 18 #[.agg #[.string s, v], u] W fun e w' => e = .returned (.int .i64 r) ∧ Below W.heap.size W w') := fun W hb => by rw [← hr]; exact ffault_any ⟨s, fs⟩ _ _ _ _ (HV.out.below hb) (HU.out.below hb)
  obtain ⟨p, cap, hsh, _, _⟩ := hv.shape
  obtain ⟨p2, cap2, hsh2, _, _⟩ := hu.shape
  simp only at hsh
  obtain ⟨n, hn⟩ : ∃ n, fs.length = n := ⟨_, rfl⟩
  obtain ⟨m, hm⟩ : ∃ m, l.length = m := ⟨_, rfl⟩
  rw [hn] at hsh
  rw [hm] at hsh2
  subst hsh hsh2
  clear hr hv hu hn hm hb
  go_enter Try.func7, Try.ntmps7
  go_wp2_with fail
  have x0 : (w.alloc (.cells #[.string s, .slice p n cap] 34)).cell? ⟨w.heap.size, 0, none⟩ = some (.string s) := cell_new rfl rfl
  have x1 : (w.alloc (.cells #[.string s, .slice p n cap] 34)).cell? ⟨w.heap.size, 1, none⟩ = some (.slice p n cap) := cell_new rfl rfl
  have HW1 : Hid (Below w.heap.size w (w.alloc (.cells #[.string s, .slice p n cap] 34)) ∧ w.heap.size < (w.alloc (.cells #[.string s, .slice p n cap] 34)).heap.size) := ⟨(Below.refl _ w).alloc (Nat.le_refl _) _, by simp⟩
  generalize w.alloc (.cells #[.string s, .slice p n cap] 34) = W1 at x0 x1 HW1 ⊢
  go_region_held3 (fun w' => w'.cell? ⟨w.heap.size, 0, none⟩ = some (.string s) ∧ w'.cell? ⟨w.heap.size, 1, none⟩ = some (.slice p n cap))
    (first | exact ⟨r0, r1⟩ | exact ⟨q0, q1⟩ | (go_keep; done))
    (first
      | (go_at_call 17; refine (H1.out _ _ HA.out (vals_own HO.out)).mono ?_; rintro e w2 ⟨rfl, hb2⟩; have HB2 : Hid (Below wA.heap.size wA w2) := hb2; have r0 : w2.cell? ⟨w.heap.size, 0, none⟩ = some (.string s) := (hb2.cell (p := ⟨w.heap.size, 0, none⟩) (World.block_lt_of_cell? _ _ q0)).trans q0; have r1 : w2.cell? ⟨w.heap.size, 1, none⟩ = some (.slice p n cap) := (hb2.cell (p := ⟨w.heap.size, 1, none⟩) (World.block_lt_of_cell? _ _ q1)).trans q1; clear hb2)
      | (refine step_copy _ (by rfl) _ _ (by rfl) (.slice p2 m cap2) l (by rfl) (by rfl) (HU.out.below HW1.out.1.drew) HBL.out ?_; intro v' wA hown hgA; obtain ⟨p3, cap3, hv3⟩ := own_shape hown; subst hv3; have HO : Hid (wA.ownsRow W1.drew.heap.size 23 3 (.slice p3 l.length cap3) l.length (l.flatMap encV)) := hown; have HA : Hid (Below w.heap.size w wA) := below_trans HW1.out.1.drew hgA (by have := HW1.out; simp; omega); have q0 : wA.cell? ⟨w.heap.size, 0, none⟩ = some (.string s) := (hgA.cell (p := ⟨w.heap.size, 0, none⟩) (by have := HW1.out; simp; omega)).trans x0; have q1 : wA.cell? ⟨w.heap.size, 1, none⟩ = some (.slice p n cap) := (hgA.cell (p := ⟨w.heap.size, 1, none⟩) (by have := HW1.out; simp; omega)).trans x1; clear hown hgA))
  have HB3 : Hid (Below w.heap.size w w2) := below_trans HA.out HB2.out HA.out.size
  clear x0 x1 q0 q1 HO HA HB2
  go_wp2_with fail
  refine (H2.out _ HB3.out).mono ?_
  rintro e w4 ⟨rfl, hb4⟩
  have HB4 : Hid (Below w.heap.size w w4) := below_trans HB3.out hb4 HB3.out.size
  clear hb4 r0 r1
  go_wp2
  go_ret
  exact ⟨ret_bool (by simp), HB4.out⟩
end Go.Proofs.Ythenkpeibkpmkaa
