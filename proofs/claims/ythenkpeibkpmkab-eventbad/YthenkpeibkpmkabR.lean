/-
  What the document says of an event.
-/
import Derived.Test.YthenkpeibkpmkabO
namespace Go.Proofs.Ythenkpeibkpmkab
open Go.ChangeShapes Go.WideShapes Go.ChangeAt Go.RowKit
set_option linter.unusedVariables false
set_option linter.unusedSimpArgs false
set_option maxHeartbeats 8000000 in
theorem eventFault_any (v : Value) (ts : List Ty) (num typ st en : Int) (u : Value) (l : List Vl) (w : World) (hv : TysAt w v ts) (hu : ValsAt w u l) :
    Calls Try.prog 10 #[v, .agg #[.int .i64 num, .int .i64 typ, .int .i64 st, .int .i64 en, u]] w fun e w' => e = .returned (.int .i64 (echk ts num typ st en l)) ∧ Below w.heap.size w w' := by
  obtain ⟨R, hR⟩ : ∃ R, echk ts num typ st en l = R := ⟨_, rfl⟩
  obtain ⟨n, hn⟩ : ∃ n, ts.length = n := ⟨_, rfl⟩
  obtain ⟨r, hr⟩ : ∃ r, schk st en = r := ⟨_, rfl⟩
  have HU : Hid (ValsAt w u l) := hu
  have HN : Hid (ts.length = n) := hn
  have HR : Hid (echk ts num typ st en l = R) := hR
  have H1 : Hid (∀ W, Calls Try.prog 22 #[.agg #[.int .i64 st, .int .i64 en]] W fun e w' => e = .returned (.int .i64 r) ∧ Below W.heap.size W w') := fun W => by rw [← hr]; exact spanFault_any _ _ _
  have HRR : Hid (schk st en = r) := hr
  rw [hR]
  obtain ⟨p, cap, hsh, hcap, hmx, htc⟩ := hv
  obtain ⟨p2, cap2, hsh2, _, _⟩ := hu.shape
  obtain ⟨m, hm⟩ : ∃ m, l.length = m := ⟨_, rfl⟩
  rw [hm] at hsh2
  rw [hn] at hsh
  subst hsh hsh2
  have HTC : Hid (0 < ts.length → ∃ g off, p = some ⟨g, off, none⟩ ∧ ∀ j (hj : j < ts.length), g < w.heap.size ∧ w.cell? ⟨g, off + j * 2, none⟩ = some (.string ts[j].s) ∧ ∃ u, w.cell? ⟨g, off + j * 2 + 1, none⟩ = some u ∧ FieldsAt w u ts[j].fs) := htc
  have hmxi : (n : Int) ≤ 9223372036854775807 := by unfold maxLen at hmx; omega
  have hw1 : wrap64 ((n : Int) - 1) = (n : Int) - 1 := by unfold wrap64; omega
  clear hR hn hr hu htc hm hmx
  by_cases h1 : num < 1 ∨ 1048576 < num
  · have hx : R = 2 := by rw [← HR.out]; unfold echk; rw [if_pos h1]
    have HX : Hid (R = 2) := hx
    clear hx
    have HI : Hid (Say false (1 ≤ num ∧ num ≤ 1048576)) := Say.no (by omega)
    go_enter Try.func10, Try.ntmps10
    go_wp2_with (go_at_call 21; refine (in_any _ _ _ _ HI.out _).mono ?_; rintro e w2 ⟨rfl, rfl⟩)
    go_ret
    exact ⟨ret_int HX.out.symm, (Below.refl _ w).alloc (Nat.le_refl _) _⟩
  · have n1 : ¬ num < 1 := by omega
    have n2 : ¬ 1048576 < num := by omega
    have H0 : Hid (¬ (num < 1 ∨ 1048576 < num)) := h1
    by_cases h2 : typ < 0 ∨ (n : Int) ≤ typ
    · have hx : R = 6 := by rw [← HR.out]; unfold echk; rw [if_neg h1, if_pos (by rw [HN.out]; exact h2)]
      have HX : Hid (R = 6) := hx
      clear hx h1
      have HI : Hid (Say true (1 ≤ num ∧ num ≤ 1048576)) := Say.yes (by omega)
      have HJ : Hid (Say false (0 ≤ typ ∧ typ ≤ (n : Int) - 1)) := Say.no (by omega)
      go_enter Try.func10, Try.ntmps10
      go_wp2_with (first | (go_at_call_of 21 (Value.int IntKind.i64 1048576); refine (in_any _ _ _ _ HI.out _).mono ?_; rintro e w2 ⟨rfl, rfl⟩) | (go_at_call_of 21 (Value.int IntKind.i64 0); refine (in_any _ _ _ _ HJ.out _).mono ?_; rintro e w2 ⟨rfl, rfl⟩))
      go_ret
      exact ⟨ret_int HX.out.symm, (Below.refl _ w).alloc (Nat.le_refl _) _⟩
    · obtain ⟨j, hj⟩ : ∃ j : Nat, typ = (j : Int) := ⟨typ.toNat, by omega⟩
      subst hj
      have hjl : j < ts.length := by have := HN.out; omega
      have t1 : (0 : Int) ≤ (j : Int) := by omega
      have t2 : (j : Int) < (n : Int) := by omega
      have t3 : ¬ ((n : Int) ≤ (j : Int)) := by omega
      have t4 : decide ((n : Int) ≤ (j : Int)) = false := by simp; omega
      have t5 : decide ((j : Int) < 0) = false := by simp
      have hx : R = if r ≠ 0 then r else fit ts[j] l := by rw [← HR.out, echk_typ hjl h1 rfl, HRR.out]
      obtain ⟨q, hq⟩ : ∃ q, fit ts[j] l = q := ⟨_, rfl⟩
      rw [hq] at hx
      have HX : Hid (R = if r ≠ 0 then r else q) := hx
      obtain ⟨g, off, hg, hcl⟩ := HTC.out (by omega)
      subst hg
      obtain ⟨hgs, c0, uf, c1, hF⟩ := hcl j hjl
      have HF : Hid (FieldsAt w uf ts[j].fs) := hF
      have H2 : Hid (∀ W, Below w.heap.size w W → Calls Try.prog 23 #[.agg #[.string ts[j].s, uf], .slice p2 m cap2] W fun e w' => e = .returned (.int .i64 q) ∧ Below W.heap.size W w') := fun W hb => by rw [← hq]; exact ffault_any ts[j] _ _ _ _ (HF.out.below hb) (HU.out.below hb)
      obtain ⟨pf, capf, hshf, hF1, hF2⟩ := hF.shape
      obtain ⟨nf, hnf⟩ : ∃ nf, ts[j].fs.length = nf := ⟨_, rfl⟩
      rw [hnf] at hshf
      subst hshf
      obtain ⟨tn, htn⟩ : ∃ x, ts[j].s = x := ⟨_, rfl⟩
      rw [htn] at c0 H2
      have HGS : Hid (g < w.heap.size ∧ w.cell? ⟨g, off + j * 2, none⟩ = some (.string tn) ∧ w.cell? ⟨g, off + j * 2 + 1, none⟩ = some (.slice pf nf capf)) := ⟨hgs, c0, c1⟩
      clear hx hq hcl HF hF hF1 hF2 hnf htn hgs c0 c1 h1 h2 hjl
      have HI : Hid (Say true (1 ≤ num ∧ num ≤ 1048576)) := Say.yes (by omega)
      have HJ : Hid (Say true (0 ≤ (j : Int) ∧ (j : Int) ≤ (n : Int) - 1)) := Say.yes (by omega)
      go_enter Try.func10, Try.ntmps10
      go_wp2_with (first | (go_at_call_of 21 (Value.int IntKind.i64 1048576); refine (in_any _ _ _ _ HI.out _).mono ?_; rintro e w2 ⟨rfl, rfl⟩) | (go_at_call_of 21 (Value.int IntKind.i64 0); refine (in_any _ _ _ _ HJ.out _).mono ?_; rintro e w2 ⟨rfl, rfl⟩) | (fail))
      refine (H1.out _).mono ?_
      rintro e w1 ⟨rfl, hb1⟩
      have HB1 : Hid (Below w.heap.size w w1) := below_trans ((Below.refl _ w).alloc (Nat.le_refl _) (.cells #[.int .i64 num, .int .i64 (j : Int), .int .i64 st, .int .i64 en, .slice p2 m cap2] 27)) hb1 (by simp)
      have x1 : w1.cell? ⟨w.heap.size, 1, none⟩ = some (.int .i64 (j : Int)) := (hb1.cell (by simp)).trans (cell_new rfl rfl)
      have x4 : w1.cell? ⟨w.heap.size, 4, none⟩ = some (.slice p2 m cap2) := (hb1.cell (by simp)).trans (cell_new rfl rfl)
      have y0 : w1.cell? ⟨g, off + j * 2, none⟩ = some (.string tn) := (HB1.out.cell (p := ⟨g, off + j * 2, none⟩) HGS.out.1).trans HGS.out.2.1
      have y1 : w1.cell? ⟨g, off + j * 2 + 1, none⟩ = some (.slice pf nf capf) := (HB1.out.cell (p := ⟨g, off + j * 2 + 1, none⟩) HGS.out.1).trans HGS.out.2.2
      clear hb1
      by_cases hr0 : r = 0
      · subst hr0
        have hx : R = q := by have := HX.out; simpa using this
        have HXQ : Hid (R = q) := hx
        clear hx HX
        have HLT : Hid (w.heap.size < w1.heap.size ∧ g < w1.heap.size) := ⟨World.block_lt_of_cell? w1 ⟨w.heap.size, 1, none⟩ x1, World.block_lt_of_cell? w1 ⟨g, off + j * 2, none⟩ y0⟩
        go_wp2_with fail
        go_region_held3 (fun w' => w'.cell? ⟨w.heap.size, 1, none⟩ = some (.int .i64 (j : Int)) ∧ w'.cell? ⟨w.heap.size, 4, none⟩ = some (.slice p2 m cap2) ∧ w'.cell? ⟨g, off + j * 2, none⟩ = some (.string tn) ∧ w'.cell? ⟨g, off + j * 2 + 1, none⟩ = some (.slice pf nf capf))
          (first | exact ⟨z0, z1, z2, z3⟩ | (go_keep; done))
          ((go_at_call 23; refine (H2.out _ HB1.out.drew).mono ?_; rintro e w2 ⟨rfl, hb2⟩; have HB2 : Hid (Below w1.heap.size w1 w2) := below_trans ((Below.refl _ w1).drew) hb2 (Nat.le_refl _); have z0 : w2.cell? ⟨w.heap.size, 1, none⟩ = some (.int .i64 (j : Int)) := (HB2.out.cell (p := ⟨w.heap.size, 1, none⟩) (HLT.out.1)).trans x1; have z1 : w2.cell? ⟨w.heap.size, 4, none⟩ = some (.slice p2 m cap2) := (HB2.out.cell (p := ⟨w.heap.size, 4, none⟩) (HLT.out.1)).trans x4; have z2 : w2.cell? ⟨g, off + j * 2, none⟩ = some (.string tn) := (HB2.out.cell (p := ⟨g, off + j * 2, none⟩) (HLT.out.2)).trans y0; have z3 : w2.cell? ⟨g, off + j * 2 + 1, none⟩ = some (.slice pf nf capf) := (HB2.out.cell (p := ⟨g, off + j * 2 + 1, none⟩) (HLT.out.2)).trans y1; clear hb2))
        clear x1 x4 y0 y1 z0 z1 z2 z3
        go_wp2
        go_ret
        exact ⟨ret_int HXQ.out.symm, below_trans HB1.out HB2.out HB1.out.size⟩
      · have hb1 : (r == 0) = false := by simpa using hr0
        have hb2 : (r != 0) = true := by simpa using hr0
        have hx : R = r := by rw [HX.out]; simp [hr0]
        have HXQ : Hid (R = r) := hx
        clear hx HX x1 x4 y0 y1
        go_wp2
        go_ret
        exact ⟨ret_int HXQ.out.symm, HB1.out⟩
end Go.Proofs.Ythenkpeibkpmkab
