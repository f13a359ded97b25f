/-
  Field, and what the document says of it.
-/
import Derived.Test.YthenkpeibkpmkabW3
namespace Go.Proofs.Ythenkpeibkpmkab
open Go.ChangeShapes Go.WideShapes Go.ChangeAt Go.RowKit
set_option linter.unusedVariables false
set_option linter.unusedSimpArgs false
/-- The place, the kind, the error. -/
def fld (t : Ty) (name : ByteArray) : Int × Int × Int :=
  if tchk t ≠ 0 then (0, 0, tchk t) else if fnd name t.fs 0 < 0 then (0, 0, 6)
  else (fnd name t.fs 0, (t.fs.getD (fnd name t.fs 0).toNat ⟨ByteArray.empty, 0⟩).k, 0)
set_option maxHeartbeats 8000000 in
theorem field_any (t : Ty) (v : Value) (name : ByteArray) (w : World) (hv : FieldsAt w v t.fs) :
    Calls Try.prog 17 #[.agg #[.string t.s, v], .string name] w fun e w' => e = .returned (.tuple #[.int .i64 (fld t name).1, .int .i64 (fld t name).2.1, .int .i64 (fld t name).2.2]) ∧ Below w.heap.size w w' := by
  obtain ⟨s, fs⟩ := t
  obtain ⟨T, hT⟩ : ∃ T, tchk ⟨s, fs⟩ = T := ⟨_, rfl⟩
  obtain ⟨P, hP⟩ : ∃ P, fnd name fs 0 = P := ⟨_, rfl⟩
  obtain ⟨x, y, z, hR⟩ : ∃ x y z, fld ⟨s, fs⟩ name = (x, y, z) := ⟨_, _, _, rfl⟩
  simp only at hv
  have HV : Hid (FieldsAt w v fs) := hv
  have H1 : Hid (∀ W, Below w.heap.size w W → Calls Try.prog 15 #[.agg #[.string s, v]] W fun e w' => e = .returned (.int .i64 T) ∧ Below W.heap.size W w') := fun W hb => by rw [← hT]; exact checkType_any ⟨s, fs⟩ _ _ (HV.out.below hb)
  have H2 : Hid (∀ W, Below w.heap.size w W → Calls Try.prog 31 #[v, .string name] W fun e w' => e = .returned (.int .i64 P) ∧ Below W.heap.size W w') := fun W hb => by rw [← hP]; exact find_any _ _ _ _ (HV.out.below hb)
  have HR : Hid ((x, y, z) = if T ≠ 0 then (0, 0, T) else if P < 0 then (0, 0, 6) else (P, (fs.getD P.toNat ⟨ByteArray.empty, 0⟩).k, 0)) := by rw [← hR]; unfold fld; simp only; rw [hT, hP]; exact rfl
  have HPL : Hid (P < 0 ∨ (0 ≤ P ∧ P < fs.length)) := by have := fnd_le name fs 0; rw [hP] at this; simp at this; exact this
  rw [hR]
  obtain ⟨n, hn⟩ : ∃ n, fs.length = n := ⟨_, rfl⟩
  have HN : Hid (fs.length = n) := hn
  obtain ⟨p, cap, hsh, _, _, hfc⟩ := hv
  rw [hn] at hsh
  subst hsh
  have HFC : Hid (0 < fs.length → ∃ g off, p = some ⟨g, off, none⟩ ∧ ∀ j (hj : j < fs.length), g < w.heap.size ∧ w.cell? ⟨g, off + j * 2, none⟩ = some (.string fs[j].s) ∧ w.cell? ⟨g, off + j * 2 + 1, none⟩ = some (.int .i64 fs[j].k)) := hfc
  clear hT hP hR hfc hn
  go_enter Try.func17, Try.ntmps17
  go_wp2_with fail
  refine (H1.out _ ((Below.refl _ w).alloc (Nat.le_refl _) _)).mono ?_
  rintro e w1 ⟨rfl, hb1⟩
  have HB1 : Hid (Below w.heap.size w w1) := below_trans ((Below.refl _ w).alloc (Nat.le_refl _) (.cells #[.string s, .slice p n cap] 44)) hb1 (by simp)
  have c1 : w1.cell? ⟨w.heap.size, 1, none⟩ = some (.slice p n cap) := (hb1.cell (by simp)).trans (cell_new rfl rfl)
  clear hb1
  by_cases hT0 : T = 0
  · subst hT0
    go_wp2_with fail
    refine (H2.out _ HB1.out).mono ?_
    rintro e w2 ⟨rfl, hb2⟩
    have HB2 : Hid (Below w.heap.size w w2) := below_trans HB1.out hb2 HB1.out.size
    have d1 : w2.cell? ⟨w.heap.size, 1, none⟩ = some (.slice p n cap) := (hb2.cell (World.block_lt_of_cell? _ _ c1)).trans c1
    clear hb2 c1
    by_cases hP0 : P < 0
    · have hr := HR.out
      simp [hP0] at hr
      obtain ⟨rfl, rfl, rfl⟩ := hr
      go_wp2
      go_ret3
      exact ⟨rfl, HB2.out⟩
    · have hpl : 0 ≤ P ∧ P < fs.length := by rcases HPL.out with h | h; exact absurd h hP0; exact h
      obtain ⟨j, hj⟩ : ∃ j : Nat, P = (j : Int) := ⟨P.toNat, by omega⟩
      subst hj
      have hjl : j < fs.length := by omega
      have hr := HR.out
      simp [hP0, List.getElem?_eq_getElem hjl] at hr
      obtain ⟨rfl, hy, rfl⟩ := hr
      obtain ⟨g, off, hg, hcl⟩ := HFC.out (by omega)
      obtain ⟨hgs, c0j, c1j⟩ := hcl j hjl
      subst hg
      rw [← hy] at c1j
      have b1 : w2.cell? ⟨g, off + j * 2 + 1, none⟩ = some (.int .i64 y) := (HB2.out.cell (p := ⟨g, off + j * 2 + 1, none⟩) hgs).trans c1j
      have j1 : (0 : Int) ≤ (j : Int) := by omega
      have j2 : (j : Int) < (n : Int) := by have := HN.out; omega
      have hp0 : decide ((j : Int) < 0) = false := by simp
      clear hcl c0j c1j hgs hy hpl hjl hP0 HR HPL
      go_wp2_with fail
      go_quiet (fail)
      go_wp2
      go_ret3
      exact ⟨rfl, below_trans HB2.out (Go.Joins.below_draws _ _ _) (Nat.le_refl _)⟩
  · have hb1 : (T == 0) = false := by simpa using hT0
    have hb2 : (T != 0) = true := by simpa using hT0
    have hr := HR.out
    simp [hT0] at hr
    obtain ⟨rfl, rfl, rfl⟩ := hr
    clear c1
    go_wp2
    go_ret3
    exact ⟨rfl, HB1.out⟩
end Go.Proofs.Ythenkpeibkpmkab
