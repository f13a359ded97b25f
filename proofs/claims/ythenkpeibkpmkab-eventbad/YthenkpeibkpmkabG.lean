/-
  The walk of Compare, and of the law over it.
-/
import Derived.Test.YthenkpeibkpmkabF
namespace Go.Proofs.Ythenkpeibkpmkab
open Go.ChangeShapes Go.WideShapes Go.ChangeAt Go.RowKit
set_option linter.unusedVariables false
set_option linter.unusedSimpArgs false
theorem vals_two {w : World} {g : Nat} (a b : Vl) (hg : g < w.heap.size) (c0 : w.cell? ⟨g, 0, none⟩ = some (.int .i64 a.k)) (c1 : w.cell? ⟨g, 1, none⟩ = some (.int .i64 a.n)) (c2 : w.cell? ⟨g, 2, none⟩ = some (.string a.s)) (c3 : w.cell? ⟨g, 3, none⟩ = some (.int .i64 b.k)) (c4 : w.cell? ⟨g, 4, none⟩ = some (.int .i64 b.n)) (c5 : w.cell? ⟨g, 5, none⟩ = some (.string b.s)) :
    ValsAt w (.slice (some ⟨g, 0, none⟩) 2 2) [a, b] := by
  refine ⟨_, 2, rfl, by simp, by unfold maxLen; omega, fun _ => ⟨g, 0, rfl, fun j hj => ⟨hg, ?_⟩⟩⟩
  have hj' : j = 0 ∨ j = 1 := by simp at hj; omega
  rcases hj' with rfl | rfl
  · exact ⟨c0, c1, c2⟩
  · exact ⟨c3, c4, c5⟩
theorem cell_new {X : World} {cs : Array Value} {t : TypeId} {g j : Nat} {v : Value} (hg : g = X.heap.size) (hv : cs[j]? = some v) : (X.alloc (.cells cs t)).cell? ⟨g, j, none⟩ = some v := by
  subst hg
  have h : (X.alloc (.cells cs t)).heap[X.heap.size]? = some (.cells cs t (0, 0)) := by first | exact heap_alloc_new X _ | exact _root_.Go.heap_alloc_new X _
  rw [cell_of_row _ _ _ _ t (0, 0) h]
  simpa using hv
theorem fst_two (a b : Vl) : fst (vat [a, b]) 2 = if vchk a ≠ 0 then vchk a else vchk b := by
  simp [fst, vat]
set_option maxHeartbeats 4000000 in
theorem compare_any (a b : Vl) (w : World) :
    Calls Try.prog 12 #[vV a, vV b] w fun e w' => e = .returned (.tuple #[.int .i64 (cmpV a b), .int .i64 (cmpE a b)]) ∧ Below w.heap.size w w' := by
  obtain ⟨k, n, s⟩ := a
  obtain ⟨k', n', s'⟩ := b
  obtain ⟨r, hr⟩ : ∃ r, fst (vat [⟨k, n, s⟩, ⟨k', n', s'⟩]) 2 = r := ⟨_, rfl⟩
  have HR : Hid (fst (vat [⟨k, n, s⟩, ⟨k', n', s'⟩]) 2 = r) := hr
  have HV : Hid (cmpV ⟨k, n, s⟩ ⟨k', n', s'⟩ = if cmpE ⟨k, n, s⟩ ⟨k', n', s'⟩ ≠ 0 then 0 else ord ⟨k, n, s⟩ ⟨k', n', s'⟩) := rfl
  have HE : Hid (cmpE ⟨k, n, s⟩ ⟨k', n', s'⟩ = if r ≠ 0 then r else if k ≠ k' then 13 else 0) := by
    unfold cmpE
    rw [fst_two] at hr
    by_cases h : vchk ⟨k, n, s⟩ = 0
    · rw [if_neg (by simp [h])] at hr
      rw [if_neg (by simp [h]), hr]
      exact rfl
    · rw [if_pos h] at hr
      rw [if_pos h, ← hr]
      exact (if_pos h).symm
  clear hr
  unfold vV
  go_enter Try.func12, Try.ntmps12
  go_wp2_with fail
  refine (checkAll_any _ [⟨k, n, s⟩, ⟨k', n', s'⟩] _ (vals_two ⟨k, n, s⟩ ⟨k', n', s'⟩ (by simp) (cell_new (by simp) rfl) (cell_new (by simp) rfl) (cell_new (by simp) rfl) (cell_new (by simp) rfl) (cell_new (by simp) rfl) (cell_new (by simp) rfl))).mono ?_
  rintro e w1 ⟨he1, hb1⟩
  have he1' : e = .returned (.int .i64 r) := he1.trans (ret_int HR.out)
  subst he1'
  have HB1 : Hid (Below w.heap.size w w1) := below_trans (below_three w (.cells #[.int .i64 k, .int .i64 n, .string s] 32) (.cells #[.int .i64 k', .int .i64 n', .string s'] 32) _) hb1 (by simp; omega)
  have c0 : w1.cell? ⟨w.heap.size + 1 + 1, 0, none⟩ = some (.int .i64 k) := (hb1.cell (by simp)).trans (cell_new (by simp) rfl)
  have c1 : w1.cell? ⟨w.heap.size + 1 + 1, 1, none⟩ = some (.int .i64 n) := (hb1.cell (by simp)).trans (cell_new (by simp) rfl)
  have c2 : w1.cell? ⟨w.heap.size + 1 + 1, 2, none⟩ = some (.string s) := (hb1.cell (by simp)).trans (cell_new (by simp) rfl)
  have c3 : w1.cell? ⟨w.heap.size + 1 + 1, 3, none⟩ = some (.int .i64 k') := (hb1.cell (by simp)).trans (cell_new (by simp) rfl)
  have c4 : w1.cell? ⟨w.heap.size + 1 + 1, 4, none⟩ = some (.int .i64 n') := (hb1.cell (by simp)).trans (cell_new (by simp) rfl)
  have c5 : w1.cell? ⟨w.heap.size + 1 + 1, 5, none⟩ = some (.string s') := (hb1.cell (by simp)).trans (cell_new (by simp) rfl)
  clear hb1 he1
  by_cases hr0 : r = 0
  · subst hr0
    by_cases hkk : k = k'
    · subst hkk
      have he : cmpE ⟨k, n, s⟩ ⟨k, n', s'⟩ = 0 := by rw [HE.out]; simp
      have HE0 : Hid (cmpE ⟨k, n, s⟩ ⟨k, n', s'⟩ = 0) := he
      clear he
      by_cases hk2 : k = 2
      · subst hk2
        go_wp2_with (go_at_call 26; refine (strCmp_any _ _ _).mono ?_; rintro e w2 ⟨rfl, rfl⟩)
        go_ret2
        exact ⟨ret_two (by rw [HV.out, HE0.out]; simp [ord]) HE0.out.symm, HB1.out⟩
      · have hkb : (k == 2) = false := by simpa using hk2
        go_wp2_with (go_at_call 27; refine (intCmp_any _ _ _).mono ?_; rintro e w2 ⟨rfl, rfl⟩)
        go_ret2
        exact ⟨ret_two (by rw [HV.out, HE0.out]; simp [ord, hk2]) HE0.out.symm, HB1.out⟩
    · have he : cmpE ⟨k, n, s⟩ ⟨k', n', s'⟩ = 13 := by rw [HE.out]; simp [hkk]
      have HE0 : Hid (cmpE ⟨k, n, s⟩ ⟨k', n', s'⟩ = 13) := he
      clear he
      have hkb : (k == k') = false := by simpa using hkk
      have hkc : (k != k') = true := by simpa using hkk
      go_wp2
      go_ret2
      exact ⟨ret_two (by rw [HV.out, HE0.out]; simp) HE0.out.symm, HB1.out⟩
  · have he : cmpE ⟨k, n, s⟩ ⟨k', n', s'⟩ = r := by rw [HE.out]; simp [hr0]
    have HE0 : Hid (cmpE ⟨k, n, s⟩ ⟨k', n', s'⟩ = r) := he
    clear he
    have hkb : (r == 0) = false := by simpa using hr0
    have hkc : (r != 0) = true := by simpa using hr0
    go_wp2
    go_ret2
    exact ⟨ret_two (by rw [HV.out, HE0.out]; simp [hr0]) HE0.out.symm, HB1.out⟩
end Go.Proofs.Ythenkpeibkpmkab
