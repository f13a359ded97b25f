/-
  Compare, and what the document says of it.
-/
import Derived.Test.YthenkpeibkpmkaaE
namespace Go.Proofs.Ythenkpeibkpmkaa
open Go.ChangeShapes Go.WideShapes Go.ChangeAt Go.RowKit
set_option linter.unusedVariables false
set_option linter.unusedSimpArgs false
theorem below_two (w : World) (o1 o2 : Obj) : Below w.heap.size w ((w.alloc o1).alloc o2) := ((Below.refl _ w).alloc (Nat.le_refl _) o1).alloc (by simp) o2
theorem below_three (w : World) (o1 o2 o3 : Obj) : Below w.heap.size w (((w.alloc o1).alloc o2).alloc o3) := (below_two w o1 o2).alloc (by simp; omega) o3
set_option maxHeartbeats 2000000 in
theorem ordered_any (a b : Vl) (w : World) (hk : a.k = 1 ∨ a.k = 2) :
    Calls Try.prog 26 #[vV a, vV b] w fun e w' => e = .returned (.int .i64 (ord a b)) ∧ Below w.heap.size w w' := by
  obtain ⟨k, n, s⟩ := a
  obtain ⟨k', n', s'⟩ := b
  rcases hk with hk | hk
  · simp only at hk
    subst hk
    have HO : Hid (ord ⟨1, n, s⟩ ⟨k', n', s'⟩ = sgnI n n') := by unfold ord; exact if_neg (by simp)
    unfold vV
    go_enter Try.func26, Try.ntmps26
    go_wp2_with (go_at_call 34; refine (sign_any _ _ _).mono ?_; rintro e w2 ⟨rfl, rfl⟩)
    go_ret
    exact ⟨ret_int (by rw [HO.out]), below_two w _ _⟩
  · simp only at hk
    subst hk
    have HO : Hid (ord ⟨2, n, s⟩ ⟨k', n', s'⟩ = if s.toList = s'.toList then 0 else if Op.bytesLess s.toList s'.toList = true then -1 else 1) := by
      unfold ord
      rw [Lib.toList_data, Lib.toList_data, ← cmpB_eq]
      exact if_pos rfl
    unfold vV
    go_enter Try.func26, Try.ntmps26
    go_wp2
    all_goals
      go_ret
      exact ⟨ret_int (by rw [HO.out]; simp_all), below_two w _ _⟩
theorem ret_two {a b c d : Int} (h : a = c) (h2 : b = d) : Ending.returned (.tuple #[.int .i64 a, .int .i64 b]) = .returned (.tuple #[.int .i64 c, .int .i64 d]) := by rw [h, h2]
set_option maxHeartbeats 4000000 in
theorem compared_any (a b : Vl) (w : World) :
    Calls Try.prog 12 #[vV a, vV b] w fun e w' => e = .returned (.tuple #[.int .i64 (cmpV a b), .int .i64 (cmpE a b)]) ∧ Below w.heap.size w w' := by
  obtain ⟨k, n, s⟩ := a
  obtain ⟨k', n', s'⟩ := b
  obtain ⟨r, hr⟩ : ∃ r, vchk ⟨k, n, s⟩ = r := ⟨_, rfl⟩
  obtain ⟨r', hr'⟩ : ∃ r, vchk ⟨k', n', s'⟩ = r := ⟨_, rfl⟩
  have HV : Hid (cmpV ⟨k, n, s⟩ ⟨k', n', s'⟩ = if cmpE ⟨k, n, s⟩ ⟨k', n', s'⟩ ≠ 0 then 0 else ord ⟨k, n, s⟩ ⟨k', n', s'⟩) := rfl
  have HE : Hid (cmpE ⟨k, n, s⟩ ⟨k', n', s'⟩ = if r ≠ 0 then r else if r' ≠ 0 then r' else if k ≠ k' then 13 else 0) := by unfold cmpE; rw [hr, hr']; exact rfl
  have HK : Hid (r = 0 → k = 1 ∨ k = 2) := fun h => by
    subst h
    unfold vchk at hr
    simp only at hr
    by_cases c : k ≠ 1 ∧ k ≠ 2
    · rw [if_pos c] at hr; omega
    · omega
  have H1 : Hid (∀ W, Calls Try.prog 10 #[vV ⟨k, n, s⟩] W fun e w' => e = .returned (.int .i64 r) ∧ Below W.heap.size W w') := fun W => by rw [← hr]; exact vfault_any _ _
  have H2 : Hid (∀ W, Calls Try.prog 10 #[vV ⟨k', n', s'⟩] W fun e w' => e = .returned (.int .i64 r') ∧ Below W.heap.size W w') := fun W => by rw [← hr']; exact vfault_any _ _
  clear hr hr'
  unfold vV
  go_enter Try.func12, Try.ntmps12
  go_wp2_with fail
  refine (H1.out _).mono ?_
  rintro e w1 ⟨rfl, hb1⟩
  have HB1 : Hid (Below w.heap.size w w1) := below_trans (below_two w (.cells #[.int .i64 k, .int .i64 n, .string s] 23) (.cells #[.int .i64 k', .int .i64 n', .string s'] 23)) hb1 (by simp; omega)
  have c0 : w1.cell? ⟨w.heap.size, 0, none⟩ = some (.int .i64 k) := by rw [hb1.cell (by simp; omega)]; simp
  have c1 : w1.cell? ⟨w.heap.size, 1, none⟩ = some (.int .i64 n) := by rw [hb1.cell (by simp; omega)]; simp
  have c2 : w1.cell? ⟨w.heap.size, 2, none⟩ = some (.string s) := by rw [hb1.cell (by simp; omega)]; simp
  have c3 : w1.cell? ⟨w.heap.size + 1, 0, none⟩ = some (.int .i64 k') := by rw [hb1.cell (by simp)]; simp
  have c4 : w1.cell? ⟨w.heap.size + 1, 1, none⟩ = some (.int .i64 n') := by rw [hb1.cell (by simp)]; simp
  have c5 : w1.cell? ⟨w.heap.size + 1, 2, none⟩ = some (.string s') := by rw [hb1.cell (by simp)]; simp
  have HS : Hid (w.heap.size + 1 < w1.heap.size) := by have := hb1.size; simp at this; exact (by omega : w.heap.size + 1 < w1.heap.size)
  clear hb1
  by_cases hr0 : r = 0
  · subst hr0
    go_wp2_with fail
    refine (H2.out _).mono ?_
    rintro e w2 ⟨rfl, hb2⟩
    have HB2 : Hid (Below w.heap.size w w2) := below_trans HB1.out hb2 HB1.out.size
    have hsz := HS.out
    replace c0 := (hb2.cell (p := ⟨w.heap.size, 0, none⟩) (by simp; omega)).trans c0
    replace c1 := (hb2.cell (p := ⟨w.heap.size, 1, none⟩) (by simp; omega)).trans c1
    replace c2 := (hb2.cell (p := ⟨w.heap.size, 2, none⟩) (by simp; omega)).trans c2
    replace c3 := (hb2.cell (p := ⟨w.heap.size + 1, 0, none⟩) (by simp; omega)).trans c3
    replace c4 := (hb2.cell (p := ⟨w.heap.size + 1, 1, none⟩) (by simp; omega)).trans c4
    replace c5 := (hb2.cell (p := ⟨w.heap.size + 1, 2, none⟩) (by simp; omega)).trans c5
    clear hb2 hsz
    by_cases hr1 : r' = 0
    · subst hr1
      by_cases hkk : k = k'
      · subst hkk
        have he : cmpE ⟨k, n, s⟩ ⟨k, n', s'⟩ = 0 := by rw [HE.out]; simp
        have HE0 : Hid (cmpE ⟨k, n, s⟩ ⟨k, n', s'⟩ = 0) := he
        clear he
        go_wp2_with fail
        refine (ordered_any ⟨k, n, s⟩ ⟨k, n', s'⟩ _ (HK.out (by simp))).mono ?_
        rintro e w3 ⟨rfl, hb3⟩
        have HB3 : Hid (Below w.heap.size w w3) := below_trans HB2.out hb3 HB2.out.size
        clear hb3
        go_wp2
        go_ret2
        exact ⟨ret_two (by rw [HV.out, HE0.out]; simp) HE0.out.symm, HB3.out⟩
      · have he : cmpE ⟨k, n, s⟩ ⟨k', n', s'⟩ = 13 := by rw [HE.out]; simp [hkk]
        have HE0 : Hid (cmpE ⟨k, n, s⟩ ⟨k', n', s'⟩ = 13) := he
        clear he
        have hkb : (k == k') = false := by simpa using hkk
        have hkc : (k != k') = true := by simpa using hkk
        go_wp2
        go_ret2
        exact ⟨ret_two (by rw [HV.out, HE0.out]; simp) HE0.out.symm, HB2.out⟩
    · have he : cmpE ⟨k, n, s⟩ ⟨k', n', s'⟩ = r' := by rw [HE.out]; simp [hr1]
      have HE0 : Hid (cmpE ⟨k, n, s⟩ ⟨k', n', s'⟩ = r') := he
      clear he
      have hkb : (r' == 0) = false := by simpa using hr1
      have hkc : (r' != 0) = true := by simpa using hr1
      go_wp2
      go_ret2
      exact ⟨ret_two (by rw [HV.out, HE0.out]; simp [hr1]) HE0.out.symm, HB2.out⟩
  · have he : cmpE ⟨k, n, s⟩ ⟨k', n', s'⟩ = r := by rw [HE.out]; simp [hr0]
    have HE0 : Hid (cmpE ⟨k, n, s⟩ ⟨k', n', s'⟩ = r) := he
    clear he
    have hkb : (r == 0) = false := by simpa using hr0
    have hkc : (r != 0) = true := by simpa using hr0
    go_wp2
    go_ret2
    exact ⟨ret_two (by rw [HV.out, HE0.out]; simp [hr0]) HE0.out.symm, HB1.out⟩
end Go.Proofs.Ythenkpeibkpmkaa
