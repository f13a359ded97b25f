/-
  Words that are kept, as the reference has them.
-/
import Derived.Test.YthndlfdbmljkhaaGreatDoorKT
namespace Go.Proofs.YthndlfdbmljkhaaGreatDoor
open Go.ChangeShapes Go.WideShapes Go.ChangeAt Go.RowKit
set_option linter.unusedVariables false
set_option linter.unusedSimpArgs false
def rwA : Array Value := (([] :: rll).map fun m => Value.string (txt m)).toArray
def kwA : Array Value := (kpl.map fun m => Value.string (txt m)).toArray
theorem below_tr {n m : Nat} {a b c : World} (h : Below n a b) (k : Below m b c) (hm : n ≤ m) : Below n a c := h.trans (k.mono hm)
set_option maxHeartbeats 2000000 in
theorem relWords_any (w : World) :
    Calls Tryz.prog 120 #[] w fun e w' => e = .returned (.slice (some ⟨w.heap.size, 0, none⟩) 14 14) ∧ Below w.heap.size w w' ∧ ∀ k, k < 14 → w'.cell? ⟨w.heap.size, k, none⟩ = some (.string (txt (([] :: rll).getD k []))) := by
  go_enter Tryz.func120, Tryz.ntmps120
  go_wp2
  go_ret
  refine ⟨rfl, by go_grown, fun k hk => ?_⟩
  show (w.alloc (.cells rwA 9)).cell? ⟨w.heap.size, k, none⟩ = _
  rw [cell_of_row _ _ k rwA 9 (0, 0) (heap_alloc_new _ _)]
  exact tab_at ([] :: rll) k hk
set_option maxHeartbeats 2000000 in
theorem relOf_any (s : ByteArray) (w : World) :
    Calls Tryz.prog 71 #[.string s] w fun e w' => e = .returned (.int .i64 (rln s)) ∧ Below w.heap.size w w' := by
  obtain ⟨r, hr⟩ : ∃ r, rln s = r := ⟨_, rfl⟩
  rw [hr]
  have HR : Hid (plc s.data.toList (rll.drop 0) 0 = r) := hr
  clear hr
  go_enter Tryz.func71, Tryz.ntmps71
  go_wp2_with (go_at_call 120; refine (relWords_any _).mono ?_; rintro e w1 ⟨rfl, hb1, hc1⟩)
  have HB : Hid (Below w.heap.size w w1) := hb1
  have HC : Hid (∀ k, k < 14 → w1.cell? ⟨w.heap.size, k, none⟩ = some (.string (txt (([] :: rll).getD k [])))) := hc1
  clear hb1 hc1
  go_loopw [4] (fun i wr => ∃ k q : Nat, k ≤ 13 ∧ i = .int .i64 (k + 1 : Nat) ∧ wr = w1.drewN q ∧ plc s.data.toList (rll.drop k) k = r) (fun i _ => 14 - (intOf i).toNat)
  case atStart => exact ⟨0, 0, by omega, rfl, rfl, HR.out⟩
  case round =>
    obtain ⟨k, q, hk, rfl, rfl, hf⟩ := hrel
    have HF : Hid (plc s.data.toList (rll.drop k) k = r) := hf
    clear hf
    by_cases hlt : k < 13
    · obtain ⟨x, hx⟩ : ∃ x, txt (rll.getD k []) = x := ⟨_, rfl⟩
      have hck := HC.out (k + 1) (by omega)
      rw [List.getD_cons_succ, hx] at hck
      have hxl : x.toList = rll.getD k [] := by rw [← hx, Lib.toList_data, txt_list]
      obtain ⟨j, hj⟩ : ∃ j, k + 1 = j := ⟨_, rfl⟩
      have HJ : Hid (k + 1 = j) := hj
      rw [hj] at hck ⊢
      have i1 : (0 : Int) ≤ (j : Int) := by omega
      have i2 : (j : Int) < 14 := by omega
      by_cases he : s.data.toList = rll.getD k []
      · have hb : (x.toList == s.toList) = true := by rw [Lib.toList_data s, hxl, he]; simp
        have HE : Hid (s.data.toList = rll.getD k []) := he
        clear he hx hxl hj
        go_wp2
        go_ret
        refine ⟨ret_int' ?_, below_drewN HB.out _⟩
        rw [← HF.out, plc_at _ _ _ _ hlt HE.out, HJ.out]
      · have hb : (x.toList == s.toList) = false := by rw [Lib.toList_data s, hxl]; simpa using fun h : rll.getD k [] = s.data.toList => he h.symm
        have HE : Hid (¬ s.data.toList = rll.getD k []) := he
        clear he hx hxl hj
        go_wp2
        exact ⟨⟨k + 1, _, by omega, by rw [HJ.out]; go_num, rfl, by rw [← plc_no _ _ _ _ hlt HE.out]; exact HF.out⟩, by simp [intOf]; omega⟩
    · obtain rfl : k = 13 := by omega
      go_wp2
      go_ret
      exact ⟨ret_int' (by rw [← HF.out]; rfl), below_drewN HB.out _⟩
set_option maxHeartbeats 2000000 in
theorem keptWord_any (s : ByteArray) (w : World) :
    Calls Tryz.prog 34 #[.string s] w fun e w' => e = .returned (.bool (kpt s)) ∧ Below w.heap.size w w' := by
  obtain ⟨r, hr⟩ : ∃ r, kpt s = r := ⟨_, rfl⟩
  rw [hr]
  have HR : Hid (kpt s = r) := hr
  have HC : Hid (∀ k, k < 17 → (w.alloc (.cells kwA 9)).cell? ⟨w.heap.size, k, none⟩ = some (.string (txt (kpl.getD k [])))) := fun k hk => by
    rw [cell_of_row _ _ k kwA 9 (0, 0) (heap_alloc_new _ _)]
    exact tab_at kpl k hk
  have HB : Hid (Below w.heap.size w (w.alloc (.cells kwA 9))) := by show Below _ _ _; go_grown
  clear hr
  go_enter Tryz.func34, Tryz.ntmps34
  go_wp2_with (fail)
  obtain ⟨w1, hw1⟩ : ∃ w1, w.alloc (.cells kwA 9) = w1 := ⟨_, rfl⟩
  change Go.Code.wp _ _ _ _ (w.alloc (.cells kwA 9))
  rw [hw1] at HC HB ⊢
  clear hw1
  go_loopw [4] (fun i wr => ∃ k q : Nat, k ≤ 17 ∧ i = .int .i64 k ∧ wr = w1.drewN q ∧ s.data.toList ∉ kpl.take k) (fun i _ => 17 - (intOf i).toNat)
  case atStart => exact ⟨0, 0, by omega, rfl, rfl, by simp⟩
  case round =>
    obtain ⟨k, q, hk, rfl, rfl, hf⟩ := hrel
    have HF : Hid (s.data.toList ∉ kpl.take k) := hf
    clear hf
    by_cases hlt : k < 17
    · obtain ⟨x, hx⟩ : ∃ x, txt (kpl.getD k []) = x := ⟨_, rfl⟩
      have hck := HC.out k hlt
      rw [hx] at hck
      have hxl : x.toList = kpl.getD k [] := by rw [← hx, Lib.toList_data, txt_list]
      have i1 : (0 : Int) ≤ (k : Int) := by omega
      have i2 : (k : Int) < 17 := by omega
      by_cases he : s.data.toList = kpl.getD k []
      · have hb : (x.toList == s.toList) = true := by rw [Lib.toList_data s, hxl, he]; simp
        have HE : Hid (s.data.toList = kpl.getD k []) := he
        clear he hx hxl
        go_wp2
        go_ret
        refine ⟨ret_bool ?_, below_drewN HB.out _⟩
        rw [← HR.out, kpt, HE.out, decide_eq_true (getD_in kpl k hlt)]
        rfl
      · have hb : (x.toList == s.toList) = false := by rw [Lib.toList_data s, hxl]; simpa using fun h : kpl.getD k [] = s.data.toList => he h.symm
        have HE : Hid (¬ s.data.toList = kpl.getD k []) := he
        clear he hx hxl
        go_wp2
        exact ⟨⟨k + 1, _, by omega, by go_num, rfl, not_take _ _ k hlt HF.out HE.out⟩, by simp [intOf]; omega⟩
    · obtain rfl : k = 17 := by omega
      obtain ⟨q0, hq⟩ : ∃ q, rln s = q := ⟨_, rfl⟩
      have HC2 : Hid (∀ W, Calls Tryz.prog 71 #[.string s] W fun e w' => e = .returned (.int .i64 q0) ∧ Below W.heap.size W w') := fun W => by
        have := relOf_any s W
        rw [hq] at this
        exact this
      have HQ : Hid (rln s = q0) := hq
      clear hq
      go_wp2_with (go_at_call 71; refine (HC2.out _).mono ?_; rintro e w3 ⟨rfl, hb3⟩; have HB3 : Hid (Below w.heap.size w w3) := below_tr (below_drewN HB.out q) hb3 (below_drewN HB.out q).size; clear hb3)
      go_ret
      refine ⟨ret_bool ?_, HB3.out⟩
      rw [← HR.out, kpt, decide_eq_false (show s.data.toList ∉ kpl from HF.out), Bool.false_or, ← HQ.out]
      have := plc_pos s.data.toList rll 0
      by_cases c : s.data.toList ∈ rll
      · have h2 := this.2 c
        simp only [c, decide_true]
        have h3 : 0 < rln s := by unfold rln; omega
        simpa using h3
      · have h2 : plc s.data.toList rll 0 = 0 := by
          rcases Nat.eq_zero_or_pos (plc s.data.toList rll 0) with h | h
          · exact h
          · exact absurd (this.1 (by omega)) c
        simp [c, rln, h2]
end Go.Proofs.YthndlfdbmljkhaaGreatDoor
