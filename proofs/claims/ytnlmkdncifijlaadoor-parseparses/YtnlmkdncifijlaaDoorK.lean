/-
  What Check and the document say of a token.
-/
import Derived.Test.YtnlmkdncifijlaaDoorM
namespace Go.Proofs.YtnlmkdncifijlaaDoor
open Go.ChangeShapes Go.WideShapes Go.ChangeAt Go.RowKit
set_option linter.unusedVariables false
set_option linter.unusedSimpArgs false
set_option maxHeartbeats 2000000 in
theorem checkWord_any (k n : Int) (s : ByteArray) (w : World) :
    Calls Tryd.prog 36 #[.agg #[.int .i64 k, .string s, .int .i64 n]] w fun e w' => e = .returned (.int .i64 (if n ≠ 0 then 4 else nchk s)) ∧ Below w.heap.size w w' := by
  go_enter Tryd.func36, Tryd.ntmps36
  go_wp2_with (go_at_call 77; refine (name_any _ _).mono ?_; rintro e w' ⟨rfl, rfl⟩)
  all_goals
    go_ret
    refine ⟨ret_int ?_, by go_grown⟩
    simp_all
set_option maxHeartbeats 2000000 in
theorem checkNumber_any (k n : Int) (s : ByteArray) (w : World) :
    Calls Tryd.prog 37 #[.agg #[.int .i64 k, .string s, .int .i64 n]] w fun e w' => e = .returned (.int .i64 (if s.data.toList ≠ [] then 4 else if n < 0 ∨ 1125899906842624 < n then 2 else 0)) ∧ Below w.heap.size w w' := by
  rw [← Lib.toList_data]
  go_enter Tryd.func37, Tryd.ntmps37
  go_wp2
  all_goals
    go_ret
    refine ⟨ret_int ?_, by go_grown⟩
    simp_all <;> omega
set_option maxHeartbeats 2000000 in
theorem checkString_any (k n : Int) (s : ByteArray) (w : World) :
    Calls Tryd.prog 38 #[.agg #[.int .i64 k, .string s, .int .i64 n]] w fun e w' => e = .returned (.int .i64 (if n ≠ 0 ∨ 0 ≤ Lib.indexByte s.data.toList 34 then 4 else if 20 < s.size then 1 else 0)) ∧ Below w.heap.size w w' := by
  obtain ⟨i, hi⟩ : ∃ i, Lib.indexByte s.data.toList 34 = i := ⟨_, rfl⟩
  have HC : Hid (∀ W, Calls Tryd.prog 78 #[.string s, .int .u8 34] W fun e w' => e = .returned (.int .i64 i) ∧ w' = W) := fun W => by
    have := Tryd.strings_IndexByte s 34 W
    rw [show (34 : Int).toNat.toUInt8 = 34 from rfl, hi] at this
    exact this
  rw [hi]
  clear hi
  go_enter Tryd.func38, Tryd.ntmps38
  go_wp2_with (go_at_call 78; refine (HC.out _).mono ?_; rintro e w' ⟨rfl, rfl⟩)
  all_goals
    go_ret
    refine ⟨ret_int ?_, by go_grown⟩
    clear HC
    simp_all <;> omega
set_option maxHeartbeats 2000000 in
theorem checkMark_any (k n : Int) (s : ByteArray) (w : World) (hM : Marks w) :
    Calls Tryd.prog 39 #[.agg #[.int .i64 k, .string s, .int .i64 n]] w fun e w' => e = .returned (.int .i64 (if n ≠ 0 ∨ s.data.toList ∉ mkl then 4 else 0)) ∧ Below w.heap.size w w' := by
  obtain ⟨b, hb⟩ := bool_of (s.data.toList ∈ mkl)
  have HM : Hid (∀ o, Marks (w.alloc o)) := fun o => hM.alloc o
  have HS : Hid (Say b (s.data.toList ∈ mkl)) := hb
  clear hM hb
  cases b
  all_goals
    go_enter Tryd.func39, Tryd.ntmps39
    go_wp2_with (go_at_call 79; refine (isMark_any _ _ HS.out _ (HM.out _)).mono ?_; rintro e w' ⟨rfl, rfl⟩)
    all_goals
      go_ret
      refine ⟨ret_int ?_, by go_grown⟩
      have h := HS.out
      simp [Say] at h
      simp_all
set_option maxHeartbeats 2000000 in
theorem check_1 (s : ByteArray) (n r : Int) (w : World) (hM : Marks w) (hC : ∀ W, Marks W → Calls Tryd.prog 36 #[.agg #[.int .i64 1, .string s, .int .i64 n]] W fun e w' => e = .returned (.int .i64 r) ∧ Below W.heap.size W w') :
    Calls Tryd.prog 17 #[.agg #[.int .i64 1, .string s, .int .i64 n]] w fun e w' => e = .returned (.int .i64 r) ∧ Below w.heap.size w w' := by
  have HM : Hid (∀ o, Marks (w.alloc o)) := fun o => hM.alloc o
  have HC : Hid (∀ W, Marks W → Calls Tryd.prog 36 #[.agg #[.int .i64 1, .string s, .int .i64 n]] W fun e w' => e = .returned (.int .i64 r) ∧ Below W.heap.size W w') := hC
  clear hM hC
  go_enter Tryd.func17, Tryd.ntmps17
  go_wp2_with (go_at_call 36; refine (HC.out _ (HM.out _)).mono ?_; rintro e w2 ⟨rfl, hb2⟩)
  go_ret
  exact ⟨rfl, below_trans (below_new _ _) hb2 (by simp)⟩
set_option maxHeartbeats 2000000 in
theorem check_2 (s : ByteArray) (n r : Int) (w : World) (hM : Marks w) (hC : ∀ W, Marks W → Calls Tryd.prog 37 #[.agg #[.int .i64 2, .string s, .int .i64 n]] W fun e w' => e = .returned (.int .i64 r) ∧ Below W.heap.size W w') :
    Calls Tryd.prog 17 #[.agg #[.int .i64 2, .string s, .int .i64 n]] w fun e w' => e = .returned (.int .i64 r) ∧ Below w.heap.size w w' := by
  have HM : Hid (∀ o, Marks (w.alloc o)) := fun o => hM.alloc o
  have HC : Hid (∀ W, Marks W → Calls Tryd.prog 37 #[.agg #[.int .i64 2, .string s, .int .i64 n]] W fun e w' => e = .returned (.int .i64 r) ∧ Below W.heap.size W w') := hC
  clear hM hC
  go_enter Tryd.func17, Tryd.ntmps17
  go_wp2_with (go_at_call 37; refine (HC.out _ (HM.out _)).mono ?_; rintro e w2 ⟨rfl, hb2⟩)
  go_ret
  exact ⟨rfl, below_trans (below_new _ _) hb2 (by simp)⟩
set_option maxHeartbeats 2000000 in
theorem check_3 (s : ByteArray) (n r : Int) (w : World) (hM : Marks w) (hC : ∀ W, Marks W → Calls Tryd.prog 38 #[.agg #[.int .i64 3, .string s, .int .i64 n]] W fun e w' => e = .returned (.int .i64 r) ∧ Below W.heap.size W w') :
    Calls Tryd.prog 17 #[.agg #[.int .i64 3, .string s, .int .i64 n]] w fun e w' => e = .returned (.int .i64 r) ∧ Below w.heap.size w w' := by
  have HM : Hid (∀ o, Marks (w.alloc o)) := fun o => hM.alloc o
  have HC : Hid (∀ W, Marks W → Calls Tryd.prog 38 #[.agg #[.int .i64 3, .string s, .int .i64 n]] W fun e w' => e = .returned (.int .i64 r) ∧ Below W.heap.size W w') := hC
  clear hM hC
  go_enter Tryd.func17, Tryd.ntmps17
  go_wp2_with (go_at_call 38; refine (HC.out _ (HM.out _)).mono ?_; rintro e w2 ⟨rfl, hb2⟩)
  go_ret
  exact ⟨rfl, below_trans (below_new _ _) hb2 (by simp)⟩
set_option maxHeartbeats 2000000 in
theorem check_4 (s : ByteArray) (n r : Int) (w : World) (hM : Marks w) (hC : ∀ W, Marks W → Calls Tryd.prog 39 #[.agg #[.int .i64 4, .string s, .int .i64 n]] W fun e w' => e = .returned (.int .i64 r) ∧ Below W.heap.size W w') :
    Calls Tryd.prog 17 #[.agg #[.int .i64 4, .string s, .int .i64 n]] w fun e w' => e = .returned (.int .i64 r) ∧ Below w.heap.size w w' := by
  have HM : Hid (∀ o, Marks (w.alloc o)) := fun o => hM.alloc o
  have HC : Hid (∀ W, Marks W → Calls Tryd.prog 39 #[.agg #[.int .i64 4, .string s, .int .i64 n]] W fun e w' => e = .returned (.int .i64 r) ∧ Below W.heap.size W w') := hC
  clear hM hC
  go_enter Tryd.func17, Tryd.ntmps17
  go_wp2_with (go_at_call 39; refine (HC.out _ (HM.out _)).mono ?_; rintro e w2 ⟨rfl, hb2⟩)
  go_ret
  exact ⟨rfl, below_trans (below_new _ _) hb2 (by simp)⟩
set_option maxHeartbeats 2000000 in
theorem check_any (t : Tk) (w : World) (hM : Marks w) :
    Calls Tryd.prog 17 #[tV t] w fun e w' => e = .returned (.int .i64 (tchk t)) ∧ Below w.heap.size w w' := by
  obtain ⟨k, s, n⟩ := t
  unfold tV tchk
  by_cases h1 : k = 1
  · subst h1; simp only [if_true]; exact check_1 s n _ w hM (fun W _ => checkWord_any _ _ _ _)
  by_cases h2 : k = 2
  · subst h2; simp only [if_true, h1, if_false]; exact check_2 s n _ w hM (fun W _ => checkNumber_any _ _ _ _)
  by_cases h3 : k = 3
  · subst h3; simp only [if_true, h1, h2, if_false]; exact check_3 s n _ w hM (fun W _ => checkString_any _ _ _ _)
  by_cases h4 : k = 4
  · subst h4; simp only [if_true, h1, h2, h3, if_false]; exact check_4 s n _ w hM (fun W hW => checkMark_any _ _ _ _ hW)
  · simp only [h1, h2, h3, h4, if_false]
    go_enter Tryd.func17, Tryd.ntmps17
    go_wp2
    go_ret
    exact ⟨rfl, by go_grown⟩
end Go.Proofs.YtnlmkdncifijlaaDoor
