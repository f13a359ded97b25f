/-
  The bytes between tokens; which kind of token begins.
-/
import Derived.Test.YtngbobnodecloaaDoorT
namespace Go.Proofs.YtngbobnodecloaaDoor
open Go.ChangeShapes Go.WideShapes Go.ChangeAt Go.RowKit
set_option linter.unusedVariables false
set_option linter.unusedSimpArgs false
theorem bgn_cons (c : UInt8) (l : List UInt8) : bgn (c :: l) = if lw c = true then 1 else if dg c = true then 2 else if c = 34 then 3 else if fmk (c :: l) mkl ≠ [] then 4 else 0 := rfl
set_option maxHeartbeats 4000000 in
theorem begins_any (s : ByteArray) (w : World) (h1 : 1 ≤ s.size) (hM : Marks w) :
    Calls Tryd.prog 32 #[.string s] w fun e w' => e = .returned (.int .i64 (bgn s.data.toList)) ∧ w' = w := by
  have hp : 0 < s.size := by omega
  have hd : s.data.toList = s[0] :: s.data.toList.drop 1 := drop_at s 0 hp
  obtain ⟨bl, hbl⟩ := bool_of ((97 : Int) ≤ (s[0].toNat : Int) ∧ (s[0].toNat : Int) ≤ 122)
  obtain ⟨bd, hbd⟩ := bool_of ((48 : Int) ≤ (s[0].toNat : Int) ∧ (s[0].toNat : Int) ≤ 57)
  have el : lw s[0] = bl := by
    have h := hbl
    unfold Say at h
    rw [Bool.eq_iff_iff, h]
    simp [lw] <;> omega
  have ed : dg s[0] = bd := by
    have h := hbd
    unfold Say at h
    rw [Bool.eq_iff_iff, h]
    simp [dg] <;> omega
  obtain ⟨x, hx⟩ : ∃ x, txt (fmk s.data.toList mkl) = x := ⟨_, rfl⟩
  have HL : Hid (Say bl ((97 : Int) ≤ (s[0].toNat : Int) ∧ (s[0].toNat : Int) ≤ 122)) := hbl
  have HD : Hid (Say bd ((48 : Int) ≤ (s[0].toNat : Int) ∧ (s[0].toNat : Int) ≤ 57)) := hbd
  have HX : Hid (∀ W, Marks W → Calls Tryd.prog 58 #[.string s] W fun e w' => e = .returned (.string x) ∧ w' = W) := fun W hW => by rw [← hx]; exact longest_any s W hW
  have HM : Hid (Marks w) := hM
  have hbg : bgn s.data.toList = if bl = true then 1 else if bd = true then 2 else if s[0] = 34 then 3 else if x.toList ≠ [] then 4 else 0 := by
    rw [Lib.toList_data, ← hx, txt_list]
    conv => lhs; rw [hd, bgn_cons]
    rw [el, ed, ← hd]
  have e34 : s[0] = 34 ↔ (s[0].toNat : Int) = 34 := u8_eq _ 34 (by omega)
  simp only [e34] at hbg
  obtain ⟨r, hr⟩ : ∃ r, bgn s.data.toList = r := ⟨_, rfl⟩
  rw [hr] at hbg ⊢
  have HR : Hid (r = if bl = true then 1 else if bd = true then 2 else if (s[0].toNat : Int) = 34 then 3 else if x.toList ≠ [] then 4 else 0) := hbg
  clear hbg hr e34 hx el ed hbl hbd hd hM
  cases bl
  · cases bd
    all_goals
      go_enter Tryd.func32, Tryd.ntmps32
      go_wp2_with (first | (go_at_call 56; refine (lexLetter_any _ _ HL.out _).mono ?_; rintro e w' ⟨rfl, rfl⟩) | (go_at_call 57; refine (lexDigit_any _ _ HD.out _).mono ?_; rintro e w' ⟨rfl, rfl⟩) | (go_at_call 58; refine (HX.out _ HM.out).mono ?_; rintro e w' ⟨rfl, rfl⟩))
      all_goals
        go_ret
        refine ⟨ret_int ?_, rfl⟩
        rw [HR.out]
        simp_all
  · go_enter Tryd.func32, Tryd.ntmps32
    go_wp2_with (go_at_call 56; refine (lexLetter_any _ _ HL.out _).mono ?_; rintro e w' ⟨rfl, rfl⟩)
    go_ret
    exact ⟨ret_int (by rw [HR.out]; simp), rfl⟩
end Go.Proofs.YtngbobnodecloaaDoor
