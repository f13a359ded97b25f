/-
  What Name and the document say of a name.
-/
import Derived.Test.YtepgkemnpcadiabB
namespace Go.Proofs.Ytepgkemnpcadiab
open Go.ChangeShapes Go.WideShapes Go.ChangeAt Go.RowKit
set_option linter.unusedVariables false
set_option linter.unusedSimpArgs false
theorem byteN_at (s : ByteArray) (k : Nat) (h : k < s.size) : byteN s k = (s[k].toNat : Int) := by
  unfold byteN
  have h' : k < s.data.toList.length := by simpa using h
  rw [List.getD_eq_getElem?_getD, List.getElem?_eq_getElem h']
  rfl
theorem sgn_at (s : ByteArray) (k : Nat) (h : k < s.size) : sgn s k = if (97 ≤ (s[k].toNat : Int) ∧ (s[k].toNat : Int) ≤ 122) ∨ (k ≠ 0 ∧ 48 ≤ (s[k].toNat : Int) ∧ (s[k].toNat : Int) ≤ 57) then 0 else 4 := by
  unfold sgn isL isD
  rw [byteN_at s k h]
theorem nchk_mid {s : ByteArray} (h1 : 1 ≤ s.size) (h2 : s.size ≤ 10) : nchk s = fst (sgn s) s.size := by
  unfold nchk; rw [if_neg (by omega)]
theorem wrap_byte (c : UInt8) : wrap64 (c.toNat : Int) = (c.toNat : Int) := by
  have := c.toNat_lt
  unfold wrap64
  omega
/-- A Bool that tells whether P holds. -/
def Say (b : Bool) (P : Prop) : Prop := b = true ↔ P
theorem bool_of (P : Prop) [Decidable P] : ∃ b : Bool, Say b P := ⟨decide P, by simp [Say]⟩
theorem Say.yes {P : Prop} (h : P) : Say true P := by simp [Say, h]
theorem Say.no {P : Prop} (h : ¬ P) : Say false P := by simp [Say, h]
theorem Say.t {P : Prop} (h : Say true P) : P := by simpa [Say] using h
theorem Say.f {P : Prop} (h : Say false P) : ¬ P := by simpa [Say] using h
theorem ret_bool {a b : Bool} (h : a = b) : Ending.returned (.bool a) = .returned (.bool b) := by rw [h]
theorem isDigit_any (c : Int) (r : Bool) (h : Say r ((48 : Int) ≤ c ∧ c ≤ 57)) (w : World) :
    Calls Try.prog 52 #[.int .u8 c] w fun e w' => e = .returned (.bool r) ∧ w' = w := by
  have H : Hid (Say r ((48 : Int) ≤ c ∧ c ≤ 57)) := h
  clear h
  go_enter Try.func52, Try.ntmps52
  go_wp2
  all_goals
    go_ret
    exact ⟨ret_bool (by have h := H.out; unfold Say at h; rw [Bool.eq_iff_iff, h]; simp <;> omega), rfl⟩
theorem isLetter_any (c : Int) (r : Bool) (h : Say r ((97 : Int) ≤ c ∧ c ≤ 122)) (w : World) :
    Calls Try.prog 53 #[.int .u8 c] w fun e w' => e = .returned (.bool r) ∧ w' = w := by
  have H : Hid (Say r ((97 : Int) ≤ c ∧ c ≤ 122)) := h
  clear h
  go_enter Try.func53, Try.ntmps53
  go_wp2
  all_goals
    go_ret
    exact ⟨ret_bool (by have h := H.out; unfold Say at h; rw [Bool.eq_iff_iff, h]; simp <;> omega), rfl⟩
set_option maxHeartbeats 2000000 in
theorem name_any (s : ByteArray) (w : World) :
    Calls Try.prog 40 #[.string s] w fun e w' => e = .returned (.int .i64 (nchk s)) ∧ w' = w := by
  by_cases hsz : 1 ≤ s.size ∧ s.size ≤ 10
  · obtain ⟨h1, h2⟩ := hsz
    have hp : 0 < s.size := by omega
    have HE : Hid (nchk s = fst (sgn s) s.size) := nchk_mid h1 h2
    have HS : Hid (∀ k (h : k < s.size), sgn s k = if (97 ≤ (s[k].toNat : Int) ∧ (s[k].toNat : Int) ≤ 122) ∨ (k ≠ 0 ∧ 48 ≤ (s[k].toNat : Int) ∧ (s[k].toNat : Int) ≤ 57) then 0 else 4) := sgn_at s
    by_cases hd : (48 : Int) ≤ (s[0].toNat : Int) ∧ (s[0].toNat : Int) ≤ 57
    · have hx : fst (sgn s) s.size = 4 := by
        have e := sgn_at s 0 hp
        rw [if_neg (by omega)] at e
        rw [fst_hit (k := 0) rfl (by rw [e]; omega) hp, e]
      have HX : Hid (fst (sgn s) s.size = 4) := hx
      have HD : Hid ((48 : Int) ≤ (s[0].toNat : Int) ∧ (s[0].toNat : Int) ≤ 57) := hd
      clear hx hd
      go_enter Try.func40, Try.ntmps40
      go_wp2_with (go_at_call 52; refine (isDigit_any _ true (Say.yes HD.out) _).mono ?_; rintro e w' ⟨rfl, rfl⟩)
      go_ret
      exact ⟨ret_int (by rw [HE.out, HX.out]), rfl⟩
    · have HD : Hid (¬ ((48 : Int) ≤ (s[0].toNat : Int) ∧ (s[0].toNat : Int) ≤ 57)) := hd
      clear hd
      go_enter Try.func40, Try.ntmps40
      go_wp2_with (go_at_call 52; refine (isDigit_any _ false (Say.no HD.out) _).mono ?_; rintro e w' ⟨rfl, rfl⟩)
      go_loop [17] (fun i => ∃ k : Nat, k ≤ s.size ∧ i = .int .i64 k ∧ fst (sgn s) k = 0) (fun i => s.size - (intOf i).toNat)
      case atStart => exact ⟨0, Nat.zero_le _, rfl, rfl⟩
      case round =>
        obtain ⟨k, hk, rfl, hf⟩ := hrel
        have HF : Hid (fst (sgn s) k = 0) := hf
        clear hf
        by_cases hlt : k < s.size
        · have HK : Hid (sgn s k = if (97 ≤ (s[k].toNat : Int) ∧ (s[k].toNat : Int) ≤ 122) ∨ (k ≠ 0 ∧ 48 ≤ (s[k].toNat : Int) ∧ (s[k].toNat : Int) ≤ 57) then 0 else 4) := HS.out k hlt
          have HD' : Hid (k = 0 → ¬ (48 ≤ (s[k].toNat : Int) ∧ (s[k].toNat : Int) ≤ 57)) := fun h => by subst h; exact HD.out
          obtain ⟨bl, hbl⟩ := bool_of ((97 : Int) ≤ (s[k].toNat : Int) ∧ (s[k].toNat : Int) ≤ 122)
          obtain ⟨bd, hbd⟩ := bool_of ((48 : Int) ≤ (s[k].toNat : Int) ∧ (s[k].toNat : Int) ≤ 57)
          have HL : Hid (Say bl ((97 : Int) ≤ (s[k].toNat : Int) ∧ (s[k].toNat : Int) ≤ 122)) := hbl
          have HDG : Hid (Say bd ((48 : Int) ≤ (s[k].toNat : Int) ∧ (s[k].toNat : Int) ≤ 57)) := hbd
          clear hbl hbd
          cases bl <;> cases bd
          all_goals go_wp2_with (first | (go_at_call 52; refine (isDigit_any _ _ HDG.out _).mono ?_; rintro e w' ⟨rfl, rfl⟩) | (go_at_call 53; refine (isLetter_any _ _ HL.out _).mono ?_; rintro e w' ⟨rfl, rfl⟩))
          all_goals
            have hl := HL.out
            have hdg := HDG.out
            simp [Say] at hl hdg
            have e := HK.out
            have e2 := HD'.out
          · rw [if_neg (by omega)] at e
            go_ret
            exact ⟨ret_int (by rw [HE.out, fst_hit HF.out (by rw [e]; omega) hlt, e]), rfl⟩
          all_goals
            rw [if_pos (by omega)] at e
            have HEE : Hid (sgn s k = 0) := e
            clear e e2 hl hdg
            go_round
            case rel => exact ⟨k + 1, by omega, by go_num, fst_step HF.out HEE.out⟩
            case measure => simp [intOf]; omega
        · obtain rfl : k = s.size := by omega
          go_wp2
          go_ret
          exact ⟨ret_int (by rw [HE.out, HF.out]), rfl⟩
  · have he : nchk s = 1 := by unfold nchk; rw [if_pos (by omega)]
    have HE : Hid (nchk s = 1) := he
    clear he
    go_enter Try.func40, Try.ntmps40
    go_wp2
    all_goals first
      | (go_ret
         exact ⟨ret_int (by rw [HE.out]), rfl⟩)
      | (exfalso; omega)
end Go.Proofs.Ytepgkemnpcadiab
