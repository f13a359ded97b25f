/-
  The bytes between tokens; which kind of token begins.
-/
import Derived.Test.YtngbobnodecloaaDoorS
namespace Go.Proofs.YtngbobnodecloaaDoor
open Go.ChangeShapes Go.WideShapes Go.ChangeAt Go.RowKit
set_option linter.unusedVariables false
set_option linter.unusedSimpArgs false
/-- How long a note is. -/
def nl : List UInt8 → Nat
  | [] => 0
  | c :: l => if c = 10 then 0 else nl l + 1
theorem nl_ib : ∀ l : List UInt8, (nl l : Int) = if 0 ≤ Lib.indexByte l 10 then Lib.indexByte l 10 else (l.length : Int)
  | [] => by simp [nl, Lib.indexByte]
  | c :: l => by
    have ih := nl_ib l
    have hg := Lib.indexByte_ge l 10
    unfold nl Lib.indexByte
    by_cases h : c = 10
    · simp [h]
    · have hb : (c == 10) = false := by simpa using h
      simp only [h, if_false, hb]
      by_cases g : Lib.indexByte l 10 = -1
      · rw [g] at ih
        simp [g] at ih ⊢
        exact ih
      · have gb : (Lib.indexByte l 10 == -1) = false := by simpa using g
        rw [if_pos (by omega)] at ih
        simp only [gb, Bool.false_eq_true, if_false]
        rw [if_pos (by omega)]
        omega
theorem nl_le : ∀ l : List UInt8, nl l ≤ l.length
  | [] => by simp [nl]
  | c :: l => by
    have ih := nl_le l
    unfold nl
    split <;> simp <;> omega
theorem skp_note : ∀ l : List UInt8, skp true l = nl l + skp false (l.drop (nl l))
  | [] => by simp [skp, nl]
  | c :: l => by
    have ih := skp_note l
    by_cases h : c = 10
    · simp [skp, nl, h]
    · simp [skp, nl, h, ih]
      omega
theorem skp_35 (l : List UInt8) : skp false (35 :: l) = nl (35 :: l) + skp false ((35 :: l).drop (nl (35 :: l))) := by
  have h1 : nl (35 :: l) = nl l + 1 := by simp [nl]
  rw [h1, List.drop_succ_cons]
  have := skp_note l
  simp [skp, this]
  omega
set_option maxHeartbeats 1000000 in
theorem noteLength_any (s : ByteArray) (w : World) :
    Calls Tryd.prog 55 #[.string s] w fun e w' => e = .returned (.int .i64 (nl s.data.toList)) ∧ w' = w := by
  obtain ⟨i, hi⟩ : ∃ i, Lib.indexByte s.data.toList 10 = i := ⟨_, rfl⟩
  have HC : Hid (∀ W, Calls Tryd.prog 63 #[.string s, .int .u8 10] W fun e w' => e = .returned (.int .i64 i) ∧ w' = W) := fun W => by
    have := Tryd.strings_IndexByte s 10 W
    rw [show (10 : Int).toNat.toUInt8 = 10 from rfl, hi] at this
    exact this
  have hn := nl_ib s.data.toList
  rw [hi] at hn
  have HN : Hid ((nl s.data.toList : Int) = if 0 ≤ i then i else (s.data.toList.length : Int)) := hn
  clear hn hi
  go_enter Tryd.func55, Tryd.ntmps55
  go_wp2_with (go_at_call 63; refine (HC.out _).mono ?_; rintro e w2 ⟨rfl, rfl⟩)
  all_goals
    go_ret
    refine ⟨ret_int ?_, rfl⟩
    have h := HN.out
    simp at h
    rw [h]
    split <;> omega
theorem isBlank_any (c : Int) (r : Bool) (h : Say r (c = 32 ∨ c = 9 ∨ c = 10 ∨ c = 13)) (w : World) :
    Calls Tryd.prog 54 #[.int .u8 c] w fun e w' => e = .returned (.bool r) ∧ w' = w := by
  have H : Hid (Say r (c = 32 ∨ c = 9 ∨ c = 10 ∨ c = 13)) := h
  clear h
  go_enter Tryd.func54, Tryd.ntmps54
  go_wp2
  all_goals
    go_ret
    exact ⟨ret_bool (by have h := H.out; unfold Say at h; rw [Bool.eq_iff_iff, h]; simp <;> omega), rfl⟩
theorem lexDigit_any (c : Int) (r : Bool) (h : Say r ((48 : Int) ≤ c ∧ c ≤ 57)) (w : World) :
    Calls Tryd.prog 57 #[.int .u8 c] w fun e w' => e = .returned (.bool r) ∧ w' = w := by
  have H : Hid (Say r ((48 : Int) ≤ c ∧ c ≤ 57)) := h
  clear h
  go_enter Tryd.func57, Tryd.ntmps57
  go_wp2
  all_goals
    go_ret
    exact ⟨ret_bool (by have h := H.out; unfold Say at h; rw [Bool.eq_iff_iff, h]; simp <;> omega), rfl⟩
theorem lexLetter_any (c : Int) (r : Bool) (h : Say r ((97 : Int) ≤ c ∧ c ≤ 122)) (w : World) :
    Calls Tryd.prog 56 #[.int .u8 c] w fun e w' => e = .returned (.bool r) ∧ w' = w := by
  have H : Hid (Say r ((97 : Int) ≤ c ∧ c ≤ 122)) := h
  clear h
  go_enter Tryd.func56, Tryd.ntmps56
  go_wp2
  all_goals
    go_ret
    exact ⟨ret_bool (by have h := H.out; unfold Say at h; rw [Bool.eq_iff_iff, h]; simp <;> omega), rfl⟩
theorem u8_eq (c : UInt8) (n : Nat) (hn : n < 256) : c = UInt8.ofNat n ↔ (c.toNat : Int) = n := by
  constructor
  · rintro rfl; simp; omega
  · intro h; apply UInt8.toNat_inj.1; simp; omega
theorem drop_at (s : ByteArray) (k : Nat) (h : k < s.size) : s.data.toList.drop k = s[k] :: s.data.toList.drop (k + 1) := by
  have h' : k < s.data.toList.length := by simpa using h
  exact List.drop_eq_getElem_cons h'
theorem skp_blank {c : UInt8} (l : List UInt8) (h : (c.toNat : Int) = 32 ∨ (c.toNat : Int) = 9 ∨ (c.toNat : Int) = 10 ∨ (c.toNat : Int) = 13) : skp false (c :: l) = skp false l + 1 := by
  have e : c = 32 ∨ c = 9 ∨ c = 10 ∨ c = 13 := by
    rcases h with h | h | h | h
    · exact .inl ((u8_eq c 32 (by omega)).2 h)
    · exact .inr (.inl ((u8_eq c 9 (by omega)).2 h))
    · exact .inr (.inr (.inl ((u8_eq c 10 (by omega)).2 h)))
    · exact .inr (.inr (.inr ((u8_eq c 13 (by omega)).2 h)))
  simp only [skp, if_pos e]
theorem skp_none {c : UInt8} (l : List UInt8) (h : ¬ ((c.toNat : Int) = 32 ∨ (c.toNat : Int) = 9 ∨ (c.toNat : Int) = 10 ∨ (c.toNat : Int) = 13)) (h2 : ¬ (c.toNat : Int) = 35) : skp false (c :: l) = 0 := by
  have e : ¬ (c = 32 ∨ c = 9 ∨ c = 10 ∨ c = 13) := by
    rintro (rfl | rfl | rfl | rfl) <;> exact h (by decide)
  have e2 : ¬ c = 35 := by rintro rfl; exact h2 (by decide)
  simp only [skp, if_neg e, if_neg e2]
end Go.Proofs.YtngbobnodecloaaDoor
