/-
  The bytes between tokens; which kind of token begins. The bytes between tokens; which kind of token begins. The bytes between tokens; which kind of token begins.
-/
import Derived.Test.YtggfaglfchepfaaDoorS
namespace Go.Proofs.YtggfaglfchepfaaDoor
open Go.ChangeShapes Go.WideShapes Go.ChangeAt Go.RowKit
set_option linter.unusedVariables false
set_option linter.unusedSimpArgs false
/-- How long a note is. -/
def nl : List UInt8 → Nat
  | [] => 0
  | c :: l => if c = 10 then 0 else nl l + 1
theorem nl_ib : ∀ l : List UInt8, (nl l : Int) = if 0 ≤ Lib.indexByte l 10 then Lib.indexByte l 10 else (l.length : Int)
  | [] => by simp [nl, Lib.indexByte]
  | c :: l => by
    have ih := nl_ib l
    have hg := Lib.indexByte_ge l 10
    unfold nl Lib.indexByte
    by_cases h : c = 10
    · simp [h]
    · have hb : (c == 10) = false := by simpa using h
      simp only [h, if_false, hb]
      by_cases g : Lib.indexByte l 10 = -1
      · rw [g] at ih
        simp [g] at ih ⊢
        exact ih
      · have gb : (Lib.indexByte l 10 == -1) = false := by simpa using g
        rw [if_pos (by omega)] at ih
        simp only [gb, Bool.false_eq_true, if_false]
        rw [if_pos (by omega)]
        omega
theorem nl_le : ∀ l : List UInt8, nl l ≤ l.length
  | [] => by simp [nl]
  | c :: l => by
    have ih := nl_le l
    unfold nl
    split <;> simp <;> omega
theorem skp_note : ∀ l : List UInt8, skp true l = nl l + skp false (l.drop (nl l))
  | [] => by simp [skp, nl]
  | c :: l => by
    have ih := skp_note l
    by_cases h : c = 10
    · simp [skp, nl, h]
    · simp [skp, nl, h, ih]
      omega
theorem skp_35 (l : List UInt8) : skp false (35 :: l) = nl (35 :: l) + skp false ((35 :: l).drop (nl (35 :: l))) := by
  have h1 : nl (35 :: l) = nl l + 1 := by simp [nl]
  rw [h1, List.drop_succ_cons]
  have := skp_note l
  simp [skp, this]
  omega
set_option maxHeartbeats 1000000 in
theorem noteLength_any (s : ByteArray) (w : World) :
    Calls Tryd.prog 96 #[.string s] w fun e w' => e = .returned (.int .i64 (nl s.data.toList)) ∧ w' = w := by
  obtain ⟨i, hi⟩ : ∃ i, Lib.indexByte s.data.toList 10 = i := ⟨_, rfl⟩
  have HC : Hid (∀ W, Calls Tryd.prog 82 #[.string s, .int .u8 10] W fun e w' => e = .returned (.int .i64 i) ∧ w' = W) := fun W => by
    have := Tryd.strings_IndexByte s 10 W
    rw [show (10 : Int).toNat.toUInt8 = 10 from rfl, hi] at this
    exact this
  have hn := nl_ib s.data.toList
  rw [hi] at hn
  have HN : Hid ((nl s.data.toList : Int) = if 0 ≤ i then i else (s.data.toList.length : Int)) := hn
  clear hn hi
  go_enter Tryd.func96, Tryd.ntmps96
  go_wp2_with (go_at_call 82; refine (HC.out _).mono ?_; rintro e w2 ⟨rfl, rfl⟩)
  all_goals
    go_ret
    refine ⟨ret_int ?_, rfl⟩
    have h := HN.out
    simp at h
    rw [h]
    split <;> omega
theorem isBlank_any (c : Int) (r : Bool) (h : Say r (c = 32 ∨ c = 9 ∨ c = 10 ∨ c = 13)) (w : World) :
    Calls Tryd.prog 95 #[.int .u8 c] w fun e w' => e = .returned (.bool r) ∧ w' = w := by
  have H : Hid (Say r (c = 32 ∨ c = 9 ∨ c = 10 ∨ c = 13)) := h
  clear h
  go_enter Tryd.func95, Tryd.ntmps95
  go_wp2
  all_goals
    go_ret
    exact ⟨ret_bool (by have h := H.out; unfold Say at h; rw [Bool.eq_iff_iff, h]; simp <;> omega), rfl⟩
theorem lexDigit_any (c : Int) (r : Bool) (h : Say r ((48 : Int) ≤ c ∧ c ≤ 57)) (w : World) :
    Calls Tryd.prog 98 #[.int .u8 c] w fun e w' => e = .returned (.bool r) ∧ w' = w := by
  have H : Hid (Say r ((48 : Int) ≤ c ∧ c ≤ 57)) := h
  clear h
  go_enter Tryd.func98, Tryd.ntmps98
  go_wp2
  all_goals
    go_ret
    exact ⟨ret_bool (by have h := H.out; unfold Say at h; rw [Bool.eq_iff_iff, h]; simp <;> omega), rfl⟩
theorem lexLetter_any (c : Int) (r : Bool) (h : Say r ((97 : Int) ≤ c ∧ c ≤ 122)) (w : World) :
    Calls Tryd.prog 97 #[.int .u8 c] w fun e w' => e = .returned (.bool r) ∧ w' = w := by
  have H : Hid (Say r ((97 : Int) ≤ c ∧ c ≤ 122)) := h
  clear h
  go_enter Tryd.func97, Tryd.ntmps97
  go_wp2
  all_goals
    go_ret
    exact ⟨ret_bool (by have h := H.out; unfold Say at h; rw [Bool.eq_iff_iff, h]; simp <;> omega), rfl⟩
theorem u8_eq (c : UInt8) (n : Nat) (hn : n < 256) : c = UInt8.ofNat n ↔ (c.toNat : Int) = n := by
  constructor
  · rintro rfl; simp; omega
  · intro h; apply UInt8.toNat_inj.1; simp; omega
theorem drop_at (s : ByteArray) (k : Nat) (h : k < s.size) : s.data.toList.drop k = s[k] :: s.data.toList.drop (k + 1) := by
  have h' : k < s.data.toList.length := by simpa using h
  exact List.drop_eq_getElem_cons h'
theorem skp_blank {c : UInt8} (l : List UInt8) (h : (c.toNat : Int) = 32 ∨ (c.toNat : Int) = 9 ∨ (c.toNat : Int) = 10 ∨ (c.toNat : Int) = 13) : skp false (c :: l) = skp false l + 1 := by
  have e : c = 32 ∨ c = 9 ∨ c = 10 ∨ c = 13 := by
    rcases h with h | h | h | h
    · exact .inl ((u8_eq c 32 (by omega)).2 h)
    · exact .inr (.inl ((u8_eq c 9 (by omega)).2 h))
    · exact .inr (.inr (.inl ((u8_eq c 10 (by omega)).2 h)))
    · exact .inr (.inr (.inr ((u8_eq c 13 (by omega)).2 h)))
  simp only [skp, if_pos e]
theorem skp_none {c : UInt8} (l : List UInt8) (h : ¬ ((c.toNat : Int) = 32 ∨ (c.toNat : Int) = 9 ∨ (c.toNat : Int) = 10 ∨ (c.toNat : Int) = 13)) (h2 : ¬ (c.toNat : Int) = 35) : skp false (c :: l) = 0 := by
  have e : ¬ (c = 32 ∨ c = 9 ∨ c = 10 ∨ c = 13) := by
    rintro (rfl | rfl | rfl | rfl) <;> exact h (by decide)
  have e2 : ¬ c = 35 := by rintro rfl; exact h2 (by decide)
  simp only [skp, if_neg e, if_neg e2]
end Go.Proofs.YtggfaglfchepfaaDoor
namespace Go.Proofs.YtggfaglfchepfaaDoor
open Go.ChangeShapes Go.WideShapes Go.ChangeAt Go.RowKit
set_option linter.unusedVariables false
set_option linter.unusedSimpArgs false
set_option maxHeartbeats 300000 in
theorem skip_any (s : ByteArray) (a : Nat) (w : World) (ha : a ≤ s.size) (hs : (s.size : Int) ≤ 4611686018427387904) :
    Calls Tryd.prog 59 #[.string s, .int .i64 a] w fun e w' => e = .returned (.int .i64 ((a + skp false (s.data.toList.drop a) : Nat) : Int)) ∧ w' = w := by
  obtain ⟨V, hV⟩ : ∃ V, a + skp false (s.data.toList.drop a) = V := ⟨_, rfl⟩
  have HV : Hid (a + skp false (s.data.toList.drop a) = V) := hV
  rw [hV]
  clear hV
  go_enter Tryd.func59, Tryd.ntmps59
  go_wp2
  go_loop [1] (fun i => ∃ k : Nat, k ≤ s.size ∧ i = .int .i64 k ∧ k + skp false (s.data.toList.drop k) = V) (fun i => s.size - (intOf i).toNat)
  case atStart => exact ⟨a, ha, rfl, HV.out⟩
  case round =>
    obtain ⟨k, hk, rfl, hf⟩ := hrel
    by_cases hlt : k < s.size
    · have hd := drop_at s k hlt
      have hlen : s.data.toList.length = s.size := by simp
      obtain ⟨b, hb⟩ := bool_of ((s[k].toNat : Int) = 32 ∨ (s[k].toNat : Int) = 9 ∨ (s[k].toNat : Int) = 10 ∨ (s[k].toNat : Int) = 13)
      have HB : Hid (Say b ((s[k].toNat : Int) = 32 ∨ (s[k].toNat : Int) = 9 ∨ (s[k].toNat : Int) = 10 ∨ (s[k].toNat : Int) = 13)) := hb
      cases b
      · by_cases h35 : (s[k].toNat : Int) = 35
        · have hc : s[k] = 35 := (u8_eq _ 35 (by omega)).2 h35
          have hq : skp false (s.data.toList.drop k) = nl (s.data.toList.drop k) + skp false (s.data.toList.drop (k + nl (s.data.toList.drop k))) := by
            rw [← List.drop_drop]
            rw [hd, hc]
            exact skp_35 _
          obtain ⟨n, hn⟩ : ∃ n, nl (s.data.toList.drop k) = n := ⟨_, rfl⟩
          have hle : n ≤ s.size - k := by
            have := nl_le (s.data.toList.drop k)
            rw [hn, List.length_drop, hlen] at this
            exact this
          have hpos : 1 ≤ n := by
            rw [← hn, hd, hc]
            simp [nl]
          have HC : Hid (∀ W, Calls Tryd.prog 96 #[.string (s.extract k s.size)] W fun e w' => e = .returned (.int .i64 n) ∧ w' = W) := fun W => by
            have := noteLength_any (s.extract k s.size) W
            rw [ext_to, hn] at this
            exact this
          rw [hn] at hq
          have hx : k + n + skp false (s.data.toList.drop (k + n)) = V := by rw [← hf, hq]; omega
          have HF : Hid (k + n + skp false (s.data.toList.drop (k + n)) = V) := hx
          clear hf hq hd hb hn hc hx hlen
          go_wp2_with (first | (go_at_call 95; refine (isBlank_any 35 false (Say.no (by omega)) _).mono ?_; rintro e w' ⟨rfl, rfl⟩) | (go_at_call 96; refine (HC.out _).mono ?_; rintro e w' ⟨rfl, rfl⟩))
          go_round
          case rel => exact ⟨k + n, by omega, by go_num, HF.out⟩
          case measure => simp [intOf]; omega
        · have hx : k = V := by
            have := skp_none (s.data.toList.drop (k + 1)) hb.f h35
            rw [← hd] at this
            omega
          have HF : Hid (k = V) := hx
          clear hf hd hb hx hlen
          go_wp2_with (go_at_call 95; refine (isBlank_any _ _ HB.out _).mono ?_; rintro e w' ⟨rfl, rfl⟩)
          go_ret
          exact ⟨ret_int (by rw [HF.out]), rfl⟩
      · have hx : k + 1 + skp false (s.data.toList.drop (k + 1)) = V := by
          have := skp_blank (s.data.toList.drop (k + 1)) hb.t
          rw [← hd] at this
          omega
        have HF : Hid (k + 1 + skp false (s.data.toList.drop (k + 1)) = V) := hx
        clear hf hd hb hx hlen
        go_wp2_with (go_at_call 95; refine (isBlank_any _ _ HB.out _).mono ?_; rintro e w' ⟨rfl, rfl⟩)
        go_round
        case rel => exact ⟨k + 1, by omega, by go_num, HF.out⟩
        case measure => simp [intOf]; omega
    · obtain rfl : k = s.size := by omega
      rw [List.drop_of_length_le (by simp)] at hf
      have HF : Hid (s.size = V) := hf
      clear hf
      go_wp2
      go_ret
      exact ⟨ret_int (by rw [HF.out]), rfl⟩
end Go.Proofs.YtggfaglfchepfaaDoor
namespace Go.Proofs.YtggfaglfchepfaaDoor
open Go.ChangeShapes Go.WideShapes Go.ChangeAt Go.RowKit
set_option linter.unusedVariables false
set_option linter.unusedSimpArgs false
theorem bgn_cons (c : UInt8) (l : List UInt8) : bgn (c :: l) = if lw c = true then 1 else if dg c = true then 2 else if c = 34 then 3 else if fmk (c :: l) mkl ≠ [] then 4 else 0 := rfl
set_option maxHeartbeats 4000000 in
theorem begins_any (s : ByteArray) (w : World) (h1 : 1 ≤ s.size) (hM : Marks w) :
    Calls Tryd.prog 60 #[.string s] w fun e w' => e = .returned (.int .i64 (bgn s.data.toList)) ∧ w' = w := by
  have hp : 0 < s.size := by omega
  have hd : s.data.toList = s[0] :: s.data.toList.drop 1 := drop_at s 0 hp
  obtain ⟨bl, hbl⟩ := bool_of ((97 : Int) ≤ (s[0].toNat : Int) ∧ (s[0].toNat : Int) ≤ 122)
  obtain ⟨bd, hbd⟩ := bool_of ((48 : Int) ≤ (s[0].toNat : Int) ∧ (s[0].toNat : Int) ≤ 57)
  have el : lw s[0] = bl := by
    have h := hbl
    unfold Say at h
    rw [Bool.eq_iff_iff, h]
    simp [lw] <;> omega
  have ed : dg s[0] = bd := by
    have h := hbd
    unfold Say at h
    rw [Bool.eq_iff_iff, h]
    simp [dg] <;> omega
  obtain ⟨x, hx⟩ : ∃ x, txt (fmk s.data.toList mkl) = x := ⟨_, rfl⟩
  have HL : Hid (Say bl ((97 : Int) ≤ (s[0].toNat : Int) ∧ (s[0].toNat : Int) ≤ 122)) := hbl
  have HD : Hid (Say bd ((48 : Int) ≤ (s[0].toNat : Int) ∧ (s[0].toNat : Int) ≤ 57)) := hbd
  have HX : Hid (∀ W, Marks W → Calls Tryd.prog 99 #[.string s] W fun e w' => e = .returned (.string x) ∧ w' = W) := fun W hW => by rw [← hx]; exact longest_any s W hW
  have HM : Hid (Marks w) := hM
  have hbg : bgn s.data.toList = if bl = true then 1 else if bd = true then 2 else if s[0] = 34 then 3 else if x.toList ≠ [] then 4 else 0 := by
    rw [Lib.toList_data, ← hx, txt_list]
    conv => lhs; rw [hd, bgn_cons]
    rw [el, ed, ← hd]
  have e34 : s[0] = 34 ↔ (s[0].toNat : Int) = 34 := u8_eq _ 34 (by omega)
  simp only [e34] at hbg
  obtain ⟨r, hr⟩ : ∃ r, bgn s.data.toList = r := ⟨_, rfl⟩
  rw [hr] at hbg ⊢
  have HR : Hid (r = if bl = true then 1 else if bd = true then 2 else if (s[0].toNat : Int) = 34 then 3 else if x.toList ≠ [] then 4 else 0) := hbg
  clear hbg hr e34 hx el ed hbl hbd hd hM
  cases bl
  · cases bd
    all_goals
      go_enter Tryd.func60, Tryd.ntmps60
      go_wp2_with (first | (go_at_call 97; refine (lexLetter_any _ _ HL.out _).mono ?_; rintro e w' ⟨rfl, rfl⟩) | (go_at_call 98; refine (lexDigit_any _ _ HD.out _).mono ?_; rintro e w' ⟨rfl, rfl⟩) | (go_at_call 99; refine (HX.out _ HM.out).mono ?_; rintro e w' ⟨rfl, rfl⟩))
      all_goals
        go_ret
        refine ⟨ret_int ?_, rfl⟩
        rw [HR.out]
        simp_all
  · go_enter Tryd.func60, Tryd.ntmps60
    go_wp2_with (go_at_call 97; refine (lexLetter_any _ _ HL.out _).mono ?_; rintro e w' ⟨rfl, rfl⟩)
    go_ret
    exact ⟨ret_int (by rw [HR.out]; simp), rfl⟩
end Go.Proofs.YtggfaglfchepfaaDoor
