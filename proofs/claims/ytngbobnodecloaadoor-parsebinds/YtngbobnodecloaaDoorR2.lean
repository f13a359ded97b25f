/-
  Numbers as they are read.
-/
import Derived.Test.YtngbobnodecloaaDoorR
namespace Go.Proofs.YtngbobnodecloaaDoor
open Go.ChangeShapes Go.WideShapes Go.ChangeAt Go.RowKit
set_option linter.unusedVariables false
set_option linter.unusedSimpArgs false
theorem numF_cons (c : UInt8) (l : List UInt8) (m n : Nat) : numF (c :: l) m n = if dg c = true then (if 1125899906842624 < 10 * m + (c.toNat - 48) then none else numF l (10 * m + (c.toNat - 48)) (n + 1)) else some (m, n) := rfl
set_option maxHeartbeats 4000000 in
theorem readNumber_any (s : ByteArray) (w : World) (h1 : 0 < s.size) (hs : (s.size : Int) ≤ 140737488355328) :
    Calls Tryd.prog 60 #[.string s] w fun e w' => e = .returned (.tuple #[tV (rdN s.data.toList).t, .int .i64 (rdN s.data.toList).n, .int .i64 (rdN s.data.toList).e]) ∧ Below w.heap.size w w' := by
  obtain ⟨R, hR⟩ : ∃ R, rdN s.data.toList = R := ⟨_, rfl⟩
  have HR : Hid (rdN s.data.toList = R) := hR
  rw [hR]
  clear hR
  go_enter Tryd.func60, Tryd.ntmps60
  go_wp2
  go_loop [5, 6] (fun i j => ∃ k m : Nat, k ≤ s.size ∧ i = .int .i64 k ∧ j = .int .i64 m ∧ m ≤ 1125899906842624 ∧ numF s.data.toList 0 0 = numF (s.data.toList.drop k) m k) (fun i _ => s.size - (intOf i).toNat)
  case atStart => exact ⟨0, 0, by omega, rfl, rfl, by omega, rfl⟩
  case round =>
    obtain ⟨k, m, hk, rfl, rfl, hm, hf⟩ := hrel
    by_cases hlt : k < s.size
    · have hd := drop_at s k hlt
      rw [hd, numF_cons] at hf
      have HD := dg_say s[k]
      obtain ⟨bd, hbd⟩ : ∃ b, dg s[k] = b := ⟨_, rfl⟩
      rw [hbd] at HD hf
      have GD : Hid (Say bd ((48 : Int) ≤ (s[k].toNat : Int) ∧ (s[k].toNat : Int) ≤ 57)) := HD
      cases bd
      · have hx : numF s.data.toList 0 0 = some (m, k) := by simpa using hf
        have HX : Hid (numF s.data.toList 0 0 = some (m, k)) := hx
        have hh0 : s.data.toList.head? = some s[0] := by
          have := drop_at s 0 h1
          rw [List.drop_zero] at this
          rw [this]; rfl
        have hhk : (s.data.toList.drop k).head? = some s[k] := by rw [hd]; rfl
        have HL := lw_say s[k]
        obtain ⟨bl, hbl⟩ : ∃ b, lw s[k] = b := ⟨_, rfl⟩
        have HBL : Hid (lw s[k] = bl) := hbl
        rw [hbl] at HL
        have GL : Hid (Say bl ((97 : Int) ≤ (s[k].toNat : Int) ∧ (s[k].toNat : Int) ≤ 122)) := HL
        clear hx hf hbd hbl HD HL hd
        have hR2 := HR.out
        unfold rdN at hR2
        rw [HX.out] at hR2
        simp only [hh0, hhk] at hR2
        have HR2 : Hid ((if (some s[0] = some 48 ∧ 1 < k) ∨ Option.any lw (some s[k]) = true then (⟨4, no, 0⟩ : Rd) else ⟨0, ⟨2, txt [], m⟩, k⟩) = R) := hR2
        clear hR2 hh0 hhk
        by_cases hz : (s[0].toNat : Int) = 48 <;> by_cases h1k : 1 < k <;> cases bl
        all_goals
          go_wp2_with (first | (go_at_call 57; refine (lexDigit_any _ _ GD.out _).mono ?_; rintro e w ⟨rfl, rfl⟩) | (go_at_call 56; refine (lexLetter_any _ _ GL.out _).mono ?_; rintro e w ⟨rfl, rfl⟩))
          go_returns
          refine ⟨?_, by go_grown⟩
          have hR3 := HR2.out
          have hz2 : s[0] = 48 ↔ (s[0].toNat : Int) = 48 := u8_eq s[0] 48 (by omega)
          simp [hz2, hz, h1k, HBL.out] at hR3
          rw [← hR3]; rfl
      · obtain ⟨hc1, hc2⟩ := HD.t
        have hw8 : IntKind.u8.wrap ((s[k].toNat : Int) - 48) = (s[k].toNat : Int) - 48 := by
          simp [IntKind.wrap, IntKind.bits, IntKind.signed]
          omega
        simp only [if_true] at hf
        by_cases hb : 1125899906842624 < 10 * m + (s[k].toNat - 48)
        · rw [if_pos hb] at hf
          have hR2 := HR.out
          unfold rdN at hR2
          rw [hf] at hR2
          have HQ : Hid (⟨2, no, 0⟩ = R) := hR2
          clear hd hbd HD hf hR2
          go_wp2_with (go_at_call 57; refine (lexDigit_any _ _ GD.out _).mono ?_; rintro e w' ⟨rfl, rfl⟩)
          go_returns
          refine ⟨?_, by go_grown⟩
          rw [← HQ.out]; rfl
        · rw [if_neg hb] at hf
          have HF : Hid (numF s.data.toList 0 0 = numF (s.data.toList.drop (k + 1)) (10 * m + (s[k].toNat - 48)) (k + 1)) := hf
          clear hd hbd HD hf
          go_wp2_with (go_at_call 57; refine (lexDigit_any _ _ GD.out _).mono ?_; rintro e w' ⟨rfl, rfl⟩)
          go_round
          case rel => exact ⟨k + 1, 10 * m + (s[k].toNat - 48), by omega, by go_num, by congr 1; omega, by omega, HF.out⟩
          case measure => simp [intOf]; omega
    · obtain rfl : k = s.size := by omega
      have hx : numF s.data.toList 0 0 = some (m, s.size) := by
        rw [List.drop_of_length_le (by simp)] at hf
        exact hf
      have HX : Hid (numF s.data.toList 0 0 = some (m, s.size)) := hx
      have hh0 : s.data.toList.head? = some s[0] := by
        have := drop_at s 0 h1
        rw [List.drop_zero] at this
        rw [this]; rfl
      have hhk : (s.data.toList.drop s.size).head? = none := by rw [List.drop_of_length_le (by simp)]; rfl
      clear hx hf
      have hR2 := HR.out
      unfold rdN at hR2
      rw [HX.out] at hR2
      simp only [hh0, hhk] at hR2
      have HR2 : Hid ((if (some s[0] = some 48 ∧ 1 < s.size) ∨ Option.any lw none = true then (⟨4, no, 0⟩ : Rd) else ⟨0, ⟨2, txt [], m⟩, s.size⟩) = R) := hR2
      clear hR2 hh0 hhk
      by_cases hz : (s[0].toNat : Int) = 48 <;> by_cases h1k : 1 < s.size
      all_goals
        go_wp2
        go_returns
        refine ⟨?_, by go_grown⟩
        have hR3 := HR2.out
        have hz2 : s[0] = 48 ↔ (s[0].toNat : Int) = 48 := u8_eq s[0] 48 (by omega)
        simp [hz2, hz, h1k] at hR3
        rw [← hR3]; rfl
end Go.Proofs.YtngbobnodecloaaDoor
