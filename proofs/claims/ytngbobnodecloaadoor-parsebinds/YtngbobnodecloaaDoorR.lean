/-
  Words and Numbers as they are read.
-/
import Derived.Test.YtngbobnodecloaaDoorT2
import Derived.Test.YtngbobnodecloaaDoorT3
namespace Go.Proofs.YtngbobnodecloaaDoor
open Go.ChangeShapes Go.WideShapes Go.ChangeAt Go.RowKit
set_option linter.unusedVariables false
set_option linter.unusedSimpArgs false
theorem lw_say (c : UInt8) : Say (lw c) ((97 : Int) ≤ (c.toNat : Int) ∧ (c.toNat : Int) ≤ 122) := by
  unfold Say lw
  simp
  omega
theorem dg_say (c : UInt8) : Say (dg c) ((48 : Int) ≤ (c.toNat : Int) ∧ (c.toNat : Int) ≤ 57) := by
  unfold Say dg
  simp
  omega
theorem wl_cons (c : UInt8) (l : List UInt8) : wl (c :: l) = if (lw c || dg c) = true then wl l + 1 else 0 := rfl
set_option maxHeartbeats 4000000 in
theorem readWord_any (s : ByteArray) (w : World) (hs : (s.size : Int) ≤ 140737488355328) :
    Calls Tryd.prog 59 #[.string s] w fun e w' => e = .returned (.tuple #[tV (rdW s.data.toList).t, .int .i64 (rdW s.data.toList).n, .int .i64 (rdW s.data.toList).e]) ∧ Below w.heap.size w w' := by
  obtain ⟨N, hN⟩ : ∃ N, wl s.data.toList = N := ⟨_, rfl⟩
  have HN : Hid (wl s.data.toList = N) := hN
  obtain ⟨R, hR⟩ : ∃ R, rdW s.data.toList = R := ⟨_, rfl⟩
  have HR : Hid (rdW s.data.toList = R) := hR
  rw [hR]
  clear hN hR
  go_enter Tryd.func59, Tryd.ntmps59
  go_wp2
  go_loop [5] (fun i => ∃ k : Nat, k ≤ s.size ∧ i = .int .i64 k ∧ k + wl (s.data.toList.drop k) = N) (fun i => s.size - (intOf i).toNat)
  case atStart => exact ⟨0, by omega, rfl, by simpa using HN.out⟩
  case round =>
    obtain ⟨k, hk, rfl, hf⟩ := hrel
    by_cases hlt : k < s.size
    · have hd := drop_at s k hlt
      rw [hd, wl_cons] at hf
      have HL := lw_say s[k]
      have HD := dg_say s[k]
      obtain ⟨bl, hbl⟩ : ∃ b, lw s[k] = b := ⟨_, rfl⟩
      obtain ⟨bd, hbd⟩ : ∃ b, dg s[k] = b := ⟨_, rfl⟩
      rw [hbl] at HL hf
      rw [hbd] at HD hf
      have GL : Hid (Say bl ((97 : Int) ≤ (s[k].toNat : Int) ∧ (s[k].toNat : Int) ≤ 122)) := HL
      have GD : Hid (Say bd ((48 : Int) ≤ (s[k].toNat : Int) ∧ (s[k].toNat : Int) ≤ 57)) := HD
      clear HL HD hbl hbd hd
      have HF : Hid (k + (if (bl || bd) = true then wl (s.data.toList.drop (k + 1)) + 1 else 0) = N) := hf
      clear hf
      cases bl <;> cases bd
      · have h := HF.out
        simp at h
        have HK : Hid (k = N) := h
        clear h HF
        have hR2 := HR.out
        unfold rdW at hR2
        rw [HN.out, ← HK.out] at hR2
        by_cases h10 : 10 < k
        · rw [if_pos h10] at hR2
          have HQ : Hid (⟨1, no, 0⟩ = R) := hR2
          clear hR2
          go_wp2_with (first | (go_at_call 56; refine (lexLetter_any _ _ GL.out _).mono ?_; rintro e w' ⟨rfl, rfl⟩) | (go_at_call 57; refine (lexDigit_any _ _ GD.out _).mono ?_; rintro e w' ⟨rfl, rfl⟩))
          go_returns
          refine ⟨?_, by go_grown⟩
          rw [← HQ.out]; rfl
        · rw [if_neg h10] at hR2
          obtain ⟨X, hX⟩ : ∃ X, txt (List.take k s.data.toList) = X := ⟨_, rfl⟩
          rw [hX] at hR2
          have HQ : Hid (⟨0, ⟨1, X, 0⟩, k⟩ = R) := hR2
          have HX : Hid (s.extract 0 k = X) := by
            have := ext_txt s 0 k
            simp at this
            exact this.trans hX
          have HK2 : Hid (∀ W, Calls Tryd.prog 75 #[.string (s.extract 0 k)] W fun e w' => e = .returned (.string (s.extract 0 k)) ∧ Below W.heap.size W w') := fun W => clone_any _ W (by
            rw [ByteArray.size_extract]; omega)
          clear hR2 hX
          go_wp2_with (first | (go_at_call 56; refine (lexLetter_any _ _ GL.out _).mono ?_; rintro e w' ⟨rfl, rfl⟩) | (go_at_call 57; refine (lexDigit_any _ _ GD.out _).mono ?_; rintro e w' ⟨rfl, rfl⟩) | (go_at_call 75; refine (HK2.out _).mono ?_; rintro e w3 ⟨rfl, hb3⟩; obtain ⟨⟨q0, q1, q2⟩, ⟨f0, f1, f2⟩, hB⟩ := box3 hb3; have HB : Hid (Below w.heap.size w w3) := hB; clear hb3 hB))
          refine bodyPost_ret (res3 Tryd.results59 _ _ w.heap.size _ _ (by rfl) (range3 q0 q1 q2) Tryd.underlying53 rfl (by kernel_rfl)) rfl ?_
          refine ⟨?_, below3 HB.out _ (Nat.le_refl _)⟩
          rw [← HQ.out, ← HX.out]; rfl
      all_goals
        have h := HF.out
        simp at h
        go_wp2_with (first | (go_at_call 56; refine (lexLetter_any _ _ GL.out _).mono ?_; rintro e w' ⟨rfl, rfl⟩) | (go_at_call 57; refine (lexDigit_any _ _ GD.out _).mono ?_; rintro e w' ⟨rfl, rfl⟩))
        go_round
        case rel => exact ⟨k + 1, by omega, by go_num, by omega⟩
        case measure => simp [intOf]; omega
    · obtain rfl : k = s.size := by omega
      rw [List.drop_of_length_le (by simp)] at hf
      have HK : Hid (s.size = N) := hf
      clear hf
      have hR2 := HR.out
      unfold rdW at hR2
      rw [HN.out, ← HK.out] at hR2
      by_cases h10 : 10 < s.size
      · rw [if_pos h10] at hR2
        have HQ : Hid (⟨1, no, 0⟩ = R) := hR2
        clear hR2
        go_wp2
        go_returns
        refine ⟨?_, by go_grown⟩
        rw [← HQ.out]; rfl
      · rw [if_neg h10] at hR2
        obtain ⟨X, hX⟩ : ∃ X, txt (List.take s.size s.data.toList) = X := ⟨_, rfl⟩
        rw [hX] at hR2
        have HQ : Hid (⟨0, ⟨1, X, 0⟩, s.size⟩ = R) := hR2
        have HX : Hid (s = X) := by
          have := ext_txt s 0 s.size
          simp at this
          exact this.trans hX
        have HK2 : Hid (∀ W, Calls Tryd.prog 75 #[.string (s)] W fun e w' => e = .returned (.string s) ∧ Below W.heap.size W w') := fun W => clone_any _ W (by
          omega)
        clear hR2 hX
        go_wp2_with ((go_at_call 75; refine (HK2.out _).mono ?_; rintro e w3 ⟨rfl, hb3⟩; obtain ⟨⟨q0, q1, q2⟩, ⟨f0, f1, f2⟩, hB⟩ := box3 hb3; have HB : Hid (Below w.heap.size w w3) := hB; clear hb3 hB))
        refine bodyPost_ret (res3 Tryd.results59 _ _ w.heap.size _ _ (by rfl) (range3 q0 q1 q2) Tryd.underlying53 rfl (by kernel_rfl)) rfl ?_
        refine ⟨?_, below3 HB.out _ (Nat.le_refl _)⟩
        rw [← HQ.out, ← HX.out]; rfl
end Go.Proofs.YtngbobnodecloaaDoor
