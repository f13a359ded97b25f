/-
  The bytes between tokens; which kind of token begins.
-/
import Derived.Test.YtngbobnodecloaaDoorT
namespace Go.Proofs.YtngbobnodecloaaDoor
open Go.ChangeShapes Go.WideShapes Go.ChangeAt Go.RowKit
set_option linter.unusedVariables false
set_option linter.unusedSimpArgs false
set_option maxHeartbeats 300000 in
theorem skip_any (s : ByteArray) (a : Nat) (w : World) (ha : a ≤ s.size) (hs : (s.size : Int) ≤ 4611686018427387904) :
    Calls Tryd.prog 31 #[.string s, .int .i64 a] w fun e w' => e = .returned (.int .i64 ((a + skp false (s.data.toList.drop a) : Nat) : Int)) ∧ w' = w := by
  obtain ⟨V, hV⟩ : ∃ V, a + skp false (s.data.toList.drop a) = V := ⟨_, rfl⟩
  have HV : Hid (a + skp false (s.data.toList.drop a) = V) := hV
  rw [hV]
  clear hV
  go_enter Tryd.func31, Tryd.ntmps31
  go_wp2
  go_loop [1] (fun i => ∃ k : Nat, k ≤ s.size ∧ i = .int .i64 k ∧ k + skp false (s.data.toList.drop k) = V) (fun i => s.size - (intOf i).toNat)
  case atStart => exact ⟨a, ha, rfl, HV.out⟩
  case round =>
    obtain ⟨k, hk, rfl, hf⟩ := hrel
    by_cases hlt : k < s.size
    · have hd := drop_at s k hlt
      have hlen : s.data.toList.length = s.size := by simp
      obtain ⟨b, hb⟩ := bool_of ((s[k].toNat : Int) = 32 ∨ (s[k].toNat : Int) = 9 ∨ (s[k].toNat : Int) = 10 ∨ (s[k].toNat : Int) = 13)
      have HB : Hid (Say b ((s[k].toNat : Int) = 32 ∨ (s[k].toNat : Int) = 9 ∨ (s[k].toNat : Int) = 10 ∨ (s[k].toNat : Int) = 13)) := hb
      cases b
      · by_cases h35 : (s[k].toNat : Int) = 35
        · have hc : s[k] = 35 := (u8_eq _ 35 (by omega)).2 h35
          have hq : skp false (s.data.toList.drop k) = nl (s.data.toList.drop k) + skp false (s.data.toList.drop (k + nl (s.data.toList.drop k))) := by
            rw [← List.drop_drop]
            rw [hd, hc]
            exact skp_35 _
          obtain ⟨n, hn⟩ : ∃ n, nl (s.data.toList.drop k) = n := ⟨_, rfl⟩
          have hle : n ≤ s.size - k := by
            have := nl_le (s.data.toList.drop k)
            rw [hn, List.length_drop, hlen] at this
            exact this
          have hpos : 1 ≤ n := by
            rw [← hn, hd, hc]
            simp [nl]
          have HC : Hid (∀ W, Calls Tryd.prog 55 #[.string (s.extract k s.size)] W fun e w' => e = .returned (.int .i64 n) ∧ w' = W) := fun W => by
            have := noteLength_any (s.extract k s.size) W
            rw [ext_to, hn] at this
            exact this
          rw [hn] at hq
          have hx : k + n + skp false (s.data.toList.drop (k + n)) = V := by rw [← hf, hq]; omega
          have HF : Hid (k + n + skp false (s.data.toList.drop (k + n)) = V) := hx
          clear hf hq hd hb hn hc hx hlen
          go_wp2_with (first | (go_at_call 54; refine (isBlank_any 35 false (Say.no (by omega)) _).mono ?_; rintro e w' ⟨rfl, rfl⟩) | (go_at_call 55; refine (HC.out _).mono ?_; rintro e w' ⟨rfl, rfl⟩))
          go_round
          case rel => exact ⟨k + n, by omega, by go_num, HF.out⟩
          case measure => simp [intOf]; omega
        · have hx : k = V := by
            have := skp_none (s.data.toList.drop (k + 1)) hb.f h35
            rw [← hd] at this
            omega
          have HF : Hid (k = V) := hx
          clear hf hd hb hx hlen
          go_wp2_with (go_at_call 54; refine (isBlank_any _ _ HB.out _).mono ?_; rintro e w' ⟨rfl, rfl⟩)
          go_ret
          exact ⟨ret_int (by rw [HF.out]), rfl⟩
      · have hx : k + 1 + skp false (s.data.toList.drop (k + 1)) = V := by
          have := skp_blank (s.data.toList.drop (k + 1)) hb.t
          rw [← hd] at this
          omega
        have HF : Hid (k + 1 + skp false (s.data.toList.drop (k + 1)) = V) := hx
        clear hf hd hb hx hlen
        go_wp2_with (go_at_call 54; refine (isBlank_any _ _ HB.out _).mono ?_; rintro e w' ⟨rfl, rfl⟩)
        go_round
        case rel => exact ⟨k + 1, by omega, by go_num, HF.out⟩
        case measure => simp [intOf]; omega
    · obtain rfl : k = s.size := by omega
      rw [List.drop_of_length_le (by simp)] at hf
      have HF : Hid (s.size = V) := hf
      clear hf
      go_wp2
      go_ret
      exact ⟨ret_int (by rw [HF.out]), rfl⟩
end Go.Proofs.YtngbobnodecloaaDoor
