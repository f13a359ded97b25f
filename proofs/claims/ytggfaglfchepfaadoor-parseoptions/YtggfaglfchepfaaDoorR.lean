/-
  Words and Numbers as they are read. Numbers as they are read. A token of a kind as it is read.
-/
import Derived.Test.YtggfaglfchepfaaDoorT
namespace Go.Proofs.YtggfaglfchepfaaDoor
open Go.ChangeShapes Go.WideShapes Go.ChangeAt Go.RowKit
set_option linter.unusedVariables false
set_option linter.unusedSimpArgs false
theorem lw_say (c : UInt8) : Say (lw c) ((97 : Int) ≤ (c.toNat : Int) ∧ (c.toNat : Int) ≤ 122) := by
  unfold Say lw
  simp
  omega
theorem dg_say (c : UInt8) : Say (dg c) ((48 : Int) ≤ (c.toNat : Int) ∧ (c.toNat : Int) ≤ 57) := by
  unfold Say dg
  simp
  omega
theorem wl_cons (c : UInt8) (l : List UInt8) : wl (c :: l) = if (lw c || dg c) = true then wl l + 1 else 0 := rfl
set_option maxHeartbeats 4000000 in
theorem readWord_any (s : ByteArray) (w : World) (hs : (s.size : Int) ≤ 140737488355328) :
    Calls Tryd.prog 100 #[.string s] w fun e w' => e = .returned (.tuple #[tV (rdW s.data.toList).t, .int .i64 (rdW s.data.toList).n, .int .i64 (rdW s.data.toList).e]) ∧ Below w.heap.size w w' := by
  obtain ⟨N, hN⟩ : ∃ N, wl s.data.toList = N := ⟨_, rfl⟩
  have HN : Hid (wl s.data.toList = N) := hN
  obtain ⟨R, hR⟩ : ∃ R, rdW s.data.toList = R := ⟨_, rfl⟩
  have HR : Hid (rdW s.data.toList = R) := hR
  rw [hR]
  clear hN hR
  go_enter Tryd.func100, Tryd.ntmps100
  go_wp2
  go_loop [5] (fun i => ∃ k : Nat, k ≤ s.size ∧ i = .int .i64 k ∧ k + wl (s.data.toList.drop k) = N) (fun i => s.size - (intOf i).toNat)
  case atStart => exact ⟨0, by omega, rfl, by simpa using HN.out⟩
  case round =>
    obtain ⟨k, hk, rfl, hf⟩ := hrel
    by_cases hlt : k < s.size
    · have hd := drop_at s k hlt
      rw [hd, wl_cons] at hf
      have HL := lw_say s[k]
      have HD := dg_say s[k]
      obtain ⟨bl, hbl⟩ : ∃ b, lw s[k] = b := ⟨_, rfl⟩
      obtain ⟨bd, hbd⟩ : ∃ b, dg s[k] = b := ⟨_, rfl⟩
      rw [hbl] at HL hf
      rw [hbd] at HD hf
      have GL : Hid (Say bl ((97 : Int) ≤ (s[k].toNat : Int) ∧ (s[k].toNat : Int) ≤ 122)) := HL
      have GD : Hid (Say bd ((48 : Int) ≤ (s[k].toNat : Int) ∧ (s[k].toNat : Int) ≤ 57)) := HD
      clear HL HD hbl hbd hd
      have HF : Hid (k + (if (bl || bd) = true then wl (s.data.toList.drop (k + 1)) + 1 else 0) = N) := hf
      clear hf
      cases bl <;> cases bd
      · have h := HF.out
        simp at h
        have HK : Hid (k = N) := h
        clear h HF
        have hR2 := HR.out
        unfold rdW at hR2
        rw [HN.out, ← HK.out] at hR2
        by_cases h10 : 10 < k
        · rw [if_pos h10] at hR2
          have HQ : Hid (⟨1, no, 0⟩ = R) := hR2
          clear hR2
          go_wp2_with (first | (go_at_call 97; refine (lexLetter_any _ _ GL.out _).mono ?_; rintro e w' ⟨rfl, rfl⟩) | (go_at_call 98; refine (lexDigit_any _ _ GD.out _).mono ?_; rintro e w' ⟨rfl, rfl⟩))
          go_returns
          refine ⟨?_, by go_grown⟩
          rw [← HQ.out]; rfl
        · rw [if_neg h10] at hR2
          obtain ⟨X, hX⟩ : ∃ X, txt (List.take k s.data.toList) = X := ⟨_, rfl⟩
          rw [hX] at hR2
          have HQ : Hid (⟨0, ⟨1, X, 0⟩, k⟩ = R) := hR2
          have HX : Hid (s.extract 0 k = X) := by
            have := ext_txt s 0 k
            simp at this
            exact this.trans hX
          have HK2 : Hid (∀ W, Calls Tryd.prog 131 #[.string (s.extract 0 k)] W fun e w' => e = .returned (.string (s.extract 0 k)) ∧ Below W.heap.size W w') := fun W => clone_any _ W (by
            rw [ByteArray.size_extract]; omega)
          clear hR2 hX
          go_wp2_with (first | (go_at_call 97; refine (lexLetter_any _ _ GL.out _).mono ?_; rintro e w' ⟨rfl, rfl⟩) | (go_at_call 98; refine (lexDigit_any _ _ GD.out _).mono ?_; rintro e w' ⟨rfl, rfl⟩) | (go_at_call 131; refine (HK2.out _).mono ?_; rintro e w3 ⟨rfl, hb3⟩; obtain ⟨⟨q0, q1, q2⟩, ⟨f0, f1, f2⟩, hB⟩ := box3 hb3; have HB : Hid (Below w.heap.size w w3) := hB; clear hb3 hB))
          refine bodyPost_ret (res3 Tryd.results100 _ _ w.heap.size _ _ (by rfl) (range3 q0 q1 q2) Tryd.underlying38 rfl (by kernel_rfl)) rfl ?_
          refine ⟨?_, below3 HB.out _ (Nat.le_refl _)⟩
          rw [← HQ.out, ← HX.out]; rfl
      all_goals
        have h := HF.out
        simp at h
        go_wp2_with (first | (go_at_call 97; refine (lexLetter_any _ _ GL.out _).mono ?_; rintro e w' ⟨rfl, rfl⟩) | (go_at_call 98; refine (lexDigit_any _ _ GD.out _).mono ?_; rintro e w' ⟨rfl, rfl⟩))
        go_round
        case rel => exact ⟨k + 1, by omega, by go_num, by omega⟩
        case measure => simp [intOf]; omega
    · obtain rfl : k = s.size := by omega
      rw [List.drop_of_length_le (by simp)] at hf
      have HK : Hid (s.size = N) := hf
      clear hf
      have hR2 := HR.out
      unfold rdW at hR2
      rw [HN.out, ← HK.out] at hR2
      by_cases h10 : 10 < s.size
      · rw [if_pos h10] at hR2
        have HQ : Hid (⟨1, no, 0⟩ = R) := hR2
        clear hR2
        go_wp2
        go_returns
        refine ⟨?_, by go_grown⟩
        rw [← HQ.out]; rfl
      · rw [if_neg h10] at hR2
        obtain ⟨X, hX⟩ : ∃ X, txt (List.take s.size s.data.toList) = X := ⟨_, rfl⟩
        rw [hX] at hR2
        have HQ : Hid (⟨0, ⟨1, X, 0⟩, s.size⟩ = R) := hR2
        have HX : Hid (s = X) := by
          have := ext_txt s 0 s.size
          simp at this
          exact this.trans hX
        have HK2 : Hid (∀ W, Calls Tryd.prog 131 #[.string (s)] W fun e w' => e = .returned (.string s) ∧ Below W.heap.size W w') := fun W => clone_any _ W (by
          omega)
        clear hR2 hX
        go_wp2_with ((go_at_call 131; refine (HK2.out _).mono ?_; rintro e w3 ⟨rfl, hb3⟩; obtain ⟨⟨q0, q1, q2⟩, ⟨f0, f1, f2⟩, hB⟩ := box3 hb3; have HB : Hid (Below w.heap.size w w3) := hB; clear hb3 hB))
        refine bodyPost_ret (res3 Tryd.results100 _ _ w.heap.size _ _ (by rfl) (range3 q0 q1 q2) Tryd.underlying38 rfl (by kernel_rfl)) rfl ?_
        refine ⟨?_, below3 HB.out _ (Nat.le_refl _)⟩
        rw [← HQ.out, ← HX.out]; rfl
end Go.Proofs.YtggfaglfchepfaaDoor
namespace Go.Proofs.YtggfaglfchepfaaDoor
open Go.ChangeShapes Go.WideShapes Go.ChangeAt Go.RowKit
set_option linter.unusedVariables false
set_option linter.unusedSimpArgs false
theorem numF_cons (c : UInt8) (l : List UInt8) (m n : Nat) : numF (c :: l) m n = if dg c = true then (if 1125899906842624 < 10 * m + (c.toNat - 48) then none else numF l (10 * m + (c.toNat - 48)) (n + 1)) else some (m, n) := rfl
set_option maxHeartbeats 4000000 in
theorem readNumber_any (s : ByteArray) (w : World) (h1 : 0 < s.size) (hs : (s.size : Int) ≤ 140737488355328) :
    Calls Tryd.prog 101 #[.string s] w fun e w' => e = .returned (.tuple #[tV (rdN s.data.toList).t, .int .i64 (rdN s.data.toList).n, .int .i64 (rdN s.data.toList).e]) ∧ Below w.heap.size w w' := by
  obtain ⟨R, hR⟩ : ∃ R, rdN s.data.toList = R := ⟨_, rfl⟩
  have HR : Hid (rdN s.data.toList = R) := hR
  rw [hR]
  clear hR
  go_enter Tryd.func101, Tryd.ntmps101
  go_wp2
  go_loop [5, 6] (fun i j => ∃ k m : Nat, k ≤ s.size ∧ i = .int .i64 k ∧ j = .int .i64 m ∧ m ≤ 1125899906842624 ∧ numF s.data.toList 0 0 = numF (s.data.toList.drop k) m k) (fun i _ => s.size - (intOf i).toNat)
  case atStart => exact ⟨0, 0, by omega, rfl, rfl, by omega, rfl⟩
  case round =>
    obtain ⟨k, m, hk, rfl, rfl, hm, hf⟩ := hrel
    by_cases hlt : k < s.size
    · have hd := drop_at s k hlt
      rw [hd, numF_cons] at hf
      have HD := dg_say s[k]
      obtain ⟨bd, hbd⟩ : ∃ b, dg s[k] = b := ⟨_, rfl⟩
      rw [hbd] at HD hf
      have GD : Hid (Say bd ((48 : Int) ≤ (s[k].toNat : Int) ∧ (s[k].toNat : Int) ≤ 57)) := HD
      cases bd
      · have hx : numF s.data.toList 0 0 = some (m, k) := by simpa using hf
        have HX : Hid (numF s.data.toList 0 0 = some (m, k)) := hx
        have hh0 : s.data.toList.head? = some s[0] := by
          have := drop_at s 0 h1
          rw [List.drop_zero] at this
          rw [this]; rfl
        have hhk : (s.data.toList.drop k).head? = some s[k] := by rw [hd]; rfl
        have HL := lw_say s[k]
        obtain ⟨bl, hbl⟩ : ∃ b, lw s[k] = b := ⟨_, rfl⟩
        have HBL : Hid (lw s[k] = bl) := hbl
        rw [hbl] at HL
        have GL : Hid (Say bl ((97 : Int) ≤ (s[k].toNat : Int) ∧ (s[k].toNat : Int) ≤ 122)) := HL
        clear hx hf hbd hbl HD HL hd
        have hR2 := HR.out
        unfold rdN at hR2
        rw [HX.out] at hR2
        simp only [hh0, hhk] at hR2
        have HR2 : Hid ((if (some s[0] = some 48 ∧ 1 < k) ∨ Option.any lw (some s[k]) = true then (⟨4, no, 0⟩ : Rd) else ⟨0, ⟨2, txt [], m⟩, k⟩) = R) := hR2
        clear hR2 hh0 hhk
        by_cases hz : (s[0].toNat : Int) = 48 <;> by_cases h1k : 1 < k <;> cases bl
        all_goals
          go_wp2_with (first | (go_at_call 98; refine (lexDigit_any _ _ GD.out _).mono ?_; rintro e w ⟨rfl, rfl⟩) | (go_at_call 97; refine (lexLetter_any _ _ GL.out _).mono ?_; rintro e w ⟨rfl, rfl⟩))
          go_returns
          refine ⟨?_, by go_grown⟩
          have hR3 := HR2.out
          have hz2 : s[0] = 48 ↔ (s[0].toNat : Int) = 48 := u8_eq s[0] 48 (by omega)
          simp [hz2, hz, h1k, HBL.out] at hR3
          rw [← hR3]; rfl
      · obtain ⟨hc1, hc2⟩ := HD.t
        have hw8 : IntKind.u8.wrap ((s[k].toNat : Int) - 48) = (s[k].toNat : Int) - 48 := by
          simp [IntKind.wrap, IntKind.bits, IntKind.signed]
          omega
        simp only [if_true] at hf
        by_cases hb : 1125899906842624 < 10 * m + (s[k].toNat - 48)
        · rw [if_pos hb] at hf
          have hR2 := HR.out
          unfold rdN at hR2
          rw [hf] at hR2
          have HQ : Hid (⟨2, no, 0⟩ = R) := hR2
          clear hd hbd HD hf hR2
          go_wp2_with (go_at_call 98; refine (lexDigit_any _ _ GD.out _).mono ?_; rintro e w' ⟨rfl, rfl⟩)
          go_returns
          refine ⟨?_, by go_grown⟩
          rw [← HQ.out]; rfl
        · rw [if_neg hb] at hf
          have HF : Hid (numF s.data.toList 0 0 = numF (s.data.toList.drop (k + 1)) (10 * m + (s[k].toNat - 48)) (k + 1)) := hf
          clear hd hbd HD hf
          go_wp2_with (go_at_call 98; refine (lexDigit_any _ _ GD.out _).mono ?_; rintro e w' ⟨rfl, rfl⟩)
          go_round
          case rel => exact ⟨k + 1, 10 * m + (s[k].toNat - 48), by omega, by go_num, by congr 1; omega, by omega, HF.out⟩
          case measure => simp [intOf]; omega
    · obtain rfl : k = s.size := by omega
      have hx : numF s.data.toList 0 0 = some (m, s.size) := by
        rw [List.drop_of_length_le (by simp)] at hf
        exact hf
      have HX : Hid (numF s.data.toList 0 0 = some (m, s.size)) := hx
      have hh0 : s.data.toList.head? = some s[0] := by
        have := drop_at s 0 h1
        rw [List.drop_zero] at this
        rw [this]; rfl
      have hhk : (s.data.toList.drop s.size).head? = none := by rw [List.drop_of_length_le (by simp)]; rfl
      clear hx hf
      have hR2 := HR.out
      unfold rdN at hR2
      rw [HX.out] at hR2
      simp only [hh0, hhk] at hR2
      have HR2 : Hid ((if (some s[0] = some 48 ∧ 1 < s.size) ∨ Option.any lw none = true then (⟨4, no, 0⟩ : Rd) else ⟨0, ⟨2, txt [], m⟩, s.size⟩) = R) := hR2
      clear hR2 hh0 hhk
      by_cases hz : (s[0].toNat : Int) = 48 <;> by_cases h1k : 1 < s.size
      all_goals
        go_wp2
        go_returns
        refine ⟨?_, by go_grown⟩
        have hR3 := HR2.out
        have hz2 : s[0] = 48 ↔ (s[0].toNat : Int) = 48 := u8_eq s[0] 48 (by omega)
        simp [hz2, hz, h1k] at hR3
        rw [← hR3]; rfl
end Go.Proofs.YtggfaglfchepfaaDoor
namespace Go.Proofs.YtggfaglfchepfaaDoor
open Go.ChangeShapes Go.WideShapes Go.ChangeAt Go.RowKit
set_option linter.unusedVariables false
set_option linter.unusedSimpArgs false
set_option maxHeartbeats 2000000 in
theorem read_1 (s : ByteArray) (R : Rd) (w : World) (hC : ∀ W, Calls Tryd.prog 100 #[.string s] W fun e w' => e = .returned (.tuple #[.agg #[.int .i64 R.t.k, .string R.t.s, .int .i64 R.t.n], .int .i64 R.n, .int .i64 R.e]) ∧ Below W.heap.size W w') :
    Calls Tryd.prog 61 #[.int .i64 1, .string s] w fun e w' => e = .returned (.tuple #[tV R.t, .int .i64 R.n, .int .i64 R.e]) ∧ Below w.heap.size w w' := by
  have HC : Hid (∀ W, Calls Tryd.prog 100 #[.string s] W fun e w' => e = .returned (.tuple #[.agg #[.int .i64 R.t.k, .string R.t.s, .int .i64 R.t.n], .int .i64 R.n, .int .i64 R.e]) ∧ Below W.heap.size W w') := hC
  clear hC
  go_enter Tryd.func61, Tryd.ntmps61
  go_wp2_with (go_at_call 100; refine (HC.out _).mono ?_; rintro e w3 ⟨rfl, hb3⟩; obtain ⟨⟨q0, q1, q2⟩, ⟨f0, f1, f2⟩, hB⟩ := box3 hb3; have HB : Hid (Below w.heap.size w w3) := hB; clear hb3 hB)
  refine bodyPost_ret (res3 Tryd.results61 _ _ w.heap.size _ _ (by rfl) (range3 q0 q1 q2) Tryd.underlying38 rfl (by kernel_rfl)) rfl ?_
  exact ⟨rfl, below3 HB.out _ (Nat.le_refl _)⟩
set_option maxHeartbeats 2000000 in
theorem read_2 (s : ByteArray) (R : Rd) (w : World) (hC : ∀ W, Calls Tryd.prog 101 #[.string s] W fun e w' => e = .returned (.tuple #[.agg #[.int .i64 R.t.k, .string R.t.s, .int .i64 R.t.n], .int .i64 R.n, .int .i64 R.e]) ∧ Below W.heap.size W w') :
    Calls Tryd.prog 61 #[.int .i64 2, .string s] w fun e w' => e = .returned (.tuple #[tV R.t, .int .i64 R.n, .int .i64 R.e]) ∧ Below w.heap.size w w' := by
  have HC : Hid (∀ W, Calls Tryd.prog 101 #[.string s] W fun e w' => e = .returned (.tuple #[.agg #[.int .i64 R.t.k, .string R.t.s, .int .i64 R.t.n], .int .i64 R.n, .int .i64 R.e]) ∧ Below W.heap.size W w') := hC
  clear hC
  go_enter Tryd.func61, Tryd.ntmps61
  go_wp2_with (go_at_call 101; refine (HC.out _).mono ?_; rintro e w3 ⟨rfl, hb3⟩; obtain ⟨⟨q0, q1, q2⟩, ⟨f0, f1, f2⟩, hB⟩ := box3 hb3; have HB : Hid (Below w.heap.size w w3) := hB; clear hb3 hB)
  refine bodyPost_ret (res3 Tryd.results61 _ _ w.heap.size _ _ (by rfl) (range3 q0 q1 q2) Tryd.underlying38 rfl (by kernel_rfl)) rfl ?_
  exact ⟨rfl, below3 HB.out _ (Nat.le_refl _)⟩
set_option maxHeartbeats 2000000 in
theorem read_3 (s : ByteArray) (R : Rd) (w : World) (hC : ∀ W, Calls Tryd.prog 102 #[.string s] W fun e w' => e = .returned (.tuple #[.agg #[.int .i64 R.t.k, .string R.t.s, .int .i64 R.t.n], .int .i64 R.n, .int .i64 R.e]) ∧ Below W.heap.size W w') :
    Calls Tryd.prog 61 #[.int .i64 3, .string s] w fun e w' => e = .returned (.tuple #[tV R.t, .int .i64 R.n, .int .i64 R.e]) ∧ Below w.heap.size w w' := by
  have HC : Hid (∀ W, Calls Tryd.prog 102 #[.string s] W fun e w' => e = .returned (.tuple #[.agg #[.int .i64 R.t.k, .string R.t.s, .int .i64 R.t.n], .int .i64 R.n, .int .i64 R.e]) ∧ Below W.heap.size W w') := hC
  clear hC
  go_enter Tryd.func61, Tryd.ntmps61
  go_wp2_with (go_at_call 102; refine (HC.out _).mono ?_; rintro e w3 ⟨rfl, hb3⟩; obtain ⟨⟨q0, q1, q2⟩, ⟨f0, f1, f2⟩, hB⟩ := box3 hb3; have HB : Hid (Below w.heap.size w w3) := hB; clear hb3 hB)
  refine bodyPost_ret (res3 Tryd.results61 _ _ w.heap.size _ _ (by rfl) (range3 q0 q1 q2) Tryd.underlying38 rfl (by kernel_rfl)) rfl ?_
  exact ⟨rfl, below3 HB.out _ (Nat.le_refl _)⟩
set_option maxHeartbeats 2000000 in
theorem read_4 (s : ByteArray) (w : World) (hM : Marks w) :
    Calls Tryd.prog 61 #[.int .i64 4, .string s] w fun e w' => e = .returned (.tuple #[tV (rdM s.data.toList).t, .int .i64 (rdM s.data.toList).n, .int .i64 (rdM s.data.toList).e]) ∧ Below w.heap.size w w' := by
  have HM : Hid (∀ o, Marks (w.alloc o)) := fun o => hM.alloc o
  clear hM
  unfold rdM
  simp only
  obtain ⟨x, hx⟩ : ∃ x, txt (fmk s.data.toList mkl) = x := ⟨_, rfl⟩
  have hxs : x.size = (fmk s.data.toList mkl).length := by rw [← hx, txt_size]
  rw [← hxs]
  have HX : Hid (∀ W, Marks W → Calls Tryd.prog 99 #[.string s] W fun e w' => e = .returned (.string x) ∧ w' = W) := fun W hW => by rw [← hx]; exact longest_any s W hW
  rw [hx]
  clear hx hxs
  unfold tV
  go_enter Tryd.func61, Tryd.ntmps61
  go_wp2_with (go_at_call 99; refine (HX.out _ (HM.out _)).mono ?_; rintro e w3 ⟨rfl, rfl⟩)
  go_returns
  exact ⟨rfl, by go_grown⟩
theorem read_any (s : ByteArray) (w : World) (hM : Marks w) (h1 : 0 < s.size) (hs : (s.size : Int) ≤ 140737488355328) (h0 : bgn s.data.toList ≠ 0) :
    Calls Tryd.prog 61 #[.int .i64 (bgn s.data.toList), .string s] w fun e w' => e = .returned (.tuple #[tV (rd s.data.toList).t, .int .i64 (rd s.data.toList).n, .int .i64 (rd s.data.toList).e]) ∧ Below w.heap.size w w' := by
  have hb : bgn s.data.toList = 1 ∨ bgn s.data.toList = 2 ∨ bgn s.data.toList = 3 ∨ bgn s.data.toList = 4 := by
    revert h0
    cases s.data.toList with
    | nil => intro h; exact absurd rfl h
    | cons c l =>
      rw [bgn_cons]
      split
      · intro _; exact .inl rfl
      · split
        · intro _; exact .inr (.inl rfl)
        · split
          · intro _; exact .inr (.inr (.inl rfl))
          · split
            · intro _; exact .inr (.inr (.inr rfl))
            · intro h; exact absurd rfl h
  unfold rd
  rcases hb with h | h | h | h
  · simp only [h]; exact read_1 s (rdW s.data.toList) w (fun W => readWord_any s W hs)
  · simp only [h]; exact read_2 s (rdN s.data.toList) w (fun W => readNumber_any s W h1 hs)
  · simp only [h]; exact read_3 s (rdS s.data.toList) w (fun W => readString_any s W h1)
  · simp only [h]; exact read_4 s w hM
end Go.Proofs.YtggfaglfchepfaaDoor
