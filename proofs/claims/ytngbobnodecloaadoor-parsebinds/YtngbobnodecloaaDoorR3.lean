/-
  A token of a kind as it is read.
-/
import Derived.Test.YtngbobnodecloaaDoorR2
namespace Go.Proofs.YtngbobnodecloaaDoor
open Go.ChangeShapes Go.WideShapes Go.ChangeAt Go.RowKit
set_option linter.unusedVariables false
set_option linter.unusedSimpArgs false
set_option maxHeartbeats 2000000 in
theorem read_1 (s : ByteArray) (R : Rd) (w : World) (hC : ∀ W, Calls Tryd.prog 59 #[.string s] W fun e w' => e = .returned (.tuple #[.agg #[.int .i64 R.t.k, .string R.t.s, .int .i64 R.t.n], .int .i64 R.n, .int .i64 R.e]) ∧ Below W.heap.size W w') :
    Calls Tryd.prog 33 #[.int .i64 1, .string s] w fun e w' => e = .returned (.tuple #[tV R.t, .int .i64 R.n, .int .i64 R.e]) ∧ Below w.heap.size w w' := by
  have HC : Hid (∀ W, Calls Tryd.prog 59 #[.string s] W fun e w' => e = .returned (.tuple #[.agg #[.int .i64 R.t.k, .string R.t.s, .int .i64 R.t.n], .int .i64 R.n, .int .i64 R.e]) ∧ Below W.heap.size W w') := hC
  clear hC
  go_enter Tryd.func33, Tryd.ntmps33
  go_wp2_with (go_at_call 59; refine (HC.out _).mono ?_; rintro e w3 ⟨rfl, hb3⟩; obtain ⟨⟨q0, q1, q2⟩, ⟨f0, f1, f2⟩, hB⟩ := box3 hb3; have HB : Hid (Below w.heap.size w w3) := hB; clear hb3 hB)
  refine bodyPost_ret (res3 Tryd.results33 _ _ w.heap.size _ _ (by rfl) (range3 q0 q1 q2) Tryd.underlying53 rfl (by kernel_rfl)) rfl ?_
  exact ⟨rfl, below3 HB.out _ (Nat.le_refl _)⟩
set_option maxHeartbeats 2000000 in
theorem read_2 (s : ByteArray) (R : Rd) (w : World) (hC : ∀ W, Calls Tryd.prog 60 #[.string s] W fun e w' => e = .returned (.tuple #[.agg #[.int .i64 R.t.k, .string R.t.s, .int .i64 R.t.n], .int .i64 R.n, .int .i64 R.e]) ∧ Below W.heap.size W w') :
    Calls Tryd.prog 33 #[.int .i64 2, .string s] w fun e w' => e = .returned (.tuple #[tV R.t, .int .i64 R.n, .int .i64 R.e]) ∧ Below w.heap.size w w' := by
  have HC : Hid (∀ W, Calls Tryd.prog 60 #[.string s] W fun e w' => e = .returned (.tuple #[.agg #[.int .i64 R.t.k, .string R.t.s, .int .i64 R.t.n], .int .i64 R.n, .int .i64 R.e]) ∧ Below W.heap.size W w') := hC
  clear hC
  go_enter Tryd.func33, Tryd.ntmps33
  go_wp2_with (go_at_call 60; refine (HC.out _).mono ?_; rintro e w3 ⟨rfl, hb3⟩; obtain ⟨⟨q0, q1, q2⟩, ⟨f0, f1, f2⟩, hB⟩ := box3 hb3; have HB : Hid (Below w.heap.size w w3) := hB; clear hb3 hB)
  refine bodyPost_ret (res3 Tryd.results33 _ _ w.heap.size _ _ (by rfl) (range3 q0 q1 q2) Tryd.underlying53 rfl (by kernel_rfl)) rfl ?_
  exact ⟨rfl, below3 HB.out _ (Nat.le_refl _)⟩
set_option maxHeartbeats 2000000 in
theorem read_3 (s : ByteArray) (R : Rd) (w : World) (hC : ∀ W, Calls Tryd.prog 61 #[.string s] W fun e w' => e = .returned (.tuple #[.agg #[.int .i64 R.t.k, .string R.t.s, .int .i64 R.t.n], .int .i64 R.n, .int .i64 R.e]) ∧ Below W.heap.size W w') :
    Calls Tryd.prog 33 #[.int .i64 3, .string s] w fun e w' => e = .returned (.tuple #[tV R.t, .int .i64 R.n, .int .i64 R.e]) ∧ Below w.heap.size w w' := by
  have HC : Hid (∀ W, Calls Tryd.prog 61 #[.string s] W fun e w' => e = .returned (.tuple #[.agg #[.int .i64 R.t.k, .string R.t.s, .int .i64 R.t.n], .int .i64 R.n, .int .i64 R.e]) ∧ Below W.heap.size W w') := hC
  clear hC
  go_enter Tryd.func33, Tryd.ntmps33
  go_wp2_with (go_at_call 61; refine (HC.out _).mono ?_; rintro e w3 ⟨rfl, hb3⟩; obtain ⟨⟨q0, q1, q2⟩, ⟨f0, f1, f2⟩, hB⟩ := box3 hb3; have HB : Hid (Below w.heap.size w w3) := hB; clear hb3 hB)
  refine bodyPost_ret (res3 Tryd.results33 _ _ w.heap.size _ _ (by rfl) (range3 q0 q1 q2) Tryd.underlying53 rfl (by kernel_rfl)) rfl ?_
  exact ⟨rfl, below3 HB.out _ (Nat.le_refl _)⟩
set_option maxHeartbeats 2000000 in
theorem read_4 (s : ByteArray) (w : World) (hM : Marks w) :
    Calls Tryd.prog 33 #[.int .i64 4, .string s] w fun e w' => e = .returned (.tuple #[tV (rdM s.data.toList).t, .int .i64 (rdM s.data.toList).n, .int .i64 (rdM s.data.toList).e]) ∧ Below w.heap.size w w' := by
  have HM : Hid (∀ o, Marks (w.alloc o)) := fun o => hM.alloc o
  clear hM
  unfold rdM
  simp only
  obtain ⟨x, hx⟩ : ∃ x, txt (fmk s.data.toList mkl) = x := ⟨_, rfl⟩
  have hxs : x.size = (fmk s.data.toList mkl).length := by rw [← hx, txt_size]
  rw [← hxs]
  have HX : Hid (∀ W, Marks W → Calls Tryd.prog 58 #[.string s] W fun e w' => e = .returned (.string x) ∧ w' = W) := fun W hW => by rw [← hx]; exact longest_any s W hW
  rw [hx]
  clear hx hxs
  unfold tV
  go_enter Tryd.func33, Tryd.ntmps33
  go_wp2_with (go_at_call 58; refine (HX.out _ (HM.out _)).mono ?_; rintro e w3 ⟨rfl, rfl⟩)
  go_returns
  exact ⟨rfl, by go_grown⟩
theorem read_any (s : ByteArray) (w : World) (hM : Marks w) (h1 : 0 < s.size) (hs : (s.size : Int) ≤ 140737488355328) (h0 : bgn s.data.toList ≠ 0) :
    Calls Tryd.prog 33 #[.int .i64 (bgn s.data.toList), .string s] w fun e w' => e = .returned (.tuple #[tV (rd s.data.toList).t, .int .i64 (rd s.data.toList).n, .int .i64 (rd s.data.toList).e]) ∧ Below w.heap.size w w' := by
  have hb : bgn s.data.toList = 1 ∨ bgn s.data.toList = 2 ∨ bgn s.data.toList = 3 ∨ bgn s.data.toList = 4 := by
    revert h0
    cases s.data.toList with
    | nil => intro h; exact absurd rfl h
    | cons c l =>
      rw [bgn_cons]
      split
      · intro _; exact .inl rfl
      · split
        · intro _; exact .inr (.inl rfl)
        · split
          · intro _; exact .inr (.inr (.inl rfl))
          · split
            · intro _; exact .inr (.inr (.inr rfl))
            · intro h; exact absurd rfl h
  unfold rd
  rcases hb with h | h | h | h
  · simp only [h]; exact read_1 s (rdW s.data.toList) w (fun W => readWord_any s W hs)
  · simp only [h]; exact read_2 s (rdN s.data.toList) w (fun W => readNumber_any s W h1 hs)
  · simp only [h]; exact read_3 s (rdS s.data.toList) w (fun W => readString_any s W h1)
  · simp only [h]; exact read_4 s w hM
end Go.Proofs.YtngbobnodecloaaDoor
