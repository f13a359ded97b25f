/-
  What one deed is told, what is due by it, what it leaves.
-/
import Derived.Test.YtccddjfcceclnaaR
namespace Go.Proofs.Ytccddjfcceclnaa
open Go.ChangeShapes Go.WideShapes Go.ChangeAt Go.RowKit Go.Maps
set_option linter.unusedVariables false
set_option linter.unusedSimpArgs false
theorem step_due (s : Sp) (d : Dd) (h : d.1 ≠ 3) : (step s d).2.1 = [] := by
  unfold step
  repeat' split
  all_goals first | rfl | exact absurd (by assumption) h
theorem After.from {w W w' : World} {B cb mb : Nat} {s' : Sp} {V : Nat → Value} (h : After B cb mb s' V W w') (b : Below w.heap.size w W) : After B cb mb s' V w w' := by
  obtain ⟨V', T', M', h1, h2, h3⟩ := h
  exact ⟨V', T', M', h1, (Turn.of_below b).trans h2 (fun _ _ h => h), fun k hk => (h3 k hk).imp id (fun h => Nat.le_trans b.size h)⟩
theorem After2.from {w W w' : World} {B cb mb : Nat} {s' : Sp} {V : Nat → Value} {u : Value} (h : After2 B cb mb s' V W w' u) (b : Below w.heap.size w W) : After2 B cb mb s' V w w' u := by
  obtain ⟨V', T', M', h1, h2, h3, h4⟩ := h
  exact ⟨V', T', M', h1, (Turn.of_below b).trans h2 (fun _ _ h => h), fun k hk => (h3 k hk).imp id (fun h => Nat.le_trans b.size h), fun k hk => ⟨Nat.le_trans b.size (h4 k hk).1, (h4 k hk).2⟩⟩
def DoPost (B cb mb : Nat) (s : Sp) (d : Dd) (V : Nat → Value) (w : World) (u : Value) (w' : World) : Prop :=
  IntsAt w' u ((step s d).2.1.map fun t => (t.i : Int)) ∧ After2 B cb mb (step s d).2.2 V w w' u
theorem do_none {B cb mb : Nat} {s : Sp} {d : Dd} {V : Nat → Value} {w w' : World} (h : d.1 ≠ 3) (a : After B cb mb (step s d).2.2 V w w') : DoPost B cb mb s d V w (.slice none 0 0) w' :=
  ⟨Or.inl ⟨rfl, by rw [step_due s d h]; rfl⟩, a.two⟩
set_option maxHeartbeats 4000000 in
theorem do_any (B cb mb : Nat) (s : Sp) (V : Nat → Value) (T : Nat → List Tm) (M : Places) (k i a : Int) (w : World) (h : St w B cb mb s V T M) (hi : wfI i) (ha : wfI a) (ho : s.ords ≤ 2000) :
    Calls Try.prog 17 #[.pointer (some ⟨cb, 0, none⟩), .agg #[.int .i64 k, .int .i64 i, .int .i64 a]] w fun e w' => ∃ u, e = .returned (.tuple #[.int .i64 (step s (k, i, a)).1, u]) ∧ DoPost B cb mb s (k, i, a) V w u w' := by
  have hb := below_new' w (.cells #[.int .i64 k, .int .i64 i, .int .i64 a] 36)
  have HS : Hid (St (w.alloc (.cells #[.int .i64 k, .int .i64 i, .int .i64 a] 36)) B cb mb s V T M) := h.below hb
  have HB : Hid (Below w.heap.size w (w.alloc (.cells #[.int .i64 k, .int .i64 i, .int .i64 a] 36))) := hb
  have HI : Hid (wfI i) := hi
  have HA : Hid (wfI a) := ha
  have HO : Hid (s.ords ≤ 2000) := ho
  clear hb h hi ha ho
  rcases (by omega : k = 1 ∨ k = 2 ∨ k = 3 ∨ (k ≠ 1 ∧ k ≠ 2 ∧ k ≠ 3)) with rfl | rfl | rfl | ⟨k1, k2, k3⟩
  · go_enter Try.func17, Try.ntmps17
    go_wp2_with (go_at_call 24; refine (set_any B cb mb s V T M i a _ HS.out HI.out HA.out HO.out).mono ?_; rintro e w1 ⟨rfl, hA⟩)
    go_ret2
    exact ⟨_, rfl, do_none (by simp) (hA.from HB.out)⟩
  · go_enter Try.func17, Try.ntmps17
    go_wp2_with (go_at_call 25; refine (clear_any B cb mb s V T M i a _ HS.out HI.out).mono ?_; rintro e w1 ⟨rfl, hA⟩)
    go_ret2
    exact ⟨_, rfl, do_none (by simp) (hA.from HB.out)⟩
  · go_enter Try.func17, Try.ntmps17
    go_wp2_with (go_at_call 26; refine (pass_any B cb mb s V T M i a _ HS.out HA.out).mono ?_; rintro e w1 ⟨u, rfl, h1, hA⟩)
    go_ret2
    exact ⟨_, rfl, h1, hA.from HB.out⟩
  · have e : step s (k, i, a) = (3, [], s) := by unfold step; simp [k1, k2, k3]
    have hd : DoPost B cb mb s (k, i, a) V w (.slice none 0 0) (w.alloc (.cells #[.int .i64 k, .int .i64 i, .int .i64 a] 36)) :=
      do_none k3 (by rw [e]; exact (After.same HS.out (Below.refl _ _)).from HB.out)
    have HD : Hid (DoPost B cb mb s (k, i, a) V w (.slice none 0 0) (w.alloc (.cells #[.int .i64 k, .int .i64 i, .int .i64 a] 36))) := hd
    rw [e]
    have q1 : (k == 1) = false := by simpa using k1
    have q2 : (k == 2) = false := by simpa using k2
    have q3 : (k == 3) = false := by simpa using k3
    clear hd e
    go_enter Try.func17, Try.ntmps17
    go_wp2
    go_ret2
    exact ⟨_, rfl, HD.out⟩
end Go.Proofs.Ytccddjfcceclnaa
