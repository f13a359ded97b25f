/-
  Values made of raw things; the order of values.
-/
import Derived.Test.YthenkpeibkpmkabM
import Derived.Test.YthenkpeibkpmkabN
namespace Go.Proofs.Ythenkpeibkpmkab
open Go.ChangeShapes Go.WideShapes Go.ChangeAt Go.RowKit
set_option linter.unusedVariables false
set_option linter.unusedSimpArgs false
theorem cb_anti : ∀ (x y : List UInt8), Lib.compareBytes x y = - Lib.compareBytes y x
  | [], [] => by simp [Lib.compareBytes]
  | [], _ :: _ => by simp [Lib.compareBytes]
  | _ :: _, [] => by simp [Lib.compareBytes]
  | a :: x, b :: y => by
    unfold Lib.compareBytes
    rw [cb_anti x y]
    by_cases h1 : a < b
    · have h2 : ¬ b < a := by rw [UInt8.lt_iff_toNat_lt] at *; omega
      simp [h1, h2]
    · by_cases h2 : b < a <;> simp [h1, h2]
theorem cb_zero : ∀ (x y : List UInt8), Lib.compareBytes x y = 0 ↔ x = y
  | [], [] => by simp [Lib.compareBytes]
  | [], _ :: _ => by simp [Lib.compareBytes]
  | _ :: _, [] => by simp [Lib.compareBytes]
  | a :: x, b :: y => by
    unfold Lib.compareBytes
    by_cases h1 : a < b
    · have hne : a ≠ b := fun h => by subst h; rw [UInt8.lt_iff_toNat_lt] at h1; omega
      simp [h1, hne]
    · by_cases h2 : b < a
      · have hne : a ≠ b := fun h => by subst h; rw [UInt8.lt_iff_toNat_lt] at h2; omega
        simp [h1, h2, hne]
      · have he : a = b := by
          apply UInt8.toNat_inj.1
          rw [UInt8.lt_iff_toNat_lt] at h1 h2
          omega
        subst he
        simp [h1, cb_zero x y]
theorem cb_trans : ∀ (x y z : List UInt8), Lib.compareBytes x y ≤ 0 → Lib.compareBytes y z ≤ 0 → Lib.compareBytes x z ≤ 0
  | [], y, [], _, _ => by simp [Lib.compareBytes]
  | [], y, _ :: _, _, _ => by simp [Lib.compareBytes]
  | a :: x, [], z, h, _ => by simp [Lib.compareBytes] at h
  | a :: x, b :: y, [], _, h => by simp [Lib.compareBytes] at h
  | a :: x, b :: y, c :: z, h1, h2 => by
    unfold Lib.compareBytes at h1 h2 ⊢
    have ih := cb_trans x y z
    by_cases p1 : a < b
    · by_cases p2 : c < b
      · have : ¬ b < c := by rw [UInt8.lt_iff_toNat_lt] at *; omega
        simp [this, p2] at h2
      · have : a < c := by rw [UInt8.lt_iff_toNat_lt] at *; omega
        simp [this]
    · by_cases p2 : b < a
      · simp [p1, p2] at h1
      · simp [p1, p2] at h1
        by_cases p3 : b < c
        · have : a < c := by rw [UInt8.lt_iff_toNat_lt] at *; omega
          simp [this]
        · by_cases p4 : c < b
          · simp [p3, p4] at h2
          · simp [p3, p4] at h2
            have q1 : ¬ a < c := by rw [UInt8.lt_iff_toNat_lt] at *; omega
            have q2 : ¬ c < a := by rw [UInt8.lt_iff_toNat_lt] at *; omega
            simp [q1, q2]
            exact ih h1 h2
theorem ord_anti {a b : Vl} (h : a.k = b.k) : ord a b = - ord b a := by
  unfold ord
  rw [h]
  split
  · exact cb_anti _ _
  · unfold sgnI; (repeat' split) <;> omega
theorem ord_trans {a b c : Vl} (h : a.k = b.k) (h1 : ord a b ≤ 0) (h2 : ord b c ≤ 0) : ord a c ≤ 0 := by
  unfold ord at *
  rw [h] at *
  split at h1
  · rename_i hk; rw [if_pos hk] at h2 ⊢; exact cb_trans _ _ _ h1 h2
  · rename_i hk; rw [if_neg hk] at h2 ⊢; unfold sgnI at *; (repeat' split at h1) <;> (repeat' split at h2) <;> (repeat' split) <;> omega
theorem ord_range (a b : Vl) : ord a b = -1 ∨ ord a b = 0 ∨ ord a b = 1 := by
  unfold ord
  split
  · rw [cmpB_eq]; (repeat' split) <;> simp
  · unfold sgnI; (repeat' split) <;> simp
theorem ord_zero {a b : Vl} (hk : a.k = b.k) (ha : vchk a = 0) (hb : vchk b = 0) : ord a b = 0 ↔ a.n = b.n ∧ a.s = b.s := by
  rw [vchk_eq] at ha hb
  unfold ord
  by_cases h : a.k = 2
  · have h' : b.k = 2 := by omega
    rw [if_pos h, cb_zero]
    have n1 : a.n = 0 := by by_cases c : a.n = 0; exact c; simp [h, c] at ha
    have n2 : b.n = 0 := by by_cases c : b.n = 0; exact c; simp [h', c] at hb
    rw [n1, n2]
    constructor
    · intro e
      refine ⟨rfl, ?_⟩
      cases ha' : a.s
      cases hb' : b.s
      rw [ha', hb'] at e
      simp at e
      rw [e]
    · rintro ⟨_, e⟩; rw [e]
  · rw [if_neg h]
    have h1 : a.k = 1 := by by_cases c : a.k = 1; exact c; simp [h, c] at ha
    have h1' : b.k = 1 := by omega
    have s1 : a.s.toList = [] := by by_cases c : a.s.toList = []; exact c; simp [h1, c] at ha
    have s2 : b.s.toList = [] := by by_cases c : b.s.toList = []; exact c; simp [h1', c] at hb
    have hs : a.s = b.s := by
      rw [Lib.toList_data] at s1 s2
      cases ha' : a.s
      cases hb' : b.s
      rw [ha'] at s1
      rw [hb'] at s2
      simp at s1 s2
      rw [s1, s2]
    unfold sgnI
    constructor
    · intro e
      refine ⟨?_, hs⟩
      split at e
      · omega
      · split at e <;> omega
    · rintro ⟨e, _⟩; rw [e]; simp
def VOk (v : Vl) (text : Bool) : Prop := vchk v = 0 ∧ v.k = if text = true then 2 else 1
theorem sizeV : (Try.prog.info? 32).map (·.size) = some 3 := by kernel_rfl
theorem retV {fn : Func} {R : Ending → World → Prop} {a : Act} {w : World} {b : Nat} {v : Vl} (p : Tmp) (h : fn.results = #[.cell p 32]) (hp : a.tmps.getD p undef = .pointer (some ⟨b, 0, none⟩)) (hr : w.heap[b]? = some (.cells #[.int .i64 v.k, .int .i64 v.n, .string v.s] 32 (0, 0))) (hd : a.defers = []) (hR : R (.returned (vV v)) w) : bodyPost Try.prog fn R .ret a w :=
  bodyPost_ret (results_cell_row h a.tmps w b 32 _ (0, 0) _ hp hr Try.underlying32 rfl sizeV) hd hR
theorem cut_any (s : ByteArray) (M : Int) (m : Nat) (hM : M = (m : Int)) (hm : m = 20 ∨ m = 3) (w : World) (hs : s.size ≤ maxLen) :
    Calls Try.prog 24 #[.string s, .int .i64 M] w fun e w' => ∃ t : ByteArray, e = .returned (.string t) ∧ t.size ≤ m ∧ w' = w := by
  have hmx : (s.size : Int) ≤ 9223372036854775807 := by unfold maxLen at hs; omega
  clear hs
  subst hM
  rcases hm with rfl | rfl
  · by_cases h : s.size ≤ 20
    · have h1 : min (s.size : Int) 20 = (s.size : Int) := by omega
      have h2 : (s.size : Int) ≤ 20 := by omega
      go_enter Try.func24, Try.ntmps24
      go_wp2
      all_goals
        go_ret
        exact ⟨_, rfl, by first | omega | (simp [ByteArray.size_extract] <;> omega), rfl⟩
    · have h1 : min (s.size : Int) 20 = 20 := by omega
      have h2 : ¬ (s.size : Int) ≤ 20 := by omega
      have h3 : 20 ≤ s.size := by omega
      have h4 : (20 : Int) ≤ (s.size : Int) := by omega
      go_enter Try.func24, Try.ntmps24
      go_wp2
      all_goals
        go_ret
        exact ⟨_, rfl, by first | omega | (simp [ByteArray.size_extract] <;> omega), rfl⟩
  · by_cases h : s.size ≤ 3
    · have h1 : min (s.size : Int) 3 = (s.size : Int) := by omega
      have h2 : (s.size : Int) ≤ 3 := by omega
      go_enter Try.func24, Try.ntmps24
      go_wp2
      all_goals
        go_ret
        exact ⟨_, rfl, by first | omega | (simp [ByteArray.size_extract] <;> omega), rfl⟩
    · have h1 : min (s.size : Int) 3 = 3 := by omega
      have h2 : ¬ (s.size : Int) ≤ 3 := by omega
      have h3 : 3 ≤ s.size := by omega
      have h4 : (3 : Int) ≤ (s.size : Int) := by omega
      go_enter Try.func24, Try.ntmps24
      go_wp2
      all_goals
        go_ret
        exact ⟨_, rfl, by first | omega | (simp [ByteArray.size_extract] <;> omega), rfl⟩
theorem toList_empty : (ByteArray.empty).toList = [] := by rw [Lib.toList_data]; rfl
theorem rem_bd (n : Int) : -1125899906842624 < n.tmod 1125899906842624 ∧ n.tmod 1125899906842624 < 1125899906842624 := by
  constructor
  · rcases Int.le_total 0 n with h | h
    · have := Int.tmod_nonneg 1125899906842624 h; omega
    · have h1 := Int.neg_tmod (a := n) (b := 1125899906842624)
      have h2 := Int.tmod_lt_of_pos (-n) (by omega : (0 : Int) < 1125899906842624)
      omega
  · exact Int.tmod_lt_of_pos _ (by omega)
set_option maxHeartbeats 4000000 in
theorem mk_any (n : Int) (s : ByteArray) (text : Bool) (w : World) (hn : wfI n) (hs : s.size ≤ maxLen) :
    Calls Try.prog 11 #[.int .i64 n, .string s, .bool text] w fun e w' => ∃ v : Vl, e = .returned (vV v) ∧ VOk v text ∧ Below w.heap.size w w' := by
  have HS : Hid (s.size ≤ maxLen) := hs
  have HN : Hid (wfI n) := hn
  clear hs
  cases text
  · unfold wfI at hn
    obtain ⟨n1, n2⟩ := hn
    go_enter Try.func11, Try.ntmps11
    go_wp2
    refine retV (b := w.heap.size) (v := ⟨1, n.tmod 1125899906842624, ⟨#[]⟩⟩) 6 Try.results11 (by rfl) (by first | exact heap_alloc_new w _ | exact _root_.Go.heap_alloc_new w _) (by rfl) ⟨_, rfl, ⟨?_, by simp⟩, (Below.refl _ w).alloc (Nat.le_refl _) _⟩
    rw [vchk_eq]
    have h0 : (⟨#[]⟩ : ByteArray).toList = [] := toList_empty
    have hb := rem_bd n
    simp [h0]
    omega
  · clear hn
    go_enter Try.func11, Try.ntmps11
    go_wp2_with (go_at_call 24; refine (cut_any s 20 20 rfl (Or.inl rfl) _ HS.out).mono ?_; rintro e w2 ⟨t, rfl, ht, rfl⟩)
    refine retV (b := w.heap.size) (v := ⟨2, 0, t⟩) 6 Try.results11 (by rfl) (by first | exact heap_alloc_new w _ | exact _root_.Go.heap_alloc_new w _) (by rfl) ⟨_, rfl, ⟨?_, by simp⟩, (Below.refl _ w).alloc (Nat.le_refl _) _⟩
    rw [vchk_eq]
    simp
    omega
end Go.Proofs.Ythenkpeibkpmkab
