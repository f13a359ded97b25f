/-
  Fields: which one has a name; what is wrong with one.
-/
import Derived.Test.YthenkpeibkpmkabG
namespace Go.Proofs.Ythenkpeibkpmkab
open Go.ChangeShapes Go.WideShapes Go.ChangeAt Go.RowKit
set_option linter.unusedVariables false
set_option linter.unusedSimpArgs false
def anyS (name : ByteArray) (l : List Fd) : Bool := l.any fun f => eqS f.s name
theorem fnd_any (name : ByteArray) : ∀ (l : List Fd) (k : Nat), 0 ≤ fnd name l k ↔ anyS name l = true
  | [], k => by simp [fnd, anyS]
  | f :: l, k => by
    unfold fnd
    have ih := fnd_any name l (k + 1)
    unfold anyS at ih ⊢
    by_cases h : eqS f.s name = true
    · simp [h]
    · simp only [h, if_false, List.any_cons, Bool.false_or, Bool.not_eq_true] at *
      simpa [h] using ih
def fck (f : Fd) (ahead : List Fd) : Int :=
  if nchk f.s ≠ 0 then nchk f.s else if f.k ≠ 1 ∧ f.k ≠ 2 then 3 else if anyS f.s ahead = true then 7 else 0
theorem fchk_at {fs : List Fd} {k : Nat} (h : k < fs.length) : fchk fs k = fck fs[k] (fs.take k) := by
  unfold fchk fck
  rw [List.getElem?_eq_getElem h]
  simp only [fnd_any]
theorem fnd_hit {name : ByteArray} {l : List Fd} {k : Nat} (h : k < l.length) (he : eqS l[k].s name = true) : fnd name (l.drop k) k = k := by
  rw [List.drop_eq_getElem_cons h]
  unfold fnd
  rw [if_pos he]
theorem fnd_miss {name : ByteArray} {l : List Fd} {k : Nat} (h : k < l.length) (he : eqS l[k].s name = false) : fnd name (l.drop k) k = fnd name (l.drop (k + 1)) (k + 1) := by
  rw [List.drop_eq_getElem_cons h]
  conv => lhs; unfold fnd
  rw [if_neg (by simp [he])]
theorem fnd_end {name : ByteArray} {l : List Fd} : fnd name (l.drop l.length) l.length = -1 := by
  rw [List.drop_length]; rfl
theorem fnd_le (name : ByteArray) : ∀ (l : List Fd) (k : Nat), fnd name l k < 0 ∨ ((k : Int) ≤ fnd name l k ∧ fnd name l k < k + l.length)
  | [], k => by simp [fnd]
  | f :: l, k => by
    unfold fnd
    have ih := fnd_le name l (k + 1)
    split
    · right; simp; omega
    · rcases ih with h | h
      · left; exact h
      · right; simp; omega
set_option maxHeartbeats 4000000 in
theorem find_any (v : Value) (l : List Fd) (name : ByteArray) (w : World) (hv : FieldsAt w v l) :
    Calls Try.prog 31 #[v, .string name] w fun e w' => e = .returned (.int .i64 (fnd name l 0)) ∧ Below w.heap.size w w' := by
  obtain ⟨p, cap, rfl, hcap, hmax, hp⟩ := hv
  obtain ⟨n, hnl⟩ : ∃ n, l.length = n := ⟨_, rfl⟩
  have HP : Hid (0 < l.length → ∃ g off, p = some ⟨g, off, none⟩ ∧ ∀ j (hj : j < l.length), g < w.heap.size ∧ w.cell? ⟨g, off + j * 2, none⟩ = some (.string l[j].s) ∧ w.cell? ⟨g, off + j * 2 + 1, none⟩ = some (.int .i64 l[j].k)) := hp
  have HNL : Hid (l.length = n) := hnl
  have hmx : (n : Int) ≤ 9223372036854775807 := by unfold maxLen at hmax; omega
  rw [hnl]
  clear hp hnl hcap hmax
  obtain ⟨R, hR⟩ : ∃ R, fnd name l 0 = R := ⟨_, rfl⟩
  have HR : Hid (fnd name l 0 = R) := hR
  rw [hR]
  clear hR
  go_enter Try.func31, Try.ntmps31
  go_wp2
  go_loopw [9] (fun i wr => ∃ k : Nat, k ≤ n ∧ i = .int .i64 (k : Nat) ∧ fnd name (l.drop k) k = R ∧ Below w.heap.size w wr) (fun i _ => n + 1 - (intOf i).toNat)
  case atStart => exact ⟨0, by omega, rfl, by rw [List.drop_zero]; exact HR.out, Below.refl _ _⟩
  case round =>
    obtain ⟨k, hk, rfl, hf, hB⟩ := hrel
    have HF : Hid (fnd name (l.drop k) k = R) := hf
    have HB : Hid (Below w.heap.size w wr) := hB
    by_cases hlt : k < n
    · have hkd : k < l.length := by have := HNL.out; omega
      obtain ⟨g, off, hg, hc⟩ := HP.out (by omega)
      obtain ⟨hgs, c0, c1⟩ := hc k hkd
      subst hg
      have HHit : Hid (eqS l[k].s name = true → R = k) := fun h => HF.out.symm.trans (fnd_hit hkd h)
      have HMiss : Hid (eqS l[k].s name = false → fnd name (l.drop (k + 1)) (k + 1) = R) := fun h => (fnd_miss hkd h).symm.trans HF.out
      obtain ⟨d, hdk⟩ : ∃ d, l[k] = d := ⟨_, rfl⟩
      rw [hdk] at c0 c1 HHit HMiss
      have b0 : wr.cell? ⟨g, off + k * 2, none⟩ = some (.string d.s) := (hB.cell (p := ⟨g, off + k * 2, none⟩) hgs).trans c0
      have b1 : wr.cell? ⟨g, off + k * 2 + 1, none⟩ = some (.int .i64 d.k) := (hB.cell (p := ⟨g, off + k * 2 + 1, none⟩) hgs).trans c1
      have i1 : (0 : Int) ≤ (k : Int) := by omega
      have i2 : (k : Int) < (n : Int) := by omega
      have hne : wr.heap.size ≠ g := by have := hB.size; omega
      clear hc hdk c0 c1 hgs hf hB hkd
      by_cases he : d.s.toList = name.toList
      · go_wp2
        go_ret
        exact ⟨ret_int (HHit.out (by simp [eqS, he])).symm, HB.out.alloc HB.out.size _⟩
      · have heb : (d.s.toList == name.toList) = false := by simpa using he
        go_wp2
        go_roundw
        case rel => exact ⟨k + 1, by omega, by go_num, HMiss.out (by simp [eqS, he]), HB.out.alloc HB.out.size _⟩
        case measure => simp [intOf]; omega
    · obtain rfl : k = n := by omega
      have HX : Hid (R = -1) := by rw [← HF.out, ← HNL.out]; exact fnd_end
      clear hf hB
      go_wp2
      go_ret
      exact ⟨ret_int HX.out.symm, HB.out⟩
set_option maxHeartbeats 4000000 in
theorem checkField_any (f : Fd) (v : Value) (l : List Fd) (w : World) (hv : FieldsAt w v l) :
    Calls Try.prog 30 #[.agg #[.string f.s, .int .i64 f.k], v] w fun e w' => e = .returned (.int .i64 (fck f l)) ∧ Below w.heap.size w w' := by
  obtain ⟨s, k⟩ := f
  obtain ⟨n, hn⟩ : ∃ n, nchk s = n := ⟨_, rfl⟩
  obtain ⟨a, ha⟩ : ∃ a, anyS s l = a := ⟨_, rfl⟩
  obtain ⟨R, hR⟩ : ∃ R, fnd s l 0 = R := ⟨_, rfl⟩
  have HA : Hid (0 ≤ R ↔ a = true) := by rw [← hR, ← ha]; exact fnd_any s l 0
  have HK : Hid (fck ⟨s, k⟩ l = if n ≠ 0 then n else if k ≠ 1 ∧ k ≠ 2 then 3 else if a = true then 7 else 0) := by subst hn ha; exact rfl
  have HV : Hid (FieldsAt w v l) := hv
  have H1 : Hid (∀ W, Calls Try.prog 14 #[.string s] W fun e w' => e = .returned (.int .i64 n) ∧ w' = W) := fun W => by rw [← hn]; exact name_any _ _
  have H2 : Hid (∀ W, Below w.heap.size w W → Calls Try.prog 31 #[v, .string s] W fun e w' => e = .returned (.int .i64 R) ∧ Below W.heap.size W w') := fun W hb => by rw [← hR]; exact find_any _ _ _ _ (HV.out.below hb)
  clear hn ha hR hv
  by_cases hn0 : n = 0
  · subst hn0
    by_cases hk : k ≠ 1 ∧ k ≠ 2
    · have he : fck ⟨s, k⟩ l = 3 := by rw [HK.out]; simp [hk.1, hk.2]
      have HE : Hid (fck ⟨s, k⟩ l = 3) := he
      clear he
      obtain ⟨k1, k2⟩ := hk
      have kb1 : (k == 1) = false := by simpa using k1
      have kb2 : (k == 2) = false := by simpa using k2
      go_enter Try.func30, Try.ntmps30
      go_wp2_with (first | (go_at_call 14; refine (H1.out _).mono ?_; rintro e w2 ⟨rfl, rfl⟩) | (go_at_call 40; go_in))
      go_ret
      exact ⟨ret_int HE.out.symm, (Below.refl _ w).alloc (Nat.le_refl _) _⟩
    · have hk' : k = 1 ∨ k = 2 := by omega
      have he : fck ⟨s, k⟩ l = if 0 ≤ R then 7 else 0 := by
        rw [HK.out, if_neg (by simp), if_neg hk]
        by_cases c : 0 ≤ R
        · rw [if_pos c, if_pos (HA.out.1 c)]
        · rw [if_neg c, if_neg (fun h => c (HA.out.2 h))]
      have HE : Hid (fck ⟨s, k⟩ l = if 0 ≤ R then 7 else 0) := he
      clear he hk
      rcases hk' with rfl | rfl
      all_goals
        go_enter Try.func30, Try.ntmps30
        go_wp2_with (first | (go_at_call 14; refine (H1.out _).mono ?_; rintro e w2 ⟨rfl, rfl⟩) | (go_at_call 40; go_in) | (go_at_call 31; refine (H2.out _ ((Below.refl _ w).alloc (Nat.le_refl _) _)).mono ?_; rintro e w2 ⟨rfl, hb2⟩; have HB2 : Hid (Below w.heap.size w w2) := below_trans ((Below.refl _ w).alloc (Nat.le_refl _) _) hb2 (by simp); clear hb2))
        all_goals
          go_ret
          exact ⟨ret_int (by rw [HE.out]; first | rw [if_pos (by assumption)] | rw [if_neg (by omega)]), HB2.out⟩
  · have he : fck ⟨s, k⟩ l = n := by rw [HK.out]; simp [hn0]
    have HE : Hid (fck ⟨s, k⟩ l = n) := he
    clear he
    have kb1 : (n == 0) = false := by simpa using hn0
    have kb2 : (n != 0) = true := by simpa using hn0
    go_enter Try.func30, Try.ntmps30
    go_wp2_with (first | (go_at_call 14; refine (H1.out _).mono ?_; rintro e w2 ⟨rfl, rfl⟩))
    go_ret
    exact ⟨ret_int HE.out.symm, (Below.refl _ w).alloc (Nat.le_refl _) _⟩
end Go.Proofs.Ythenkpeibkpmkab
