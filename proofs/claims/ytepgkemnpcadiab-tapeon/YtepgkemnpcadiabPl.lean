/-
  What was written is recovered: in plain words.
-/
import Derived.Test.YtepgkemnpcadiabTt
namespace Go.Proofs.Ytepgkemnpcadiab
open Go.ChangeShapes Go.WideShapes Go.ChangeAt Go.RowKit Go.Maps
set_option linter.unusedVariables false
set_option linter.unusedSimpArgs false
set_option maxRecDepth 20000
theorem str_nil {s : ByteArray} (h : s.toList = []) : s = ⟨#[]⟩ := arr_nil h
theorem emp_zop {o : Opn} (h : emp o = true) : o = zop := by
  obtain ⟨k, s, a, b, l, d, c⟩ := o
  unfold emp at h
  simp only [decide_eq_true_eq] at h
  obtain ⟨rfl, hs, rfl, rfl, hl, rfl, rfl⟩ := h
  rw [str_nil hs, List.eq_nil_of_length_eq_zero hl]
  rfl
theorem tx_back (s : ByteArray) : tx s.data.toList = s := tx_eta s
theorem obt_head {o : Opn} (h : ochk o = 0) : ∃ c r, obt o = c :: r ∧ c ≠ 0 := by
  have hb : brk o = 0 := by
    by_cases hb : brk o = 0
    · exact hb
    · rw [ochk_of rfl hb] at h; exact h
  obtain ⟨k, s, a, b, l, d, c⟩ := o
  unfold obt
  rcases (brk_kind hb : k = 1 ∨ k = 2 ∨ k = 3) with rfl | rfl | rfl
  · exact ⟨_, _, rfl, by show UInt8.ofNat (1:Int).toNat ≠ 0; decide⟩
  · exact ⟨_, _, rfl, by show UInt8.ofNat (2:Int).toNat ≠ 0; decide⟩
  · exact ⟨_, _, rfl, by show UInt8.ofNat (3:Int).toNat ≠ 0; decide⟩
theorem dcA_fw {a : Ac} (h : ach a = 0) : dcA (abt a) = (a, true) := by
  obtain ⟨k, o, p, s⟩ := a
  rcases ach_kind h with ⟨h1, h2, h3, h4⟩ | ⟨h1, h2, h3, h4⟩
  · simp only at h1 h2 h3 h4
    subst h1 h3
    rw [str_nil h4]
    obtain ⟨c, r, hc, hne⟩ := obt_head h2
    have hd := dc_fw h2
    have e : abt ⟨1, o, 0, ⟨#[]⟩⟩ = obt o := if_neg (by show ¬ (1:Int) = 4; decide)
    rw [e, hc]
    rw [hc] at hd
    simp [dcA, hne, hd]
  · simp only at h1 h2 h3 h4
    subst h1 h3
    rw [emp_zop h4]
    have e : abt ⟨4, zop, 0, s⟩ = 0 :: s.data.toList := if_pos rfl
    rw [e]
    have hl : s.data.toList.length ≤ 3000 := by
      have : s.data.toList.length = s.size := Array.length_toList
      omega
    simp [dcA, tx_back]
    simpa using hl
theorem hdb_num {n : Nat} (h : n ≤ 3001) : 256 * (UInt8.ofNat (n / 256)).toNat + (UInt8.ofNat (n % 256)).toNat = n := by
  rw [UInt8.toNat_ofNat_of_lt' (by show _ < 256; omega), UInt8.toNat_ofNat_of_lt' (by show _ < 256; omega)]
  omega
theorem whA_fw {a : Ac} (h : ach a = 0) (r : List UInt8) : whA (hdb (abt a).length ++ abt a ++ r) = (a, (abt a).length + 2, true) := by
  have hl := abt_len h
  have hn := hdb_num hl.2
  have e : ∀ (x y : UInt8) (z : List UInt8), whA (x :: y :: z) = if z.length < 256 * x.toNat + y.toNat then (zac, 0, false) else ((dcA (z.take (256 * x.toNat + y.toNat))).1, 256 * x.toNat + y.toNat + 2, (dcA (z.take (256 * x.toNat + y.toNat))).2) := fun _ _ _ => rfl
  have e2 : hdb (abt a).length ++ abt a ++ r = UInt8.ofNat ((abt a).length / 256) :: UInt8.ofNat ((abt a).length % 256) :: (abt a ++ r) := rfl
  rw [e2, e, hn, if_neg (by rw [List.length_append]; omega), List.take_left, dcA_fw h]
theorem whA_short {a : Ac} (h : ach a = 0) (k : Nat) (hk : k < (abt a).length + 2) : (whA ((hdb (abt a).length ++ abt a).take k)).2.2 = false := by
  have hl := abt_len h
  have hn := hdb_num hl.2
  match k, hk with
  | 0, _ => rfl
  | 1, _ => rfl
  | k + 2, hk =>
    show (if ((abt a).take k).length < _ then _ else _ : Ac × Nat × Bool).2.2 = false
    rw [hn, if_pos (by rw [List.length_take]; omega)]
theorem rcA_cons {a : Ac} (h : ach a = 0) (r : List UInt8) : rcA (hdb (abt a).length ++ abt a ++ r) = (a :: (rcA r).1, (abt a).length + 2 + (rcA r).2) := by
  have hw := whA_fw h r
  rw [rcA_ok (by rw [hw]), hw]
  have hd : (hdb (abt a).length ++ abt a ++ r).drop ((abt a).length + 2) = r := by
    rw [List.drop_append_of_le_length (by rw [List.length_append]; show _ ≤ 2 + _; omega), List.drop_of_length_le (by rw [List.length_append]; show 2 + _ ≤ _; omega)]
    simp
  simp only [hd]
theorem tpd_cons (a : Ac) (La : List Ac) : tpd (a :: La) = hdb (abt a).length ++ abt a ++ tpd La := by
  unfold tpd
  rw [List.flatMap_cons]
theorem rcA_nil : rcA [] = ([], 0) := rcA_no rfl
/-- Of a tape that ends anywhere just the whole acts are recovered. -/
theorem rcA_take : ∀ (La : List Ac), (∀ a ∈ La, ach a = 0) → ∀ k, ∃ j, j ≤ La.length ∧ rcA ((tpd La).take k) = (La.take j, (tpd (La.take j)).length) ∧ (tpd (La.take j)).length ≤ k ∧ (j = La.length ↔ (tpd La).length ≤ k)
  | [], _, k => ⟨0, Nat.le_refl _, by simp [tpd, rcA_nil], by simp [tpd], by simp [tpd]⟩
  | a :: r, h, k => by
    have ha := h a List.mem_cons_self
    have hlen : (hdb (abt a).length ++ abt a).length = (abt a).length + 2 := by rw [List.length_append]; show 2 + _ = _; omega
    by_cases hk : k < (abt a).length + 2
    · refine ⟨0, Nat.zero_le _, ?_, by simp [tpd], ?_⟩
      · rw [tpd_cons, List.take_append_of_le_length (by omega), rcA_no (whA_short ha k hk)]
        simp [tpd]
      · rw [tpd_cons, List.length_append, hlen, List.length_cons]
        constructor
        · intro h; omega
        · intro h; omega
    · obtain ⟨j, h1, h2, h3, h4⟩ := rcA_take r (fun x hx => h x (List.mem_cons_of_mem _ hx)) (k - ((abt a).length + 2))
      have e1 : (tpd (a :: r)).take k = hdb (abt a).length ++ abt a ++ (tpd r).take (k - ((abt a).length + 2)) := by
        rw [tpd_cons, List.take_append, hlen, List.take_of_length_le (by omega)]
      refine ⟨j + 1, by simp; omega, ?_, ?_, ?_⟩
      · rw [e1, rcA_cons ha, h2, List.take_succ_cons, tpd_cons, List.length_append, hlen]
      · rw [List.take_succ_cons, tpd_cons, List.length_append, hlen]; omega
      · rw [tpd_cons, List.length_append, hlen, List.length_cons]
        constructor
        · intro h; have := h4.1 (by omega); omega
        · intro h; have := h4.2 (by omega); omega
theorem rcA_all {La : List Ac} (h : ∀ a ∈ La, ach a = 0) : rcA (tpd La) = (La, (tpd La).length) := by
  obtain ⟨j, h1, h2, h3, h4⟩ := rcA_take La h (tpd La).length
  have hj := h4.2 (Nat.le_refl _)
  rw [List.take_length] at h2
  rw [h2, hj, List.take_length]
end Go.Proofs.Ytepgkemnpcadiab
