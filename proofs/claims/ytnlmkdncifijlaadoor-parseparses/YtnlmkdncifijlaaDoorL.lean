/-
  What the document says of a token.
-/
import Derived.Test.YtnlmkdncifijlaaDoorK
namespace Go.Proofs.YtnlmkdncifijlaaDoor
open Go.ChangeShapes Go.WideShapes Go.ChangeAt Go.RowKit
set_option linter.unusedVariables false
set_option linter.unusedSimpArgs false
theorem ib_iff (c : UInt8) : ∀ l : List UInt8, 0 ≤ Lib.indexByte l c ↔ c ∈ l
  | [] => by simp [Lib.indexByte]
  | b :: l => by
    have ih := ib_iff c l
    have hg := Lib.indexByte_ge l c
    unfold Lib.indexByte
    by_cases h : b = c
    · simp [h]
    · have hb : (b == c) = false := by simpa using h
      have hc : ¬ c = b := fun e => h e.symm
      simp only [hb, List.mem_cons, hc, false_or]
      by_cases g : Lib.indexByte l c = -1
      · simp [g] at ih ⊢
        exact ih
      · have gb : (Lib.indexByte l c == -1) = false := by simpa using g
        simp only [gb]
        rw [← ih]
        simp
        omega
set_option maxHeartbeats 2000000 in
theorem markList_any (w : World) :
    Calls Tryd.prog 46 #[] w fun e w' => e = .returned (.slice (some ⟨w.heap.size, 0, none⟩) 17 17) ∧ Below w.heap.size w w' ∧ w.heap.size < w'.heap.size ∧ ∀ k, k < 17 → w'.cell? ⟨w.heap.size, k, none⟩ = some (.string (txt (mkl.getD k []))) := by
  go_enter Tryd.func46, Tryd.ntmps46
  go_wp2
  go_ret
  refine ⟨rfl, by go_grown, by simp, fun k hk => ?_⟩
  show (w.alloc (.cells mkA 9)).cell? ⟨w.heap.size, k, none⟩ = _
  rw [cell_of_row _ _ k mkA 9 (0, 0) (heap_alloc_new _ _)]
  exact mkA_at k hk
set_option maxHeartbeats 2000000 in
theorem tf_0 (k n : Int) (s : ByteArray) (w : World) (hk : ¬ (1 ≤ k ∧ k ≤ 4)) :
    Calls Tryd.prog 19 #[.agg #[.int .i64 k, .string s, .int .i64 n]] w fun e w' => e = .returned (.int .i64 3) ∧ Below w.heap.size w w' := by
  have HK : Hid (Say false ((1 : Int) ≤ k ∧ k ≤ 4)) := Say.no hk
  clear hk
  go_enter Tryd.func19, Tryd.ntmps19
  go_wp2_with (go_at_call 44; refine (in_any _ _ _ _ HK.out _).mono ?_; rintro e w' ⟨rfl, rfl⟩)
  go_ret
  exact ⟨rfl, by go_grown⟩
set_option maxHeartbeats 2000000 in
theorem tf_2 (n : Int) (s : ByteArray) (w : World) :
    Calls Tryd.prog 19 #[.agg #[.int .i64 2, .string s, .int .i64 n]] w fun e w' => e = .returned (.int .i64 (if s.data.toList ≠ [] then 4 else if n < 0 ∨ 1125899906842624 < n then 2 else 0)) ∧ Below w.heap.size w w' := by
  rw [← Lib.toList_data]
  obtain ⟨b, hb⟩ := bool_of ((0 : Int) ≤ n ∧ n ≤ 1125899906842624)
  have HB : Hid (Say b ((0 : Int) ≤ n ∧ n ≤ 1125899906842624)) := hb
  have HK : Hid (Say true ((1 : Int) ≤ 2 ∧ (2 : Int) ≤ 4)) := Say.yes (by omega)
  clear hb
  cases b
  all_goals
    go_enter Tryd.func19, Tryd.ntmps19
    go_wp2_with (first | (go_at_call_of 44 (Value.int IntKind.i64 4); refine (in_any _ _ _ _ HK.out _).mono ?_; rintro e w' ⟨rfl, rfl⟩) | (go_at_call_of 44 (Value.int IntKind.i64 1125899906842624); refine (in_any _ _ _ _ HB.out _).mono ?_; rintro e w' ⟨rfl, rfl⟩))
    all_goals
      go_ret
      refine ⟨ret_int ?_, by go_grown⟩
      have h := HB.out
      simp [Say] at h
      clear HB HK
      simp_all <;> omega
set_option maxHeartbeats 2000000 in
theorem tf_1 (n r : Int) (s : ByteArray) (w : World) (hr : (if n ≠ 0 then 4 else nchk s) = r) :
    Calls Tryd.prog 19 #[.agg #[.int .i64 1, .string s, .int .i64 n]] w fun e w' => e = .returned (.int .i64 r) ∧ Below w.heap.size w w' := by
  have HR : Hid ((if n ≠ 0 then 4 else nchk s) = r) := hr
  have HK : Hid (Say true ((1 : Int) ≤ 1 ∧ (1 : Int) ≤ 4)) := Say.yes (by omega)
  clear hr
  go_enter Tryd.func19, Tryd.ntmps19
  go_wp2_with (first | (go_at_call 44; refine (in_any _ _ _ _ HK.out _).mono ?_; rintro e w' ⟨rfl, rfl⟩) | (go_at_call 45; refine (nfault_any _ _).mono ?_; rintro e w' ⟨rfl, rfl⟩))
  all_goals
    go_ret
    refine ⟨ret_int ?_, by go_grown⟩
    rw [← HR.out]
    simp_all
set_option maxHeartbeats 4000000 in
theorem tf_3 (n r : Int) (s : ByteArray) (w : World) (hs : (s.size : Int) ≤ 9223372036854775807) (hr : (if n ≠ 0 ∨ 0 ≤ Lib.indexByte s.data.toList 34 then 4 else if 20 < s.size then 1 else 0) = r) :
    Calls Tryd.prog 19 #[.agg #[.int .i64 3, .string s, .int .i64 n]] w fun e w' => e = .returned (.int .i64 r) ∧ Below w.heap.size w w' := by
  have HR : Hid ((if n ≠ 0 ∨ 0 ≤ Lib.indexByte s.data.toList 34 then 4 else if 20 < s.size then 1 else 0) = r) := hr
  have HK : Hid (Say true ((1 : Int) ≤ 3 ∧ (3 : Int) ≤ 4)) := Say.yes (by omega)
  clear hr
  by_cases hn : n = 0
  · subst hn
    go_enter Tryd.func19, Tryd.ntmps19
    go_wp2_with (go_at_call 44; refine (in_any _ _ _ _ HK.out _).mono ?_; rintro e w' ⟨rfl, rfl⟩)
    go_loop [5] (fun i => ∃ k : Nat, k ≤ s.size ∧ i = .int .i64 k ∧ (34 : UInt8) ∉ s.data.toList.take k) (fun i => s.size - (intOf i).toNat)
    case atStart => exact ⟨0, by omega, rfl, by simp⟩
    case round =>
      obtain ⟨k, hk, rfl, hf⟩ := hrel
      have HF : Hid ((34 : UInt8) ∉ s.data.toList.take k) := hf
      clear hf
      by_cases hlt : k < s.size
      · have hkl : k < s.data.toList.length := by simpa using hlt
        have hg : s.data.toList[k] = s[k] := rfl
        by_cases hc : s[k] = 34
        · have h34 : (34 : UInt8) ∈ s.data.toList := by rw [← hc, ← hg]; exact List.getElem_mem hkl
          have hi := (ib_iff 34 s.data.toList).2 h34
          have hq : (s[k].toNat : Int) = 34 := by rw [hc]; rfl
          have HI : Hid (0 ≤ Lib.indexByte s.data.toList 34) := hi
          clear hi h34 hc hg
          go_wp2
          go_ret
          refine ⟨ret_int ?_, by go_grown⟩
          rw [← HR.out, if_pos (Or.inr HI.out)]
        · have hq : ¬ (s[k].toNat : Int) = 34 := fun h => hc (UInt8.toNat_inj.1 (by simpa using (by omega : s[k].toNat = 34)))
          have h2 : (34 : UInt8) ∉ s.data.toList.take (k + 1) := by
            rw [List.take_succ_eq_append_getElem hkl, List.mem_append, List.mem_singleton, hg]
            rintro (x | x)
            · exact HF.out x
            · exact hc x.symm
          have H2 : Hid ((34 : UInt8) ∉ s.data.toList.take (k + 1)) := h2
          clear h2 hc hg
          go_wp2
          go_round
          case rel => exact ⟨k + 1, by omega, by go_num, H2.out⟩
          case measure => simp [intOf]; omega
      · obtain rfl : k = s.size := by omega
        have hf := HF.out
        rw [List.take_of_length_le (by simp)] at hf
        have hi : ¬ 0 ≤ Lib.indexByte s.data.toList 34 := fun h => hf ((ib_iff _ _).1 h)
        have hr2 : r = if 20 < s.size then 1 else 0 := by rw [← HR.out, if_neg (by simpa using hi)]
        by_cases h20 : 20 < s.size
        · have HQ : Hid (r = 1) := hr2.trans (if_pos h20)
          clear hf hi hr2 HR HF
          go_wp2
          go_ret
          exact ⟨ret_int HQ.out.symm, by go_grown⟩
        · have HQ : Hid (r = 0) := hr2.trans (if_neg h20)
          clear hf hi hr2 HR HF
          go_wp2
          go_ret
          exact ⟨ret_int HQ.out.symm, by go_grown⟩
  · have hrn : r = 4 := by rw [← HR.out, if_pos (Or.inl hn)]
    have HN : Hid (r = 4) := hrn
    clear hrn HR
    go_enter Tryd.func19, Tryd.ntmps19
    go_wp2_with (go_at_call 44; refine (in_any _ _ _ _ HK.out _).mono ?_; rintro e w' ⟨rfl, rfl⟩)
    go_ret
    exact ⟨ret_int HN.out.symm, by go_grown⟩
set_option maxHeartbeats 4000000 in
theorem tf_4 (n r : Int) (s : ByteArray) (w : World) (hr : (if n ≠ 0 ∨ s.data.toList ∉ mkl then 4 else 0) = r) :
    Calls Tryd.prog 19 #[.agg #[.int .i64 4, .string s, .int .i64 n]] w fun e w' => e = .returned (.int .i64 r) ∧ Below w.heap.size w w' := by
  have HR : Hid ((if n ≠ 0 ∨ s.data.toList ∉ mkl then 4 else 0) = r) := hr
  have HK : Hid (Say true ((1 : Int) ≤ 4 ∧ (4 : Int) ≤ 4)) := Say.yes (by omega)
  clear hr
  by_cases hn : n = 0
  · subst hn
    go_enter Tryd.func19, Tryd.ntmps19
    go_wp2_with (first | (go_at_call 44; refine (in_any _ _ _ _ HK.out _).mono ?_; rintro e w' ⟨rfl, rfl⟩) | (go_at_call 46; refine (markList_any _).mono ?_; rintro e w2 ⟨rfl, hb2, hs2, hc2⟩))
    have HC : Hid (∀ k, k < 17 → w2.cell? ⟨w.heap.size + 1, k, none⟩ = some (.string (txt (mkl.getD k [])))) := fun k hk => by
      have := hc2 k hk
      simpa using this
    have hcs : w2.cell? ⟨w.heap.size, 1, none⟩ = some (.string s) := by
      rw [hb2.cell (p := ⟨w.heap.size, 1, none⟩) (by simp)]
      simp [go_sem]
    have HB : Hid (Below w.heap.size w w2) := below_trans (below_new _ _) hb2 (by simp)
    clear hb2 hs2 hc2
    go_loopw [4] (fun i wr => ∃ k q : Nat, k ≤ 17 ∧ i = .int .i64 k ∧ wr = w2.drewN q ∧ s.data.toList ∉ mkl.take k) (fun i _ => 17 - (intOf i).toNat)
    case atStart => exact ⟨0, 0, by omega, rfl, rfl, by simp⟩
    case round =>
      obtain ⟨k, q, hk, rfl, rfl, hf⟩ := hrel
      have HF : Hid (s.data.toList ∉ mkl.take k) := hf
      clear hf
      by_cases hlt : k < 17
      · obtain ⟨x, hx⟩ : ∃ x, txt (mkl.getD k []) = x := ⟨_, rfl⟩
        have hck := HC.out k hlt
        rw [hx] at hck
        have hxl : x.toList = mkl.getD k [] := by rw [← hx, Lib.toList_data, txt_list]
        have i1 : (0 : Int) ≤ (k : Int) := by omega
        have i2 : (k : Int) < 17 := by omega
        by_cases he : s.data.toList = mkl.getD k []
        · have hb : (x.toList == s.toList) = true := by rw [Lib.toList_data s, hxl, he]; simp
          have hm : s.data.toList ∈ mkl := he ▸ at_in k hlt
          have hq : r = 0 := by
            rw [← HR.out, if_neg]
            rintro (h | h)
            · exact h rfl
            · exact h hm
          have HQ : Hid (r = 0) := hq
          clear he hx hxl hq hm
          go_wp2
          go_quiet (fail)
          go_wp2
          go_ret
          exact ⟨ret_int HQ.out.symm, below_drewN (below_drewN HB.out _) _⟩
        · have hb : (x.toList == s.toList) = false := by rw [Lib.toList_data s, hxl]; simpa using fun h : mkl.getD k [] = s.data.toList => he h.symm
          have HE : Hid (¬ s.data.toList = mkl.getD k []) := he
          clear he hx hxl
          go_wp2
          go_quiet (fail)
          go_wp2
          go_roundw
          case rel => exact ⟨k + 1, _, by omega, by go_num, rfl, take_in _ k hlt HF.out HE.out⟩
          case measure => simp [intOf]; omega
      · obtain rfl : k = 17 := by omega
        go_wp2
        go_ret
        refine ⟨ret_int ?_, below_drewN HB.out _⟩
        have hf := HF.out
        rw [List.take_of_length_le (by decide)] at hf
        rw [← HR.out, if_pos (Or.inr hf)]
  · have hrn : r = 4 := by rw [← HR.out, if_pos (Or.inl hn)]
    have HN : Hid (r = 4) := hrn
    clear hrn HR
    go_enter Tryd.func19, Tryd.ntmps19
    go_wp2_with (go_at_call 44; refine (in_any _ _ _ _ HK.out _).mono ?_; rintro e w' ⟨rfl, rfl⟩)
    go_ret
    exact ⟨ret_int HN.out.symm, by go_grown⟩
theorem tfault_any (t : Tk) (w : World) (hs : (t.s.size : Int) ≤ 9223372036854775807) :
    Calls Tryd.prog 19 #[tV t] w fun e w' => e = .returned (.int .i64 (tchk t)) ∧ Below w.heap.size w w' := by
  obtain ⟨k, s, n⟩ := t
  unfold tV tchk
  by_cases h1 : k = 1
  · subst h1; simp only [if_true]; exact tf_1 n _ s w rfl
  by_cases h2 : k = 2
  · subst h2; simp only [if_true, h1, if_false]; exact tf_2 n s w
  by_cases h3 : k = 3
  · subst h3; simp only [if_true, h1, h2, if_false]; exact tf_3 n _ s w hs rfl
  by_cases h4 : k = 4
  · subst h4; simp only [if_true, h1, h2, h3, if_false]; exact tf_4 n _ s w rfl
  · simp only [h1, h2, h3, h4, if_false]
    exact tf_0 k n s w (by omega)
end Go.Proofs.YtnlmkdncifijlaaDoor
