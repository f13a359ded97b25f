/-
  Whether a text is a mark; the longest mark that it begins with.
-/
import Derived.Test.YtnlmkdncifijlaaDoorC
import Derived.Test.YtnlmkdncifijlaaDoorSh
import Derived.Deep.MidRow
namespace Go.Proofs.YtnlmkdncifijlaaDoor
open Go.ChangeShapes Go.WideShapes Go.ChangeAt Go.RowKit
set_option linter.unusedVariables false
set_option linter.unusedSimpArgs false
theorem ret_str {a b : ByteArray} (h : a = b) : Ending.returned (.string a) = .returned (.string b) := by rw [h]
/-- The table of marks as it is loaded. -/
def mkA : Array Value := (mkl.map fun m => Value.string (txt m)).toArray
theorem mkA_at (k : Nat) (h : k < 17) : mkA[k]? = some (.string (txt (mkl.getD k []))) := by
  match k, h with
  | 0, _ => rfl
  | 1, _ => rfl
  | 2, _ => rfl
  | 3, _ => rfl
  | 4, _ => rfl
  | 5, _ => rfl
  | 6, _ => rfl
  | 7, _ => rfl
  | 8, _ => rfl
  | 9, _ => rfl
  | 10, _ => rfl
  | 11, _ => rfl
  | 12, _ => rfl
  | 13, _ => rfl
  | 14, _ => rfl
  | 15, _ => rfl
  | 16, _ => rfl
  | n + 17, h => exact absurd h (by omega)
theorem range_marks {w : World} (hM : Marks w) : w.rangeAt 1 0 (mkl.map fun m => Value.string (txt m)) := by
  intro j v hv
  have hj : j < 17 := by
    have := (List.getElem?_eq_some_iff.1 hv).1
    rw [List.length_map] at this
    exact this
  have h1 := hM.2 j hj
  have h2 : mkA[j]? = some v := by rw [mkA]; simpa using hv
  rw [mkA_at j hj] at h2
  rw [Nat.zero_add, h1, ← h2]
theorem index_marks (AA : Array Value) (k : Nat) (v : Value) (hk : k < 17) (h : AA[k]? = some v) (w : World) :
    (Instr.index 148 (.agg AA) (.int .i64 k)).run Tryd.prog w = .ok v w := by
  have c : Tryd.prog.cellsOf 9 = 1 := by kernel_rfl
  simp [Instr.index, run_underlying Tryd.underlying148, asIntOf, go_sem, hk, h]
theorem txt_eq (s : ByteArray) (l : List UInt8) : s = txt l ↔ s.data.toList = l := by
  constructor
  · rintro rfl; exact txt_list l
  · intro h; rw [← h, txt_of]
theorem take_in (l : List UInt8) (k : Nat) (hk : k < 17) (h : l ∉ mkl.take k) (h2 : l ≠ mkl.getD k []) : l ∉ mkl.take (k + 1) := by
  have hk' : k < mkl.length := hk
  rw [List.take_succ_eq_append_getElem hk']
  have e : mkl.getD k [] = mkl[k] := by simp [List.getD, List.getElem?_eq_getElem hk']
  rw [e] at h2
  rw [List.mem_append, List.mem_singleton]
  rintro (x | x)
  · exact h x
  · exact h2 x
theorem at_in (k : Nat) (hk : k < 17) : mkl.getD k [] ∈ mkl := by
  have hk' : k < mkl.length := hk
  have e : mkl.getD k [] = mkl[k] := by simp [List.getD, List.getElem?_eq_getElem hk']
  rw [e]; exact List.getElem_mem hk'
set_option maxHeartbeats 2000000 in
theorem isMark_any (s : ByteArray) (r : Bool) (hr : Say r (s.data.toList ∈ mkl)) (w : World) (hM : Marks w) :
    Calls Tryd.prog 79 #[.string s] w fun e w' => e = .returned (.bool r) ∧ w' = w := by
  have HL : Hid (w.rangeAt 1 0 (mkl.map fun m => Value.string (txt m))) := range_marks hM
  have HR : Hid (Say r (s.data.toList ∈ mkl)) := hr
  have HA : Hid (∀ k (h : k < 17), mkA[k]? = some (.string (txt (mkl.getD k [])))) := mkA_at
  clear hr hM
  go_enter Tryd.func79, Tryd.ntmps79
  go_wp2_with (refine wpList_load_mid (by rfl) 148 _ (by rfl) 1 0 (by rfl) (mkl.map fun m => Value.string (txt m)) _ HL.out Tryd.underlying148 rfl (by kernel_rfl) ?_)
  rw [show (mkl.map fun m => Value.string (txt m)).toArray = mkA from rfl]
  obtain ⟨AA, hAA⟩ : ∃ AA, mkA = AA := ⟨_, rfl⟩
  rw [hAA] at HA ⊢
  clear hAA HL
  go_loop [6] (fun i => ∃ k : Nat, k ≤ 17 ∧ i = .int .i64 k ∧ s.data.toList ∉ mkl.take k) (fun i => 17 - (intOf i).toNat)
  case atStart => exact ⟨0, by omega, rfl, by simp⟩
  case round =>
    obtain ⟨k, hk, rfl, hf⟩ := hrel
    have HF : Hid (s.data.toList ∉ mkl.take k) := hf
    clear hf
    by_cases hlt : k < 17
    · obtain ⟨x, hx⟩ : ∃ x, txt (mkl.getD k []) = x := ⟨_, rfl⟩
      have ha : ∀ W, (Instr.index 148 (.agg AA) (.int .i64 k)).run Tryd.prog W = .ok (.string x) W := fun W => by rw [← hx]; exact index_marks AA k _ hlt (HA.out k hlt) W
      have hxl : x.toList = mkl.getD k [] := by rw [← hx, Lib.toList_data, txt_list]
      by_cases he : s.data.toList = mkl.getD k []
      · have hb : (s.toList == x.toList) = true := by rw [Lib.toList_data, hxl, he]; simp
        have HE : Hid (s.data.toList = mkl.getD k []) := he
        clear he hx hxl
        go_wp2
        go_ret
        refine ⟨ret_bool ?_, rfl⟩
        have h2 := HR.out
        cases r
        · refine absurd ?_ h2.f
          rw [HE.out]; exact at_in k hlt
        · rfl
      · have hb : (s.toList == x.toList) = false := by rw [Lib.toList_data, hxl]; simpa using he
        have HE : Hid (¬ s.data.toList = mkl.getD k []) := he
        clear he hx hxl
        go_wp2
        exact ⟨⟨k + 1, by omega, by go_num, take_in _ k hlt HF.out HE.out⟩, by simp [intOf]; omega⟩
    · obtain rfl : k = 17 := by omega
      go_wp2
      go_ret
      refine ⟨ret_bool ?_, rfl⟩
      have h1 := HF.out
      have h2 := HR.out
      cases r
      · rfl
      · exact absurd h2.t h1
theorem fmk_step (l : List UInt8) : ∀ (ms : List (List UInt8)) (k : Nat) (h : k < ms.length), fmk l (ms.drop k) = if Lib.hasPrefix l ms[k] = true then ms[k] else fmk l (ms.drop (k + 1)) := by
  intro ms k h
  rw [List.drop_eq_getElem_cons h, fmk]
end Go.Proofs.YtnlmkdncifijlaaDoor
