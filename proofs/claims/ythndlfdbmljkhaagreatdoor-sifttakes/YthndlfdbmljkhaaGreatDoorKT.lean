/-
  Words that are kept, and the numbers of the relations' words.
-/
import Derived.Test.YthndlfdbmljkhaaGreatDoorH
import Derived.Test.YthndlfdbmljkhaaGreatDoorA
import Derived.Deep.MidRow
namespace Go.Proofs.YthndlfdbmljkhaaGreatDoor
open Go.ChangeShapes Go.WideShapes Go.ChangeAt Go.RowKit
set_option linter.unusedVariables false
set_option linter.unusedSimpArgs false
/-- The tables of words lie where the program's text lays them. -/
def Tab (w : World) (g : Nat) (l : List (List UInt8)) : Prop := g < w.heap.size ∧ ∀ i : Nat, i < l.length → w.cell? ⟨g, i, none⟩ = some (.string (txt (l.getD i [])))
theorem Tab.fr {w w' : World} {X : Nat → Prop} {g : Nat} {l : List (List UInt8)} (h : Tab w g l) (b : Fr X w w') (hg : ¬ X g) : Tab w' g l :=
  ⟨Nat.lt_of_lt_of_le h.1 b.size, fun i hi => (World.cell?_of_block (a := ⟨g, i, none⟩) (b.block g h.1 hg)).trans (h.2 i hi)⟩
theorem Tab.range {w : World} {g : Nat} {l : List (List UInt8)} (h : Tab w g l) : w.rangeAt g 0 (l.map fun m => Value.string (txt m)) := by
  intro j v hv
  have hj : j < l.length := by
    have := (List.getElem?_eq_some_iff.1 hv).1
    rwa [List.length_map] at this
  rw [Nat.zero_add, h.2 j hj]
  rw [List.getElem?_map, List.getElem?_eq_getElem hj] at hv
  simp only [Option.map_some, Option.some.injEq] at hv
  rw [← hv]
  simp [List.getD, List.getElem?_eq_getElem hj]
theorem tab_at (l : List (List UInt8)) (k : Nat) (h : k < l.length) : ((l.map fun m => Value.string (txt m)).toArray)[k]? = some (.string (txt (l.getD k []))) := by
  simp [List.getD, List.getElem?_eq_getElem h]
theorem index_17 (AA : Array Value) (k : Nat) (v : Value) (hk : k < 17) (h : AA[k]? = some v) (w : World) :
    (Instr.index 156 (.agg AA) (.int .i64 k)).run Tryz.prog w = .ok v w := by
  have c : Tryz.prog.cellsOf 9 = 1 := by kernel_rfl
  simp [Instr.index, run_underlying Tryz.underlying156, asIntOf, go_sem, hk, h]
theorem index_13 (AA : Array Value) (k : Nat) (v : Value) (hk : k < 13) (h : AA[k]? = some v) (w : World) :
    (Instr.index 193 (.agg AA) (.int .i64 k)).run Tryz.prog w = .ok v w := by
  have c : Tryz.prog.cellsOf 9 = 1 := by kernel_rfl
  simp [Instr.index, run_underlying Tryz.underlying193, asIntOf, go_sem, hk, h]
theorem getD_eq (l : List (List UInt8)) (k : Nat) (h : k < l.length) : l.getD k [] = l[k] := by simp [List.getD, List.getElem?_eq_getElem h]
theorem plc_at (s : List UInt8) (l : List (List UInt8)) (n k : Nat) (h : k < l.length) (e : s = l.getD k []) : plc s (l.drop k) n = n + 1 := by
  rw [List.drop_eq_getElem_cons h, plc, if_pos (by rw [e, getD_eq l k h])]
theorem plc_no (s : List UInt8) (l : List (List UInt8)) (n k : Nat) (h : k < l.length) (e : ¬ s = l.getD k []) : plc s (l.drop k) n = plc s (l.drop (k + 1)) (n + 1) := by
  rw [List.drop_eq_getElem_cons h, plc, if_neg (by rw [← getD_eq l k h]; exact e)]
theorem ret_int' {a b : Int} (h : a = b) : Ending.returned (.int .i64 a) = .returned (.int .i64 b) := by rw [h]
set_option maxHeartbeats 2000000 in
theorem relno_any (s : ByteArray) (w : World) (hT : Tab w 1 rll) :
    Calls Tryz.prog 99 #[.string s] w fun e w' => e = .returned (.int .i64 (rln s)) ∧ w' = w := by
  have HL : Hid (w.rangeAt 1 0 (rll.map fun m => Value.string (txt m))) := hT.range
  obtain ⟨r, hr⟩ : ∃ r, rln s = r := ⟨_, rfl⟩
  rw [hr]
  have HR : Hid (plc s.data.toList (rll.drop 0) 0 = r) := hr
  have HA : Hid (∀ k (h : k < 13), ((rll.map fun m => Value.string (txt m)).toArray)[k]? = some (.string (txt (rll.getD k [])))) := fun k h => tab_at rll k h
  clear hr hT
  go_enter Tryz.func99, Tryz.ntmps99
  go_wp2_with (refine wpList_load_mid (by rfl) 193 _ (by rfl) 1 0 (by rfl) (rll.map fun m => Value.string (txt m)) _ HL.out Tryz.underlying193 rfl (by kernel_rfl) ?_)
  obtain ⟨AA, hAA⟩ : ∃ AA, (rll.map fun m => Value.string (txt m)).toArray = AA := ⟨_, rfl⟩
  rw [hAA] at HA ⊢
  clear hAA HL
  go_loop [6] (fun i => ∃ k : Nat, k ≤ 13 ∧ i = .int .i64 k ∧ plc s.data.toList (rll.drop k) k = r) (fun i => 13 - (intOf i).toNat)
  case atStart => exact ⟨0, by omega, rfl, HR.out⟩
  case round =>
    obtain ⟨k, hk, rfl, hf⟩ := hrel
    have HF : Hid (plc s.data.toList (rll.drop k) k = r) := hf
    clear hf
    by_cases hlt : k < 13
    · obtain ⟨x, hx⟩ : ∃ x, txt (rll.getD k []) = x := ⟨_, rfl⟩
      have ha : ∀ W, (Instr.index 193 (.agg AA) (.int .i64 k)).run Tryz.prog W = .ok (.string x) W := fun W => by rw [← hx]; exact index_13 AA k _ hlt (HA.out k hlt) W
      have hxl : x.toList = rll.getD k [] := by rw [← hx, Lib.toList_data, txt_list]
      by_cases he : s.data.toList = rll.getD k []
      · have hb : (s.toList == x.toList) = true := by rw [Lib.toList_data, hxl, he]; simp
        have HE : Hid (s.data.toList = rll.getD k []) := he
        clear he hx hxl
        go_wp2
        go_ret
        refine ⟨ret_int' ?_, rfl⟩
        rw [← HF.out, plc_at _ _ _ _ hlt HE.out]
        rfl
      · have hb : (s.toList == x.toList) = false := by rw [Lib.toList_data, hxl]; simpa using he
        have HE : Hid (¬ s.data.toList = rll.getD k []) := he
        clear he hx hxl
        go_wp2
        exact ⟨⟨k + 1, by omega, by go_num, by rw [← plc_no _ _ _ _ hlt HE.out]; exact HF.out⟩, by simp [intOf]; omega⟩
    · obtain rfl : k = 13 := by omega
      go_wp2
      go_ret
      exact ⟨ret_int' (by rw [← HF.out]; rfl), rfl⟩
theorem plc_pos (s : List UInt8) : ∀ (l : List (List UInt8)) (n : Nat), plc s l n ≠ 0 ↔ s ∈ l
  | [], n => by simp [plc]
  | x :: r, n => by
    rw [plc]
    by_cases h : s = x
    · simp [h]
    · simp [h, plc_pos s r (n + 1)]
theorem not_take (l : List (List UInt8)) (s : List UInt8) (k : Nat) (hk : k < l.length) (h : s ∉ l.take k) (h2 : ¬ s = l.getD k []) : s ∉ l.take (k + 1) := by
  rw [List.take_succ_eq_append_getElem hk, List.mem_append, List.mem_singleton]
  rw [getD_eq l k hk] at h2
  rintro (x | x)
  · exact h x
  · exact h2 x
theorem getD_in (l : List (List UInt8)) (k : Nat) (h : k < l.length) : l.getD k [] ∈ l := by rw [getD_eq l k h]; exact List.getElem_mem h
set_option maxHeartbeats 2000000 in
theorem kept_any (s : ByteArray) (w : World) (hK : Tab w 0 kpl) (hT : Tab w 1 rll) :
    Calls Tryz.prog 56 #[.string s] w fun e w' => e = .returned (.bool (kpt s)) ∧ w' = w := by
  have HL : Hid (w.rangeAt 0 0 (kpl.map fun m => Value.string (txt m))) := hK.range
  have HT : Hid (Tab w 1 rll) := hT
  obtain ⟨r, hr⟩ : ∃ r, kpt s = r := ⟨_, rfl⟩
  rw [hr]
  have HR : Hid (kpt s = r) := hr
  have HA : Hid (∀ k (h : k < 17), ((kpl.map fun m => Value.string (txt m)).toArray)[k]? = some (.string (txt (kpl.getD k [])))) := fun k h => tab_at kpl k h
  clear hr hT hK
  go_enter Tryz.func56, Tryz.ntmps56
  go_wp2_with (refine wpList_load_mid (by rfl) 156 _ (by rfl) 0 0 (by rfl) (kpl.map fun m => Value.string (txt m)) _ HL.out Tryz.underlying156 rfl (by kernel_rfl) ?_)
  obtain ⟨AA, hAA⟩ : ∃ AA, (kpl.map fun m => Value.string (txt m)).toArray = AA := ⟨_, rfl⟩
  rw [hAA] at HA ⊢
  clear hAA HL
  go_loop [6] (fun i => ∃ k : Nat, k ≤ 17 ∧ i = .int .i64 k ∧ s.data.toList ∉ kpl.take k) (fun i => 17 - (intOf i).toNat)
  case atStart => exact ⟨0, by omega, rfl, by simp⟩
  case round =>
    obtain ⟨k, hk, rfl, hf⟩ := hrel
    have HF : Hid (s.data.toList ∉ kpl.take k) := hf
    clear hf
    by_cases hlt : k < 17
    · obtain ⟨x, hx⟩ : ∃ x, txt (kpl.getD k []) = x := ⟨_, rfl⟩
      have ha : ∀ W, (Instr.index 156 (.agg AA) (.int .i64 k)).run Tryz.prog W = .ok (.string x) W := fun W => by rw [← hx]; exact index_17 AA k _ hlt (HA.out k hlt) W
      have hxl : x.toList = kpl.getD k [] := by rw [← hx, Lib.toList_data, txt_list]
      by_cases he : s.data.toList = kpl.getD k []
      · have hb : (s.toList == x.toList) = true := by rw [Lib.toList_data, hxl, he]; simp
        have HE : Hid (s.data.toList = kpl.getD k []) := he
        clear he hx hxl
        go_wp2
        go_ret
        refine ⟨ret_bool ?_, rfl⟩
        rw [← HR.out, kpt, HE.out, decide_eq_true (getD_in kpl k hlt)]
        rfl
      · have hb : (s.toList == x.toList) = false := by rw [Lib.toList_data, hxl]; simpa using he
        have HE : Hid (¬ s.data.toList = kpl.getD k []) := he
        clear he hx hxl
        go_wp2
        exact ⟨⟨k + 1, by omega, by go_num, not_take _ _ k hlt HF.out HE.out⟩, by simp [intOf]; omega⟩
    · obtain rfl : k = 17 := by omega
      obtain ⟨q, hq⟩ : ∃ q, rln s = q := ⟨_, rfl⟩
      have HC := relno_any s w HT.out
      rw [hq] at HC
      have HC2 : Hid (Calls Tryz.prog 99 #[.string s] w fun e w' => e = .returned (.int .i64 q) ∧ w' = w) := HC
      have HQ : Hid (rln s = q) := hq
      clear hq HC
      go_wp2_with (go_at_call 99; refine HC2.out.mono ?_; rintro e w' ⟨rfl, rfl⟩)
      go_ret
      refine ⟨ret_bool ?_, rfl⟩
      rw [← HR.out, kpt, decide_eq_false (show s.data.toList ∉ kpl from HF.out), Bool.false_or, ← HQ.out]
      have := plc_pos s.data.toList rll 0
      by_cases c : s.data.toList ∈ rll
      · have h2 := this.2 c
        simp only [c, decide_true]
        simpa [rln] using h2
      · have h2 : plc s.data.toList rll 0 = 0 := by
          rcases Nat.eq_zero_or_pos (plc s.data.toList rll 0) with h | h
          · exact h
          · exact absurd (this.1 (by omega)) c
        simp [c, rln, h2]
end Go.Proofs.YthndlfdbmljkhaaGreatDoor
