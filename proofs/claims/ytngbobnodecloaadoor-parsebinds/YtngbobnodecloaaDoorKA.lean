/-
  Words of the language are kept, others are not: the walk.
-/
import Derived.Test.YtngbobnodecloaaDoorKT
namespace Go.Proofs.YtngbobnodecloaaDoor
open Go.ChangeShapes Go.WideShapes Go.ChangeAt Go.RowKit
set_option linter.unusedVariables false
set_option linter.unusedSimpArgs false
def pk (n m : Int) : Int := if 0 ≤ n then n % m else -((n + 1).tmod m)
theorem pk_bd (n m : Int) (hm : 0 < m) : 0 ≤ pk n m ∧ pk n m < m := by
  unfold pk
  split
  · exact ⟨Int.emod_nonneg n (by omega), Int.emod_lt_of_pos n hm⟩
  · have h2 := Int.tmod_lt_of_pos (-(n + 1)) hm
    have h1 := Int.tmod_nonneg m (by omega : 0 ≤ -(n + 1))
    rw [Int.neg_tmod] at h1 h2
    omega
theorem picked_any (n m : Int) (w : World) (hn1 : -9223372036854775808 ≤ n) (hn2 : n ≤ 9223372036854775807) (hm : 0 < m) (hm2 : m ≤ 1125899906842624) :
    Calls Tryd.prog 15 #[.int .i64 n, .int .i64 m] w fun e w' => e = .returned (.int .i64 (pk n m)) ∧ w' = w := by
  have hm0 : ¬ m = 0 := by omega
  unfold pk
  by_cases h : 0 ≤ n
  · simp only [h, if_true]
    go_enter Tryd.func15, Tryd.ntmps15
    go_wp2
    go_ret
    exact ⟨rfl, rfl⟩
  · have h' : n < 0 := by omega
    simp only [h, if_false]
    go_enter Tryd.func15, Tryd.ntmps15
    go_wp2
    go_ret
    exact ⟨rfl, rfl⟩
theorem picked_const (n M : Int) (m : Nat) (hM : M = m) (hn : -9223372036854775808 ≤ n ∧ n ≤ 9223372036854775807) (hm : 0 < m) (hm2 : m ≤ 1125899906842624) : ∃ x : Nat, x < m ∧ ∀ W, Calls Tryd.prog 15 #[.int .i64 n, .int .i64 M] W fun e w' => e = .returned (.int .i64 x) ∧ w' = W := by
  subst hM
  have hb := pk_bd n m (by omega)
  obtain ⟨k, hk⟩ := Int.eq_ofNat_of_zero_le hb.1
  refine ⟨k, by omega, fun W => ?_⟩
  have := picked_any n m W hn.1 hn.2 (by omega) (by omega)
  rw [hk] at this
  exact this
def allW : List (List UInt8) := kpl ++ rll
def allA : Array Value := (allW.map fun m => Value.string (txt m)).toArray
theorem kpt_in (s : ByteArray) : kpt s = true ↔ s.data.toList ∈ allW := by simp [kpt, allW]
theorem in_x (x : List UInt8) (h : x ∈ allW) : x ++ [120] ∉ allW := by
  have : ∀ x ∈ allW, x ++ [120] ∉ allW := by decide
  exact this x h
set_option maxRecDepth 20000 in
set_option maxHeartbeats 4000000 in
theorem keptAll_walk (n : Int) (s : ByteArray) (w : World) (hn : -9223372036854775808 ≤ n ∧ n ≤ 9223372036854775807) (hK : Tab w 0 kpl) (hT : Tab w 1 rll) :
    Calls Tryd.prog 5 #[.int .i64 n, .string s] w fun e w' => e = .returned (.bool true) ∧ Below w.heap.size w w' := by
  obtain ⟨w1, hw1⟩ : ∃ w1, w.alloc (.cells allA 9) = w1 := ⟨_, rfl⟩
  have hF : Fr (fun _ => False) w w1 := by rw [← hw1]; exact (Fr.refl _ _).alloc _
  have HK1 : Hid (∀ x W, Fr (fun _ => False) w W → Calls Tryd.prog 9 #[.string x] W fun e w' => e = .returned (.bool (kpt x)) ∧ w' = W) := fun x W h => kept_any x W (hK.fr h id) (hT.fr h id)
  have HC : Hid (∀ k, k < 30 → w1.cell? ⟨w.heap.size, k, none⟩ = some (.string (txt (allW.getD k [])))) := fun k hk => by
    rw [← hw1, cell_of_row _ _ k allA 9 (0, 0) (heap_alloc_new _ _)]
    exact tab_at allW k hk
  have HB : Hid (Fr (fun _ => False) w w1) := hF
  obtain ⟨x, hx, hp⟩ := picked_const n 30 30 (by rfl) hn (by omega) (by omega)
  have HP : Hid (∀ W, Calls Tryd.prog 15 #[.int .i64 n, .int .i64 30] W fun e w' => e = .returned (.int .i64 x) ∧ w' = W) := hp
  have HW : Hid (w.alloc (.cells allA 9) = w1) := hw1
  obtain ⟨b, hb⟩ : ∃ b, kpt s = b := ⟨_, rfl⟩
  have HBS : Hid (kpt s = b) := hb
  obtain ⟨y, hy⟩ : ∃ y, txt (allW.getD x []) = y := ⟨_, rfl⟩
  have hin := getD_in allW x hx
  have k1 : kpt y = true := by rw [kpt_in, ← hy, txt_list]; exact hin
  have k2 : kpt (y ++ txt [120]) = false := by
    rw [Bool.eq_false_iff, Ne, kpt_in, ← hy]
    have : (txt (allW.getD x []) ++ txt [120]).data.toList = allW.getD x [] ++ [120] := by simp [txt]
    rw [this]
    exact in_x _ hin
  have k3 : kpt (txt []) = false := by decide
  have C1 : Hid (Calls Tryd.prog 9 #[.string y] w1 fun e w' => e = .returned (.bool true) ∧ w' = w1) := by
    have := HK1.out y w1 HB.out
    rw [k1] at this
    exact this
  have C2 : Hid (Calls Tryd.prog 9 #[.string (y ++ txt [120])] w1 fun e w' => e = .returned (.bool false) ∧ w' = w1) := by
    have := HK1.out (y ++ txt [120]) w1 HB.out
    rw [k2] at this
    exact this
  have C3 : Hid (Calls Tryd.prog 9 #[.string (txt [])] w1 fun e w' => e = .returned (.bool false) ∧ w' = w1) := by
    have := HK1.out (txt []) w1 HB.out
    rw [k3] at this
    exact this
  have C4 : Hid (Calls Tryd.prog 9 #[.string s] w1 fun e w' => e = .returned (.bool b) ∧ w' = w1) := by
    have := HK1.out s w1 HB.out
    rw [hb] at this
    exact this
  have hys : y.size ≤ 10 := by
    rw [← hy, txt_size]
    have h10 : ∀ x ∈ allW, x.length ≤ 10 := by decide
    exact h10 _ hin
  have hcx := HC.out x hx
  rw [hy] at hcx
  have i1 : (0 : Int) ≤ (x : Int) := by omega
  have i2 : (x : Int) < 30 := by omega
  clear hb hy hin k1 k2 k3 hp hx hK hT hF hw1
  go_enter Tryd.func5, Tryd.ntmps5
  go_wp2_with (first
    | (go_at_call 15; refine (HP.out _).mono ?_; rintro e wq ⟨rfl, hq⟩; have hq2 : wq = w1 := hq.trans HW.out; clear hq HW; subst hq2)
    | (go_at_call_of 9 (Value.string y); refine C1.out.mono ?_; rintro e wq ⟨rfl, rfl⟩)
    | (go_at_call_of 9 (Value.string ⟨#[]⟩); refine C3.out.mono ?_; rintro e wq ⟨rfl, rfl⟩)
    | (go_at_call 9; refine C2.out.mono ?_; rintro e wq ⟨rfl, rfl⟩))
  go_loopw [7] (fun i wr => ∃ k : Nat, k ≤ 30 ∧ i = .int .i64 k ∧ wr = wq ∧ s.data.toList ∉ allW.take k) (fun i _ => 30 - (intOf i).toNat)
  case atStart => exact ⟨0, by omega, rfl, rfl, by simp⟩
  case round =>
    obtain ⟨k, hk, rfl, rfl, hf⟩ := hrel
    have HF : Hid (s.data.toList ∉ allW.take k) := hf
    clear hf
    by_cases hlt : k < 30
    · obtain ⟨z, hz⟩ : ∃ z, txt (allW.getD k []) = z := ⟨_, rfl⟩
      have hck := HC.out k hlt
      rw [hz] at hck
      have hxl : z.toList = allW.getD k [] := by rw [← hz, Lib.toList_data, txt_list]
      have j1 : (0 : Int) ≤ (k : Int) := by omega
      have j2 : (k : Int) < 30 := by omega
      by_cases he : s.data.toList = allW.getD k []
      · have hb : (z.toList == s.toList) = true := by rw [Lib.toList_data s, hxl, he]; simp
        have HE : Hid (s.data.toList = allW.getD k []) := he
        clear he hz hxl
        go_wp2_with (go_at_call 9; refine C4.out.mono ?_; rintro e wq ⟨rfl, rfl⟩)
        go_ret
        refine ⟨ret_bool ?_, HB.out.below⟩
        rw [← HBS.out, kpt_in, HE.out]
        exact getD_in allW k hlt
      · have hb : (z.toList == s.toList) = false := by rw [Lib.toList_data s, hxl]; simpa using fun h : allW.getD k [] = s.data.toList => he h.symm
        have HE : Hid (¬ s.data.toList = allW.getD k []) := he
        clear he hz hxl
        go_wp2_with fail
        exact ⟨⟨k + 1, by omega, by go_num, by first | trivial | rfl, not_take _ _ k hlt HF.out HE.out⟩, by simp [intOf]; omega⟩
    · obtain rfl : k = 30 := by omega
      go_wp2_with (go_at_call 9; refine C4.out.mono ?_; rintro e wq ⟨rfl, rfl⟩)
      go_ret
      refine ⟨ret_bool ?_, HB.out.below⟩
      have h1 : ¬ (kpt s = true) := fun h => (show s.data.toList ∉ allW from HF.out) ((kpt_in s).1 h)
      rw [HBS.out] at h1
      cases b
      · rfl
      · exact absurd rfl h1
end Go.Proofs.YtngbobnodecloaaDoor
