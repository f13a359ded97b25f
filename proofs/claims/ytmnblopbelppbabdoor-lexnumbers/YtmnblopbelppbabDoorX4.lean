/-
  The walk of LexNumbers.
-/
import Derived.Test.YtmnblopbelppbabDoorX1
namespace Go.Proofs.YtmnblopbelppbabDoor
open Go.ChangeShapes Go.WideShapes Go.ChangeAt Go.RowKit Go.Maps Go.Deep
set_option linter.unusedVariables false
set_option linter.unusedSimpArgs false
theorem toks_two (w : World) (k m : Int) : TokensAt (w.alloc (.cells #[.int .i64 2, .string ⟨#[]⟩, .int .i64 k, .int .i64 2, .string ⟨#[]⟩, .int .i64 m] 27)) (.slice (some ⟨w.heap.size, 0, none⟩) 2 2) [⟨2, txt [], k⟩, ⟨2, txt [], m⟩] := by
  refine ⟨_, 2, rfl, Nat.le_refl _, by decide, fun _ => ⟨w.heap.size, 0, rfl, fun j hj => ?_⟩⟩
  have hj2 : j = 0 ∨ j = 1 := by simp at hj; omega
  rcases hj2 with rfl | rfl
  · refine ⟨by simp, ?_, ?_, ?_⟩ <;> simp [go_sem] <;> rfl
  · refine ⟨by simp, ?_, ?_, ?_⟩ <;> simp [go_sem] <;> rfl
set_option maxHeartbeats 4000000 in
theorem lexNumbers_walk (n : Int) (w : World) (hn : wfI n) (hM : Marks w) (hP : Pow w) :
    Calls Tryd.prog 3 #[.int .i64 n] w fun e w' => e = .returned (.bool true) ∧ Below w.heap.size w w' := by
  obtain ⟨x, hx, hX⟩ := picked_const n 1125899906842624 1125899906842624 rfl hn (by omega) (by omega)
  have HX : Hid (∀ W, Calls Tryd.prog 4 #[.int .i64 n, .int .i64 1125899906842624] W fun e w' => e = .returned (.int .i64 x) ∧ w' = W) := hX
  have HM : Hid (Marks w) := hM
  have HP : Hid (Pow w) := hP
  obtain ⟨ts, hts⟩ : ∃ ts : List Tk, [⟨2, txt [], (x : Int)⟩, ⟨2, txt [], 1125899906842624⟩] = ts := ⟨_, rfl⟩
  have HTS : Hid ([⟨2, txt [], (x : Int)⟩, ⟨2, txt [], 1125899906842624⟩] = ts) := hts
  have HF : Hid (ts.length = 2 ∧ ∀ t ∈ ts, tchk t = 0) := ⟨by rw [← hts]; rfl, fun t ht => by
    rw [← hts] at ht
    simp at ht
    rcases ht with rfl | rfl
    · exact tchk_num x (by omega)
    · exact tchk_num 1125899906842624 (by omega)⟩
  clear hX hn hM hP hts
  go_enter Tryd.func3, Tryd.ntmps3
  go_wp2_with (go_at_call 4; refine (HX.out _).mono ?_; rintro e w ⟨rfl, rfl⟩)
  have HB1 : Hid (∀ o, Below w.heap.size w (w.alloc o)) := fun o => below_new w o
  refine (join_fine _ ts _ (by rw [← HTS.out]; exact toks_two w x 1125899906842624) (HM.out.alloc _) (HP.out.below (below_new _ _)) (by have := HF.out.1; omega) HF.out.2).mono ?_
  rintro e w2 ⟨rfl, hb2⟩
  have HB2 : Hid (Below w.heap.size w w2) := below_trans (below_new _ _) hb2 (by simp)
  clear hb2
  go_wp2_with fail
  refine (cut_ok (txt (cat ts)) w2 ts (HM.out.below HB2.out) (by have := cat40 (by have := HF.out.1; omega) HF.out.2; omega) (by rw [txt_list]; exact run_back _ HF.out.2) (by have := HF.out.1; omega)).mono ?_
  rintro e w3 ⟨p3, c3, rfl, hv3, hb3⟩
  have HB3 : Hid (Below w.heap.size w w3) := below_trans HB2.out hb3 HB2.out.size
  rw [← HTS.out] at hv3
  obtain ⟨p', c', e', _, _, hcell⟩ := hv3
  cases e'
  obtain ⟨g, off, rfl, hc⟩ := hcell (by simp)
  obtain ⟨_, _, _, d0⟩ := hc 0 (by simp)
  obtain ⟨_, _, _, d1⟩ := hc 1 (by simp)
  simp at d0 d1
  have hl2 := HF.out.1
  rw [hl2]
  clear hc hcell hb3 hl2
  go_wp2
  go_ret
  exact ⟨rfl, HB3.out⟩
end Go.Proofs.YtmnblopbelppbabDoor
