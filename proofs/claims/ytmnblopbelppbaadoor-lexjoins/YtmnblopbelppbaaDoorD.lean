/-
  The document's digits of a number.
-/
import Derived.Test.YtmnblopbelppbaaDoorJ
import Derived.Laws.IdiomStrings
import Derived.RegionTactic
namespace Go.Proofs.YtmnblopbelppbaaDoor
open Go.ChangeShapes Go.WideShapes Go.ChangeAt Go.RowKit Go.Maps Go.Deep
set_option linter.unusedVariables false
set_option linter.unusedSimpArgs false
theorem conv_at (c : UInt8) (W : World) (g : Nat) (h : W.cell? ⟨g, 0, none⟩ = some (.int .u8 (c.toNat : Int))) : (convert 39 9 (.slice (some ⟨g, 0, none⟩) 1 1)).run Tryd.prog W = .ok (.string (txt [c])) W :=
  run_convert_bytes_back W 39 9 5 ⟨g, 0, none⟩ 1 [c] Tryd.underlying39 Tryd.underlying5 Tryd.underlying9 (fun j hj => by
    obtain rfl : j = 0 := by simpa using hj
    rw [Addr.add_mid]
    exact h)
theorem dgt8 (d : Nat) (h : d < 10) : ((UInt8.ofNat (48 + d)).toNat : Int) = 48 + (d : Int) := by
  have : (UInt8.ofNat (48 + d)).toNat = 48 + d := by rw [UInt8.toNat_ofNat']; omega
  omega
set_option maxHeartbeats 4000000 in
theorem dec_small (u : Nat) (w : World) (h : u < 10) :
    Calls Tryd.prog 36 #[.int .i64 u] w fun e w' => e = .returned (.string (txt (Lib.decDigits u))) ∧ Below w.heap.size w w' := by
  have e : Lib.decDigits u = [UInt8.ofNat (48 + u)] := by rw [Lib.decDigits, dif_pos h]
  rw [e]
  obtain ⟨c, hc⟩ : ∃ c, UInt8.ofNat (48 + u) = c := ⟨_, rfl⟩
  have hcn := dgt8 u h
  rw [hc] at hcn ⊢
  have hcv := conv_at c (w.alloc (.cells #[.int .u8 (48 + (u : Int))] 5)) w.heap.size (by rw [hcn]; simp [go_sem])
  have hw8 : IntKind.u8.wrap (48 + (u : Int)) = 48 + u := by
    simp [IntKind.wrap, IntKind.bits, IntKind.signed]
    omega
  clear hc e hcn
  go_enter Tryd.func36, Tryd.ntmps36
  go_wp2
  go_ret
  exact ⟨rfl, by go_grown⟩
set_option maxHeartbeats 8000000 in
theorem dec_step (u : Nat) (w : World) (h : ¬ u < 10) (hm : u ≤ 1125899906842624) (ih : ∀ W, Calls Tryd.prog 36 #[.int .i64 ((u / 10 : Nat) : Int)] W fun e w' => e = .returned (.string (txt (Lib.decDigits (u / 10)))) ∧ Below W.heap.size W w') :
    Calls Tryd.prog 36 #[.int .i64 u] w fun e w' => e = .returned (.string (txt (Lib.decDigits u))) ∧ Below w.heap.size w w' := by
  have e : Lib.decDigits u = Lib.decDigits (u / 10) ++ [UInt8.ofNat (48 + u % 10)] := by rw [Lib.decDigits, dif_neg h]
  obtain ⟨c, hc⟩ : ∃ c, UInt8.ofNat (48 + u % 10) = c := ⟨_, rfl⟩
  have hcn := dgt8 (u % 10) (by omega)
  have hz : (txt (Lib.decDigits (u / 10))).size ≤ 20 := by
    rw [txt_size]
    have := dec_len 16 (u / 10) (by omega)
    omega
  obtain ⟨X, hX⟩ : ∃ X, txt (Lib.decDigits (u / 10)) = X := ⟨_, rfl⟩
  have hE : txt (Lib.decDigits u) = X ++ txt [c] := by
    rw [← hX, e, hc]
    apply Eq.symm
    rw [txt_eq, cat_list, txt_list, txt_list]
  have HE : Hid (txt (Lib.decDigits u) = X ++ txt [c]) := hE
  rw [hX] at hz
  obtain ⟨q, hq⟩ : ∃ q : Nat, u / 10 = q := ⟨_, rfl⟩
  have hwq : IntKind.i64.wrap (q : Int) = (q : Int) := by
    rw [IntKind.wrap_i64]
    omega
  have hqd : (u : Int) / 10 = (q : Int) := by omega
  have HIH : Hid (∀ W, Calls Tryd.prog 36 #[.int .i64 (q : Int)] W fun e w' => e = .returned (.string X) ∧ Below W.heap.size W w') := fun W => by rw [← hX, ← hq]; exact ih W
  have hrem : (u : Int) % 10 = ((u % 10 : Nat) : Int) := by omega
  obtain ⟨d, hd⟩ : ∃ d : Nat, u % 10 = d := ⟨_, rfl⟩
  have hd10 : d < 10 := by omega
  have htm : (u : Int).tmod 10 = (d : Int) := by
    rw [Int.tmod_eq_emod_of_nonneg (by omega)]
    omega
  rw [hd] at hrem hcn hc
  rw [hc] at hcn
  have hw8 : IntKind.u8.wrap (48 + (d : Int)) = 48 + d := by
    simp [IntKind.wrap, IntKind.bits, IntKind.signed]
    omega
  have hcv : ∀ (W : World) (g : Nat), W.cell? ⟨g, 0, none⟩ = some (.int .u8 (48 + (d : Int))) → (convert 39 9 (.slice (some ⟨g, 0, none⟩) 1 1)).run Tryd.prog W = .ok (.string (txt [c])) W := fun W g hg => conv_at c W g (by rw [hcn]; exact hg)
  obtain ⟨Y, hY⟩ : ∃ Y, txt [c] = Y := ⟨_, rfl⟩
  have hy1 : Y.size = 1 := by rw [← hY, txt_size]; rfl
  rw [hY] at hcv HE
  have hw64 : IntKind.i64.wrap (48 + (d : Int)) = 48 + d := by
    rw [IntKind.wrap_i64]
    omega
  have hwd : IntKind.i64.wrap (d : Int) = d := by
    rw [IntKind.wrap_i64]
    omega
  clear hc e hcn hE hX hd ih hY hq
  have hu10 : ¬ (u : Int) < 10 := by omega
  have hu0 : ¬ (u : Int) < 0 := by omega
  go_enter Tryd.func36, Tryd.ntmps36
  go_wp2
  go_region_with ((go_at_call 36; go_loud (refine (HIH.out _).mono ?_); rintro e w2 ⟨rfl, hb2⟩; have hc2 := fun (b o : Nat) (h : b < _) => hb2.cell (p := ⟨b, o, none⟩) h; have HB2 : Hid (Below _ _ w2) := hb2; clear hb2))
  all_goals
    go_wp2
    go_ret
    refine ⟨ret_str HE.out.symm, ?_⟩
    first
      | exact (below_trans (by go_grown : Below w.heap.size w w.drew) HB2.out (Nat.le_refl _)).alloc (below_trans (by go_grown : Below w.heap.size w w.drew) HB2.out (Nat.le_refl _)).size _
      | exact below_trans (by go_grown) HB2.out (by simp)
theorem dec_any (u : Nat) : u ≤ 1125899906842624 → ∀ w, Calls Tryd.prog 36 #[.int .i64 u] w fun e w' => e = .returned (.string (txt (Lib.decDigits u))) ∧ Below w.heap.size w w' := by
  induction u using Nat.strongRecOn with
  | _ u ih =>
    intro hu w
    by_cases h : u < 10
    · exact dec_small u w h
    · exact dec_step u w h hu (fun W => ih (u / 10) (by omega) (by omega) W)
end Go.Proofs.YtmnblopbelppbaaDoor
