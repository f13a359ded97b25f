/-
  What matrices may be: by the program and by the reference.
-/
import Derived.Test.YtgikaheojcpmpabDoorA
namespace Go.Proofs.YtgikaheojcpmpabDoor
open Go.ChangeShapes Go.WideShapes Go.ChangeAt Go.RowKit Go.Maps
set_option linter.unusedVariables false
set_option linter.unusedSimpArgs false
set_option maxRecDepth 20000
set_option maxHeartbeats 4000000 in
theorem within_any (v : Value) (l : Nat) (z : Nat → Int) (most : Int) (w : World) (h : RowAt w v l z) (h1 : 0 ≤ most) (h2 : most ≤ 4611686018427387904) :
    Calls Tryd.prog 32 #[v, .int .i64 most] w fun e w' => e = .returned (.bool (wth most z l)) ∧ Below w.heap.size w w' := by
  obtain ⟨p, cap, rfl, hl, hc, hp⟩ := h
  have hmx : (l : Int) ≤ 9223372036854775807 := by unfold maxLen at hc; omega
  have HP : Hid (0 < l → ∃ g off, p = some ⟨g, off, none⟩ ∧ ∀ k, k < l → w.cell? ⟨g, off + k, none⟩ = some (.int .i64 (z k))) := hp
  have hneg : IntKind.i64.wrap (-most) = -most := by go_unwrap
  clear hp hl hc
  go_enter Tryd.func32, Tryd.ntmps32
  go_wp2_with fail
  go_loopw [9] (fun i wr => ∃ k : Nat, k ≤ l ∧ i = .int .i64 (k : Nat) ∧ (∀ j, j < k → inb most (z j)) ∧ Below w.heap.size w wr) (fun i _ => l + 1 - (intOf i).toNat)
  case atStart => exact ⟨0, by omega, rfl, fun j h => by omega, Below.refl _ _⟩
  case round =>
    obtain ⟨k, hk, rfl, hf, hBr⟩ := hrel
    have HF : Hid (∀ j, j < k → inb most (z j)) := hf
    have HBR : Hid (Below w.heap.size w wr) := hBr
    clear hf
    by_cases hlt : k < l
    · obtain ⟨g, off, rfl, hrd⟩ := HP.out (by omega)
      have a0 := (hBr.cell (p := ⟨g, off + k, none⟩) (World.block_lt_of_cell? _ _ (hrd k hlt))).trans (hrd k hlt)
      have i1 : (0 : Int) ≤ (k : Int) := by omega
      have i2 : (k : Int) < (l : Int) := by omega
      by_cases hq : inb most (z k)
      · have HNY : Hid (∀ j, j < k + 1 → inb most (z j)) := fun j hj => by
          by_cases c : j = k
          · subst c; exact hq
          · exact HF.out j (by omega)
        obtain ⟨x, hx⟩ : ∃ x, z k = x := ⟨_, rfl⟩
        rw [hx] at a0 hq
        clear hrd hBr hx
        rcases hq with hq | ⟨q1, q2⟩
        · subst hq
          go_wp2_with fail
          go_roundw
          case rel => exact ⟨k + 1, by omega, by go_num, HNY.out, HBR.out⟩
          case measure => simp [intOf]; omega
        · by_cases c : x = 1152921504606846976
          · subst c
            go_wp2_with fail
            go_roundw
            case rel => exact ⟨k + 1, by omega, by go_num, HNY.out, HBR.out⟩
            case measure => simp [intOf]; omega
          · go_wp2_with fail
            go_roundw
            case rel => exact ⟨k + 1, by omega, by go_num, HNY.out, HBR.out⟩
            case measure => simp [intOf]; omega
      · have HRS : Hid (wth most z l = false) := wth_not hlt hq
        obtain ⟨x, hx⟩ : ∃ x, z k = x := ⟨_, rfl⟩
        rw [hx] at a0 hq
        clear hrd hBr hx
        unfold inb at hq
        have c : ¬ x = 1152921504606846976 := fun c => hq (.inl c)
        rcases (by omega : x < -most ∨ most < x) with q | q
        · clear hq
          go_wp2_with fail
          go_ret
          rw [HRS.out]
          exact ⟨rfl, HBR.out⟩
        · have q3 : ¬ x < -most := by omega
          clear hq
          go_wp2_with fail
          go_ret
          rw [HRS.out]
          exact ⟨rfl, HBR.out⟩
    · obtain rfl : k = l := by omega
      have HRS : Hid (wth most z k = true) := wth_of HF.out
      clear hBr
      go_wp2_with fail
      go_ret
      rw [HRS.out]
      exact ⟨rfl, HBR.out⟩
set_option maxHeartbeats 4000000 in
theorem check_any (v : Value) (n : Nat) (L : Nat → Nat) (Z : Nat → Nat → Int) (w : World) (h : MatAt w v n L Z) :
    Calls Tryd.prog 31 #[v] w fun e w' => e = .returned (.int .i64 (chk n L Z)) ∧ Below w.heap.size w w' := by
  have HM : Hid (MatAt w v n L Z) := h
  obtain ⟨p, cap, rfl, hl, hc, hp⟩ := h
  have hmx : (n : Int) ≤ 9223372036854775807 := by unfold maxLen at hc; omega
  have HP : Hid (0 < n → ∃ g off, p = some ⟨g, off, none⟩ ∧ ∀ i, i < n → ∃ u, w.cell? ⟨g, off + i, none⟩ = some u ∧ RowAt w u (L i) (Z i)) := hp
  clear hp hl hc
  by_cases h12 : 12 < n
  · have HR : Hid (chk n L Z = 1) := by unfold chk Hid; rw [if_pos h12]
    have q : (12 : Int) < (n : Int) := by omega
    go_enter Tryd.func31, Tryd.ntmps31
    go_wp2_with fail
    go_ret
    rw [HR.out]
    exact ⟨rfl, Below.refl _ _⟩
  have HR : Hid (chk n L Z = chR n L Z n) := by unfold chk Hid; rw [if_neg h12]
  have q : ¬ (12 : Int) < (n : Int) := by omega
  go_enter Tryd.func31, Tryd.ntmps31
  go_wp2_with fail
  go_loopw [10] (fun i wr => ∃ k : Nat, k ≤ n ∧ i = .int .i64 (k : Nat) ∧ chR n L Z k = 0 ∧ Below w.heap.size w wr) (fun i _ => n + 1 - (intOf i).toNat)
  case atStart => exact ⟨0, by omega, rfl, rfl, Below.refl _ _⟩
  case round =>
    obtain ⟨k, hk, rfl, hf, hBr⟩ := hrel
    have HF : Hid (chR n L Z k = 0) := hf
    have HBR : Hid (Below w.heap.size w wr) := hBr
    clear hf
    by_cases hlt : k < n
    · obtain ⟨g, off, rfl, hrd⟩ := HP.out (by omega)
      obtain ⟨u, hu, hr⟩ := hrd k hlt
      have a0 := (hBr.cell (p := ⟨g, off + k, none⟩) (World.block_lt_of_cell? _ _ hu)).trans hu
      have HRW : Hid (RowAt wr u (L k) (Z k)) := hr.later hBr
      have HS : chR n L Z (k + 1) = if L k ≠ n then 4 else if wth 35184372088832 (Z k) (L k) = true then 0 else 2 := by
        rw [chR, HF.out, if_neg (by decide)]
      obtain ⟨q0, c0, rfl, hl0, hc0, _⟩ := hr
      have i1 : (0 : Int) ≤ (k : Int) := by omega
      have i2 : (k : Int) < (n : Int) := by omega
      have HUP : Hid (∀ x, chR n L Z (k + 1) = x → x ≠ 0 → chk n L Z = x) := fun x hx h0 => by
        rw [HR.out, chR_up (by rw [hx]; exact h0) n (by omega), hx]
      obtain ⟨m, hm⟩ : ∃ m, L k = m := ⟨_, rfl⟩
      rw [hm] at HRW HS a0
      clear hrd hBr hm hu hl0 hc0
      by_cases hq : m = n
      · obtain ⟨b, hb⟩ : ∃ b, wth 35184372088832 (Z k) m = b := ⟨_, rfl⟩
        have HBB : Hid (wth 35184372088832 (Z k) m = b) := hb
        rw [hb] at HS
        have HS2 : Hid (chR n L Z (k + 1) = if ¬ m = n then 4 else if b = true then 0 else 2) := HS
        have hmn : Hid (m = n) := hq
        have d : ((m : Int) != (n : Int)) = false := by rw [hq]; simp
        clear hb HS hq
        have HC := within_any (.slice q0 m c0) m (Z k) 35184372088832 wr HRW.out (by decide) (by decide)
        rw [HBB.out] at HC
        have HCC : Hid (Calls Tryd.prog 32 #[.slice q0 m c0, .int .i64 35184372088832] wr fun e w' => e = .returned (.bool b) ∧ Below wr.heap.size wr w') := HC
        clear HC
        go_wp2_with fail
        refine HCC.out.mono ?_
        rintro e w2 ⟨rfl, hB⟩
        have HB2 : Hid (Below w.heap.size w w2) := below_then HBR.out hB (Nat.le_refl _)
        clear hB
        cases b
        · go_wp2_with fail
          go_ret
          rw [HUP.out 2 (by rw [HS2.out, if_neg (by simp [hmn.out])]; rfl) (by decide)]
          exact ⟨rfl, HB2.out⟩
        · go_wp2_with fail
          go_roundw
          case rel => exact ⟨k + 1, by omega, by go_num, by rw [HS2.out, if_neg (by simp [hmn.out])]; rfl, HB2.out⟩
          case measure => simp [intOf]; omega
      · rw [if_pos hq] at HS
        have HRS : Hid (chk n L Z = 4) := HUP.out 4 HS (by decide)
        have d : ((m : Int) != (n : Int)) = true := by simp; omega
        clear HS
        go_wp2_with fail
        go_ret
        rw [HRS.out]
        exact ⟨rfl, HBR.out⟩
    · obtain rfl : k = n := by omega
      clear hBr
      go_wp2_with fail
      go_ret
      rw [HR.out, HF.out]
      exact ⟨rfl, HBR.out⟩
end Go.Proofs.YtgikaheojcpmpabDoor
