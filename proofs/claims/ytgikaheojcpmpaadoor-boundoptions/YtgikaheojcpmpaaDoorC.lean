/-
  What matrices may be, by the reference; rows that are the same.
-/
import Derived.Test.YtgikaheojcpmpaaDoorB
namespace Go.Proofs.YtgikaheojcpmpaaDoor
open Go.ChangeShapes Go.WideShapes Go.ChangeAt Go.RowKit Go.Maps
set_option linter.unusedVariables false
set_option linter.unusedSimpArgs false
set_option maxRecDepth 20000
set_option maxHeartbeats 4000000 in
theorem in_any (x lo hi : Int) (r : Bool) (w : World) (hr : r = decide (lo ≤ x ∧ x ≤ hi)) :
    Calls Tryd.prog 26 #[.int .i64 x, .int .i64 lo, .int .i64 hi] w fun e w' => e = .returned (.bool r) ∧ w' = w := by
  have HR : Hid (r = decide (lo ≤ x ∧ x ≤ hi)) := hr
  clear hr
  by_cases h1 : lo ≤ x
  · by_cases h2 : x ≤ hi
    · have HT : Hid (r = true) := by rw [HR.out]; simp [h1, h2, Hid]
      clear HR
      go_enter Tryd.func26, Tryd.ntmps26
      go_wp2_with fail
      go_ret
      rw [HT.out]; exact ⟨by first | rfl | simp [h1, h2], rfl⟩
    · have HT : Hid (r = false) := by rw [HR.out]; simp [h1, h2, Hid]
      have q : hi < x := by omega
      clear HR
      go_enter Tryd.func26, Tryd.ntmps26
      go_wp2_with fail
      go_ret
      rw [HT.out]; exact ⟨by first | rfl | (simp; omega), rfl⟩
  · have HT : Hid (r = false) := by rw [HR.out]; simp [h1, Hid]
    have q : x < lo := by omega
    clear HR
    go_enter Tryd.func26, Tryd.ntmps26
    go_wp2_with fail
    go_ret
    rw [HT.out]; exact ⟨by first | rfl | (simp; omega), rfl⟩
set_option maxHeartbeats 8000000 in
theorem matrixFault_any (v : Value) (n : Nat) (L : Nat → Nat) (Z : Nat → Nat → Int) (w : World) (h : MatAt w v n L Z) :
    Calls Tryd.prog 30 #[v] w fun e w' => e = .returned (.int .i64 (chk n L Z)) ∧ Below w.heap.size w w' := by
  obtain ⟨p, cap, rfl, hl, hc, hp⟩ := h
  have hmx : (n : Int) ≤ 9223372036854775807 := by unfold maxLen at hc; omega
  have HP : Hid (0 < n → ∃ g off, p = some ⟨g, off, none⟩ ∧ ∀ i, i < n → ∃ u, w.cell? ⟨g, off + i, none⟩ = some u ∧ RowAt w u (L i) (Z i)) := hp
  clear hp hl hc
  by_cases h12 : 12 < n
  · have HR : Hid (chk n L Z = 1) := by unfold chk Hid; rw [if_pos h12]
    have q : (12 : Int) < (n : Int) := by omega
    go_enter Tryd.func30, Tryd.ntmps30
    go_wp2_with fail
    go_ret
    rw [HR.out]
    exact ⟨rfl, Below.refl _ _⟩
  have HR : Hid (chk n L Z = chR n L Z n) := by unfold chk Hid; rw [if_neg h12]
  have q : ¬ (12 : Int) < (n : Int) := by omega
  go_enter Tryd.func30, Tryd.ntmps30
  go_wp2_with fail
  go_loopg [3] n (fun g i wr => ∃ k : Nat, k ≤ n ∧ g = n - k ∧ i = .int .i64 (k : Nat) ∧ chR n L Z k = 0 ∧ Below w.heap.size w wr)
  case atStart => exact ⟨0, by omega, by omega, rfl, rfl, Below.refl _ _⟩
  case round =>
    obtain ⟨k, hk, rfl, rfl, hf, hBr⟩ := hrel
    have HF : Hid (chR n L Z k = 0) := hf
    have HBR : Hid (Below w.heap.size w wr) := hBr
    clear hf
    by_cases hlt : k < n
    · obtain ⟨g, off, rfl, hrd⟩ := HP.out (by omega)
      obtain ⟨u, hu, hr⟩ := hrd k hlt
      have a0 := (hBr.cell (p := ⟨g, off + k, none⟩) (World.block_lt_of_cell? _ _ hu)).trans hu
      have hrw : RowAt wr u (L k) (Z k) := hr.later hBr
      have HS : chR n L Z (k + 1) = if L k ≠ n then 4 else if wth 35184372088832 (Z k) (L k) = true then 0 else 2 := by
        rw [chR, HF.out, if_neg (by decide)]
      obtain ⟨q0, c0, rfl, hl0, hc0, hq0⟩ := hrw
      have i1 : (0 : Int) ≤ (k : Int) := by omega
      have i2 : (k : Int) < (n : Int) := by omega
      have HUP : Hid (∀ x, chR n L Z (k + 1) = x → x ≠ 0 → chk n L Z = x) := fun x hx h0 => by
        rw [HR.out, chR_up (by rw [hx]; exact h0) n (by omega), hx]
      obtain ⟨m, hm⟩ : ∃ m, L k = m := ⟨_, rfl⟩
      rw [hm] at HS a0 hq0
      clear hrd hBr hm hu hl0 hc0 hr
      by_cases hq : m = n
      · subst hq
        rw [if_neg (by simp)] at HS
        obtain ⟨z, hz⟩ : ∃ z, Z k = z := ⟨_, rfl⟩
        rw [hz] at HS hq0
        have HSH : Hid (chR m L Z (k + 1) = if wth 35184372088832 z m = true then 0 else 2) := HS
        have HQ0 : Hid (0 < m → ∃ g off, q0 = some ⟨g, off, none⟩ ∧ ∀ k, k < m → wr.cell? ⟨g, off + k, none⟩ = some (.int .i64 (z k))) := hq0
        clear HS hq0 hz
        obtain ⟨wo, hwo⟩ : ∃ wo, wo = wr := ⟨_, rfl⟩
        rw [← hwo] at HQ0 a0 HBR ⊢
        clear hwo
        have HA0 : Hid (wo.cell? ⟨g, off + k, none⟩ = some (.slice q0 m c0)) := a0
        go_wp2_with fail
        go_loopg [4] m (fun gg i wi => ∃ j : Nat, j ≤ m ∧ gg = m - j ∧ i = .int .i64 (j : Nat) ∧ (∀ t, t < j → inb 35184372088832 (z t)) ∧ wi = wo)
        case atStart => exact ⟨0, by omega, by omega, rfl, fun t ht => by omega, rfl⟩
        case round =>
          obtain ⟨j, hj, rfl, rfl, hf, rfl⟩ := hrel
          have HJ : Hid (∀ t, t < j → inb 35184372088832 (z t)) := hf
          clear hf
          by_cases hjm : j < m
          · obtain ⟨g1, o1, rfl, hc1⟩ := HQ0.out (by omega)
            have a1 := hc1 j hjm
            have j1 : (0 : Int) ≤ (j : Int) := by omega
            have j2 : (j : Int) < (m : Int) := by omega
            have HNX : inb 35184372088832 (z j) → Hid (∀ t, t < j + 1 → inb 35184372088832 (z t)) := fun hh t ht => by
              by_cases c : t = j
              · subst c; exact hh
              · exact HJ.out t (by omega)
            have HNO : ¬ inb 35184372088832 (z j) → Hid (chk m L Z = 2) := fun hh => by
              refine HUP.out 2 ?_ (by decide)
              rw [HSH.out, wth_not hjm hh]; rfl
            obtain ⟨x, hx⟩ : ∃ x, z j = x := ⟨_, rfl⟩
            rw [hx] at a1 HNX HNO
            clear hc1 hx
            by_cases c : x = 1152921504606846976
            · have HNY := HNX (.inl c)
              subst c
              clear HNX HNO
              go_wp2_with fail
              go_roundg (m - (j + 1))
              case rel => exact ⟨j + 1, by omega, rfl, by go_num, HNY.out, rfl⟩
              case measure => omega
            · by_cases hi : -35184372088832 ≤ x ∧ x ≤ 35184372088832
              · have HNY := HNX (.inr hi)
                clear HNX HNO
                have HC := hid (in_any x (-35184372088832) 35184372088832 true wr (by simp [hi]))
                clear hi
                go_wp2_with fail
                refine HC.out.mono ?_
                rintro e w2 ⟨rfl, rfl⟩
                go_wp2_with fail
                go_roundg (m - (j + 1))
                case rel => exact ⟨j + 1, by omega, rfl, by go_num, HNY.out, rfl⟩
                case measure => omega
              · have HNY := HNO (fun hh => by unfold inb at hh; rcases hh with hh | hh <;> first | exact c hh | exact hi hh)
                clear HNX HNO
                have HC := hid (in_any x (-35184372088832) 35184372088832 false wr (by simp; omega))
                clear hi
                go_wp2_with fail
                refine HC.out.mono ?_
                rintro e w2 ⟨rfl, rfl⟩
                go_wp2_with fail
                go_ret
                rw [HNY.out]
                exact ⟨rfl, HBR.out⟩
          · obtain rfl : j = m := by omega
            have HNY : Hid (chR j L Z (k + 1) = 0) := by
              unfold Hid
              rw [HSH.out, wth_of HJ.out]; rfl
            go_wp2_with fail
            go_roundg (j - (k + 1))
            case rel => exact ⟨k + 1, by omega, rfl, by go_num, HNY.out, HBR.out⟩
            case measure => omega
      · rw [if_pos hq] at HS
        have HRS : Hid (chk n L Z = 4) := HUP.out 4 HS (by decide)
        have d : ((m : Int) != (n : Int)) = true := by simp; omega
        clear HS hq0
        go_wp2_with fail
        go_ret
        rw [HRS.out]
        exact ⟨rfl, HBR.out⟩
    · obtain rfl : k = n := by omega
      clear hBr
      go_wp2_with fail
      go_ret
      rw [HR.out, HF.out]
      exact ⟨rfl, HBR.out⟩
end Go.Proofs.YtgikaheojcpmpaaDoor
