/-
  Close, by the program and by the reference.
-/
import Derived.Test.YtgikaheojcpmpabDoorP2
import Derived.Test.YtgikaheojcpmpabDoorC
import Derived.Test.YtgikaheojcpmpabDoorJ2
import Derived.BigRegion
namespace Go.Proofs.YtgikaheojcpmpabDoor
open Go.ChangeShapes Go.WideShapes Go.ChangeAt Go.RowKit Go.Maps
set_option linter.unusedVariables false
set_option linter.unusedSimpArgs false
set_option maxRecDepth 20000
/-- What is wrong with the first i rows of a matrix that is to be closed. -/
def owR (n : Nat) (Z : Mx) : Nat → Int
  | 0 => 0
  | i + 1 => if owR n Z i ≠ 0 then owR n Z i else if Z i i ≠ 0 then 4 else if wth 2147483648 (Z i) n = true then 0 else 2
def own (n : Nat) (L : Nat → Nat) (Z : Mx) : Int := if chk n L Z ≠ 0 then chk n L Z else owR n Z n
theorem owR_up {n : Nat} {Z : Mx} {i : Nat} (h : owR n Z i ≠ 0) : ∀ j, i ≤ j → owR n Z j = owR n Z i
  | 0, hj => by obtain rfl : i = 0 := by omega
                rfl
  | j + 1, hj => by
    by_cases c : i = j + 1
    · subst c; rfl
    · have := owR_up h j (by omega)
      rw [owR, if_pos (by rw [this]; exact h), this]
theorem owR_all {n : Nat} {Z : Mx} : ∀ {j : Nat}, owR n Z j = 0 → ∀ i, i < j → Z i i = 0 ∧ wth 2147483648 (Z i) n = true
  | j + 1, h, i, hi => by
    have h0 : owR n Z j = 0 := by
      by_cases c : owR n Z j = 0
      · exact c
      · rw [owR, if_pos c] at h; exact absurd h c
    rw [owR, if_neg (by rw [h0]; decide)] at h
    by_cases c1 : Z j j = 0
    · rw [if_neg (by rw [c1]; simp)] at h
      by_cases c2 : wth 2147483648 (Z j) n = true
      · by_cases c : i = j
        · subst c; exact ⟨c1, c2⟩
        · exact owR_all h0 i (by omega)
      · rw [if_neg c2] at h; exact absurd h (by decide)
    · rw [if_pos c1] at h; exact absurd h (by decide)
theorem own_ok {n : Nat} {L : Nat → Nat} {Z : Mx} (h : own n L Z = 0) : chk n L Z = 0 ∧ n ≤ 12 ∧ (∀ i, i < n → L i = n) ∧ (∀ i, i < n → Z i i = 0) ∧ Bnd n 2147483648 Z := by
  unfold own at h
  by_cases c : chk n L Z = 0
  · rw [if_neg (by simp [c])] at h
    obtain ⟨h1, h2⟩ := chk_ok c
    have h3 := owR_all h
    exact ⟨c, h1, fun i hi => (h2 i hi).1, fun i hi => (h3 i hi).1, fun a b ha hb => wth_all (h3 a ha).2 b hb⟩
  · rw [if_pos c] at h; exact absurd h c
set_option maxHeartbeats 8000000 in
theorem checkOwn_any (v : Value) (n : Nat) (L : Nat → Nat) (Z : Mx) (w : World) (h : MatAt w v n L Z) :
    Calls Tryd.prog 20 #[v] w fun e w' => e = .returned (.int .i64 (own n L Z)) ∧ Below w.heap.size w w' := by
  have HM := hid h
  obtain ⟨p, cap, rfl, hl, hc, hp⟩ := h
  have hmx : (n : Int) ≤ 9223372036854775807 := by unfold maxLen at hc; omega
  have HP : Hid (0 < n → ∃ g off, p = some ⟨g, off, none⟩ ∧ ∀ i, i < n → ∃ u, w.cell? ⟨g, off + i, none⟩ = some u ∧ RowAt w u (L i) (Z i)) := hp
  obtain ⟨c, hcc⟩ : ∃ c, chk n L Z = c := ⟨_, rfl⟩
  have HCC := hid hcc
  by_cases h0 : c = 0
  · subst h0
    have HO : Hid (own n L Z = owR n Z n) := by show own n L Z = _; unfold own; rw [if_neg (by simp [hcc])]
    have HQ := hid (chk_ok hcc)
    clear hp hl hc hcc
    go_enter Tryd.func20, Tryd.ntmps20
    go_wp2_with fail
    refine (check_any _ n L Z _ HM.out).mono ?_
    rw [HCC.out]
    rintro e w1 ⟨rfl, hB1⟩
    have HB1 := hid hB1
    clear hB1
    go_wp2_with fail
    go_loopw [13] (fun i wr => ∃ k : Nat, k ≤ n ∧ i = .int .i64 (k : Nat) ∧ owR n Z k = 0 ∧ Below w.heap.size w wr) (fun i _ => n + 1 - (intOf i).toNat)
    case atStart => exact ⟨0, by omega, rfl, rfl, HB1.out⟩
    case round =>
      obtain ⟨k, hk, rfl, hf, hBr⟩ := hrel
      have HF : Hid (owR n Z k = 0) := hf
      have HBR : Hid (Below w.heap.size w wr) := hBr
      clear hf
      by_cases hlt : k < n
      · obtain ⟨g, off, rfl, hrd⟩ := HP.out (by omega)
        obtain ⟨u, hu, hr⟩ := hrd k hlt
        have a0 := (hBr.cell (p := ⟨g, off + k, none⟩) (World.block_lt_of_cell? _ _ hu)).trans hu
        have hrw := hr.later hBr
        rw [(HQ.out.2 k hlt).1] at hrw
        have HRW := hid hrw
        have HS : owR n Z (k + 1) = if Z k k ≠ 0 then 4 else if wth 2147483648 (Z k) n = true then 0 else 2 := by
          rw [owR, HF.out, if_neg (by decide)]
        obtain ⟨q0, c0, rfl, hl0, hc0, hq0⟩ := hrw
        obtain ⟨g1, o1, rfl, hcc1⟩ := hq0 (by omega)
        have a1 := hcc1 k hlt
        have i1 : (0 : Int) ≤ (k : Int) := by omega
        have i2 : (k : Int) < (n : Int) := by omega
        have HUP : Hid (∀ x, owR n Z (k + 1) = x → x ≠ 0 → own n L Z = x) := fun x hx h0 => by
          rw [HO.out, owR_up (by rw [hx]; exact h0) n (by omega), hx]
        obtain ⟨d, hd⟩ : ∃ d, Z k k = d := ⟨_, rfl⟩
        rw [hd] at a1 HS
        clear hrd hBr hu hl0 hc0 hq0 hcc1 hd hr
        by_cases hq : d = 0
        · obtain ⟨b, hb⟩ : ∃ b, wth 2147483648 (Z k) n = b := ⟨_, rfl⟩
          have HBB := hid hb
          rw [hb, if_neg (by simp [hq])] at HS
          have HS2 : Hid (owR n Z (k + 1) = if b = true then 0 else 2) := HS
          subst hq
          clear hb HS
          have HC := within_any (.slice (some ⟨g1, o1, none⟩) n c0) n (Z k) 2147483648 wr HRW.out (by decide) (by decide)
          rw [HBB.out] at HC
          have HCC2 : Hid (Calls Tryd.prog 32 #[.slice (some ⟨g1, o1, none⟩) n c0, .int .i64 2147483648] wr fun e w' => e = .returned (.bool b) ∧ Below wr.heap.size wr w') := HC
          clear HC
          go_wp2_with fail
          refine HCC2.out.mono ?_
          rintro e w2 ⟨rfl, hB⟩
          have HB2 : Hid (Below w.heap.size w w2) := below_then HBR.out hB (Nat.le_refl _)
          clear hB
          cases b
          · go_wp2_with fail
            go_ret
            rw [HUP.out 2 (by rw [HS2.out]; rfl) (by decide)]
            exact ⟨rfl, HB2.out⟩
          · go_wp2_with fail
            go_roundw
            case rel => exact ⟨k + 1, by omega, by go_num, by rw [HS2.out]; rfl, HB2.out⟩
            case measure => simp [intOf]; omega
        · rw [if_pos hq] at HS
          have HRS : Hid (own n L Z = 4) := HUP.out 4 HS (by decide)
          have d2 : (d != 0) = true := by simpa using hq
          clear HS hq
          go_wp2_with fail
          go_ret
          rw [HRS.out]
          exact ⟨rfl, HBR.out⟩
      · obtain rfl : k = n := by omega
        clear hBr
        go_wp2_with fail
        go_ret
        rw [HO.out, HF.out]
        exact ⟨rfl, HBR.out⟩
  · have HO : Hid (own n L Z = c) := by show own n L Z = c; unfold own; rw [if_pos (by rw [hcc]; exact h0), hcc]
    have d : (c != 0) = true := by simpa using h0
    clear hp hl hc hcc h0
    go_enter Tryd.func20, Tryd.ntmps20
    go_wp2_with fail
    refine (check_any _ n L Z _ HM.out).mono ?_
    rw [HCC.out]
    rintro e w1 ⟨rfl, hB1⟩
    have HB1 := hid hB1
    clear hB1
    go_wp2_with fail
    go_ret
    rw [HO.out]
    exact ⟨rfl, HB1.out⟩
set_option maxHeartbeats 8000000 in
theorem below_any (b n cap B : Nat) (p : Option Addr) (G C : Nat → Nat) (Z : Mx) (w : World) (h : OwnM w B b n (fun _ => n) G C Z) (hp : 0 < n → p = some ⟨b, 0, none⟩) (hn : n ≤ 12) :
    Calls Tryd.prog 23 #[.slice p n cap] w fun e w' => e = .returned (.bool (ngb Z n)) ∧ w' = w := by
  have HO := hid h
  have HP := hid hp
  have hmx : (n : Int) ≤ 12 := by omega
  clear h hp
  go_enter Tryd.func23, Tryd.ntmps23
  go_wp2_with fail
  go_loopw [7] (fun i wr => ∃ k : Nat, k ≤ n ∧ i = .int .i64 (k : Nat) ∧ (∀ a, a < k → 0 ≤ Z a a) ∧ wr = w) (fun i _ => n + 1 - (intOf i).toNat)
  case atStart => exact ⟨0, by omega, rfl, fun a h => by omega, rfl⟩
  case round =>
    obtain ⟨k, hk, rfl, hf, rfl⟩ := hrel
    have HF := hid hf
    clear hf
    by_cases hlt : k < n
    · obtain rfl := HP.out (by omega)
      have i1 : (0 : Int) ≤ (k : Int) := by omega
      have i2 : (k : Int) < (n : Int) := by omega
      obtain ⟨q, t0, ht0⟩ := HO.out.top k hlt
      rw [ht0 (by omega)] at t0
      have t1 := (HO.out.row k hlt (by omega)).cell hlt
      have hcp := (HO.out.cp k hlt).1
      clear ht0
      obtain ⟨gi, hgi⟩ : ∃ g, G k = g := ⟨_, rfl⟩
      obtain ⟨ci, hci⟩ : ∃ g, C k = g := ⟨_, rfl⟩
      obtain ⟨x1, hx1⟩ : ∃ x, Z k k = x := ⟨_, rfl⟩
      have HX1 := hid hx1
      rw [hgi, hci] at t0
      rw [hgi, hx1] at t1
      rw [hci] at hcp
      clear hgi hci hx1
      by_cases q1 : x1 < 0
      · have HR := hid (ngb_of (Q := Z) hlt (by rw [HX1.out]; exact q1))
        have d : decide (x1 < 0) = true := by simpa using q1
        clear q1
        go_wp2_with fail
        go_ret
        rw [HR.out]
        exact ⟨rfl, rfl⟩
      · have HPN : Hid (∀ a, a < k + 1 → 0 ≤ Z a a) := fun a ha => by
          by_cases c : a = k
          · subst c; rw [HX1.out]; omega
          · exact HF.out a (by omega)
        have d : decide (x1 < 0) = false := by simp; omega
        clear q1
        go_wp2_with fail
        go_roundw
        case rel => exact ⟨k + 1, by omega, by go_num, HPN.out, by first | rfl | trivial⟩
        case measure => simp [intOf]; omega
    · obtain rfl : k = n := by omega
      have HR := hid (ngb_not HF.out)
      go_wp2_with fail
      go_ret
      rw [HR.out]
      exact ⟨rfl, rfl⟩
end Go.Proofs.YtgikaheojcpmpabDoor
