/-
  Close, by the program.
-/
import Derived.Test.YtgikaheojcpmpabDoorU
import Derived.Test.YtgikaheojcpmpabDoorT
namespace Go.Proofs.YtgikaheojcpmpabDoor
open Go.ChangeShapes Go.WideShapes Go.ChangeAt Go.RowKit Go.Maps
set_option linter.unusedVariables false
set_option linter.unusedSimpArgs false
set_option maxRecDepth 20000
theorem stepF_row {n t : Nat} {Z : Mx} (hb : Bnd n 8796093022208 Z) (hd : Z t t = 0) (ht : t < n) {a : Nat} (ha : a < n) : stepF Z t a t = Z a t := by
  have := hb a t ha ht
  unfold stepF; rw [hd]; split <;> omega
theorem stepF_col {n t : Nat} {Z : Mx} (hb : Bnd n 8796093022208 Z) (hd : Z t t = 0) (ht : t < n) {b : Nat} (hb' : b < n) : stepF Z t t b = Z t b := by
  have := hb t b ht hb'
  unfold stepF; rw [hd]; split <;> omega
/-- Q: what is reckoned in the first i rows, and in the first k of row i. -/
def Prt (Z Q : Mx) (n t i k : Nat) : Prop := ∀ a b, a < n → b < n → Q a b = if a < i ∨ (a = i ∧ b < k) then stepF Z t a b else Z a b
theorem Prt.put {Z Q : Mx} {n t i k : Nat} (h : Prt Z Q n t i k) {x : Int} (hx : x = stepF Z t i k) : Prt Z (upd Q i k x) n t i (k + 1) := by
  intro a b ha hb
  unfold upd
  by_cases c : a = i ∧ b = k
  · obtain ⟨rfl, rfl⟩ := c
    rw [if_pos ⟨rfl, rfl⟩, if_pos (.inr ⟨rfl, by omega⟩), hx]
  · rw [if_neg c, h a b ha hb]
    by_cases c2 : a < i ∨ (a = i ∧ b < k)
    · rw [if_pos c2, if_pos (by omega)]
    · rw [if_neg c2, if_neg (by omega)]
theorem Prt.skip {Z Q : Mx} {n t i k : Nat} (h : Prt Z Q n t i k) (hx : Z i k = stepF Z t i k) : Prt Z Q n t i (k + 1) := by
  intro a b ha hb
  rw [h a b ha hb]
  by_cases c2 : a < i ∨ (a = i ∧ b < k)
  · rw [if_pos c2, if_pos (by omega)]
  · rw [if_neg c2]
    by_cases c : a = i ∧ b = k
    · obtain ⟨rfl, rfl⟩ := c
      rw [if_pos (.inr ⟨rfl, by omega⟩), hx]
    · rw [if_neg (by omega)]
theorem Prt.piv {Z Q : Mx} {n t i k : Nat} (h : Prt Z Q n t i k) (hb : Bnd n 8796093022208 Z) (hd : Z t t = 0) (ht : t < n) {a : Nat} (ha : a < n) : Q a t = Z a t := by
  rw [h a t ha ht]
  split
  · exact stepF_row hb hd ht ha
  · rfl
theorem Prt.piv2 {Z Q : Mx} {n t i k : Nat} (h : Prt Z Q n t i k) (hb : Bnd n 8796093022208 Z) (hd : Z t t = 0) (ht : t < n) {b : Nat} (hb' : b < n) : Q t b = Z t b := by
  rw [h t b ht hb']
  split
  · exact stepF_col hb hd ht hb'
  · rfl
set_option maxHeartbeats 16000000 in
theorem shorten_any (b n cap B t : Nat) (p : Option Addr) (G C : Nat → Nat) (Z : Mx) (w : World) (h : OwnM w B b n (fun _ => n) G C Z) (hp : 0 < n → p = some ⟨b, 0, none⟩) (hn : n ≤ 12) (ht : t < n) (hd : Z t t = 0) (hb : Bnd n 8796093022208 Z) :
    Calls Tryd.prog 22 #[.slice p n cap, .int .i64 (t : Int)] w fun e w' => e = .returned (.tuple #[]) ∧ OwnM w' B b n (fun _ => n) G C (stepF Z t) ∧ Below B w w' := by
  have HO := hid h
  obtain rfl := hp (by omega)
  have hmx : (n : Int) ≤ 12 := by omega
  have t1 : (0 : Int) ≤ (t : Int) := by omega
  have t2 : (t : Int) < (n : Int) := by omega
  have HD := hid hd
  have HB := hid hb
  clear h hp hd hb
  go_enter Tryd.func22, Tryd.ntmps22
  go_wp2_with fail
  go_loopg [9] n (fun gg io wr => ∃ (i : Nat) (Q : Mx), i ≤ n ∧ gg = n - i ∧ io = .int .i64 (i : Nat) ∧ OwnM wr B b n (fun _ => n) G C Q ∧ Prt Z Q n t i 0 ∧ Below B w wr)
  case atStart => exact ⟨0, Z, by omega, by omega, rfl, HO.out, fun a b _ _ => by rw [if_neg (by omega)], Below.refl _ _⟩
  case round =>
    obtain ⟨i, Q, hi, rfl, rfl, hO1, hQ1, hBr⟩ := hrel
    have HO1 := hid hO1
    have HQ1 := hid hQ1
    have HBR := hid hBr
    clear hO1 hQ1 hBr
    by_cases hin : i < n
    · have i1 : (0 : Int) ≤ (i : Int) := by omega
      have i2 : (i : Int) < (n : Int) := by omega
      obtain ⟨q, t0, ht0⟩ := HO1.out.top i hin
      rw [ht0 (by omega)] at t0
      have hcp := (HO1.out.cp i hin).1
      clear ht0
      obtain ⟨gi, hgi⟩ : ∃ g, G i = g := ⟨_, rfl⟩
      obtain ⟨ci, hci⟩ : ∃ g, C i = g := ⟨_, rfl⟩
      have HGI := hid hgi
      rw [hgi, hci] at t0
      rw [hci] at hcp
      clear hgi hci
      go_wp2_with fail
      clear t0
      go_loopg [15] n (fun gg ko wi => ∃ (k : Nat) (Q : Mx), k ≤ n ∧ gg = n - k ∧ ko = .int .i64 (k : Nat) ∧ OwnM wi B b n (fun _ => n) G C Q ∧ Prt Z Q n t i k ∧ Below B w wi)
      case atStart => exact ⟨0, Q, by omega, by omega, rfl, HO1.out, HQ1.out, HBR.out⟩
      case round =>
        obtain ⟨k, Q2, hk, rfl, rfl, hO2, hQ2, hB2⟩ := hrel
        clear HO1 HQ1 HBR
        have HO2 := hid hO2
        have HQ2 := hid hQ2
        have HB2 := hid hB2
        clear hO2 hQ2 hB2
        by_cases hkn : k < n
        · have k1 : (0 : Int) ≤ (k : Int) := by omega
          have k2 : (k : Int) < (n : Int) := by omega
          obtain ⟨z1, c2, c3, c4, c5, c6⟩ := HO2.out.at3 hin ht hkn
          have hcp2 := (HO2.out.cp t ht).1
          have HST := hid (fun (s : Nat) (x : Int) => (HO2.out.drewN s).set (k := k) hin hkn x)
          have HSE := hid (fun (s : Nat) (x : Int) => (below_drewN HB2.out s).setCell (p := ⟨G i, k, none⟩) (HO2.out.gB i hin (by omega)) (.int .i64 x))
          have e1 := HQ2.out.piv HB.out HD.out ht hin
          have e2 := HQ2.out.piv2 HB.out HD.out ht hkn
          have e3 := HQ2.out i k hin hkn
          rw [if_neg (by omega)] at e3
          rw [e1] at c3
          rw [e2] at c4
          rw [e3] at c5
          have b1 := HB.out i t hin ht
          have b2 := HB.out t k ht hkn
          have b3 := HB.out i k hin hkn
          have HSF := hid (show stepF Z t i k = if Z i t = 1152921504606846976 ∨ Z t k = 1152921504606846976 then Z i k else min (Z i k) (Z i t + Z t k) from rfl)
          obtain ⟨gk, hgk⟩ : ∃ g, G t = g := ⟨_, rfl⟩
          obtain ⟨ck, hck⟩ : ∃ g, C t = g := ⟨_, rfl⟩
          obtain ⟨x1, hx1⟩ : ∃ x, Z i t = x := ⟨_, rfl⟩
          obtain ⟨x2, hx2⟩ : ∃ x, Z t k = x := ⟨_, rfl⟩
          obtain ⟨x3, hx3⟩ : ∃ x, Z i k = x := ⟨_, rfl⟩
          have HX3 := hid hx3
          rw [hgk, hck] at c2
          rw [HGI.out, hx1] at c3
          rw [hgk, hx2] at c4
          rw [HGI.out, hx3] at c5
          rw [HGI.out] at c6 HST HSE
          rw [hck] at hcp2
          rw [hx1] at HSF b1
          rw [hx2] at HSF b2
          rw [hx3] at HSF b3
          clear hgk hck hx1 hx2 hx3 z1 e1 e2 e3
          by_cases q1 : x1 = 1152921504606846976
          · have HNX := hid (HQ2.out.skip (by rw [HX3.out, HSF.out, if_pos (.inl q1)]))
            subst q1
            clear b1 b2 b3
            go_wp2_with fail
            go_roundg (n - (k + 1))
            case rel => exact ⟨k + 1, Q2, by omega, rfl, by go_num, HO2.out, HNX.out, HB2.out⟩
            case measure => omega
          · have d1 : (x1 != 1152921504606846976) = true := by simpa using q1
            by_cases q2 : x2 = 1152921504606846976
            · have HNX := hid (HQ2.out.skip (by rw [HX3.out, HSF.out, if_pos (.inr q2)]))
              subst q2
              clear b1 b2 b3 q1
              go_wp2_with fail
              go_roundg (n - (k + 1))
              case rel => exact ⟨k + 1, Q2, by omega, rfl, by go_num, HO2.out, HNX.out, HB2.out⟩
              case measure => omega
            · have d2 : (x2 != 1152921504606846976) = true := by simpa using q2
              have HSG := hid (show stepF Z t i k = min x3 (x1 + x2) by rw [HSF.out, if_neg (by omega)])
              have wr1 : IntKind.i64.wrap (x1 + x2) = x1 + x2 := by go_unwrap
              have wr2 : RowKit.wrap64 (x1 + x2) = x1 + x2 := wrap_id (by omega) (by omega)
              clear b1 b2 b3 q1 q2
              by_cases q3 : x1 + x2 < x3
              · have HNX := hid (HQ2.out.put (x := x1 + x2) (by rw [HSG.out]; omega))
                go_wp2_with fail
                go_region
                all_goals
                  go_wp2_with fail
                  go_roundg (n - (k + 1))
                  case rel => exact ⟨k + 1, _, by omega, rfl, by go_num, HST.out _ _, HNX.out, HSE.out _ _⟩
                  case measure => omega
              · have q4 : x3 ≤ x1 + x2 := by omega
                have HNX := hid (HQ2.out.put (x := x3) (by rw [HSG.out]; omega))
                go_wp2_with fail
                go_region
                all_goals
                  go_wp2_with fail
                  go_roundg (n - (k + 1))
                  case rel => exact ⟨k + 1, _, by omega, rfl, by go_num, HST.out _ _, HNX.out, HSE.out _ _⟩
                  case measure => omega
        · obtain rfl : k = n := by omega
          go_wp2_with fail
          go_roundg (k - (i + 1))
          case rel => exact ⟨i + 1, Q2, by omega, rfl, by go_num, HO2.out, fun a b ha hb => by { rw [HQ2.out a b ha hb]; by_cases c : a < i ∨ (a = i ∧ b < k); { rw [if_pos c, if_pos (by omega)] }; { rw [if_neg c, if_neg (by omega)] } }, HB2.out⟩
          case measure => omega
    · obtain rfl : i = n := by omega
      go_wp2_with fail
      refine bodyPost_end (results_none rfl _ _ _) rfl ?_
      exact ⟨rfl, HO1.out.congr (fun _ _ => rfl) (fun a ha b hb => by rw [HQ1.out a b ha hb, if_pos (.inl ha)]), HBR.out⟩
end Go.Proofs.YtgikaheojcpmpabDoor
