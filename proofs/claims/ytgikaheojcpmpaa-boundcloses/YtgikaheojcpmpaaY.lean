/-
  Close and Closed, whole.
-/
import Derived.Test.YtgikaheojcpmpaaX
namespace Go.Proofs.Ytgikaheojcpmpaa
open Go.ChangeShapes Go.WideShapes Go.ChangeAt Go.RowKit Go.Maps
set_option linter.unusedVariables false
set_option linter.unusedSimpArgs false
set_option maxRecDepth 20000
/-- What Close answers for a matrix with nothing wrong but its ways. -/
def Cres (w w' : World) (e : Ending) (n : Nat) (m : Mx) : Prop :=
  (Gd n n m ∧ ∃ V, e = .returned (.tuple #[V, .int .i64 0]) ∧ New w w' V n (fun _ => n) (fw m n)) ∨ (¬ Gd n n m ∧ e = .returned (.tuple #[.slice none 0 0, .int .i64 16]))
set_option maxHeartbeats 8000000 in
theorem closeP_any (v : Value) (n : Nat) (L : Nat → Nat) (m : Mx) (w : World) (h : MatAt w v n L m) (h0 : own n L m = 0) :
    Calls Try.prog 14 #[v] w fun e w' => Cres w w' e n m ∧ Below w.heap.size w w' := by
  have HM := hid h
  have HE := hid h0
  obtain ⟨o1, o2, o3, o4, o5⟩ := own_ok h0
  have HL := hid o3
  have HD := hid o4
  have HB := hid o5
  have HN := hid o2
  have hmx : (n : Int) ≤ 12 := by omega
  have HG0 : Hid (Gd n 0 m) := fun s hs i hi => by
    have e : s = 0 := by omega
    subst e
    exact HD.out i hi
  clear h h0 o1 o2 o3 o4 o5
  go_enter Try.func14, Try.ntmps14
  go_wp2_with fail
  refine (checkOwn_any v n L m _ HM.out).mono ?_
  rw [HE.out]
  rintro e w1 ⟨rfl, hB1⟩
  have HB1 := hid hB1
  clear hB1
  go_wp2_with fail
  refine (joinClose_any v v n L L m m _ (HM.out.later HB1.out) (HM.out.later HB1.out) HL.out HL.out HN.out).mono ?_
  rintro e w2 ⟨⟨V, rfl, hNew⟩, hB2⟩
  obtain ⟨p3, cap3, b3, G, C, rfl, hp3, hc3, hc4, hO⟩ := hNew.from HB1.out.size
  have HO : Hid (OwnM w2 w.heap.size b3 n (fun _ => n) G C m) := hO
  have HB2 := hid (below_then HB1.out hB2 (Nat.le_refl _))
  have HP3 := hid hp3
  have HC := hid (And.intro hc3 hc4)
  clear hO hB2 hp3 hc3 hc4 hNew
  go_wp2_with fail
  go_loopg [17] n (fun gg to wr => ∃ t : Nat, t ≤ n ∧ gg = n - t ∧ to = .int .i64 (t : Nat) ∧ OwnM wr w.heap.size b3 n (fun _ => n) G C (fw m t) ∧ Gd n t m ∧ Below w.heap.size w wr)
  case atStart => exact ⟨0, by omega, by omega, rfl, HO.out, HG0.out, HB2.out⟩
  case round =>
    obtain ⟨t, ht, rfl, rfl, hO1, hG1, hBr⟩ := hrel
    have HO1 := hid hO1
    have HG1 := hid hG1
    have HBR := hid hBr
    clear hO1 hG1 hBr
    have t1 : (0 : Int) ≤ (t : Int) := by omega
    by_cases htn : t < n
    · have t2 : (t : Int) < (n : Int) := by omega
      go_wp2_with fail
      refine (shorten_any b3 n cap3 w.heap.size t p3 G C (fw m t) _ HO1.out HP3.out HN.out htn (HG1.out t (Nat.le_refl _) t htn) (fw_small HN.out HB.out (by omega))).mono ?_
      rintro e w4 ⟨rfl, hO4, hB4⟩
      have HO4 : Hid (OwnM w4 w.heap.size b3 n (fun _ => n) G C (fw m (t + 1))) := hO4
      have HB4 := hid (HBR.out.trans hB4)
      clear hO4 hB4
      go_wp2_with fail
      refine (below_any b3 n cap3 w.heap.size p3 G C (fw m (t + 1)) _ HO4.out HP3.out HN.out).mono ?_
      obtain ⟨r, hr⟩ : ∃ r, ngb (fw m (t + 1)) n = r := ⟨_, rfl⟩
      have HR := hid hr
      rw [hr]
      clear hr
      rintro e w5 ⟨rfl, rfl⟩
      cases r
      · have HG2 : Hid (Gd n (t + 1) m) := fun s hs i hi => by
          by_cases c : s ≤ t
          · exact HG1.out s c i hi
          · obtain rfl : s = t + 1 := by omega
            have h1 := ngb_false HR.out i hi
            have h2 := fw_mono m (Nat.zero_le (t + 1)) i i
            have h3 : fw m 0 i i = 0 := HD.out i hi
            omega
        go_wp2_with fail
        go_roundg (n - (t + 1))
        case rel => exact ⟨t + 1, by omega, rfl, by go_num, HO4.out, HG2.out, HB4.out⟩
        case measure => omega
      · have HNG : Hid (¬ Gd n n m) := fun hg => by
          obtain ⟨i, h1, h2⟩ := ngb_true HR.out
          have := hg (t + 1) (by omega) i h1
          omega
        go_wp2_with fail
        go_ret2
        exact ⟨.inr ⟨HNG.out, rfl⟩, HB4.out⟩
    · obtain rfl : t = n := by omega
      go_wp2_with fail
      go_ret2
      exact ⟨.inl ⟨HG1.out, _, rfl, p3, cap3, b3, G, C, rfl, HP3.out, HC.out.1, HC.out.2, HO1.out⟩, HBR.out⟩
set_option maxHeartbeats 8000000 in
theorem closeP_bad (v : Value) (n : Nat) (L : Nat → Nat) (m : Mx) (w : World) (h : MatAt w v n L m) (c : Int) (h0 : own n L m = c) (hc0 : c ≠ 0) :
    Calls Try.prog 14 #[v] w fun e w' => e = .returned (.tuple #[.slice none 0 0, .int .i64 c]) ∧ Below w.heap.size w w' := by
  have HM := hid h
  have HE := hid h0
  have d : (c != 0) = true := by simpa using hc0
  clear h h0 hc0
  go_enter Try.func14, Try.ntmps14
  go_wp2_with fail
  refine (checkOwn_any v n L m _ HM.out).mono ?_
  rw [HE.out]
  rintro e w1 ⟨rfl, hB1⟩
  have HB1 := hid hB1
  clear hB1
  go_wp2_with fail
  go_ret2
  exact ⟨rfl, HB1.out⟩
/-- What the reference answers for any matrix. -/
def Rres (w w' : World) (e : Ending) (n : Nat) (L : Nat → Nat) (m : Mx) : Prop :=
  (own n L m = 0 ∧ Cres w w' e n m) ∨ (own n L m ≠ 0 ∧ e = .returned (.tuple #[.slice none 0 0, .int .i64 (own n L m)]))
set_option maxHeartbeats 8000000 in
theorem closed_any (v : Value) (n : Nat) (L : Nat → Nat) (m : Mx) (w : World) (h : MatAt w v n L m) :
    Calls Try.prog 15 #[v] w fun e w' => Rres w w' e n L m ∧ Below w.heap.size w w' := by
  have HM := hid h
  obtain ⟨p, cap, rfl, hl, hc, hp⟩ := h
  have hmx : (n : Int) ≤ 9223372036854775807 := by unfold maxLen at hc; omega
  have HP : Hid (0 < n → ∃ g off, p = some ⟨g, off, none⟩ ∧ ∀ i, i < n → ∃ u, w.cell? ⟨g, off + i, none⟩ = some u ∧ RowAt w u (L i) (m i)) := hp
  obtain ⟨c, hcc⟩ : ∃ c, chk n L m = c := ⟨_, rfl⟩
  have HCC := hid hcc
  by_cases h0 : c = 0
  · subst h0
    have HO : Hid (own n L m = owR n m n) := by show own n L m = _; unfold own; rw [if_neg (by simp [hcc])]
    have HQ := hid (chk_ok hcc)
    clear hp hl hc hcc
    go_enter Try.func15, Try.ntmps15
    go_wp2_with fail
    refine (matrixFault_any _ n L m _ HM.out).mono ?_
    rw [HCC.out]
    rintro e w1 ⟨rfl, hB1⟩
    have HB1 := hid hB1
    clear hB1
    go_wp2_with fail
    go_loopg [5] n (fun g i wr => ∃ k : Nat, k ≤ n ∧ g = n - k ∧ i = .int .i64 (k : Nat) ∧ owR n m k = 0 ∧ Below w.heap.size w wr)
    case atStart => exact ⟨0, by omega, by omega, rfl, rfl, HB1.out⟩
    case round =>
      obtain ⟨k, hk, rfl, rfl, hf, hBr⟩ := hrel
      have HF : Hid (owR n m k = 0) := hf
      have HBR : Hid (Below w.heap.size w wr) := hBr
      clear hf
      by_cases hlt : k < n
      · obtain ⟨g, off, rfl, hrd⟩ := HP.out (by omega)
        obtain ⟨u, hu, hr⟩ := hrd k hlt
        have a0 := (hBr.cell (p := ⟨g, off + k, none⟩) (World.block_lt_of_cell? _ _ hu)).trans hu
        have hrw := hr.later hBr
        rw [(HQ.out.2 k hlt).1] at hrw
        have HS : owR n m (k + 1) = if m k k ≠ 0 then 4 else if wth 2147483648 (m k) n = true then 0 else 2 := by
          rw [owR, HF.out, if_neg (by decide)]
        obtain ⟨q0, c0, rfl, hl0, hc0, hq0⟩ := hrw
        obtain ⟨g1, o1, rfl, hcc1⟩ := hq0 (by omega)
        have a1 := hcc1 k hlt
        have HC1 := hid hcc1
        have i1 : (0 : Int) ≤ (k : Int) := by omega
        have i2 : (k : Int) < (n : Int) := by omega
        have HUP : Hid (∀ x, owR n m (k + 1) = x → x ≠ 0 → own n L m = x) := fun x hx h0 => by
          rw [HO.out, owR_up (by rw [hx]; exact h0) n (by omega), hx]
        obtain ⟨d, hd⟩ : ∃ d, m k k = d := ⟨_, rfl⟩
        rw [hd] at a1 HS
        clear hrd hBr hu hl0 hc0 hq0 hcc1 hd hr
        by_cases hq : d = 0
        · rw [if_neg (by simp [hq])] at HS
          subst hq
          have HSH : Hid (owR n m (k + 1) = if wth 2147483648 (m k) n = true then 0 else 2) := HS
          clear HS
          obtain ⟨wo, hwo⟩ : ∃ wo, wo = wr := ⟨_, rfl⟩
          rw [← hwo] at HC1 a0 a1 HBR ⊢
          clear hwo
          go_wp2_with fail
          clear a1
          go_loopg [6] n (fun gg i wi => ∃ j : Nat, j ≤ n ∧ gg = n - j ∧ i = .int .i64 (j : Nat) ∧ (∀ t, t < j → inb 2147483648 (m k t)) ∧ wi = wo)
          case atStart => exact ⟨0, by omega, by omega, rfl, fun t ht => by omega, rfl⟩
          case round =>
            obtain ⟨j, hj, rfl, rfl, hf, rfl⟩ := hrel
            have HJ := hid hf
            clear hf
            by_cases hjm : j < n
            · have a1 := HC1.out j hjm
              have j1 : (0 : Int) ≤ (j : Int) := by omega
              have j2 : (j : Int) < (n : Int) := by omega
              have HNX : inb 2147483648 (m k j) → Hid (∀ t, t < j + 1 → inb 2147483648 (m k t)) := fun hh t ht => by
                by_cases c : t = j
                · subst c; exact hh
                · exact HJ.out t (by omega)
              have HNO : ¬ inb 2147483648 (m k j) → Hid (own n L m = 2) := fun hh => by
                refine HUP.out 2 ?_ (by decide)
                rw [HSH.out, wth_not hjm hh]; rfl
              obtain ⟨x, hx⟩ : ∃ x, m k j = x := ⟨_, rfl⟩
              rw [hx] at a1 HNX HNO
              clear hx
              by_cases c : x = 1152921504606846976
              · have HNY := HNX (.inl c)
                subst c
                clear HNX HNO
                go_wp2_with fail
                go_roundg (n - (j + 1))
                case rel => exact ⟨j + 1, by omega, rfl, by go_num, HNY.out, rfl⟩
                case measure => omega
              · have dd : (x != 1152921504606846976) = true := by simpa using c
                by_cases hi : -2147483648 ≤ x ∧ x ≤ 2147483648
                · have HNY := HNX (.inr hi)
                  clear HNX HNO
                  have HC := hid (in_any x (-2147483648) 2147483648 true wr (by simp [hi]))
                  clear hi
                  go_wp2_with fail
                  refine HC.out.mono ?_
                  rintro e w2 ⟨rfl, rfl⟩
                  go_wp2_with fail
                  go_roundg (n - (j + 1))
                  case rel => exact ⟨j + 1, by omega, rfl, by go_num, HNY.out, rfl⟩
                  case measure => omega
                · have HNY := HNO (fun hh => by unfold inb at hh; rcases hh with hh | hh <;> first | exact c hh | exact hi hh)
                  clear HNX HNO
                  have HC := hid (in_any x (-2147483648) 2147483648 false wr (by simp; omega))
                  clear hi
                  go_wp2_with fail
                  refine HC.out.mono ?_
                  rintro e w2 ⟨rfl, rfl⟩
                  go_wp2_with fail
                  go_ret2
                  exact ⟨.inr ⟨by rw [HNY.out]; decide, by rw [HNY.out]; rfl⟩, HBR.out⟩
            · obtain rfl : j = n := by omega
              have HNY : Hid (owR j m (k + 1) = 0) := by
                show owR j m (k + 1) = 0
                rw [HSH.out, wth_of HJ.out]; rfl
              go_wp2_with fail
              go_roundg (j - (k + 1))
              case rel => exact ⟨k + 1, by omega, rfl, by go_num, HNY.out, HBR.out⟩
              case measure => omega
        · rw [if_pos hq] at HS
          have HRS : Hid (own n L m = 4) := HUP.out 4 HS (by decide)
          have d2 : (d != 0) = true := by simpa using hq
          clear HS hq
          go_wp2_with fail
          go_ret2
          exact ⟨.inr ⟨by rw [HRS.out]; decide, by rw [HRS.out]; rfl⟩, HBR.out⟩
      · obtain rfl : k = n := by omega
        clear hBr
        have HOK : Hid (own k L m = 0) := by show own k L m = 0; rw [HO.out, HF.out]
        have HK := hid (own_ok HOK.out)
        go_wp2_with fail
        refine (tightened_any _ k L m _ (HM.out.later HBR.out) HK.out.2.2.1 HK.out.2.1).mono ?_
        by_cases hg : Gd k k m
        · obtain ⟨R, hR, hRe⟩ := tgt_good HK.out.2.1 HK.out.2.2.2.2 hg
          rw [hR]
          rintro e w5 ⟨⟨V, rfl, hN⟩, hB5⟩
          have HN := hid ((hN.congr (M := fun _ => k) (Y := fw m k) (fun _ _ => rfl) (fun i hi j hj => hRe i j hi hj)).from HBR.out.size)
          have HB5 := hid (below_then HBR.out hB5 (Nat.le_refl _))
          have HG := hid hg
          clear hN hB5 hg hR hRe
          go_wp2_with fail
          go_ret2
          exact ⟨.inl ⟨HOK.out, .inl ⟨HG.out, _, rfl, HN.out⟩⟩, HB5.out⟩
        · rw [tgt_bad HK.out.2.1 HK.out.2.2.2.2 HK.out.2.2.2.1 hg]
          rintro e w5 ⟨hE, hB5⟩
          have hE2 : e = .returned (.tuple #[.slice none 0 0, .bool false]) := hE
          subst hE2
          have HB5 := hid (below_then HBR.out hB5 (Nat.le_refl _))
          have HG := hid hg
          clear hB5 hg hE
          go_wp2_with fail
          go_ret2
          exact ⟨.inl ⟨HOK.out, .inr ⟨HG.out, rfl⟩⟩, HB5.out⟩
  · have HO : Hid (own n L m = c) := by show own n L m = c; unfold own; rw [if_pos (by rw [hcc]; exact h0), hcc]
    have HC0 := hid h0
    have d : (c != 0) = true := by simpa using h0
    clear hp hl hc hcc h0
    go_enter Try.func15, Try.ntmps15
    go_wp2_with fail
    refine (matrixFault_any _ n L m _ HM.out).mono ?_
    rw [HCC.out]
    rintro e w1 ⟨rfl, hB1⟩
    have HB1 := hid hB1
    clear hB1
    go_wp2_with fail
    go_ret2
    exact ⟨.inr ⟨by rw [HO.out]; exact HC0.out, by rw [HO.out]; rfl⟩, HB1.out⟩
end Go.Proofs.Ytgikaheojcpmpaa
