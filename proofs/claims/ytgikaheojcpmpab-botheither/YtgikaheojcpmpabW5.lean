/-
  BothEither: the walk.
-/
import Derived.Test.YtgikaheojcpmpabN1
import Derived.Test.YtgikaheojcpmpabK
import Derived.Test.YtgikaheojcpmpabH2
import Derived.BigRegion
namespace Go.Proofs.Ytgikaheojcpmpab
open Go.ChangeShapes Go.WideShapes Go.ChangeAt Go.RowKit Go.Maps
set_option linter.unusedVariables false
set_option linter.unusedSimpArgs false
set_option maxRecDepth 20000
theorem OwnM.at2 {w : World} {B b n : Nat} {G C : Nat → Nat} {Z : Nat → Nat → Int} (h : OwnM w B b n (fun _ => n) G C Z) {i j : Nat} (hi : i < n) (hj : j < n) :
    w.cell? ⟨b, i, none⟩ = some (.slice (some ⟨G i, 0, none⟩) n (C i)) ∧ w.cell? ⟨G i, j, none⟩ = some (.int .i64 (Z i j)) ∧ n ≤ C i := by
  obtain ⟨q1, e1, f1⟩ := h.top i hi
  rw [f1 (by omega)] at e1
  exact ⟨e1, (h.row i hi (by omega)).cell hj, (h.cp i hi).1⟩
theorem raw_inb {n : Nat} {Z : Mx} (h : Raw n Z) : ∀ i, i < n → ∀ k, k < n → inb 35184372088832 (Z i k) := fun i hi k hk => by
  have := h.2 i k hi hk
  unfold inb
  omega
theorem raw_chk {n : Nat} {Z : Mx} (hn : n ≤ 12) (h : Raw n Z) : chk n (fun _ => n) Z = 0 := chk_sq hn (fun _ _ => rfl) (raw_inb h)
theorem raw_pr {n : Nat} {X Y : Mx} (hn : n ≤ 12) (hx : Raw n X) (hy : Raw n Y) : prE n (fun _ => n) X n (fun _ => n) Y = 0 := by
  unfold prE
  rw [raw_chk hn hx, raw_chk hn hy, if_neg (by decide), if_neg (by decide), if_neg (by simp)]
theorem pr_one : prE 1 (fun _ => 1) (fun _ _ => 0) 0 (fun _ => 0) (fun _ _ => 0) = 4 := by
  unfold prE
  rw [chk_sq (n := 1) (by decide) (fun _ _ => rfl) (fun _ _ _ _ => by unfold inb; omega), chk_sq (n := 0) (by decide) (fun _ h => by omega) (fun _ h => by omega), if_neg (by decide), if_neg (by decide), if_pos (by decide)]
theorem mat_one (w : World) : MatAt ((w.alloc (.cells #[.int .i64 0] 3)).alloc (.cells #[.slice (some ⟨w.heap.size, 0, none⟩) 1 1] 22)) (.slice (some ⟨w.heap.size + 1, 0, none⟩) 1 1) 1 (fun _ => 1) (fun _ _ => 0) := by
  refine ⟨_, 1, rfl, Nat.le_refl _, by unfold maxLen; omega, fun _ => ⟨w.heap.size + 1, 0, rfl, fun i hi => ?_⟩⟩
  obtain rfl : i = 0 := by omega
  refine ⟨.slice (some ⟨w.heap.size, 0, none⟩) 1 1, by go_simp, _, 1, rfl, Nat.le_refl _, by unfold maxLen; omega, fun _ => ⟨w.heap.size, 0, rfl, fun k hk => ?_⟩⟩
  have hk1 : k < 1 := hk
  obtain rfl : k = 0 := by omega
  go_simp
theorem mat_nil3 (w : World) (L : Nat → Nat) (Z : Nat → Nat → Int) : MatAt w (.slice none 0 0) 0 L Z := ⟨none, 0, rfl, Nat.le_refl _, Nat.zero_le _, fun h => by omega⟩
theorem below_dn3 {w : World} {m : Nat} {w' : World} (h : w' = w.drewN m) : Below w.heap.size w w' := by subst h; exact below_drewN (Below.refl _ _) _
/-- A matrix that lies at hand. -/
def Hand (w : World) (V : Value) (n cap b : Nat) (p : Option Addr) (G C : Nat → Nat) (Z : Mx) : Prop := V = .slice p n cap ∧ (0 < n → p = some ⟨b, 0, none⟩) ∧ n ≤ cap ∧ cap ≤ maxLen ∧ OwnM w 0 b n (fun _ => n) G C Z
theorem New.hand {w w' : World} {V : Value} {n : Nat} {Z : Mx} (h : New w w' V n (fun _ => n) Z) : ∃ p cap b G C, Hand w' V n cap b p G C Z := by
  obtain ⟨p, cap, b, G, C, h1, h2, h3, h4, h5⟩ := h
  exact ⟨p, cap, b, G, C, h1, h2, h3, h4, h5.base (Nat.zero_le _)⟩
theorem Hand.later {w w' : World} {V : Value} {n cap b : Nat} {p : Option Addr} {G C : Nat → Nat} {Z : Mx} (h : Hand w V n cap b p G C Z) (hb : Below w.heap.size w w') : Hand w' V n cap b p G C Z := ⟨h.1, h.2.1, h.2.2.1, h.2.2.2.1, h.2.2.2.2.of_below hb⟩
theorem Hand.mat {w : World} {V : Value} {n cap b : Nat} {p : Option Addr} {G C : Nat → Nat} {Z : Mx} (h : Hand w V n cap b p G C Z) : MatAt w V n (fun _ => n) Z := by
  obtain ⟨rfl, h2, h3, h4, h5⟩ := h
  exact h5.mat h2 h3 h4
set_option maxHeartbeats 16000000 in
theorem bothEither_walk (s : Int) (v1 v2 : Value) (l1 l2 : Nat) (z1 z2 : Nat → Int) (w : World) (h1 : RowAt w v1 l1 z1) (h2 : RowAt w v2 l2 z2) (hz1 : ∀ k, k < l1 → -9223372036854775808 ≤ z1 k ∧ z1 k ≤ 9223372036854775807) (hz2 : ∀ k, k < l2 → -9223372036854775808 ≤ z2 k ∧ z2 k ≤ 9223372036854775807) (hs1 : -9223372036854775808 ≤ s) (hs2 : s ≤ 9223372036854775807) :
    Calls Try.prog 5 #[.int .i64 s, v1, v2] w fun e w' => e = .returned (.bool true) ∧ Below w.heap.size w w' := by
  have HM1 := hid (fun W h => matrix_any s v1 l1 z1 W h hz1 hs1 hs2)
  have HM2 := hid (fun W h => matrix_any s v2 l2 z2 W h hz2 hs1 hs2)
  have HR1 := hid h1
  have HR2 := hid h2
  have hn5 : (pkd s 6).toNat ≤ 5 := by have := pkd_in s (m := 6) (by decide); omega
  obtain ⟨n, hn⟩ : ∃ n, (pkd s 6).toNat = n := ⟨_, rfl⟩
  rw [hn] at HM1 HM2 hn5
  have HN := hid (show n ≤ 12 by omega)
  have hmx : (n : Int) ≤ 5 := by omega
  clear h1 h2 hz1 hz2 hs1 hs2 hn
  go_enter Try.func5, Try.ntmps5
  go_wp2_with fail
  refine (HM1.out _ HR1.out).mono ?_
  rintro e w1 ⟨⟨Va, rfl, A, hNA, hRA⟩, hB1⟩
  have HB1 := hid hB1
  have HRA := hid hRA
  obtain ⟨pa, ca, ba, GA, CA, hA⟩ := hNA.hand
  have HA := hid hA
  clear hB1 hRA hNA hA
  go_wp2_with fail
  refine (HM2.out _ (HR2.out.later HB1.out)).mono ?_
  rintro e w2 ⟨⟨Vb, rfl, B, hNB, hRB⟩, hB2⟩
  have HB2 := hid (below_then HB1.out hB2 (Nat.le_refl _))
  have HRB := hid hRB
  obtain ⟨pb, cb, bb, GB, CB, hB⟩ := hNB.hand
  have HA2 := hid (HA.out.later hB2)
  have HB := hid hB
  clear hB2 hRB hNB hB HA HB1
  go_wp2_with fail
  refine (prBoth_ok Va Vb n n (fun _ => n) (fun _ => n) A B _ HA2.out.mat HB.out.mat (raw_pr HN.out HRA.out HRB.out)).mono ?_
  rintro e w3 ⟨⟨Vx, rfl, hNX⟩, hB3⟩
  have HB3 := hid (below_then HB2.out hB3 (Nat.le_refl _))
  obtain ⟨px, cx, bx, GX, CX, hX⟩ := hNX.hand
  have HX := hid hX
  have HA3 := hid (HA2.out.later hB3)
  have HBb3 := hid (HB.out.later hB3)
  clear hB3 hNX hX HA2 HB HB2
  go_wp2_with fail
  refine (prBoth_ok Vb Va n n (fun _ => n) (fun _ => n) B A _ HBb3.out.mat HA3.out.mat (raw_pr HN.out HRB.out HRA.out)).mono ?_
  rintro e w4 ⟨⟨Vy, rfl, hNY⟩, hB4⟩
  have HB4 := hid (below_then HB3.out hB4 (Nat.le_refl _))
  have HY := hid (hNY.congr (M := fun _ => n) (Y := fun i k => (fun x y : Int => min x y) (A i k) (B i k)) (fun _ _ => rfl) (fun i _ k _ => by show min (B i k) (A i k) = min (A i k) (B i k); omega)).mat
  have HX4 := hid (HX.out.later hB4)
  have HA4 := hid (HA3.out.later hB4)
  have HBb4 := hid (HBb3.out.later hB4)
  clear hB4 hNY HA3 HBb3 HX HB3
  go_wp2_with fail
  refine (prEither_ok Va Vb n n (fun _ => n) (fun _ => n) A B _ HA4.out.mat HBb4.out.mat (raw_pr HN.out HRA.out HRB.out)).mono ?_
  rintro e w5 ⟨⟨Vu, rfl, hNU⟩, hB5⟩
  have HB5 := hid (below_then HB4.out hB5 (Nat.le_refl _))
  obtain ⟨pu, cu, bu, GU, CU, hU⟩ := hNU.hand
  have HU := hid hU
  have HX5 := hid (HX4.out.later hB5)
  have HY5 := hid (HY.out.later hB5)
  have HA5 := hid (HA4.out.later hB5)
  have HBb5 := hid (HBb4.out.later hB5)
  clear hB5 hNU hU HA4 HBb4 HX4 HY HB4
  go_wp2_with fail
  refine (prEither_ok Vb Va n n (fun _ => n) (fun _ => n) B A _ HBb5.out.mat HA5.out.mat (raw_pr HN.out HRB.out HRA.out)).mono ?_
  rintro e w6 ⟨⟨Vv, rfl, hNV⟩, hB6⟩
  have HB6 := hid (below_then HB5.out hB6 (Nat.le_refl _))
  have HV := hid (hNV.congr (M := fun _ => n) (Y := fun i k => (fun x y : Int => max x y) (A i k) (B i k)) (fun _ _ => rfl) (fun i _ k _ => by show max (B i k) (A i k) = max (A i k) (B i k); omega)).mat
  have HU6 := hid (HU.out.later hB6)
  have HX6 := hid (HX5.out.later hB6)
  have HY6 := hid (HY5.out.later hB6)
  have HA6 := hid (HA5.out.later hB6)
  have HBb6 := hid (HBb5.out.later hB6)
  clear hB6 hNV HA5 HBb5 HX5 HY5 HU HB5
  have HON := hid (mat_one w6)
  have HBN := hid (((Below.refl w6.heap.size w6).alloc (Nat.le_refl _) (.cells #[.int .i64 0] 3)).alloc (by simp) (.cells #[.slice (some ⟨w6.heap.size, 0, none⟩) 1 1] 22))
  go_wp2_with fail
  refine (prBoth_bad _ _ 1 0 (fun _ => 1) (fun _ => 0) (fun _ _ => 0) (fun _ _ => 0) _ HON.out (mat_nil3 _ _ _) 4 pr_one (by decide)).mono ?_
  rintro e w7 ⟨rfl, hB7⟩
  have hB7' : Below w6.heap.size w6 w7 := below_then HBN.out hB7 (Nat.le_refl _)
  have HB7 := hid (below_then HB6.out hB7' (Nat.le_refl _))
  have HU7 := hid (HU6.out.later hB7')
  have HV7 := hid (HV.out.later hB7')
  have HX7 := hid (HX6.out.later hB7')
  have HY7 := hid (HY6.out.later hB7')
  have HA7 := hid (HA6.out.later hB7')
  have HBb7 := hid (HBb6.out.later hB7')
  clear hB7 hB7' HA6 HBb6 HX6 HY6 HU6 HV HB6 HON HBN
  obtain ⟨ea, pna, _, _, _⟩ := HA7.out
  obtain ⟨eb, pnb, _, _, _⟩ := HBb7.out
  obtain ⟨ex, pnx, _, _, _⟩ := HX7.out
  obtain ⟨eu, pnu, _, _, _⟩ := HU7.out
  subst ea eb ex eu
  have HPA := hid pna
  have HPB := hid pnb
  have HPX := hid pnx
  have HPU := hid pnu
  clear pna pnb pnx pnu
  go_wp2_with fail
  refine (sameMatrix_any _ Vy n (fun _ => n) _ _ HX7.out.mat HY7.out).mono ?_
  rintro e w8 ⟨rfl, t8, hB8⟩
  have hb8 := below_dn3 hB8
  have HB8 := hid (below_then HB7.out hb8 (Nat.le_refl _))
  have HU8 := hid (HU7.out.later hb8)
  have HV8 := hid (HV7.out.later hb8)
  have HX8 := hid (HX7.out.later hb8)
  have HA8 := hid (HA7.out.later hb8)
  have HBb8 := hid (HBb7.out.later hb8)
  clear hB8 hb8 HA7 HBb7 HX7 HY7 HU7 HV7 HB7
  go_wp2_with fail
  refine (sameMatrix_any _ Vv n (fun _ => n) _ _ HU8.out.mat HV8.out).mono ?_
  rintro e w9 ⟨rfl, t9, hB9⟩
  have hb9 := below_dn3 hB9
  have HB9 := hid (below_then HB8.out hb9 (Nat.le_refl _))
  have HU9 := hid (HU8.out.later hb9)
  have HX9 := hid (HX8.out.later hb9)
  have HA9 := hid (HA8.out.later hb9)
  have HBb9 := hid (HBb8.out.later hb9)
  clear hB9 hb9 HA8 HBb8 HX8 HU8 HV8 HB8
  go_wp2_with fail
  go_loopg [19] n (fun gg io wr => ∃ i : Nat, i ≤ n ∧ gg = n - i ∧ io = .int .i64 (i : Nat) ∧ Below w9.heap.size w9 wr)
  case atStart => exact ⟨0, by omega, by omega, rfl, Below.refl _ _⟩
  case round =>
    obtain ⟨i, hi, rfl, rfl, hBr⟩ := hrel
    have HBR := hid hBr
    clear hBr
    by_cases hin : i < n
    · have i1 : (0 : Int) ≤ (i : Int) := by omega
      have i2 : (i : Int) < (n : Int) := by omega
      obtain rfl := HPA.out (by omega)
      obtain rfl := HPB.out (by omega)
      obtain rfl := HPX.out (by omega)
      obtain rfl := HPU.out (by omega)
      go_wp2_with fail
      go_loopg [20] n (fun gg jo wi => ∃ j : Nat, j ≤ n ∧ gg = n - j ∧ jo = .int .i64 (j : Nat) ∧ Below w9.heap.size w9 wi)
      case atStart => exact ⟨0, by omega, by omega, rfl, HBR.out⟩
      case round =>
        obtain ⟨j, hj, rfl, rfl, hB2⟩ := hrel
        have HB2 := hid hB2
        by_cases hjn : j < n
        · have j1 : (0 : Int) ≤ (j : Int) := by omega
          have j2 : (j : Int) < (n : Int) := by omega
          obtain ⟨a1, a2, a3⟩ := (HA9.out.later hB2).2.2.2.2.at2 hin hjn
          obtain ⟨b1, b2, b3⟩ := (HBb9.out.later hB2).2.2.2.2.at2 hin hjn
          obtain ⟨x1, x2, x3⟩ := (HX9.out.later hB2).2.2.2.2.at2 hin hjn
          obtain ⟨u1, u2, u3⟩ := (HU9.out.later hB2).2.2.2.2.at2 hin hjn
          have x2' : wr.cell? ⟨GX i, j, none⟩ = some (.int .i64 (min (A i j) (B i j))) := x2
          have u2' : wr.cell? ⟨GU i, j, none⟩ = some (.int .i64 (max (A i j) (B i j))) := u2
          clear x2 u2 hB2
          generalize A i j = xa at *
          generalize B i j = xb at *
          generalize GA i = ga at *
          generalize GB i = gb at *
          generalize GX i = gx at *
          generalize GU i = gu at *
          generalize CA i = k1 at *
          generalize CB i = k2 at *
          generalize CX i = k3 at *
          generalize CU i = k4 at *
          by_cases q : xb < xa
          · rw [show min xa xb = xb by omega] at x2'
            rw [show max xa xb = xa by omega] at u2'
            have q2 : ¬ xa < xb := by omega
            have q3 : ¬ xa ≤ xb := by omega
            go_wp2_with fail
            go_quiet (fail)
            all_goals
              go_wp2_with fail
              go_roundg (n - (j + 1))
              case rel => exact ⟨j + 1, by omega, rfl, by go_num, below_drewN HB2.out _⟩
              case measure => omega
          · rw [show min xa xb = xa by omega] at x2'
            rw [show max xa xb = xb by omega] at u2'
            by_cases q2 : xa < xb
            · go_wp2_with fail
              go_quiet (fail)
              all_goals
                go_wp2_with fail
                go_roundg (n - (j + 1))
                case rel => exact ⟨j + 1, by omega, rfl, by go_num, below_drewN HB2.out _⟩
                case measure => omega
            · obtain rfl : xa = xb := by omega
              go_wp2_with fail
              go_quiet (fail)
              all_goals
                go_wp2_with fail
                go_roundg (n - (j + 1))
                case rel => exact ⟨j + 1, by omega, rfl, by go_num, below_drewN HB2.out _⟩
                case measure => omega
        · obtain rfl : j = n := by omega
          clear hB2
          go_wp2_with fail
          go_roundg (j - (i + 1))
          case rel => exact ⟨i + 1, by omega, rfl, by go_num, HB2.out⟩
          case measure => omega
    · obtain rfl : i = n := by omega
      go_wp2_with fail
      go_ret
      exact ⟨rfl, below_then HB9.out HBR.out (Nat.le_refl _)⟩
end Go.Proofs.Ytgikaheojcpmpab
