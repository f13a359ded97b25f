/-
  CloseTwice: the walk.
-/
import Derived.Test.YtgikaheojcpmpabV
namespace Go.Proofs.Ytgikaheojcpmpab
open Go.ChangeShapes Go.WideShapes Go.ChangeAt Go.RowKit Go.Maps
set_option linter.unusedVariables false
set_option linter.unusedSimpArgs false
set_option maxRecDepth 20000
set_option maxHeartbeats 16000000 in
theorem closeTwice_walk (s : Int) (v1 : Value) (l1 : Nat) (z1 : Nat → Int) (w : World) (h1 : RowAt w v1 l1 z1) (hz1 : ∀ k, k < l1 → -9223372036854775808 ≤ z1 k ∧ z1 k ≤ 9223372036854775807) (hs1 : -9223372036854775808 ≤ s) (hs2 : s ≤ 9223372036854775807) :
    Calls Try.prog 3 #[.int .i64 s, v1] w fun e w' => e = .returned (.bool true) ∧ Below w.heap.size w w' := by
  have HM1 := hid (fun W h => matrix_any s v1 l1 z1 W h hz1 hs1 hs2)
  have HR1 := hid h1
  have hn5 : (pkd s 6).toNat ≤ 5 := by have := pkd_in s (m := 6) (by decide); omega
  obtain ⟨n, hn⟩ : ∃ n, (pkd s 6).toNat = n := ⟨_, rfl⟩
  rw [hn] at HM1 hn5
  have HN := hid (show n ≤ 12 by omega)
  have hmx : (n : Int) ≤ 5 := by omega
  clear h1 hz1 hs1 hs2 hn
  go_enter Try.func3, Try.ntmps3
  go_wp2_with fail
  refine (HM1.out _ HR1.out).mono ?_
  rintro e w1 ⟨⟨Va, rfl, A, hNA, hRA⟩, hB1⟩
  have HB1 := hid hB1
  have HRA := hid hRA
  obtain ⟨pa, ca, ba, GA, CA, hA⟩ := hNA.hnd
  have HA := hid hA
  have HOA := hid (own_of HN.out hRA.1 ((raw_bnd hRA).mono (by decide)))
  clear hB1 hRA hNA hA
  go_wp2_with fail
  refine (closeP_any Va n (fun _ => n) A _ HA.out.mat HOA.out).mono ?_
  rintro e w2 ⟨hC, hB2⟩
  have HB2 := hid (below_then HB1.out hB2 (Nat.le_refl _))
  have HA2 := hid (HA.out.later hB2)
  clear hB2 HA HB1
  have HTW := hid (mat_two w2 0 3 1152921504606846976 0 two3 rfl rfl rfl rfl)
  have HBN := hid ((((Below.refl w2.heap.size w2).alloc (Nat.le_refl _) (.cells #[.int .i64 0, .int .i64 3] 3)).alloc (by simp) (.cells #[.int .i64 1152921504606846976, .int .i64 0] 3)).alloc (by simp; omega) (.cells #[.slice (some ⟨w2.heap.size, 0, none⟩) 2 2, .slice (some ⟨w2.heap.size + 1, 0, none⟩) 2 2] 22))
  rcases hC with ⟨hg, Vc, rfl, hNC⟩ | ⟨hg, rfl⟩
  · obtain ⟨pc, cc, bc, GC, CC, hCC⟩ := hNC.hnd
    have HC := hid hCC
    have HG := hid hg
    clear hNC hCC hg
    go_wp2_with fail
    refine (closeP_any _ 2 (fun _ => 2) two3 _ HTW.out two3_own).mono ?_
    rintro e w3 ⟨hT, hB3⟩
    have hB3' : Below w2.heap.size w2 w3 := below_then HBN.out hB3 (Nat.le_refl _)
    have HB3 := hid (below_then HB2.out hB3' (Nat.le_refl _))
    have HA3 := hid (HA2.out.later hB3')
    have HC3 := hid (HC.out.later hB3')
    clear hB3 hB3' HA2 HC HB2 HTW HBN
    rcases hT with ⟨_, Vt, rfl, hNT⟩ | ⟨hg, _⟩
    · obtain ⟨pt, ct, bt, GT, CT, hT⟩ := hNT.hnd
      obtain ⟨rfl, hpt, _, _, hOT⟩ := hT
      obtain rfl := hpt (by decide)
      obtain ⟨o1, o2, o3⟩ := hOT.at2' (i := 0) (j := 1) (by decide) (by decide)
      rw [two3_at] at o2
      generalize GT 0 = gt at o1 o2
      generalize CT 0 = kt at o1 o3
      have HO3 := hid o3
      obtain ⟨ea, pna, _, _, _⟩ := HA3.out
      obtain ⟨ec, pnc, _, _, _⟩ := HC3.out
      subst ea ec
      have HPA := hid pna
      have HPC := hid pnc
      have HCL := hid (fw_cls HN.out ((raw_bnd HRA.out).mono (by decide)) (Nat.le_refl n) HG.out)
      have HFB := hid (fw_raw HN.out ((raw_bnd HRA.out).mono (by decide)) (Nat.le_refl n))
      have HFD := hid (fun i hi => HG.out n (Nat.le_refl _) i hi)
      have HOC := hid (own_of HN.out HFD.out (HFB.out.mono (by decide)))
      clear hNT hpt hOT pna pnc o3
      go_wp2_with fail
      refine (closeP_any _ n (fun _ => n) (fw A n) _ HC3.out.mat HOC.out).mono ?_
      rintro e w4 ⟨hD, hB4⟩
      have HB4 := hid (below_then HB3.out hB4 (Nat.le_refl _))
      have HA4 := hid (HA3.out.later hB4)
      have HC4 := hid (HC3.out.later hB4)
      clear hB4 HA3 HC3 HB3 o1 o2
      rcases hD with ⟨_, Vd, rfl, hND⟩ | ⟨hg, _⟩
      · have HD := hid (hND.congr (M := fun _ => n) (Y := fw A n) (fun _ _ => rfl) (fun i hi k hk => fw_fix HCL.out n (Nat.le_refl _) i k hi hk)).mat
        clear hND
        go_wp2_with fail
        refine (sameMatrix_any _ Vd n (fun _ => n) _ _ HC4.out.mat HD.out).mono ?_
        rintro e w5 ⟨rfl, t5, hB5⟩
        have hb5 := below_dn4 hB5
        have HB5 := hid (below_then HB4.out hb5 (Nat.le_refl _))
        have HA5 := hid (HA4.out.later hb5)
        have HC5 := hid (HC4.out.later hb5)
        clear hB5 hb5 HA4 HC4 HB4 HD
        go_wp2_with fail
        go_loopg [12] n (fun gg io wr => ∃ i : Nat, i ≤ n ∧ gg = n - i ∧ io = .int .i64 (i : Nat) ∧ Below w5.heap.size w5 wr)
        case atStart => exact ⟨0, by omega, by omega, rfl, Below.refl _ _⟩
        case round =>
          obtain ⟨i, hi, rfl, rfl, hBr⟩ := hrel
          have HBR := hid hBr
          clear hBr
          by_cases hin : i < n
          · have i1 : (0 : Int) ≤ (i : Int) := by omega
            have i2 : (i : Int) < (n : Int) := by omega
            obtain rfl := HPA.out (by omega)
            obtain rfl := HPC.out (by omega)
            go_wp2_with fail
            go_loopg [13] n (fun gg jo wi => ∃ j : Nat, j ≤ n ∧ gg = n - j ∧ jo = .int .i64 (j : Nat) ∧ Below w5.heap.size w5 wi)
            case atStart => exact ⟨0, by omega, by omega, rfl, HBR.out⟩
            case round =>
              obtain ⟨j, hj, rfl, rfl, hB2⟩ := hrel
              have HB2 := hid hB2
              by_cases hjn : j < n
              · have j1 : (0 : Int) ≤ (j : Int) := by omega
                have j2 : (j : Int) < (n : Int) := by omega
                obtain ⟨a1, a2, a3⟩ := (HA5.out.later hB2).2.2.2.2.at2' hin hjn
                obtain ⟨c1, c2, c3⟩ := (HC5.out.later hB2).2.2.2.2.at2' hin hjn
                have hle : fw A n i j ≤ A i j := fw_mono A (Nat.zero_le n) i j
                obtain ⟨xa, hxa⟩ : ∃ x, A i j = x := ⟨_, rfl⟩
                obtain ⟨xc, hxc⟩ : ∃ x, fw A n i j = x := ⟨_, rfl⟩
                have HXC := hid hxc
                rw [hxa] at a2 hle
                rw [hxc] at c2 hle
                obtain ⟨ga, hga⟩ : ∃ g, GA i = g := ⟨_, rfl⟩
                obtain ⟨gc, hgc⟩ : ∃ g, GC i = g := ⟨_, rfl⟩
                obtain ⟨ka, hka⟩ : ∃ g, CA i = g := ⟨_, rfl⟩
                obtain ⟨kc, hkc⟩ : ∃ g, CC i = g := ⟨_, rfl⟩
                rw [hga, hka] at a1
                rw [hga] at a2
                rw [hka] at a3
                rw [hgc, hkc] at c1
                rw [hgc] at c2
                rw [hkc] at c3
                have hdd : decide (xa < xc) = false := by simp; omega
                clear hB2 hxa hxc hga hgc hka hkc
                go_wp2_with fail
                go_quiet (fail)
                have HB3 := hid (below_drewN HB2.out nq)
                go_wp2_with fail
                clear a1 a2 a3 c1 c2 c3 hle hdd
                go_loopg [14] n (fun gg ko wi => ∃ k : Nat, k ≤ n ∧ gg = n - k ∧ ko = .int .i64 (k : Nat) ∧ Below w5.heap.size w5 wi)
                case atStart => exact ⟨0, by omega, by omega, rfl, HB3.out⟩
                case round =>
                  obtain ⟨k, hk, rfl, rfl, hB4⟩ := hrel
                  have HB4 := hid hB4
                  by_cases hkn : k < n
                  · have k1 : (0 : Int) ≤ (k : Int) := by omega
                    have k2 : (k : Int) < (n : Int) := by omega
                    obtain ⟨c1, c2, c3⟩ := (HC5.out.later hB4).2.2.2.2.at2' hin hkn
                    obtain ⟨d1, d2, d3⟩ := (HC5.out.later hB4).2.2.2.2.at2' hkn hjn
                    obtain ⟨e1, e2, e3⟩ := (HC5.out.later hB4).2.2.2.2.at2' hin hjn
                    have hcl := HCL.out i k j hin hkn hjn
                    have f1 := HFB.out i k hin hkn
                    have f2 := HFB.out k j hkn hjn
                    rw [HXC.out] at e2 hcl
                    obtain ⟨x1, hx1⟩ : ∃ x, fw A n i k = x := ⟨_, rfl⟩
                    obtain ⟨x2, hx2⟩ : ∃ x, fw A n k j = x := ⟨_, rfl⟩
                    rw [hx1] at c2 hcl f1
                    rw [hx2] at d2 hcl f2
                    obtain ⟨gi, hgi⟩ : ∃ g, GC i = g := ⟨_, rfl⟩
                    obtain ⟨gk, hgk⟩ : ∃ g, GC k = g := ⟨_, rfl⟩
                    obtain ⟨ci, hci⟩ : ∃ g, CC i = g := ⟨_, rfl⟩
                    obtain ⟨ck, hck⟩ : ∃ g, CC k = g := ⟨_, rfl⟩
                    rw [hgi, hci] at c1
                    rw [hgi] at c2 e2
                    rw [hci] at c3
                    rw [hgk, hck] at d1
                    rw [hgk] at d2
                    rw [hck] at d3
                    clear hB4 hx1 hx2 hgi hgk hci hck e1 e3
                    by_cases q1 : x1 = 1152921504606846976
                    · subst q1
                      clear hcl f1 f2
                      go_wp2_with fail
                      go_quiet (fail)
                      go_wp2_with fail
                      go_roundg (n - (k + 1))
                      case rel => exact ⟨k + 1, by omega, rfl, by go_num, below_drewN HB4.out _⟩
                      case measure => omega
                    · have d4 : (x1 != 1152921504606846976) = true := by simpa using q1
                      by_cases q2 : x2 = 1152921504606846976
                      · subst q2
                        clear hcl f1 f2 q1
                        go_wp2_with fail
                        go_quiet (fail)
                        go_wp2_with fail
                        go_roundg (n - (k + 1))
                        case rel => exact ⟨k + 1, by omega, rfl, by go_num, below_drewN HB4.out _⟩
                        case measure => omega
                      · have d5 : (x2 != 1152921504606846976) = true := by simpa using q2
                        have hs := hcl q1 q2
                        have wr2 : RowKit.wrap64 (x1 + x2) = x1 + x2 := wrap_id (by omega) (by omega)
                        have wr1 : IntKind.i64.wrap (x1 + x2) = x1 + x2 := (IntWalk.i64_left _).trans wr2
                        have hs2 : ¬ (x1 + x2 < xc) := by omega
                        have hs3 : decide (x1 + x2 < xc) = false := by simp; omega
                        clear hcl f1 f2 q1 q2
                        go_wp2_with fail
                        go_quiet (fail)
                        go_wp2_with fail
                        go_roundg (n - (k + 1))
                        case rel => exact ⟨k + 1, by omega, rfl, by go_num, below_drewN HB4.out _⟩
                        case measure => omega
                  · obtain rfl : k = n := by omega
                    clear hB4
                    go_wp2_with fail
                    go_roundg (k - (j + 1))
                    case rel => exact ⟨j + 1, by omega, rfl, by go_num, HB4.out⟩
                    case measure => omega
              · obtain rfl : j = n := by omega
                clear hB2
                go_wp2_with fail
                go_roundg (j - (i + 1))
                case rel => exact ⟨i + 1, by omega, rfl, by go_num, HB2.out⟩
                case measure => omega
          · obtain rfl : i = n := by omega
            go_wp2_with fail
            go_ret
            exact ⟨rfl, below_then HB5.out HBR.out (Nat.le_refl _)⟩
      · exact absurd (gd_fix HCL.out HFD.out) hg
    · exact absurd two3_gd hg
  · clear HA2
    go_wp2_with fail
    refine (closeP_any _ 2 (fun _ => 2) two3 _ HTW.out two3_own).mono ?_
    rintro e w3 ⟨hT, hB3⟩
    have hB3' : Below w2.heap.size w2 w3 := below_then HBN.out hB3 (Nat.le_refl _)
    have HB3 := hid (below_then HB2.out hB3' (Nat.le_refl _))
    clear hB3 hB3' HB2 HTW HBN
    rcases hT with ⟨_, Vt, rfl, hNT⟩ | ⟨hg2, _⟩
    · obtain ⟨pt, ct, bt, GT, CT, hT⟩ := hNT.hnd
      obtain ⟨rfl, hpt, _, _, hOT⟩ := hT
      obtain rfl := hpt (by decide)
      obtain ⟨o1, o2, o3⟩ := hOT.at2' (i := 0) (j := 1) (by decide) (by decide)
      rw [two3_at] at o2
      generalize GT 0 = gt at o1 o2
      generalize CT 0 = kt at o1 o3
      clear hNT hpt hOT hg
      go_wp2_with fail
      go_ret
      exact ⟨rfl, HB3.out⟩
    · exact absurd two3_gd hg2
end Go.Proofs.Ytgikaheojcpmpab
