/-
  CloseKeeps: the walk.
-/
import Derived.Test.YtgikaheojcpmpabV
import Derived.BigRegion
namespace Go.Proofs.Ytgikaheojcpmpab
open Go.ChangeShapes Go.WideShapes Go.ChangeAt Go.RowKit Go.Maps
set_option linter.unusedVariables false
set_option linter.unusedSimpArgs false
set_option maxRecDepth 20000
/-- Two points, the first one ahead and behind. -/
def twoN : Mx := fun i k => if i = 0 ∧ k = 1 then -1 else 0
theorem twoN_bad : ¬ Gd 2 2 twoN := fun h => absurd (h 1 (by decide) 1 (by decide)) (by decide)
theorem twoN_own : own 2 (fun _ => 2) twoN = 0 := own_of (by decide) (fun i hi => by unfold twoN; rw [if_neg (by omega)]) (fun a b ha hb => by unfold twoN; split <;> omega)
/-- Times that keep to bounds: so there are bounds that can be. -/
theorem pot_cls {n : Nat} (t : Nat → Int) : Cls n n (fun i j => t i - t j) := fun i k j _ _ _ _ _ => by
  show t i - t j ≤ (t i - t k) + (t k - t j)
  omega
theorem pot_gd {n : Nat} {t : Nat → Int} {m : Mx} (hn : n ≤ 12) (hb : Bnd n 2147483648 m) (hd : ∀ i, i < n → m i i = 0) (hm : ∀ a b, a < n → b < n → t a - t b ≤ m a b) : Gd n n m := fun s hs i hi => by
  have h1 := cls_le hn hb (pot_cls t) hm s hs i i hi hi
  have h2 := fw_mono m (Nat.zero_le s) i i
  have h3 : fw m 0 i i = 0 := hd i hi
  have h4 : (fun i j => t i - t j) i i = t i - t i := rfl
  omega
/-- Where the times lie: apart from what was there. -/
def TB (B : Nat) (p : Option Addr) (n : Nat) (t : Nat → Int) (w : World) : Prop := 0 < n → ∃ g, p = some ⟨g, 0, none⟩ ∧ B ≤ g ∧ Blk w g n t
/-- What was let go up to (i, k). -/
def Let (t : Nat → Int) (Q : Mx) (n i k : Nat) : Prop := (∀ a, a < n → Q a a = 0) ∧ Bnd n 64 Q ∧ ∀ a b, a < n → b < n → (a < i ∨ (a = i ∧ b < k)) → t a - t b ≤ Q a b
theorem Let.same {t : Nat → Int} {Q : Mx} {n i k : Nat} (h : Let t Q n i k) (hi : i < n) (hk : k < n) (hx : Q i k = 1152921504606846976 ∨ t i - t k ≤ Q i k) (hb : ∀ a, a < n → 0 ≤ t a ∧ t a ≤ 49) : Let t Q n i (k + 1) := by
  refine ⟨h.1, h.2.1, fun a b ha hb' hc => ?_⟩
  by_cases c : a < i ∨ (a = i ∧ b < k)
  · exact h.2.2 a b ha hb' c
  · have e1 : a = i := by omega
    have e2 : b = k := by omega
    subst e1 e2
    have := hb a ha
    have := hb b hb'
    omega
theorem Let.put {t : Nat → Int} {Q : Mx} {n i k : Nat} (h : Let t Q n i k) (hi : i < n) (hk : k < n) (hx : Q i k < t i - t k) (hb : ∀ a, a < n → 0 ≤ t a ∧ t a ≤ 49) : Let t (upd Q i k (t i - t k)) n i (k + 1) := by
  have b1 := hb i hi
  have b2 := hb k hk
  have hne : i ≠ k := fun c => by subst c; rw [h.1 i hi] at hx; omega
  refine ⟨fun a ha => ?_, fun a b ha hb' => ?_, fun a b ha hb' hc => ?_⟩
  · rw [upd, if_neg (by omega)]; exact h.1 a ha
  · unfold upd
    split
    · omega
    · exact h.2.1 a b ha hb'
  · unfold upd
    split
    · rename_i e; obtain ⟨rfl, rfl⟩ := e; omega
    · exact h.2.2 a b ha hb' (by omega)
theorem Let.next {t : Nat → Int} {Q : Mx} {n i : Nat} (h : Let t Q n i n) : Let t Q n (i + 1) 0 := ⟨h.1, h.2.1, fun a b ha hb hc => h.2.2 a b ha hb (by omega)⟩
set_option maxHeartbeats 16000000 in
theorem closeKeeps_walk (s : Int) (v1 v2 : Value) (l1 l2 : Nat) (z1 z2 : Nat → Int) (w : World) (h1 : RowAt w v1 l1 z1) (h2 : RowAt w v2 l2 z2) (hz1 : ∀ k, k < l1 → -9223372036854775808 ≤ z1 k ∧ z1 k ≤ 9223372036854775807) (hz2 : ∀ k, k < l2 → -9223372036854775808 ≤ z2 k ∧ z2 k ≤ 9223372036854775807) (hs1 : -9223372036854775808 ≤ s) (hs2 : s ≤ 9223372036854775807) :
    Calls Try.prog 4 #[.int .i64 s, v1, v2] w fun e w' => e = .returned (.bool true) ∧ Below w.heap.size w w' := by
  have HM1 := hid (fun W h => matrix_any s v1 l1 z1 W h hz1 hs1 hs2)
  have HR1 := hid h1
  have HR2 := hid h2
  have HZ2 := hid hz2
  obtain ⟨p2, c2, rfl, hl2, hc2, _⟩ := h2
  have hmx2 : (l2 : Int) ≤ 9223372036854775807 := by unfold maxLen at hc2; omega
  have hn5 : (pkd s 6).toNat ≤ 5 := by have := pkd_in s (m := 6) (by decide); omega
  obtain ⟨n, hn⟩ : ∃ n, (pkd s 6).toNat = n := ⟨_, rfl⟩
  rw [hn] at HM1 hn5
  have HN := hid (show n ≤ 12 by omega)
  have hmx : (n : Int) ≤ 5 := by omega
  obtain ⟨t, ht⟩ : ∃ t : Nat → Int, ∀ k, t k = if k < l2 then pkd (z2 k) 50 else 0 := ⟨_, fun _ => rfl⟩
  have HT := hid ht
  have HTB : Hid (∀ a, a < n → 0 ≤ t a ∧ t a ≤ 49) := fun a _ => by
    rw [ht a]
    split
    · have := pkd_in (z2 a) (m := 50) (by decide); omega
    · omega
  clear h1 hz1 hz2 hs1 hs2 hn hl2 hc2 ht
  go_enter Try.func4, Try.ntmps4
  go_wp2_with fail
  refine (HM1.out _ HR1.out).mono ?_
  rintro e w1 ⟨⟨Va, rfl, A, hNA, hRA⟩, hB1⟩
  have HB1 := hid hB1
  have HRA := hid hRA
  obtain ⟨pa, ca, ba, GA, CA, rfl, hpa, hca, hca2, hOA⟩ := hNA
  have HOA := hid hOA
  have HPA := hid hpa
  have HCA := hid (And.intro hca hca2)
  have HGL0 : Hid (∀ k, k < n → GA k < w1.heap.size) := fun k hk => (hOA.row k hk (by omega)).lt
  clear hB1 hRA hpa hca hca2 hOA
  go_wp2_with fail
  go_loopg [8, 9] n (fun gg vo io wr => ∃ i : Nat, i ≤ n ∧ gg = n - i ∧ io = .int .i64 (i : Nat) ∧ Rw wr w1.heap.size vo i t ∧ Below w1.heap.size w1 wr)
  case atStart => exact ⟨0, by omega, by omega, rfl, Rw.nil _ _ _, Below.refl _ _⟩
  case round =>
    obtain ⟨i, hi, rfl, rfl, hrw, hBr⟩ := hrel
    obtain ⟨p1, c1, rfl, _⟩ := own_shape hrw
    have HRI := hid hrw
    have HBR := hid hBr
    clear hrw
    have i1 : (0 : Int) ≤ (i : Int) := by omega
    by_cases hin : i < n
    · have i2 : (i : Int) < (n : Int) := by omega
      by_cases hil : i < l2
      · have i3 : (i : Int) < (l2 : Int) := by omega
        obtain ⟨q, cq, e, _, _, hq⟩ := (HR2.out.later HB1.out).later hBr
        simp only [Value.slice.injEq] at e
        obtain ⟨rfl, _, rfl⟩ := e
        obtain ⟨g, off, rfl, hrd⟩ := hq (by omega)
        have a0 := hrd i hil
        obtain ⟨y1, y2⟩ := HZ2.out i hil
        have HTI := hid (show t i = pkd (z2 i) 50 by rw [HT.out, if_pos hil])
        obtain ⟨u, hu⟩ : ∃ u, z2 i = u := ⟨_, rfl⟩
        rw [hu] at a0 y1 y2 HTI
        have HK := hid (fun W => picked_any u 50 W y1 y2 (by decide) (by decide))
        rw [← HTI.out] at HK
        clear hrd hq hu hBr y1 y2
        go_wp2_with fail
        refine (HK.out _).mono ?_
        rintro e wr ⟨rfl, rfl⟩
        go_wp2_with (at_builtin; refine wp_appI (by rfl) _ _ (by rfl) w1.heap.size (.slice p1 i c1) i t (by rfl) (own_later HRI.out (below_new _ _)) ⟨wr.heap.size, 0, none⟩ (by rfl) (cell_new _ _ _) (by omega) (by have := HBR.out.size; simp; omega) ?_; intro v' w5 h1 h2; obtain ⟨p3, c3, rfl, _⟩ := own_shape h1; have HN1 := hid h1; have HN2 := hid h2; clear h1 h2)
        go_roundg (n - (i + 1))
        case rel => exact ⟨i + 1, by omega, rfl, by go_num, HN1.out, (HBR.out.alloc HBR.out.size _).grown HN2.out (by have := HBR.out.size; simp; omega) (fun k hk => HRI.out.fresh k hk)⟩
        case measure => omega
      · have i3 : ¬ (i : Int) < (l2 : Int) := by omega
        have HTI := hid (show t i = 0 by rw [HT.out, if_neg hil])
        have HC0 := hid (show (wr.alloc (.cells #[.int .i64 0] 3)).cell? ((⟨wr.heap.size, 0, none⟩ : Addr).add 0) = some (.int .i64 (t i)) by rw [HTI.out]; exact cell_new _ _ _)
        clear hBr
        go_wp2_with (at_builtin; refine wp_appI (by rfl) _ _ (by rfl) w1.heap.size (.slice p1 i c1) i t (by rfl) (own_later HRI.out (below_new _ _)) ⟨wr.heap.size, 0, none⟩ (by rfl) HC0.out (by omega) (by have := HBR.out.size; simp; omega) ?_; intro v' w5 h1 h2; obtain ⟨p3, c3, rfl, _⟩ := own_shape h1; have HN1 := hid h1; have HN2 := hid h2; clear h1 h2)
        go_roundg (n - (i + 1))
        case rel => exact ⟨i + 1, by omega, rfl, by go_num, HN1.out, (HBR.out.alloc HBR.out.size _).grown HN2.out (by have := HBR.out.size; simp; omega) (fun k hk => HRI.out.fresh k hk)⟩
        case measure => omega
    · obtain rfl : i = n := by omega
      obtain ⟨wo, hwo⟩ : ∃ wo, wo = wr := ⟨_, rfl⟩
      rw [← hwo] at HRI HBR hBr ⊢
      have HOB := hid (HOA.out.of_below hBr)
      have HBW := hid (below_then HB1.out hBr (Nat.le_refl _))
      clear hBr hwo HOA
      have HGL : Hid (∀ k, k < i → GA k < w1.heap.size) := HGL0.out
      have HTR : Hid (TB w1.heap.size p1 i t wo) := fun h0 => by
        obtain ⟨p4, c4, e4, _, _, h4⟩ := own_shape HRI.out
        simp only [Value.slice.injEq] at e4
        obtain ⟨rfl, _, rfl⟩ := e4
        obtain ⟨g, e5, e6⟩ := h4 h0
        exact ⟨g, e5, HRI.out.fresh g e6, HRI.out.blk e6⟩
      have HLT : Hid (Let t A i 0 0) := ⟨HRA.out.1, (raw_bnd HRA.out).mono (by decide), fun a b _ _ hc => by omega⟩
      clear HRI HT HM1 HR1 HR2 HZ2
      go_wp2_with fail
      go_loopg [11] i (fun gg ao wr => ∃ (a : Nat) (Q : Mx), a ≤ i ∧ gg = i - a ∧ ao = .int .i64 (a : Nat) ∧ OwnM wr w.heap.size ba i (fun _ => i) GA CA Q ∧ Let t Q i a 0 ∧ TB w1.heap.size p1 i t wr ∧ Below w.heap.size w wr)
      case atStart => exact ⟨0, A, by omega, by omega, rfl, HOB.out, HLT.out, HTR.out, HBW.out⟩
      case round =>
        obtain ⟨a, Q, ha, rfl, rfl, hO1, hL1, hT1, hBr⟩ := hrel
        clear HOB HLT HTR HBW
        have HO1 := hid hO1
        have HL1 := hid hL1
        have HT1 := hid hT1
        have HB1 := hid hBr
        clear hO1 hL1 hT1 hBr
        have a1 : (0 : Int) ≤ (a : Int) := by omega
        by_cases hai : a < i
        · have a2 : (a : Int) < (i : Int) := by omega
          obtain rfl := HPA.out (by omega)
          go_wp2_with fail
          go_loopg [12] i (fun gg bo wr => ∃ (b : Nat) (Q : Mx), b ≤ i ∧ gg = i - b ∧ bo = .int .i64 (b : Nat) ∧ OwnM wr w.heap.size ba i (fun _ => i) GA CA Q ∧ Let t Q i a b ∧ TB w1.heap.size p1 i t wr ∧ Below w.heap.size w wr)
          case atStart => exact ⟨0, Q, by omega, by omega, rfl, HO1.out, HL1.out, HT1.out, HB1.out⟩
          case round =>
            obtain ⟨b, Q2, hb, rfl, rfl, hO2, hL2, hT2, hB2⟩ := hrel
            clear HO1 HL1 HT1 HB1
            have HO2 := hid hO2
            have HL2 := hid hL2
            have HT2 := hid hT2
            have HB2 := hid hB2
            clear hO2 hL2 hT2 hB2
            have b1 : (0 : Int) ≤ (b : Int) := by omega
            by_cases hbi : b < i
            · have b2 : (b : Int) < (i : Int) := by omega
              obtain ⟨g, rfl, hg1, hg2⟩ := HT2.out (by omega)
              have t1 := hg2.cell hai
              have t2 := hg2.cell hbi
              obtain ⟨y1, y2⟩ := HTB.out a hai
              obtain ⟨y3, y4⟩ := HTB.out b hbi
              obtain ⟨m1, m2, m3⟩ := HO2.out.at2' hai hbi
              have m4 := (HO2.out.row a hai (by omega)).frozen b
              have HST := hid (fun (r : Nat) (x : Int) => (HO2.out.drewN r).set (k := b) hai hbi x)
              have HSE := hid (fun (r : Nat) (x : Int) => (below_drewN HB2.out r).setCell (p := ⟨GA a, b, none⟩) (HO2.out.gB a hai (by omega)) (.int .i64 x))
              have hgl := HGL.out a hai
              have HTS : Hid (∀ (r : Nat) (x : Value), TB w1.heap.size (some ⟨g, 0, none⟩) i t ((wr.drewN r).setCell ⟨GA a, b, none⟩ x)) := fun r x h0 => ⟨g, rfl, hg1, hg2.of_block (Below.heap_setCell (wr.drewN r) _ _ _ (by show g ≠ GA a; omega))⟩
              have HTD : Hid (∀ (r : Nat), TB w1.heap.size (some ⟨g, 0, none⟩) i t (wr.drewN r)) := fun r h0 => ⟨g, rfl, hg1, hg2⟩
              have HLS := hid (fun h => HL2.out.same hai hbi h HTB.out)
              have HLP := hid (fun h => HL2.out.put hai hbi h HTB.out)
              obtain ⟨ga, hga⟩ : ∃ g, GA a = g := ⟨_, rfl⟩
              obtain ⟨ka, hka⟩ : ∃ g, CA a = g := ⟨_, rfl⟩
              obtain ⟨x, hx⟩ : ∃ g, Q2 a b = g := ⟨_, rfl⟩
              obtain ⟨ta, hta⟩ : ∃ g, t a = g := ⟨_, rfl⟩
              obtain ⟨tb, htb⟩ : ∃ g, t b = g := ⟨_, rfl⟩
              rw [hga, hka] at m1
              rw [hga, hx] at m2
              rw [hka] at m3
              rw [hga] at m4 HST HSE HTS
              rw [hta] at t1 y1 y2
              rw [htb] at t2 y3 y4
              rw [hx, hta, htb] at HLS HLP
              have w2 : RowKit.wrap64 (ta - tb) = ta - tb := wrap_id (by omega) (by omega)
              have w3 : IntKind.i64.wrap (ta - tb) = ta - tb := (IntWalk.i64_left _).trans w2
              clear hga hka hx hta htb hg1 hg2 hgl y1 y2 y3 y4
              by_cases q1 : x = 1152921504606846976
              · have HNX := hid (HLS.out (.inl q1))
                subst q1
                go_wp2_with fail
                go_quiet (fail)
                go_wp2_with fail
                go_roundg (i - (b + 1))
                case rel => exact ⟨b + 1, Q2, by omega, rfl, by go_num, HO2.out.drewN _, HNX.out, HTD.out _, below_drewN HB2.out _⟩
                case measure => omega
              · have d1 : (x != 1152921504606846976) = true := by simpa using q1
                by_cases q2 : x < ta - tb
                · have d2 : decide (x < ta - tb) = true := by simpa using q2
                  have HNX := hid (HLP.out q2)
                  go_wp2_with fail
                  go_quiet (fail)
                  go_wp2_with fail
                  go_region
                  all_goals
                    go_wp2_with fail
                    go_roundg (i - (b + 1))
                    case rel => exact ⟨b + 1, _, by omega, rfl, by go_num, HST.out _ _, HNX.out, HTS.out _ _, HSE.out _ _⟩
                    case measure => omega
                · have d2 : decide (x < ta - tb) = false := by simpa using q2
                  have q3 : ta - tb ≤ x := by omega
                  have HNX := hid (HLS.out (.inr q3))
                  go_wp2_with fail
                  go_quiet (fail)
                  go_wp2_with fail
                  go_roundg (i - (b + 1))
                  case rel => exact ⟨b + 1, Q2, by omega, rfl, by go_num, HO2.out.drewN _, HNX.out, HTD.out _, below_drewN HB2.out _⟩
                  case measure => omega
            · obtain rfl : b = i := by omega
              go_wp2_with fail
              go_roundg (b - (a + 1))
              case rel => exact ⟨a + 1, Q2, by omega, rfl, by go_num, HO2.out, HL2.out.next, HT2.out, HB2.out⟩
              case measure => omega
        · obtain rfl : a = i := by omega
          have HMA := hid (HO1.out.mat HPA.out HCA.out.1 HCA.out.2)
          have HBN := hid (HL1.out.2.1)
          have HPT : Hid (∀ x y, x < a → y < a → t x - t y ≤ Q x y) := fun x y hx hy => HL1.out.2.2 x y hx hy (by omega)
          have HOW := hid (own_of HN.out HL1.out.1 (HBN.out.mono (by decide)))
          have HGD := hid (pot_gd HN.out (HBN.out.mono (by decide)) HL1.out.1 HPT.out)
          have HPF := hid (cls_le HN.out (HBN.out.mono (by decide)) (pot_cls t) HPT.out a (Nat.le_refl _))
          clear HL1 HO1
          go_wp2_with fail
          refine (closeP_any _ a (fun _ => a) Q _ HMA.out HOW.out).mono ?_
          rintro e w3 ⟨hC, hB3⟩
          have HB3 := hid (below_then HB1.out hB3 (Nat.le_refl _))
          have HT3 : Hid (TB w1.heap.size p1 a t w3) := fun h0 => by
            obtain ⟨g, e1, e2, e3⟩ := HT1.out h0
            exact ⟨g, e1, e2, e3.of_block (hB3.block _ e3.lt)⟩
          clear hB3 HB1 HT1 HMA
          rcases hC with ⟨_, Vc, rfl, hNC⟩ | ⟨hg, _⟩
          · obtain ⟨pc, cc, bc, GC, CC, hH⟩ := hNC.hnd
            have HC := hid hH
            obtain ⟨rfl, hpc, _, _, _⟩ := hH
            have HPC := hid hpc
            clear hNC hpc
            have HTW := hid (mat_two w3 0 (-1) 0 0 twoN rfl rfl rfl rfl)
            have HBX := hid ((((Below.refl w3.heap.size w3).alloc (Nat.le_refl _) (.cells #[.int .i64 0, .int .i64 (-1)] 3)).alloc (by simp) (.cells #[.int .i64 0, .int .i64 0] 3)).alloc (by simp; omega) (.cells #[.slice (some ⟨w3.heap.size, 0, none⟩) 2 2, .slice (some ⟨w3.heap.size + 1, 0, none⟩) 2 2] 22))
            go_wp2_with fail
            refine (closeP_any _ 2 (fun _ => 2) twoN _ HTW.out twoN_own).mono ?_
            rintro e w4 ⟨hT, hB4⟩
            have hB4' : Below w3.heap.size w3 w4 := below_then HBX.out hB4 (Nat.le_refl _)
            have HB4 := hid (below_then HB3.out hB4' (Nat.le_refl _))
            have HC4 := hid (HC.out.later hB4')
            have HT4 : Hid (TB w1.heap.size p1 a t w4) := fun h0 => by
              obtain ⟨g, e1, e2, e3⟩ := HT3.out h0
              exact ⟨g, e1, e2, e3.of_block (hB4'.block _ e3.lt)⟩
            clear hB4 hB4' HC HT3 HB3 HTW HBX
            rcases hT with ⟨hg, _⟩ | ⟨_, rfl⟩
            · exact absurd hg twoN_bad
            · go_wp2_with fail
              go_loopg [17] a (fun gg xo wr => ∃ x : Nat, x ≤ a ∧ gg = a - x ∧ xo = .int .i64 (x : Nat) ∧ Below w4.heap.size w4 wr)
              case atStart => exact ⟨0, by omega, by omega, rfl, Below.refl _ _⟩
              case round =>
                obtain ⟨x, hx, rfl, rfl, hBr⟩ := hrel
                have HBR := hid hBr
                clear hBr
                have x1 : (0 : Int) ≤ (x : Int) := by omega
                by_cases hxa : x < a
                · have x2 : (x : Int) < (a : Int) := by omega
                  obtain rfl := HPC.out (by omega)
                  go_wp2_with fail
                  go_loopg [18] a (fun gg yo wr => ∃ y : Nat, y ≤ a ∧ gg = a - y ∧ yo = .int .i64 (y : Nat) ∧ Below w4.heap.size w4 wr)
                  case atStart => exact ⟨0, by omega, by omega, rfl, HBR.out⟩
                  case round =>
                    obtain ⟨y, hy, rfl, rfl, hB5⟩ := hrel
                    have HB5 := hid hB5
                    have y0 : (0 : Int) ≤ (y : Int) := by omega
                    by_cases hya : y < a
                    · have y9 : (y : Int) < (a : Int) := by omega
                      obtain ⟨g, rfl, _, hg2⟩ := HT4.out (by omega)
                      have hg3 := hg2.of_block (hB5.block _ hg2.lt)
                      have t1 := hg3.cell hxa
                      have t2 := hg3.cell hya
                      obtain ⟨y1, y2⟩ := HTB.out x hxa
                      obtain ⟨y3, y4⟩ := HTB.out y hya
                      obtain ⟨m1, m2, m3⟩ := (HC4.out.later hB5).2.2.2.2.at2' hxa hya
                      have hpf : t x - t y ≤ fw Q a x y := HPF.out x y hxa hya
                      obtain ⟨gc, hgc⟩ : ∃ g, GC x = g := ⟨_, rfl⟩
                      obtain ⟨kc, hkc⟩ : ∃ g, CC x = g := ⟨_, rfl⟩
                      obtain ⟨v, hv⟩ : ∃ g, fw Q a x y = g := ⟨_, rfl⟩
                      obtain ⟨ta, hta⟩ : ∃ g, t x = g := ⟨_, rfl⟩
                      obtain ⟨tb, htb⟩ : ∃ g, t y = g := ⟨_, rfl⟩
                      rw [hgc, hkc] at m1
                      rw [hgc, hv] at m2
                      rw [hkc] at m3
                      rw [hta] at t1 y1 y2 hpf
                      rw [htb] at t2 y3 y4 hpf
                      rw [hv] at hpf
                      have w2 : RowKit.wrap64 (ta - tb) = ta - tb := wrap_id (by omega) (by omega)
                      have w3 : IntKind.i64.wrap (ta - tb) = ta - tb := (IntWalk.i64_left _).trans w2
                      have d2 : decide (v < ta - tb) = false := by simp; omega
                      have q3 : ¬ v < ta - tb := by omega
                      clear hgc hkc hv hta htb hg2 hg3 y1 y2 y3 y4 hB5
                      by_cases q1 : v = 1152921504606846976
                      · subst q1
                        go_wp2_with fail
                        go_quiet (fail)
                        go_wp2_with fail
                        go_roundg (a - (y + 1))
                        case rel => exact ⟨y + 1, by omega, rfl, by go_num, below_drewN HB5.out _⟩
                        case measure => omega
                      · have d1 : (v != 1152921504606846976) = true := by simpa using q1
                        go_wp2_with fail
                        go_quiet (fail)
                        go_wp2_with fail
                        go_roundg (a - (y + 1))
                        case rel => exact ⟨y + 1, by omega, rfl, by go_num, below_drewN HB5.out _⟩
                        case measure => omega
                    · obtain rfl : y = a := by omega
                      clear hB5
                      go_wp2_with fail
                      go_roundg (y - (x + 1))
                      case rel => exact ⟨x + 1, by omega, rfl, by go_num, HB5.out⟩
                      case measure => omega
                · obtain rfl : x = a := by omega
                  go_wp2_with fail
                  go_ret
                  exact ⟨rfl, below_then HB4.out HBR.out (Nat.le_refl _)⟩
          · exact absurd HGD.out hg
end Go.Proofs.Ytgikaheojcpmpab
