/-
  Both and Either, by the reference.
-/
import Derived.Test.YtgikaheojcpmpaaDoorK
namespace Go.Proofs.YtgikaheojcpmpaaDoor
open Go.ChangeShapes Go.WideShapes Go.ChangeAt Go.RowKit Go.Maps
set_option linter.unusedVariables false
set_option linter.unusedSimpArgs false
set_option maxRecDepth 20000
set_option maxHeartbeats 8000000 in
theorem mergedBoth_ok (a b : Value) (n m : Nat) (L M : Nat → Nat) (X Y : Nat → Nat → Int) (w : World) (ha : MatAt w a n L X) (hb : MatAt w b m M Y) (h0 : prE n L X m M Y = 0) :
    Calls Tryd.prog 14 #[a, b, .bool true] w fun e w' => (∃ V, e = .returned (pairV V 0) ∧ New w w' V n (fun _ => n) (fun i k => (fun x y : Int => min x y) (X i k) (Y i k))) ∧ Below w.heap.size w w' := by
  have HA := hid ha
  have HB := hid hb
  obtain ⟨o1, o2, rfl⟩ := prE_ok h0
  have H1 := hid (chk_ok o1)
  have H2 := hid (chk_ok o2)
  have HO1 := hid o1
  have HO2 := hid o2
  obtain ⟨p, cap, rfl, _, _, hp⟩ := ha
  obtain ⟨q, cap2, rfl, _, _, hq⟩ := hb
  have hmx : (n : Int) ≤ 12 := by have := H1.out.1; omega
  have HP : Hid (0 < n → ∃ g off, p = some ⟨g, off, none⟩ ∧ ∀ i, i < n → ∃ u, w.cell? ⟨g, off + i, none⟩ = some u ∧ RowAt w u n (X i)) := fun h0 => by
    obtain ⟨g, off, e, hc⟩ := hp h0
    refine ⟨g, off, e, fun i hi => ?_⟩
    obtain ⟨u, h1, h2⟩ := hc i hi
    rw [(H1.out.2 i hi).1] at h2
    exact ⟨u, h1, h2⟩
  have HQ : Hid (0 < n → ∃ g off, q = some ⟨g, off, none⟩ ∧ ∀ i, i < n → ∃ u, w.cell? ⟨g, off + i, none⟩ = some u ∧ RowAt w u n (Y i)) := fun h0 => by
    obtain ⟨g, off, e, hc⟩ := hq h0
    refine ⟨g, off, e, fun i hi => ?_⟩
    obtain ⟨u, h1, h2⟩ := hc i hi
    rw [(H2.out.2 i hi).1] at h2
    exact ⟨u, h1, h2⟩
  have HF : Hid (Fit n L) := ⟨by have := H1.out.1; omega, fun i hi => by rw [(H1.out.2 i hi).1]; have := H1.out.1; omega⟩
  obtain ⟨Z, hZ⟩ : ∃ Z : Nat → Nat → Int, ∀ i k, Z i k = (fun x y : Int => min x y) (X i k) (Y i k) := ⟨_, fun _ _ => rfl⟩
  have HZ := hid hZ
  clear hp hq hZ h0 o1 o2
  go_enter Tryd.func14, Tryd.ntmps14
  go_wp2_with fail
  refine (matrixFault_any _ n L X _ HA.out).mono ?_
  rw [HO1.out]
  rintro e w1 ⟨rfl, hB1⟩
  have HB1 := hid hB1
  clear hB1
  go_wp2_with fail
  refine (matrixFault_any _ n M Y _ (HB.out.later HB1.out)).mono ?_
  rw [HO2.out]
  rintro e w2 ⟨rfl, hB2⟩
  have HB2 := hid (below_then HB1.out hB2 (Nat.le_refl _))
  clear hB2
  go_wp2_with fail
  refine (matrixCopy_any _ n L X _ (HA.out.later HB2.out) HF.out).mono ?_
  rintro e w3 ⟨⟨V, rfl, hNew⟩, hB3⟩
  have hNew := (hNew.from HB2.out.size).congr (M := fun _ => n) (Y := X) (fun i hi => (H1.out.2 i hi).1) (fun _ _ _ _ => rfl)
  obtain ⟨p3, cap3, b3, G, C, rfl, hp3, hc3, hc4, hO⟩ := hNew
  have HO := hid hO
  have HB3 := hid (below_then HB2.out hB3 (Nat.le_refl _))
  have HP3 := hid hp3
  have HC := hid (And.intro hc3 hc4)
  clear hO hB3 hp3 hc3 hc4
  go_wp2_with fail
  go_loopg [10] n (fun gg io wr => ∃ i : Nat, i ≤ n ∧ gg = n - i ∧ io = .int .i64 (i : Nat) ∧ (∃ Q, OwnM wr w.heap.size b3 n (fun _ => n) G C Q ∧ (∀ r k, r < i → k < n → Q r k = Z r k) ∧ ∀ r k, i ≤ r → r < n → k < n → Q r k = X r k) ∧ Below w.heap.size w wr)
  case atStart => exact ⟨0, by omega, by omega, rfl, ⟨_, HO.out, fun r k h => by omega, fun r k _ _ _ => rfl⟩, HB3.out⟩
  case round =>
    obtain ⟨i, hi, rfl, rfl, ⟨Q0, hO0, hQ0, hR0⟩, hBr⟩ := hrel
    have HO0 := hid hO0
    have HQ0 := hid hQ0
    have HR0 := hid hR0
    have HBR := hid hBr
    clear hO0 hQ0 hBr hR0
    by_cases hlt : i < n
    · have i1 : (0 : Int) ≤ (i : Int) := by omega
      have i2 : (i : Int) < (n : Int) := by omega
      obtain rfl := HP3.out (by omega)
      obtain ⟨wo, hwo⟩ : ∃ wo, wo = wr := ⟨_, rfl⟩
      rw [← hwo] at HO0 HBR ⊢
      clear hwo
      obtain ⟨gi, hgi⟩ : ∃ g, G i = g := ⟨_, rfl⟩
      have HGI := hid hgi
      obtain ⟨ci, hci⟩ : ∃ c, C i = c := ⟨_, rfl⟩
      have HCI := hid hci
      have hci2 : n ≤ ci := by rw [← hci]; exact (HO0.out.cp i hlt).1
      clear hgi hci
      go_wp2_with fail
      go_loopg [11] n (fun gg jo wi => ∃ j : Nat, j ≤ n ∧ gg = n - j ∧ jo = .int .i64 (j : Nat) ∧ (∃ Q, OwnM wi w.heap.size b3 n (fun _ => n) G C Q ∧ (∀ r k, r < i → k < n → Q r k = Z r k) ∧ (∀ k, k < j → Q i k = Z i k) ∧ (∀ k, j ≤ k → k < n → Q i k = X i k) ∧ ∀ r k, i < r → r < n → k < n → Q r k = X r k) ∧ Below w.heap.size w wi)
      case atStart => exact ⟨0, by omega, by omega, rfl, ⟨Q0, HO0.out, HQ0.out, fun k h => by omega, fun k _ hk => HR0.out i k (by omega) hlt hk, fun r k h1 h2 h3 => HR0.out r k (by omega) h2 h3⟩, HBR.out⟩
      case round =>
        obtain ⟨j, hj, rfl, rfl, ⟨Q1, hO1, hQ1, hQ2, hQ3, hQ4⟩, hB2⟩ := hrel
        have HO1 := hid hO1
        have HQ1 := hid hQ1
        have HQ2 := hid hQ2
        have HQ3 := hid hQ3
        have HQ4 := hid hQ4
        have HB4 := hid hB2
        clear hO1 hQ1 hQ2 hQ3 hQ4
        by_cases hjn : j < n
        · have j1 : (0 : Int) ≤ (j : Int) := by omega
          have j2 : (j : Int) < (n : Int) := by omega
          obtain ⟨g1, o1, rfl, r1⟩ := HP.out (by omega)
          obtain ⟨g2, o2, rfl, r2⟩ := HQ.out (by omega)
          obtain ⟨u1, x1, y1⟩ := r1 i hlt
          obtain ⟨u2, x2, y2⟩ := r2 i hlt
          have k1 := (hB2.cell (p := ⟨g1, o1 + i, none⟩) (World.block_lt_of_cell? _ _ x1)).trans x1
          have k2 := (hB2.cell (p := ⟨g2, o2 + i, none⟩) (World.block_lt_of_cell? _ _ x2)).trans x2
          obtain ⟨s1, cc1, rfl, _, _, e1⟩ := y1
          obtain ⟨s2, cc2, rfl, _, _, e2⟩ := y2
          obtain ⟨g3, o3, rfl, f1⟩ := e1 (by omega)
          obtain ⟨g4, o4, rfl, f2⟩ := e2 (by omega)
          have k3 := (hB2.cell (p := ⟨g3, o3 + j, none⟩) (World.block_lt_of_cell? _ _ (f1 j hjn))).trans (f1 j hjn)
          have k4 := (hB2.cell (p := ⟨g4, o4 + j, none⟩) (World.block_lt_of_cell? _ _ (f2 j hjn))).trans (f2 j hjn)
          have hgi : w.heap.size ≤ gi := by rw [← HGI.out]; exact HO1.out.gB i hlt (by omega)
          have l2 := World.block_lt_of_cell? _ _ x2
          have l4 := World.block_lt_of_cell? _ _ (f2 j hjn)
          simp only at l2 l4
          have n2 : g2 ≠ gi := by omega
          have n4 : g4 ≠ gi := by omega
          have n5 : b3 ≠ gi := by rw [← HGI.out]; exact fun c => HO1.out.gb i hlt (by omega) c.symm
          obtain ⟨q4, t0, ht0⟩ := HO1.out.top i hlt
          obtain rfl := ht0 (by omega)
          rw [HGI.out, HCI.out] at t0
          have k5 : wr.cell? ⟨gi, j, none⟩ = some (.int .i64 (Q1 i j)) := by rw [← HGI.out]; exact (HO1.out.row i hlt (by omega)).cell hjn
          have k6 : wr.frozen? ⟨gi, j, none⟩ = false := by rw [← HGI.out]; exact (HO1.out.row i hlt (by omega)).frozen j
          have HZ1 := hid (HZ.out i j)
          have HXJ := hid (HQ3.out j (Nat.le_refl _) hjn)
          obtain ⟨x, hx⟩ : ∃ x, X i j = x := ⟨_, rfl⟩
          obtain ⟨y, hy⟩ : ∃ y, Y i j = y := ⟨_, rfl⟩
          have HX := hid hx
          have HY := hid hy
          rw [hx] at k3
          rw [hy] at k4
          obtain ⟨zz, hzz⟩ : ∃ z, Q1 i j = z := ⟨_, rfl⟩
          rw [hzz] at k5
          have HST : Hid (∀ (t : Nat) v, Z i j = v → ∃ Q, OwnM ((wr.drewN t).setCell ⟨gi, j, none⟩ (.int .i64 v)) w.heap.size b3 n (fun _ => n) G C Q ∧ (∀ r k, r < i → k < n → Q r k = Z r k) ∧ (∀ k, k < j + 1 → Q i k = Z i k) ∧ (∀ k, j + 1 ≤ k → k < n → Q i k = X i k) ∧ ∀ r k, i < r → r < n → k < n → Q r k = X r k) := fun t v hv => by
            refine ⟨upd Q1 i j v, by rw [← HGI.out]; exact (HO1.out.drewN t).set hlt hjn v, fun r k hr hk => ?_, fun k hk => ?_, fun k hk h2 => ?_, fun r k h1 h2 h3 => ?_⟩
            · rw [upd, if_neg (by omega)]; exact HQ1.out r k hr hk
            · by_cases c : k = j
              · subst c; rw [upd, if_pos ⟨rfl, rfl⟩]; exact hv.symm
              · rw [upd, if_neg (by omega)]; exact HQ2.out k (by omega)
            · rw [upd, if_neg (by omega)]; exact HQ3.out k (by omega) h2
            · rw [upd, if_neg (by omega)]; exact HQ4.out r k h1 h2 h3
          have HSM : Hid (∀ (t : Nat), Z i j = x → ∃ Q, OwnM (wr.drewN t) w.heap.size b3 n (fun _ => n) G C Q ∧ (∀ r k, r < i → k < n → Q r k = Z r k) ∧ (∀ k, k < j + 1 → Q i k = Z i k) ∧ (∀ k, j + 1 ≤ k → k < n → Q i k = X i k) ∧ ∀ r k, i < r → r < n → k < n → Q r k = X r k) := fun t hv => by
            refine ⟨Q1, HO1.out.drewN t, HQ1.out, fun k hk => ?_, fun k hk h2 => HQ3.out k (by omega) h2, HQ4.out⟩
            by_cases c : k = j
            · subst c; rw [HXJ.out, HX.out, hv]
            · exact HQ2.out k (by omega)
          have HSB : Hid (∀ (t : Nat) v, Below w.heap.size w ((wr.drewN t).setCell ⟨gi, j, none⟩ (.int .i64 v))) := fun t v => (below_drewN HB4.out t).setCell (by show w.heap.size ≤ gi; exact hgi) _
          have HKS : Hid (∀ (t : Nat) v, ((wr.drewN t).setCell ⟨gi, j, none⟩ v).cell? ⟨b3, i, none⟩ = some (.slice (some ⟨gi, 0, none⟩) n ci) ∧ ((wr.drewN t).setCell ⟨gi, j, none⟩ v).cell? ⟨g2, o2 + i, none⟩ = some (.slice (some ⟨g4, o4, none⟩) n cc2) ∧ ((wr.drewN t).setCell ⟨gi, j, none⟩ v).cell? ⟨g4, o4 + j, none⟩ = some (.int .i64 y)) := fun t v => ⟨cellS (W := wr.drewN t) t0 n5, cellS (W := wr.drewN t) k2 n2, cellS (W := wr.drewN t) k4 n4⟩
          clear r1 r2 x1 x2 f1 f2 e1 e2 hB2 hx hy hzz l2 l4 hgi ht0
          by_cases hyx : y < x
          · have HV := hid (show Z i j = y by rw [HZ1.out, HX.out, HY.out]; show min x y = _; omega)
            go_wp2_with fail
            go_quiet (fail)
            go_wp2_with fail
            go_region_held3 (fun w' => w'.cell? ⟨b3, i, none⟩ = some (.slice (some ⟨gi, 0, none⟩) n ci) ∧ w'.cell? ⟨g2, o2 + i, none⟩ = some (.slice (some ⟨g4, o4, none⟩) n cc2) ∧ w'.cell? ⟨g4, o4 + j, none⟩ = some (.int .i64 y)) (first | exact HKS.out _ _ | go_keep) (fail)
            all_goals
              go_wp2_with fail
              go_roundg (n - (j + 1))
              case rel => exact ⟨j + 1, by omega, rfl, by go_num, HST.out _ _ HV.out, HSB.out _ _⟩
              case measure => omega
          · have HV := hid (show Z i j = x by rw [HZ1.out, HX.out, HY.out]; show min x y = _; omega)
            have hd : decide (y < x) = false := by simp [hyx]
            have hle : x ≤ y := by omega
            go_wp2_with fail
            go_quiet (fail)
            go_wp2_with fail
            go_roundg (n - (j + 1))
            case rel => exact ⟨j + 1, by omega, rfl, by go_num, HSM.out _ HV.out, below_drewN HB4.out _⟩
            case measure => omega
        · obtain rfl : j = n := by omega
          clear hB2
          go_wp2_with fail
          go_roundg (j - (i + 1))
          case rel => exact ⟨i + 1, by omega, rfl, by go_num, ⟨Q1, HO1.out, fun r k hr hk => by by_cases c : r = i; (subst c; exact HQ2.out k hk); exact HQ1.out r k (by omega) hk, fun r k h1 h2 h3 => HQ4.out r k (by omega) h2 h3⟩, HB4.out⟩
          case measure => omega
    · obtain rfl : i = n := by omega
      go_wp2_with fail
      go_ret2
      refine ⟨⟨_, rfl, ?_⟩, HBR.out⟩
      exact ⟨p3, cap3, b3, G, C, rfl, HP3.out, HC.out.1, HC.out.2, HO0.out.congr (fun _ _ => rfl) fun r hr k hk => by rw [HQ0.out r k hr hk, HZ.out]⟩
set_option maxHeartbeats 8000000 in
theorem mergedEither_ok (a b : Value) (n m : Nat) (L M : Nat → Nat) (X Y : Nat → Nat → Int) (w : World) (ha : MatAt w a n L X) (hb : MatAt w b m M Y) (h0 : prE n L X m M Y = 0) :
    Calls Tryd.prog 14 #[a, b, .bool false] w fun e w' => (∃ V, e = .returned (pairV V 0) ∧ New w w' V n (fun _ => n) (fun i k => (fun x y : Int => max x y) (X i k) (Y i k))) ∧ Below w.heap.size w w' := by
  have HA := hid ha
  have HB := hid hb
  obtain ⟨o1, o2, rfl⟩ := prE_ok h0
  have H1 := hid (chk_ok o1)
  have H2 := hid (chk_ok o2)
  have HO1 := hid o1
  have HO2 := hid o2
  obtain ⟨p, cap, rfl, _, _, hp⟩ := ha
  obtain ⟨q, cap2, rfl, _, _, hq⟩ := hb
  have hmx : (n : Int) ≤ 12 := by have := H1.out.1; omega
  have HP : Hid (0 < n → ∃ g off, p = some ⟨g, off, none⟩ ∧ ∀ i, i < n → ∃ u, w.cell? ⟨g, off + i, none⟩ = some u ∧ RowAt w u n (X i)) := fun h0 => by
    obtain ⟨g, off, e, hc⟩ := hp h0
    refine ⟨g, off, e, fun i hi => ?_⟩
    obtain ⟨u, h1, h2⟩ := hc i hi
    rw [(H1.out.2 i hi).1] at h2
    exact ⟨u, h1, h2⟩
  have HQ : Hid (0 < n → ∃ g off, q = some ⟨g, off, none⟩ ∧ ∀ i, i < n → ∃ u, w.cell? ⟨g, off + i, none⟩ = some u ∧ RowAt w u n (Y i)) := fun h0 => by
    obtain ⟨g, off, e, hc⟩ := hq h0
    refine ⟨g, off, e, fun i hi => ?_⟩
    obtain ⟨u, h1, h2⟩ := hc i hi
    rw [(H2.out.2 i hi).1] at h2
    exact ⟨u, h1, h2⟩
  have HF : Hid (Fit n L) := ⟨by have := H1.out.1; omega, fun i hi => by rw [(H1.out.2 i hi).1]; have := H1.out.1; omega⟩
  obtain ⟨Z, hZ⟩ : ∃ Z : Nat → Nat → Int, ∀ i k, Z i k = (fun x y : Int => max x y) (X i k) (Y i k) := ⟨_, fun _ _ => rfl⟩
  have HZ := hid hZ
  clear hp hq hZ h0 o1 o2
  go_enter Tryd.func14, Tryd.ntmps14
  go_wp2_with fail
  refine (matrixFault_any _ n L X _ HA.out).mono ?_
  rw [HO1.out]
  rintro e w1 ⟨rfl, hB1⟩
  have HB1 := hid hB1
  clear hB1
  go_wp2_with fail
  refine (matrixFault_any _ n M Y _ (HB.out.later HB1.out)).mono ?_
  rw [HO2.out]
  rintro e w2 ⟨rfl, hB2⟩
  have HB2 := hid (below_then HB1.out hB2 (Nat.le_refl _))
  clear hB2
  go_wp2_with fail
  refine (matrixCopy_any _ n L X _ (HA.out.later HB2.out) HF.out).mono ?_
  rintro e w3 ⟨⟨V, rfl, hNew⟩, hB3⟩
  have hNew := (hNew.from HB2.out.size).congr (M := fun _ => n) (Y := X) (fun i hi => (H1.out.2 i hi).1) (fun _ _ _ _ => rfl)
  obtain ⟨p3, cap3, b3, G, C, rfl, hp3, hc3, hc4, hO⟩ := hNew
  have HO := hid hO
  have HB3 := hid (below_then HB2.out hB3 (Nat.le_refl _))
  have HP3 := hid hp3
  have HC := hid (And.intro hc3 hc4)
  clear hO hB3 hp3 hc3 hc4
  go_wp2_with fail
  go_loopg [10] n (fun gg io wr => ∃ i : Nat, i ≤ n ∧ gg = n - i ∧ io = .int .i64 (i : Nat) ∧ (∃ Q, OwnM wr w.heap.size b3 n (fun _ => n) G C Q ∧ (∀ r k, r < i → k < n → Q r k = Z r k) ∧ ∀ r k, i ≤ r → r < n → k < n → Q r k = X r k) ∧ Below w.heap.size w wr)
  case atStart => exact ⟨0, by omega, by omega, rfl, ⟨_, HO.out, fun r k h => by omega, fun r k _ _ _ => rfl⟩, HB3.out⟩
  case round =>
    obtain ⟨i, hi, rfl, rfl, ⟨Q0, hO0, hQ0, hR0⟩, hBr⟩ := hrel
    have HO0 := hid hO0
    have HQ0 := hid hQ0
    have HR0 := hid hR0
    have HBR := hid hBr
    clear hO0 hQ0 hBr hR0
    by_cases hlt : i < n
    · have i1 : (0 : Int) ≤ (i : Int) := by omega
      have i2 : (i : Int) < (n : Int) := by omega
      obtain rfl := HP3.out (by omega)
      obtain ⟨wo, hwo⟩ : ∃ wo, wo = wr := ⟨_, rfl⟩
      rw [← hwo] at HO0 HBR ⊢
      clear hwo
      obtain ⟨gi, hgi⟩ : ∃ g, G i = g := ⟨_, rfl⟩
      have HGI := hid hgi
      obtain ⟨ci, hci⟩ : ∃ c, C i = c := ⟨_, rfl⟩
      have HCI := hid hci
      have hci2 : n ≤ ci := by rw [← hci]; exact (HO0.out.cp i hlt).1
      clear hgi hci
      go_wp2_with fail
      go_loopg [11] n (fun gg jo wi => ∃ j : Nat, j ≤ n ∧ gg = n - j ∧ jo = .int .i64 (j : Nat) ∧ (∃ Q, OwnM wi w.heap.size b3 n (fun _ => n) G C Q ∧ (∀ r k, r < i → k < n → Q r k = Z r k) ∧ (∀ k, k < j → Q i k = Z i k) ∧ (∀ k, j ≤ k → k < n → Q i k = X i k) ∧ ∀ r k, i < r → r < n → k < n → Q r k = X r k) ∧ Below w.heap.size w wi)
      case atStart => exact ⟨0, by omega, by omega, rfl, ⟨Q0, HO0.out, HQ0.out, fun k h => by omega, fun k _ hk => HR0.out i k (by omega) hlt hk, fun r k h1 h2 h3 => HR0.out r k (by omega) h2 h3⟩, HBR.out⟩
      case round =>
        obtain ⟨j, hj, rfl, rfl, ⟨Q1, hO1, hQ1, hQ2, hQ3, hQ4⟩, hB2⟩ := hrel
        have HO1 := hid hO1
        have HQ1 := hid hQ1
        have HQ2 := hid hQ2
        have HQ3 := hid hQ3
        have HQ4 := hid hQ4
        have HB4 := hid hB2
        clear hO1 hQ1 hQ2 hQ3 hQ4
        by_cases hjn : j < n
        · have j1 : (0 : Int) ≤ (j : Int) := by omega
          have j2 : (j : Int) < (n : Int) := by omega
          obtain ⟨g1, o1, rfl, r1⟩ := HP.out (by omega)
          obtain ⟨g2, o2, rfl, r2⟩ := HQ.out (by omega)
          obtain ⟨u1, x1, y1⟩ := r1 i hlt
          obtain ⟨u2, x2, y2⟩ := r2 i hlt
          have k1 := (hB2.cell (p := ⟨g1, o1 + i, none⟩) (World.block_lt_of_cell? _ _ x1)).trans x1
          have k2 := (hB2.cell (p := ⟨g2, o2 + i, none⟩) (World.block_lt_of_cell? _ _ x2)).trans x2
          obtain ⟨s1, cc1, rfl, _, _, e1⟩ := y1
          obtain ⟨s2, cc2, rfl, _, _, e2⟩ := y2
          obtain ⟨g3, o3, rfl, f1⟩ := e1 (by omega)
          obtain ⟨g4, o4, rfl, f2⟩ := e2 (by omega)
          have k3 := (hB2.cell (p := ⟨g3, o3 + j, none⟩) (World.block_lt_of_cell? _ _ (f1 j hjn))).trans (f1 j hjn)
          have k4 := (hB2.cell (p := ⟨g4, o4 + j, none⟩) (World.block_lt_of_cell? _ _ (f2 j hjn))).trans (f2 j hjn)
          have hgi : w.heap.size ≤ gi := by rw [← HGI.out]; exact HO1.out.gB i hlt (by omega)
          have l2 := World.block_lt_of_cell? _ _ x2
          have l4 := World.block_lt_of_cell? _ _ (f2 j hjn)
          simp only at l2 l4
          have n2 : g2 ≠ gi := by omega
          have n4 : g4 ≠ gi := by omega
          have n5 : b3 ≠ gi := by rw [← HGI.out]; exact fun c => HO1.out.gb i hlt (by omega) c.symm
          obtain ⟨q4, t0, ht0⟩ := HO1.out.top i hlt
          obtain rfl := ht0 (by omega)
          rw [HGI.out, HCI.out] at t0
          have k5 : wr.cell? ⟨gi, j, none⟩ = some (.int .i64 (Q1 i j)) := by rw [← HGI.out]; exact (HO1.out.row i hlt (by omega)).cell hjn
          have k6 : wr.frozen? ⟨gi, j, none⟩ = false := by rw [← HGI.out]; exact (HO1.out.row i hlt (by omega)).frozen j
          have HZ1 := hid (HZ.out i j)
          have HXJ := hid (HQ3.out j (Nat.le_refl _) hjn)
          obtain ⟨x, hx⟩ : ∃ x, X i j = x := ⟨_, rfl⟩
          obtain ⟨y, hy⟩ : ∃ y, Y i j = y := ⟨_, rfl⟩
          have HX := hid hx
          have HY := hid hy
          rw [hx] at k3
          rw [hy] at k4
          obtain ⟨zz, hzz⟩ : ∃ z, Q1 i j = z := ⟨_, rfl⟩
          rw [hzz] at k5
          have HST : Hid (∀ (t : Nat) v, Z i j = v → ∃ Q, OwnM ((wr.drewN t).setCell ⟨gi, j, none⟩ (.int .i64 v)) w.heap.size b3 n (fun _ => n) G C Q ∧ (∀ r k, r < i → k < n → Q r k = Z r k) ∧ (∀ k, k < j + 1 → Q i k = Z i k) ∧ (∀ k, j + 1 ≤ k → k < n → Q i k = X i k) ∧ ∀ r k, i < r → r < n → k < n → Q r k = X r k) := fun t v hv => by
            refine ⟨upd Q1 i j v, by rw [← HGI.out]; exact (HO1.out.drewN t).set hlt hjn v, fun r k hr hk => ?_, fun k hk => ?_, fun k hk h2 => ?_, fun r k h1 h2 h3 => ?_⟩
            · rw [upd, if_neg (by omega)]; exact HQ1.out r k hr hk
            · by_cases c : k = j
              · subst c; rw [upd, if_pos ⟨rfl, rfl⟩]; exact hv.symm
              · rw [upd, if_neg (by omega)]; exact HQ2.out k (by omega)
            · rw [upd, if_neg (by omega)]; exact HQ3.out k (by omega) h2
            · rw [upd, if_neg (by omega)]; exact HQ4.out r k h1 h2 h3
          have HSM : Hid (∀ (t : Nat), Z i j = x → ∃ Q, OwnM (wr.drewN t) w.heap.size b3 n (fun _ => n) G C Q ∧ (∀ r k, r < i → k < n → Q r k = Z r k) ∧ (∀ k, k < j + 1 → Q i k = Z i k) ∧ (∀ k, j + 1 ≤ k → k < n → Q i k = X i k) ∧ ∀ r k, i < r → r < n → k < n → Q r k = X r k) := fun t hv => by
            refine ⟨Q1, HO1.out.drewN t, HQ1.out, fun k hk => ?_, fun k hk h2 => HQ3.out k (by omega) h2, HQ4.out⟩
            by_cases c : k = j
            · subst c; rw [HXJ.out, HX.out, hv]
            · exact HQ2.out k (by omega)
          have HSB : Hid (∀ (t : Nat) v, Below w.heap.size w ((wr.drewN t).setCell ⟨gi, j, none⟩ (.int .i64 v))) := fun t v => (below_drewN HB4.out t).setCell (by show w.heap.size ≤ gi; exact hgi) _
          have HKS : Hid (∀ (t : Nat) v, ((wr.drewN t).setCell ⟨gi, j, none⟩ v).cell? ⟨b3, i, none⟩ = some (.slice (some ⟨gi, 0, none⟩) n ci) ∧ ((wr.drewN t).setCell ⟨gi, j, none⟩ v).cell? ⟨g2, o2 + i, none⟩ = some (.slice (some ⟨g4, o4, none⟩) n cc2) ∧ ((wr.drewN t).setCell ⟨gi, j, none⟩ v).cell? ⟨g4, o4 + j, none⟩ = some (.int .i64 y)) := fun t v => ⟨cellS (W := wr.drewN t) t0 n5, cellS (W := wr.drewN t) k2 n2, cellS (W := wr.drewN t) k4 n4⟩
          clear r1 r2 x1 x2 f1 f2 e1 e2 hB2 hx hy hzz l2 l4 hgi ht0
          by_cases hyx : y < x
          · have HV := hid (show Z i j = x by rw [HZ1.out, HX.out, HY.out]; show max x y = _; omega)
            go_wp2_with fail
            go_quiet (fail)
            go_wp2_with fail
            go_roundg (n - (j + 1))
            case rel => exact ⟨j + 1, by omega, rfl, by go_num, HSM.out _ HV.out, below_drewN HB4.out _⟩
            case measure => omega
          · have HV := hid (show Z i j = y by rw [HZ1.out, HX.out, HY.out]; show max x y = _; omega)
            have hd : decide (y < x) = false := by simp [hyx]
            have hle : x ≤ y := by omega
            go_wp2_with fail
            go_quiet (fail)
            go_wp2_with fail
            go_region_held3 (fun w' => w'.cell? ⟨b3, i, none⟩ = some (.slice (some ⟨gi, 0, none⟩) n ci) ∧ w'.cell? ⟨g2, o2 + i, none⟩ = some (.slice (some ⟨g4, o4, none⟩) n cc2) ∧ w'.cell? ⟨g4, o4 + j, none⟩ = some (.int .i64 y)) (first | exact HKS.out _ _ | go_keep) (fail)
            all_goals
              go_wp2_with fail
              go_roundg (n - (j + 1))
              case rel => exact ⟨j + 1, by omega, rfl, by go_num, HST.out _ _ HV.out, HSB.out _ _⟩
              case measure => omega
        · obtain rfl : j = n := by omega
          clear hB2
          go_wp2_with fail
          go_roundg (j - (i + 1))
          case rel => exact ⟨i + 1, by omega, rfl, by go_num, ⟨Q1, HO1.out, fun r k hr hk => by by_cases c : r = i; (subst c; exact HQ2.out k hk); exact HQ1.out r k (by omega) hk, fun r k h1 h2 h3 => HQ4.out r k (by omega) h2 h3⟩, HB4.out⟩
          case measure => omega
    · obtain rfl : i = n := by omega
      go_wp2_with fail
      go_ret2
      refine ⟨⟨_, rfl, ?_⟩, HBR.out⟩
      exact ⟨p3, cap3, b3, G, C, rfl, HP3.out, HC.out.1, HC.out.2, HO0.out.congr (fun _ _ => rfl) fun r hr k hk => by rw [HQ0.out r k hr hk, HZ.out]⟩
set_option maxHeartbeats 4000000 in
theorem merged_bad (a b : Value) (l : Bool) (n m : Nat) (L M : Nat → Nat) (X Y : Nat → Nat → Int) (w : World) (ha : MatAt w a n L X) (hb : MatAt w b m M Y) (r : Int) (h0 : prE n L X m M Y = r) (hr0 : r ≠ 0) :
    Calls Tryd.prog 14 #[a, b, .bool l] w fun e w' => e = .returned (pairV (.slice none 0 0) r) ∧ Below w.heap.size w w' := by
  have HA := hid ha
  have HB := hid hb
  obtain ⟨p, cap, rfl, c1, c2, _⟩ := ha
  obtain ⟨q, cap2, rfl, c3, c4, _⟩ := hb
  have hmx : (n : Int) ≤ 9223372036854775807 := by unfold maxLen at c2; omega
  have hmx2 : (m : Int) ≤ 9223372036854775807 := by unfold maxLen at c4; omega
  clear c1 c2 c3 c4
  have hr := h0
  clear h0
  unfold prE at hr
  obtain ⟨e1, he1⟩ : ∃ e, chk n L X = e := ⟨_, rfl⟩
  obtain ⟨e2, he2⟩ : ∃ e, chk m M Y = e := ⟨_, rfl⟩
  rw [he1, he2] at hr
  have HE1 := hid he1
  have HE2 := hid he2
  clear he1 he2
  by_cases h1 : e1 = 0
  · subst h1
    rw [if_neg (by simp)] at hr
    by_cases h2 : e2 = 0
    · subst h2
      rw [if_neg (by simp)] at hr
      by_cases h3 : n = m
      · rw [if_neg (by simp [h3])] at hr
        exact absurd hr.symm hr0
      · rw [if_pos h3] at hr
        subst hr
        have d : ((n : Int) != (m : Int)) = true := by simp; omega
        clear h3
        go_enter Tryd.func14, Tryd.ntmps14
        go_wp2_with fail
        refine (matrixFault_any _ n L X _ HA.out).mono ?_
        rw [HE1.out]
        rintro e w1 ⟨rfl, hB1⟩
        have HB1 := hid hB1
        clear hB1
        go_wp2_with fail
        refine (matrixFault_any _ m M Y _ (HB.out.later HB1.out)).mono ?_
        rw [HE2.out]
        rintro e w2 ⟨rfl, hB2⟩
        have HB2 := hid (below_then HB1.out hB2 (Nat.le_refl _))
        clear hB2
        go_wp2_with fail
        go_ret2
        exact ⟨rfl, HB2.out⟩
    · rw [if_pos h2] at hr
      subst hr
      have d : (e2 != 0) = true := by simpa using h2
      have d2 : (e2 == 0) = false := by simpa using h2
      clear h2 hr0
      go_enter Tryd.func14, Tryd.ntmps14
      go_wp2_with fail
      refine (matrixFault_any _ n L X _ HA.out).mono ?_
      rw [HE1.out]
      rintro e w1 ⟨rfl, hB1⟩
      have HB1 := hid hB1
      clear hB1
      go_wp2_with fail
      refine (matrixFault_any _ m M Y _ (HB.out.later HB1.out)).mono ?_
      rw [HE2.out]
      rintro e w2 ⟨rfl, hB2⟩
      have HB2 := hid (below_then HB1.out hB2 (Nat.le_refl _))
      clear hB2
      go_wp2_with fail
      go_ret2
      exact ⟨rfl, HB2.out⟩
  · rw [if_pos h1] at hr
    subst hr
    have d : (e1 != 0) = true := by simpa using h1
    have d2 : (e1 == 0) = false := by simpa using h1
    clear h1 hr0
    go_enter Tryd.func14, Tryd.ntmps14
    go_wp2_with fail
    refine (matrixFault_any _ n L X _ HA.out).mono ?_
    rw [HE1.out]
    rintro e w1 ⟨rfl, hB1⟩
    have HB1 := hid hB1
    clear hB1
    go_wp2_with fail
    go_ret2
    exact ⟨rfl, HB1.out⟩
end Go.Proofs.YtgikaheojcpmpaaDoor
