/-
  Two matrices joined, bound by bound.
-/
import Derived.Test.YtgikaheojcpmpabDoorG
namespace Go.Proofs.YtgikaheojcpmpabDoor
open Go.ChangeShapes Go.WideShapes Go.ChangeAt Go.RowKit Go.Maps
set_option linter.unusedVariables false
set_option linter.unusedSimpArgs false
set_option maxRecDepth 20000
set_option maxHeartbeats 4000000 in
theorem oneClose_any (x y : Int) (w : World) : Calls Tryd.prog 21 #[.int .i64 x, .int .i64 y] w fun e w' => e = .returned (.int .i64 (x)) ∧ w' = w := by
  go_enter Tryd.func21, Tryd.ntmps21
  go_wp2
  all_goals
    go_ret
    exact ⟨by first | rfl | (simp; omega), rfl⟩
set_option maxHeartbeats 8000000 in
theorem joinClose_any (a b : Value) (n : Nat) (L M : Nat → Nat) (X Y : Nat → Nat → Int) (w : World) (ha : MatAt w a n L X) (hb : MatAt w b n M Y) (hL : ∀ i, i < n → L i = n) (hM : ∀ i, i < n → M i = n) (hn : n ≤ 12) :
    Calls Tryd.prog 14 #[a, b, .func (.func 21) #[] #[]] w fun e w' => (∃ V, e = .returned V ∧ New w w' V n (fun _ => n) (fun i k => (fun x y : Int => x) (X i k) (Y i k))) ∧ Below w.heap.size w w' := by
  have HA := hid ha
  have HBB := hid hb
  obtain ⟨p, cap, rfl, _, _, hp⟩ := ha
  obtain ⟨q, cap2, rfl, _, _, hq⟩ := hb
  have hmx : (n : Int) ≤ 12 := by omega
  have HP : Hid (0 < n → ∃ g off, p = some ⟨g, off, none⟩ ∧ ∀ i, i < n → ∃ u, w.cell? ⟨g, off + i, none⟩ = some u ∧ RowAt w u n (X i)) := fun h0 => by
    obtain ⟨g, off, e, hc⟩ := hp h0
    refine ⟨g, off, e, fun i hi => ?_⟩
    obtain ⟨u, h1, h2⟩ := hc i hi
    rw [hL i hi] at h2
    exact ⟨u, h1, h2⟩
  have HQ : Hid (0 < n → ∃ g off, q = some ⟨g, off, none⟩ ∧ ∀ i, i < n → ∃ u, w.cell? ⟨g, off + i, none⟩ = some u ∧ RowAt w u n (Y i)) := fun h0 => by
    obtain ⟨g, off, e, hc⟩ := hq h0
    refine ⟨g, off, e, fun i hi => ?_⟩
    obtain ⟨u, h1, h2⟩ := hc i hi
    rw [hM i hi] at h2
    exact ⟨u, h1, h2⟩
  have HN := hid hn
  obtain ⟨Z, hZ⟩ : ∃ Z : Nat → Nat → Int, ∀ i k, Z i k = (fun x y : Int => x) (X i k) (Y i k) := ⟨_, fun _ _ => rfl⟩
  have HZ := hid hZ
  clear hp hq hL hM hn hZ
  go_enter Tryd.func14, Tryd.ntmps14
  go_wp2_with fail
  refine (free_any n _ HN.out).mono ?_
  rintro e w1 ⟨⟨V, rfl, hNew⟩, hB1⟩
  obtain ⟨p3, cap3, b3, G, C, rfl, hp3, hc3, hc4, hO⟩ := hNew
  have HO := hid hO
  have HB1 := hid hB1
  have HP3 := hid hp3
  have HC := hid (And.intro hc3 hc4)
  clear hO hB1 hp3 hc3 hc4
  go_wp2_with fail
  go_loopg [16] n (fun gg io wr => ∃ i : Nat, i ≤ n ∧ gg = n - i ∧ io = .int .i64 (i : Nat) ∧ (∃ Q, OwnM wr w.heap.size b3 n (fun _ => n) G C Q ∧ ∀ r k, r < i → k < n → Q r k = Z r k) ∧ Below w.heap.size w wr)
  case atStart => exact ⟨0, by omega, by omega, rfl, ⟨_, HO.out, fun r k h => by omega⟩, HB1.out⟩
  case round =>
    obtain ⟨i, hi, rfl, rfl, ⟨Q0, hO0, hQ0⟩, hBr⟩ := hrel
    have HO0 := hid hO0
    have HQ0 := hid hQ0
    have HBR := hid hBr
    clear hO0 hQ0 hBr
    by_cases hlt : i < n
    · have i1 : (0 : Int) ≤ (i : Int) := by omega
      have i2 : (i : Int) < (n : Int) := by omega
      obtain rfl := HP3.out (by omega)
      obtain ⟨q4, t0, ht0⟩ := HO0.out.top i hlt
      obtain rfl := ht0 (by omega)
      obtain ⟨ci, hci⟩ : ∃ c, C i = c := ⟨_, rfl⟩
      have hci2 : n ≤ ci := by rw [← hci]; exact (HO0.out.cp i hlt).1
      rw [hci] at t0
      obtain ⟨gi, hgi⟩ : ∃ g, G i = g := ⟨_, rfl⟩
      have HGI := hid hgi
      rw [hgi] at t0
      clear ht0 hci hgi
      obtain ⟨wo, hwo⟩ : ∃ wo, wo = wr := ⟨_, rfl⟩
      rw [← hwo] at HO0 HBR t0 ⊢
      clear hwo
      go_wp2_with fail
      clear t0
      go_loopg [23] n (fun gg jo wi => ∃ j : Nat, j ≤ n ∧ gg = n - j ∧ jo = .int .i64 (j : Nat) ∧ (∃ Q, OwnM wi w.heap.size b3 n (fun _ => n) G C Q ∧ (∀ r k, r < i → k < n → Q r k = Z r k) ∧ ∀ k, k < j → Q i k = Z i k) ∧ Below w.heap.size w wi)
      case atStart => exact ⟨0, by omega, by omega, rfl, ⟨Q0, HO0.out, HQ0.out, fun k h => by omega⟩, HBR.out⟩
      case round =>
        obtain ⟨j, hj, rfl, rfl, ⟨Q1, hO1, hQ1, hQ2⟩, hB2⟩ := hrel
        have HO1 := hid hO1
        have HQ1 := hid hQ1
        have HQ2 := hid hQ2
        have HB2 := hid hB2
        clear hO1 hQ1 hQ2
        by_cases hjn : j < n
        · have j1 : (0 : Int) ≤ (j : Int) := by omega
          have j2 : (j : Int) < (n : Int) := by omega
          obtain ⟨g1, o1, rfl, r1⟩ := HP.out (by omega)
          obtain ⟨g2, o2, rfl, r2⟩ := HQ.out (by omega)
          obtain ⟨u1, x1, y1⟩ := r1 i hlt
          obtain ⟨u2, x2, y2⟩ := r2 i hlt
          have k1 := (hB2.cell (p := ⟨g1, o1 + i, none⟩) (World.block_lt_of_cell? _ _ x1)).trans x1
          have k2 := (hB2.cell (p := ⟨g2, o2 + i, none⟩) (World.block_lt_of_cell? _ _ x2)).trans x2
          obtain ⟨s1, cc1, rfl, _, _, e1⟩ := y1.later hB2
          obtain ⟨s2, cc2, rfl, _, _, e2⟩ := y2.later hB2
          obtain ⟨g3, o3, rfl, f1⟩ := e1 (by omega)
          obtain ⟨g4, o4, rfl, f2⟩ := e2 (by omega)
          have k3 := f1 j hjn
          have k4 := f2 j hjn
          have k5 : wr.cell? ⟨gi, j, none⟩ = some (.int .i64 (Q1 i j)) := by rw [← HGI.out]; exact (HO1.out.row i hlt (by omega)).cell hjn
          have k6 : wr.frozen? ⟨gi, j, none⟩ = false := by rw [← HGI.out]; exact (HO1.out.row i hlt (by omega)).frozen j
          have HZ1 := hid (HZ.out i j)
          obtain ⟨x, hx⟩ : ∃ x, X i j = x := ⟨_, rfl⟩
          obtain ⟨y, hy⟩ : ∃ y, Y i j = y := ⟨_, rfl⟩
          have HX := hid hx
          have HY := hid hy
          rw [hx] at k3
          rw [hy] at k4
          obtain ⟨zz, hzz⟩ : ∃ z, Q1 i j = z := ⟨_, rfl⟩
          rw [hzz] at k5
          have HST : Hid (∀ v, Z i j = v → ∃ Q, OwnM (wr.setCell ⟨gi, j, none⟩ (.int .i64 v)).drew w.heap.size b3 n (fun _ => n) G C Q ∧ (∀ r k, r < i → k < n → Q r k = Z r k) ∧ ∀ k, k < j + 1 → Q i k = Z i k) := fun v hv => by
            refine ⟨upd Q1 i j v, by rw [← HGI.out]; exact (HO1.out.set hlt hjn v).drew, fun r k hr hk => ?_, fun k hk => ?_⟩
            · rw [upd, if_neg (by omega)]; exact HQ1.out r k hr hk
            · by_cases c : k = j
              · subst c; rw [upd, if_pos ⟨rfl, rfl⟩]; exact hv.symm
              · rw [upd, if_neg (by omega)]; exact HQ2.out k (by omega)
          have HSB : Hid (∀ v, Below w.heap.size w (wr.setCell ⟨gi, j, none⟩ (.int .i64 v)).drew) := fun v => (HB2.out.setCell (by show w.heap.size ≤ gi; rw [← HGI.out]; exact HO1.out.gB i hlt (by omega)) _).drew
          have hgi : w.heap.size ≤ gi := by rw [← HGI.out]; exact HO1.out.gB i hlt (by omega)
          have l1 := World.block_lt_of_cell? _ _ x1
          have l2 := World.block_lt_of_cell? _ _ x2
          obtain ⟨_, _, ee1, _, _, ff1⟩ := y1
          obtain ⟨_, _, ee2, _, _, ff2⟩ := y2
          cases ee1
          cases ee2
          obtain ⟨_, _, ee3, gg1⟩ := ff1 (by omega)
          obtain ⟨_, _, ee4, gg2⟩ := ff2 (by omega)
          cases ee3
          cases ee4
          have l3 := World.block_lt_of_cell? _ _ (gg1 j hjn)
          have l4 := World.block_lt_of_cell? _ _ (gg2 j hjn)
          simp only at l1 l2 l3 l4
          have n1 : g1 ≠ gi := by omega
          have n2 : g2 ≠ gi := by omega
          have n3 : g3 ≠ gi := by omega
          have n4 : g4 ≠ gi := by omega
          clear r1 r2 x1 x2 gg1 gg2 ff1 ff2 f1 f2 e1 e2 hB2 hx hy hzz l1 l2 l3 l4 hgi
          have HKS : Hid (∀ v, (wr.setCell ⟨gi, j, none⟩ v).drew.cell? ⟨g1, o1 + i, none⟩ = some (.slice (some ⟨g3, o3, none⟩) n cc1) ∧ (wr.setCell ⟨gi, j, none⟩ v).drew.cell? ⟨g2, o2 + i, none⟩ = some (.slice (some ⟨g4, o4, none⟩) n cc2) ∧ (wr.setCell ⟨gi, j, none⟩ v).drew.cell? ⟨g3, o3 + j, none⟩ = some (.int .i64 x) ∧ (wr.setCell ⟨gi, j, none⟩ v).drew.cell? ⟨g4, o4 + j, none⟩ = some (.int .i64 y)) := fun v => ⟨cellS k1 n1, cellS k2 n2, cellS k3 n3, cellS k4 n4⟩
          go_wp2_with fail
          go_region_held3 (fun w' => w'.cell? ⟨g1, o1 + i, none⟩ = some (.slice (some ⟨g3, o3, none⟩) n cc1) ∧ w'.cell? ⟨g2, o2 + i, none⟩ = some (.slice (some ⟨g4, o4, none⟩) n cc2) ∧ w'.cell? ⟨g3, o3 + j, none⟩ = some (.int .i64 x) ∧ w'.cell? ⟨g4, o4 + j, none⟩ = some (.int .i64 y)) (first | exact HKS.out _ | go_keep) ((refine (oneClose_any x y _).mono ?_; rintro e w5 ⟨rfl, rfl⟩))
          all_goals
            go_wp2_with fail
            go_roundg (n - (j + 1))
            case rel => exact ⟨j + 1, by omega, rfl, by go_num, HST.out _ (by first | rw [HZ1.out, HX.out, HY.out] | rw [HZ1.out, HX.out]), HSB.out _⟩
            case measure => omega
        · obtain rfl : j = n := by omega
          clear hB2
          go_wp2_with fail
          go_roundg (j - (i + 1))
          case rel => exact ⟨i + 1, by omega, rfl, by go_num, ⟨Q1, HO1.out, fun r k hr hk => by by_cases c : r = i; (subst c; exact HQ2.out k hk); exact HQ1.out r k (by omega) hk⟩, HB2.out⟩
          case measure => omega
    · obtain rfl : i = n := by omega
      go_wp2_with fail
      go_ret
      refine ⟨⟨_, rfl, ?_⟩, HBR.out⟩
      exact ⟨p3, cap3, b3, G, C, rfl, HP3.out, HC.out.1, HC.out.2, HO0.out.congr (fun _ _ => rfl) fun r hr k hk => by rw [HQ0.out r k hr hk, HZ.out]⟩
set_option maxHeartbeats 4000000 in
theorem oneOptions_any (x y : Int) (w : World) : Calls Tryd.prog 15 #[.int .i64 x, .int .i64 y] w fun e w' => e = .returned (.int .i64 (max x y)) ∧ w' = w := by
  go_enter Tryd.func15, Tryd.ntmps15
  go_wp2
  all_goals
    go_ret
    exact ⟨by first | rfl | (simp; omega), rfl⟩
set_option maxHeartbeats 8000000 in
theorem joinOptions_any (a b : Value) (n : Nat) (L M : Nat → Nat) (X Y : Nat → Nat → Int) (w : World) (ha : MatAt w a n L X) (hb : MatAt w b n M Y) (hL : ∀ i, i < n → L i = n) (hM : ∀ i, i < n → M i = n) (hn : n ≤ 12) :
    Calls Tryd.prog 14 #[a, b, .func (.func 15) #[] #[]] w fun e w' => (∃ V, e = .returned V ∧ New w w' V n (fun _ => n) (fun i k => (fun x y : Int => max x y) (X i k) (Y i k))) ∧ Below w.heap.size w w' := by
  have HA := hid ha
  have HBB := hid hb
  obtain ⟨p, cap, rfl, _, _, hp⟩ := ha
  obtain ⟨q, cap2, rfl, _, _, hq⟩ := hb
  have hmx : (n : Int) ≤ 12 := by omega
  have HP : Hid (0 < n → ∃ g off, p = some ⟨g, off, none⟩ ∧ ∀ i, i < n → ∃ u, w.cell? ⟨g, off + i, none⟩ = some u ∧ RowAt w u n (X i)) := fun h0 => by
    obtain ⟨g, off, e, hc⟩ := hp h0
    refine ⟨g, off, e, fun i hi => ?_⟩
    obtain ⟨u, h1, h2⟩ := hc i hi
    rw [hL i hi] at h2
    exact ⟨u, h1, h2⟩
  have HQ : Hid (0 < n → ∃ g off, q = some ⟨g, off, none⟩ ∧ ∀ i, i < n → ∃ u, w.cell? ⟨g, off + i, none⟩ = some u ∧ RowAt w u n (Y i)) := fun h0 => by
    obtain ⟨g, off, e, hc⟩ := hq h0
    refine ⟨g, off, e, fun i hi => ?_⟩
    obtain ⟨u, h1, h2⟩ := hc i hi
    rw [hM i hi] at h2
    exact ⟨u, h1, h2⟩
  have HN := hid hn
  obtain ⟨Z, hZ⟩ : ∃ Z : Nat → Nat → Int, ∀ i k, Z i k = (fun x y : Int => max x y) (X i k) (Y i k) := ⟨_, fun _ _ => rfl⟩
  have HZ := hid hZ
  clear hp hq hL hM hn hZ
  go_enter Tryd.func14, Tryd.ntmps14
  go_wp2_with fail
  refine (free_any n _ HN.out).mono ?_
  rintro e w1 ⟨⟨V, rfl, hNew⟩, hB1⟩
  obtain ⟨p3, cap3, b3, G, C, rfl, hp3, hc3, hc4, hO⟩ := hNew
  have HO := hid hO
  have HB1 := hid hB1
  have HP3 := hid hp3
  have HC := hid (And.intro hc3 hc4)
  clear hO hB1 hp3 hc3 hc4
  go_wp2_with fail
  go_loopg [16] n (fun gg io wr => ∃ i : Nat, i ≤ n ∧ gg = n - i ∧ io = .int .i64 (i : Nat) ∧ (∃ Q, OwnM wr w.heap.size b3 n (fun _ => n) G C Q ∧ ∀ r k, r < i → k < n → Q r k = Z r k) ∧ Below w.heap.size w wr)
  case atStart => exact ⟨0, by omega, by omega, rfl, ⟨_, HO.out, fun r k h => by omega⟩, HB1.out⟩
  case round =>
    obtain ⟨i, hi, rfl, rfl, ⟨Q0, hO0, hQ0⟩, hBr⟩ := hrel
    have HO0 := hid hO0
    have HQ0 := hid hQ0
    have HBR := hid hBr
    clear hO0 hQ0 hBr
    by_cases hlt : i < n
    · have i1 : (0 : Int) ≤ (i : Int) := by omega
      have i2 : (i : Int) < (n : Int) := by omega
      obtain rfl := HP3.out (by omega)
      obtain ⟨q4, t0, ht0⟩ := HO0.out.top i hlt
      obtain rfl := ht0 (by omega)
      obtain ⟨ci, hci⟩ : ∃ c, C i = c := ⟨_, rfl⟩
      have hci2 : n ≤ ci := by rw [← hci]; exact (HO0.out.cp i hlt).1
      rw [hci] at t0
      obtain ⟨gi, hgi⟩ : ∃ g, G i = g := ⟨_, rfl⟩
      have HGI := hid hgi
      rw [hgi] at t0
      clear ht0 hci hgi
      obtain ⟨wo, hwo⟩ : ∃ wo, wo = wr := ⟨_, rfl⟩
      rw [← hwo] at HO0 HBR t0 ⊢
      clear hwo
      go_wp2_with fail
      clear t0
      go_loopg [23] n (fun gg jo wi => ∃ j : Nat, j ≤ n ∧ gg = n - j ∧ jo = .int .i64 (j : Nat) ∧ (∃ Q, OwnM wi w.heap.size b3 n (fun _ => n) G C Q ∧ (∀ r k, r < i → k < n → Q r k = Z r k) ∧ ∀ k, k < j → Q i k = Z i k) ∧ Below w.heap.size w wi)
      case atStart => exact ⟨0, by omega, by omega, rfl, ⟨Q0, HO0.out, HQ0.out, fun k h => by omega⟩, HBR.out⟩
      case round =>
        obtain ⟨j, hj, rfl, rfl, ⟨Q1, hO1, hQ1, hQ2⟩, hB2⟩ := hrel
        have HO1 := hid hO1
        have HQ1 := hid hQ1
        have HQ2 := hid hQ2
        have HB2 := hid hB2
        clear hO1 hQ1 hQ2
        by_cases hjn : j < n
        · have j1 : (0 : Int) ≤ (j : Int) := by omega
          have j2 : (j : Int) < (n : Int) := by omega
          obtain ⟨g1, o1, rfl, r1⟩ := HP.out (by omega)
          obtain ⟨g2, o2, rfl, r2⟩ := HQ.out (by omega)
          obtain ⟨u1, x1, y1⟩ := r1 i hlt
          obtain ⟨u2, x2, y2⟩ := r2 i hlt
          have k1 := (hB2.cell (p := ⟨g1, o1 + i, none⟩) (World.block_lt_of_cell? _ _ x1)).trans x1
          have k2 := (hB2.cell (p := ⟨g2, o2 + i, none⟩) (World.block_lt_of_cell? _ _ x2)).trans x2
          obtain ⟨s1, cc1, rfl, _, _, e1⟩ := y1.later hB2
          obtain ⟨s2, cc2, rfl, _, _, e2⟩ := y2.later hB2
          obtain ⟨g3, o3, rfl, f1⟩ := e1 (by omega)
          obtain ⟨g4, o4, rfl, f2⟩ := e2 (by omega)
          have k3 := f1 j hjn
          have k4 := f2 j hjn
          have k5 : wr.cell? ⟨gi, j, none⟩ = some (.int .i64 (Q1 i j)) := by rw [← HGI.out]; exact (HO1.out.row i hlt (by omega)).cell hjn
          have k6 : wr.frozen? ⟨gi, j, none⟩ = false := by rw [← HGI.out]; exact (HO1.out.row i hlt (by omega)).frozen j
          have HZ1 := hid (HZ.out i j)
          obtain ⟨x, hx⟩ : ∃ x, X i j = x := ⟨_, rfl⟩
          obtain ⟨y, hy⟩ : ∃ y, Y i j = y := ⟨_, rfl⟩
          have HX := hid hx
          have HY := hid hy
          rw [hx] at k3
          rw [hy] at k4
          obtain ⟨zz, hzz⟩ : ∃ z, Q1 i j = z := ⟨_, rfl⟩
          rw [hzz] at k5
          have HST : Hid (∀ v, Z i j = v → ∃ Q, OwnM (wr.setCell ⟨gi, j, none⟩ (.int .i64 v)).drew w.heap.size b3 n (fun _ => n) G C Q ∧ (∀ r k, r < i → k < n → Q r k = Z r k) ∧ ∀ k, k < j + 1 → Q i k = Z i k) := fun v hv => by
            refine ⟨upd Q1 i j v, by rw [← HGI.out]; exact (HO1.out.set hlt hjn v).drew, fun r k hr hk => ?_, fun k hk => ?_⟩
            · rw [upd, if_neg (by omega)]; exact HQ1.out r k hr hk
            · by_cases c : k = j
              · subst c; rw [upd, if_pos ⟨rfl, rfl⟩]; exact hv.symm
              · rw [upd, if_neg (by omega)]; exact HQ2.out k (by omega)
          have HSB : Hid (∀ v, Below w.heap.size w (wr.setCell ⟨gi, j, none⟩ (.int .i64 v)).drew) := fun v => (HB2.out.setCell (by show w.heap.size ≤ gi; rw [← HGI.out]; exact HO1.out.gB i hlt (by omega)) _).drew
          have hgi : w.heap.size ≤ gi := by rw [← HGI.out]; exact HO1.out.gB i hlt (by omega)
          have l1 := World.block_lt_of_cell? _ _ x1
          have l2 := World.block_lt_of_cell? _ _ x2
          obtain ⟨_, _, ee1, _, _, ff1⟩ := y1
          obtain ⟨_, _, ee2, _, _, ff2⟩ := y2
          cases ee1
          cases ee2
          obtain ⟨_, _, ee3, gg1⟩ := ff1 (by omega)
          obtain ⟨_, _, ee4, gg2⟩ := ff2 (by omega)
          cases ee3
          cases ee4
          have l3 := World.block_lt_of_cell? _ _ (gg1 j hjn)
          have l4 := World.block_lt_of_cell? _ _ (gg2 j hjn)
          simp only at l1 l2 l3 l4
          have n1 : g1 ≠ gi := by omega
          have n2 : g2 ≠ gi := by omega
          have n3 : g3 ≠ gi := by omega
          have n4 : g4 ≠ gi := by omega
          clear r1 r2 x1 x2 gg1 gg2 ff1 ff2 f1 f2 e1 e2 hB2 hx hy hzz l1 l2 l3 l4 hgi
          have HKS : Hid (∀ v, (wr.setCell ⟨gi, j, none⟩ v).drew.cell? ⟨g1, o1 + i, none⟩ = some (.slice (some ⟨g3, o3, none⟩) n cc1) ∧ (wr.setCell ⟨gi, j, none⟩ v).drew.cell? ⟨g2, o2 + i, none⟩ = some (.slice (some ⟨g4, o4, none⟩) n cc2) ∧ (wr.setCell ⟨gi, j, none⟩ v).drew.cell? ⟨g3, o3 + j, none⟩ = some (.int .i64 x) ∧ (wr.setCell ⟨gi, j, none⟩ v).drew.cell? ⟨g4, o4 + j, none⟩ = some (.int .i64 y)) := fun v => ⟨cellS k1 n1, cellS k2 n2, cellS k3 n3, cellS k4 n4⟩
          go_wp2_with fail
          go_region_held3 (fun w' => w'.cell? ⟨g1, o1 + i, none⟩ = some (.slice (some ⟨g3, o3, none⟩) n cc1) ∧ w'.cell? ⟨g2, o2 + i, none⟩ = some (.slice (some ⟨g4, o4, none⟩) n cc2) ∧ w'.cell? ⟨g3, o3 + j, none⟩ = some (.int .i64 x) ∧ w'.cell? ⟨g4, o4 + j, none⟩ = some (.int .i64 y)) (first | exact HKS.out _ | go_keep) ((refine (oneOptions_any x y _).mono ?_; rintro e w5 ⟨rfl, rfl⟩))
          all_goals
            go_wp2_with fail
            go_roundg (n - (j + 1))
            case rel => exact ⟨j + 1, by omega, rfl, by go_num, HST.out _ (by first | rw [HZ1.out, HX.out, HY.out] | rw [HZ1.out, HX.out]), HSB.out _⟩
            case measure => omega
        · obtain rfl : j = n := by omega
          clear hB2
          go_wp2_with fail
          go_roundg (j - (i + 1))
          case rel => exact ⟨i + 1, by omega, rfl, by go_num, ⟨Q1, HO1.out, fun r k hr hk => by by_cases c : r = i; (subst c; exact HQ2.out k hk); exact HQ1.out r k (by omega) hk⟩, HB2.out⟩
          case measure => omega
    · obtain rfl : i = n := by omega
      go_wp2_with fail
      go_ret
      refine ⟨⟨_, rfl, ?_⟩, HBR.out⟩
      exact ⟨p3, cap3, b3, G, C, rfl, HP3.out, HC.out.1, HC.out.2, HO0.out.congr (fun _ _ => rfl) fun r hr k hk => by rw [HQ0.out r k hr hk, HZ.out]⟩
end Go.Proofs.YtgikaheojcpmpabDoor
