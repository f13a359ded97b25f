/-
  The reference's bounds of an option.
-/
import Derived.Test.YtgikaheojcpmpaaDoorO7
namespace Go.Proofs.YtgikaheojcpmpaaDoor
open Go.ChangeShapes Go.WideShapes Go.ChangeAt Go.RowKit Go.Maps
set_option linter.unusedVariables false
set_option linter.unusedSimpArgs false
set_option maxRecDepth 20000
set_option maxHeartbeats 16000000 in
theorem optB_1 (lo hi : Int) (w : World) (h1 : 0 ≤ lo) (h2 : lo ≤ 1073741824) (h3 : hi = -1 ∨ (lo ≤ hi ∧ hi ≤ 1073741824)) :
    Calls Tryd.prog 13 #[.agg #[.int .i64 1, .int .i64 lo, .int .i64 hi]] w fun e w' => Tres w w' e 4 (tgt 4 5 (refZ 1 pmI lo hi)) ∧ Below w.heap.size w w' := by
  have HB0 := hid (below_new w (.cells #[.int .i64 1, .int .i64 lo, .int .i64 hi] 31))
  have HS0 := hid (show (w.alloc (.cells #[.int .i64 1, .int .i64 lo, .int .i64 hi] 31)).heap.size = w.heap.size + 1 by simp)
  have H12 := hid (And.intro h1 h2)
  have H3 := hid h3
  obtain ⟨tr, htr⟩ : ∃ r, tgt 4 5 (refZ 1 pmI lo hi) = r := ⟨_, rfl⟩
  have HTR := hid htr
  rw [htr]
  clear h1 h2 h3 htr
  go_enter Tryd.func13, Tryd.ntmps13
  go_wp2_with fail
  refine (freeMatrix_any 4 _ (by decide)).mono ?_
  rintro e w1 ⟨⟨V, rfl, hN⟩, hB1⟩
  obtain ⟨p3, cap, b, G, C, rfl, hp3, hcap, hcm, hO⟩ := hN
  obtain rfl := hp3 (by decide)
  have HE0 := hid (hO.base (B' := w.heap.size) (by rw [HS0.out]; omega))
  have HBW0 := hid (HB0.out.trans (hB1.mono (by rw [HS0.out]; omega)))
  have HCP := hid (And.intro hcap hcm)
  have cB : ∀ k v, k < 3 → (w.alloc (.cells #[.int .i64 1, .int .i64 lo, .int .i64 hi] 31)).cell? ⟨w.heap.size, k, none⟩ = some v → w1.cell? ⟨w.heap.size, k, none⟩ = some v := fun k v _ hv => (hB1.cell (p := ⟨w.heap.size, k, none⟩) (by show w.heap.size < (w.alloc (.cells #[.int .i64 1, .int .i64 lo, .int .i64 hi] 31)).heap.size; rw [HS0.out]; omega)).trans hv
  have k0 : w1.cell? ⟨w.heap.size, 0, none⟩ = some (.int .i64 1) := cB 0 _ (by decide) (by go_simp)
  have k1 : w1.cell? ⟨w.heap.size, 1, none⟩ = some (.int .i64 lo) := cB 1 _ (by decide) (by go_simp)
  have k2 : w1.cell? ⟨w.heap.size, 2, none⟩ = some (.int .i64 hi) := cB 2 _ (by decide) (by go_simp)
  have HK0 : Hid (Kc w1 G [(⟨w.heap.size, 1, none⟩, .int .i64 lo), (⟨w.heap.size, 2, none⟩, .int .i64 hi)]) := fun z hz => by
    have hg : ∀ i, i < 4 → G i ≠ w.heap.size := fun i hi => by have := hO.gB i hi (by decide); rw [HS0.out] at this; omega
    simp only [List.mem_cons, List.not_mem_nil, or_false] at hz
    rcases hz with rfl | rfl
    · exact ⟨k1, hg⟩
    · exact ⟨k2, hg⟩
  clear hO hB1 hp3 hcap hcm cB k1 k2
  go_wp2_with fail
  clear k0
  refine (refAhead_any w.heap.size b cap G C _ _ 0 1 0 _ HE0.out HK0.out (by decide) (by decide) (by decide) (by decide)).mono ?_
  rintro e x1 ⟨rfl, hE, hK, hBB⟩
  have HE1 := hid hE
  have HK1 := hid hK
  have HBW1 := hid (HBW0.out.trans hBB)
  clear hE hK hBB
  go_wp2_with fail
  refine (refAhead_any w.heap.size b cap G C _ _ 2 3 0 _ HE1.out HK1.out (by decide) (by decide) (by decide) (by decide)).mono ?_
  rintro e x2 ⟨rfl, hE, hK, hBB⟩
  have HE2 := hid hE
  have HK2 := hid hK
  have HBW2 := hid (HBW1.out.trans hBB)
  clear hE hK hBB
  go_wp2_with fail
  refine (refAhead_any w.heap.size b cap G C _ _ 1 2 1 _ HE2.out HK2.out (by decide) (by decide) (by decide) (by decide)).mono ?_
  rintro e x3 ⟨rfl, hE, hK, hBB⟩
  have HE3 := hid hE
  have HK3 := hid hK
  have HBW3 := hid (HBW2.out.trans hBB)
  clear hE hK hBB
  have kl : x3.cell? ⟨w.heap.size, 1, none⟩ = some (.int .i64 lo) := (HK3.out (⟨w.heap.size, 1, none⟩, .int .i64 lo) (by simp)).1
  go_wp2_with fail
  refine (refAhead_any w.heap.size b cap G C _ _ 1 2 lo _ HE3.out HK3.out (by decide) (by decide) H12.out.1 H12.out.2).mono ?_
  rintro e wq ⟨rfl, hE, hK, hBB⟩
  have HE := hid hE
  have HK := hid hK
  have HBW := hid (HBW3.out.trans hBB)
  have kh : wq.cell? ⟨w.heap.size, 2, none⟩ = some (.int .i64 hi) := (hK (⟨w.heap.size, 2, none⟩, .int .i64 hi) (by simp)).1
  obtain ⟨Zl, hZl⟩ : ∃ Z, (am pmI (am pmI (am pmI (am pmI fre 0 1 (-0)) 2 3 (-0)) 1 2 (-1)) 1 2 (-lo)) = Z := ⟨_, rfl⟩
  have HZ1 := hid (show hi = -1 → refZ 1 pmI lo hi = Zl from fun h => by rw [← hZl]; unfold refZ; rw [if_pos h]; rfl)
  have HZ2 := hid (show hi ≠ -1 → refZ 1 pmI lo hi = am pmI Zl 2 1 hi from fun h => by rw [← hZl]; unfold refZ; rw [if_neg h]; rfl)
  have HEl : Hid (OwnM wq w.heap.size b 4 (fun _ => 4) G C Zl) := by rw [← hZl]; exact hE
  obtain ⟨c1, z1, c2, z2, z3, c3⟩ := HEl.out.at3 (i := 2) (k := 1) (j := 1) (by decide) (by decide) (by decide)
  have hcp := (HEl.out.cp 2 (by decide)).1
  have HST := hid (fun (s : Nat) (v : Int) => (HEl.out.drewN s).set (i := 2) (k := 1) (by decide) (by decide) v)
  have HSE := hid (fun (s : Nat) (v : Int) => (below_drewN HBW.out s).setCell (p := ⟨G 2, 1, none⟩) (HEl.out.gB 2 (by decide) (by decide)) (.int .i64 v))
  have HAM := hid (show am pmI Zl 2 1 hi = upd Zl 2 1 (min (Zl 2 1) hi) from rfl)
  have HZX : Hid (upd Zl 2 1 (Zl 2 1) = Zl) := by
    show upd Zl 2 1 (Zl 2 1) = Zl
    funext a b
    unfold upd
    split
    · rename_i e; obtain ⟨rfl, rfl⟩ := e; rfl
    · rfl
  generalize Zl 2 1 = zv at c2 c3 z1 z2 z3 HAM HZX
  generalize G 2 = gy at c1 c2 c3 z1 z2 z3 HST HSE
  generalize C 2 = cy at c1 hcp
  clear hE hK hBB hZl z1 z2 z3 kl
  rcases H3.out with hm | ⟨hlo, hh⟩
  · have d0 : decide (0 ≤ hi) = false := by simp; omega
    have d1 : ¬ (0 : Int) ≤ hi := by omega
    have HTT : Hid (tgt 4 (4 + 1) Zl = tr) := by show tgt 4 5 Zl = tr; rw [← HZ1.out hm]; exact HTR.out
    clear hm
    go_wp2_with fail
    go_quiet (fail)
    go_wp2_with fail
    refine (tightened_any _ 4 (fun _ => 4) Zl _ ((HEl.out.drewN nq).mat (fun _ => rfl) HCP.out.1 HCP.out.2) (fun _ _ => rfl) (by decide)).mono ?_
    rw [HTT.out]
    rintro e w6 ⟨hT, hB6⟩
    have HB6 := hid (below_then (below_drewN HBW.out nq) hB6 (Nat.le_refl _))
    clear hB6
    cases tr with
    | none =>
      have hT2 : e = .returned (.tuple #[.slice none 0 0, .bool false]) := hT
      subst hT2
      clear hT
      go_wp2_with fail
      go_ret2
      exact ⟨rfl, HB6.out⟩
    | some R =>
      obtain ⟨V6, rfl, hN6⟩ := hT
      have HN6 := hid (hN6.from (w0 := w) (below_drewN HBW.out nq).size)
      clear hN6
      go_wp2_with fail
      go_ret2
      exact ⟨⟨_, rfl, HN6.out⟩, HB6.out⟩
  · have g0 : (0 : Int) ≤ hi := by have := H12.out.1; omega
    have d0 : decide (0 ≤ hi) = true := by simpa using g0
    have hne : hi ≠ -1 := by omega
    by_cases q : hi < zv
    · have d1 : decide (hi < zv) = true := by simpa using q
      have HTT : Hid (tgt 4 (4 + 1) (upd Zl 2 1 hi) = tr) := by
        show tgt 4 5 (upd Zl 2 1 hi) = tr
        rw [← HTR.out, HZ2.out hne, HAM.out, show min zv hi = hi by omega]
      clear hlo hh hne
      go_wp2_with fail
      go_quiet (fail)
      go_wp2_with fail
      go_region
      all_goals
        go_wp2_with fail
        refine (tightened_any _ 4 (fun _ => 4) (upd Zl 2 1 hi) _ ((HST.out _ hi).mat (fun _ => rfl) HCP.out.1 HCP.out.2) (fun _ _ => rfl) (by decide)).mono ?_
        rw [HTT.out]
        rintro e w6 ⟨hT, hB6⟩
        have HB6 := hid (below_then (HSE.out _ hi) hB6 (Nat.le_refl _))
        clear hB6
        cases tr with
        | none =>
          have hT2 : e = .returned (.tuple #[.slice none 0 0, .bool false]) := hT
          subst hT2
          clear hT
          go_wp2_with fail
          go_ret2
          exact ⟨rfl, HB6.out⟩
        | some R =>
          obtain ⟨V6, rfl, hN6⟩ := hT
          have HN6 := hid (hN6.from (w0 := w) (HSE.out _ hi).size)
          clear hN6
          go_wp2_with fail
          go_ret2
          exact ⟨⟨_, rfl, HN6.out⟩, HB6.out⟩
    · have d1 : decide (hi < zv) = false := by simpa using q
      have HTT : Hid (tgt 4 (4 + 1) Zl = tr) := by
        show tgt 4 5 Zl = tr
        rw [← HTR.out, HZ2.out hne, HAM.out, show min zv hi = zv by omega, HZX.out]
      clear hlo hh hne
      go_wp2_with fail
      go_quiet (fail)
      go_wp2_with fail
      refine (tightened_any _ 4 (fun _ => 4) Zl _ ((HEl.out.drewN nq).mat (fun _ => rfl) HCP.out.1 HCP.out.2) (fun _ _ => rfl) (by decide)).mono ?_
      rw [HTT.out]
      rintro e w6 ⟨hT, hB6⟩
      have HB6 := hid (below_then (below_drewN HBW.out nq) hB6 (Nat.le_refl _))
      clear hB6
      cases tr with
      | none =>
        have hT2 : e = .returned (.tuple #[.slice none 0 0, .bool false]) := hT
        subst hT2
        clear hT
        go_wp2_with fail
        go_ret2
        exact ⟨rfl, HB6.out⟩
      | some R =>
        obtain ⟨V6, rfl, hN6⟩ := hT
        have HN6 := hid (hN6.from (w0 := w) (below_drewN HBW.out nq).size)
        clear hN6
        go_wp2_with fail
        go_ret2
        exact ⟨⟨_, rfl, HN6.out⟩, HB6.out⟩
set_option maxHeartbeats 16000000 in
theorem optB_2 (lo hi : Int) (w : World) (h1 : 0 ≤ lo) (h2 : lo ≤ 1073741824) (h3 : hi = -1 ∨ (lo ≤ hi ∧ hi ≤ 1073741824)) :
    Calls Tryd.prog 13 #[.agg #[.int .i64 2, .int .i64 lo, .int .i64 hi]] w fun e w' => Tres w w' e 4 (tgt 4 5 (refZ 1 pmS lo hi)) ∧ Below w.heap.size w w' := by
  have HB0 := hid (below_new w (.cells #[.int .i64 2, .int .i64 lo, .int .i64 hi] 31))
  have HS0 := hid (show (w.alloc (.cells #[.int .i64 2, .int .i64 lo, .int .i64 hi] 31)).heap.size = w.heap.size + 1 by simp)
  have H12 := hid (And.intro h1 h2)
  have H3 := hid h3
  obtain ⟨tr, htr⟩ : ∃ r, tgt 4 5 (refZ 1 pmS lo hi) = r := ⟨_, rfl⟩
  have HTR := hid htr
  rw [htr]
  clear h1 h2 h3 htr
  go_enter Tryd.func13, Tryd.ntmps13
  go_wp2_with fail
  refine (freeMatrix_any 4 _ (by decide)).mono ?_
  rintro e w1 ⟨⟨V, rfl, hN⟩, hB1⟩
  obtain ⟨p3, cap, b, G, C, rfl, hp3, hcap, hcm, hO⟩ := hN
  obtain rfl := hp3 (by decide)
  have HE0 := hid (hO.base (B' := w.heap.size) (by rw [HS0.out]; omega))
  have HBW0 := hid (HB0.out.trans (hB1.mono (by rw [HS0.out]; omega)))
  have HCP := hid (And.intro hcap hcm)
  have cB : ∀ k v, k < 3 → (w.alloc (.cells #[.int .i64 2, .int .i64 lo, .int .i64 hi] 31)).cell? ⟨w.heap.size, k, none⟩ = some v → w1.cell? ⟨w.heap.size, k, none⟩ = some v := fun k v _ hv => (hB1.cell (p := ⟨w.heap.size, k, none⟩) (by show w.heap.size < (w.alloc (.cells #[.int .i64 2, .int .i64 lo, .int .i64 hi] 31)).heap.size; rw [HS0.out]; omega)).trans hv
  have k0 : w1.cell? ⟨w.heap.size, 0, none⟩ = some (.int .i64 2) := cB 0 _ (by decide) (by go_simp)
  have k1 : w1.cell? ⟨w.heap.size, 1, none⟩ = some (.int .i64 lo) := cB 1 _ (by decide) (by go_simp)
  have k2 : w1.cell? ⟨w.heap.size, 2, none⟩ = some (.int .i64 hi) := cB 2 _ (by decide) (by go_simp)
  have HK0 : Hid (Kc w1 G [(⟨w.heap.size, 1, none⟩, .int .i64 lo), (⟨w.heap.size, 2, none⟩, .int .i64 hi)]) := fun z hz => by
    have hg : ∀ i, i < 4 → G i ≠ w.heap.size := fun i hi => by have := hO.gB i hi (by decide); rw [HS0.out] at this; omega
    simp only [List.mem_cons, List.not_mem_nil, or_false] at hz
    rcases hz with rfl | rfl
    · exact ⟨k1, hg⟩
    · exact ⟨k2, hg⟩
  clear hO hB1 hp3 hcap hcm cB k1 k2
  go_wp2_with fail
  clear k0
  refine (refAhead_any w.heap.size b cap G C _ _ 2 3 0 _ HE0.out HK0.out (by decide) (by decide) (by decide) (by decide)).mono ?_
  rintro e x1 ⟨rfl, hE, hK, hBB⟩
  have HE1 := hid hE
  have HK1 := hid hK
  have HBW1 := hid (HBW0.out.trans hBB)
  clear hE hK hBB
  go_wp2_with fail
  refine (refAhead_any w.heap.size b cap G C _ _ 0 1 0 _ HE1.out HK1.out (by decide) (by decide) (by decide) (by decide)).mono ?_
  rintro e x2 ⟨rfl, hE, hK, hBB⟩
  have HE2 := hid hE
  have HK2 := hid hK
  have HBW2 := hid (HBW1.out.trans hBB)
  clear hE hK hBB
  go_wp2_with fail
  refine (refAhead_any w.heap.size b cap G C _ _ 3 0 1 _ HE2.out HK2.out (by decide) (by decide) (by decide) (by decide)).mono ?_
  rintro e x3 ⟨rfl, hE, hK, hBB⟩
  have HE3 := hid hE
  have HK3 := hid hK
  have HBW3 := hid (HBW2.out.trans hBB)
  clear hE hK hBB
  have kl : x3.cell? ⟨w.heap.size, 1, none⟩ = some (.int .i64 lo) := (HK3.out (⟨w.heap.size, 1, none⟩, .int .i64 lo) (by simp)).1
  go_wp2_with fail
  refine (refAhead_any w.heap.size b cap G C _ _ 3 0 lo _ HE3.out HK3.out (by decide) (by decide) H12.out.1 H12.out.2).mono ?_
  rintro e wq ⟨rfl, hE, hK, hBB⟩
  have HE := hid hE
  have HK := hid hK
  have HBW := hid (HBW3.out.trans hBB)
  have kh : wq.cell? ⟨w.heap.size, 2, none⟩ = some (.int .i64 hi) := (hK (⟨w.heap.size, 2, none⟩, .int .i64 hi) (by simp)).1
  obtain ⟨Zl, hZl⟩ : ∃ Z, (am pmI (am pmI (am pmI (am pmI fre 2 3 (-0)) 0 1 (-0)) 3 0 (-1)) 3 0 (-lo)) = Z := ⟨_, rfl⟩
  have HZ1 := hid (show hi = -1 → refZ 1 pmS lo hi = Zl from fun h => by rw [← hZl]; unfold refZ; rw [if_pos h]; rfl)
  have HZ2 := hid (show hi ≠ -1 → refZ 1 pmS lo hi = am pmI Zl 0 3 hi from fun h => by rw [← hZl]; unfold refZ; rw [if_neg h]; rfl)
  have HEl : Hid (OwnM wq w.heap.size b 4 (fun _ => 4) G C Zl) := by rw [← hZl]; exact hE
  obtain ⟨c1, z1, c2, z2, z3, c3⟩ := HEl.out.at3 (i := 0) (k := 3) (j := 3) (by decide) (by decide) (by decide)
  have hcp := (HEl.out.cp 0 (by decide)).1
  have HST := hid (fun (s : Nat) (v : Int) => (HEl.out.drewN s).set (i := 0) (k := 3) (by decide) (by decide) v)
  have HSE := hid (fun (s : Nat) (v : Int) => (below_drewN HBW.out s).setCell (p := ⟨G 0, 3, none⟩) (HEl.out.gB 0 (by decide) (by decide)) (.int .i64 v))
  have HAM := hid (show am pmI Zl 0 3 hi = upd Zl 0 3 (min (Zl 0 3) hi) from rfl)
  have HZX : Hid (upd Zl 0 3 (Zl 0 3) = Zl) := by
    show upd Zl 0 3 (Zl 0 3) = Zl
    funext a b
    unfold upd
    split
    · rename_i e; obtain ⟨rfl, rfl⟩ := e; rfl
    · rfl
  generalize Zl 0 3 = zv at c2 c3 z1 z2 z3 HAM HZX
  generalize G 0 = gy at c1 c2 c3 z1 z2 z3 HST HSE
  generalize C 0 = cy at c1 hcp
  clear hE hK hBB hZl z1 z2 z3 kl
  rcases H3.out with hm | ⟨hlo, hh⟩
  · have d0 : decide (0 ≤ hi) = false := by simp; omega
    have d1 : ¬ (0 : Int) ≤ hi := by omega
    have HTT : Hid (tgt 4 (4 + 1) Zl = tr) := by show tgt 4 5 Zl = tr; rw [← HZ1.out hm]; exact HTR.out
    clear hm
    go_wp2_with fail
    go_quiet (fail)
    go_wp2_with fail
    refine (tightened_any _ 4 (fun _ => 4) Zl _ ((HEl.out.drewN nq).mat (fun _ => rfl) HCP.out.1 HCP.out.2) (fun _ _ => rfl) (by decide)).mono ?_
    rw [HTT.out]
    rintro e w6 ⟨hT, hB6⟩
    have HB6 := hid (below_then (below_drewN HBW.out nq) hB6 (Nat.le_refl _))
    clear hB6
    cases tr with
    | none =>
      have hT2 : e = .returned (.tuple #[.slice none 0 0, .bool false]) := hT
      subst hT2
      clear hT
      go_wp2_with fail
      go_ret2
      exact ⟨rfl, HB6.out⟩
    | some R =>
      obtain ⟨V6, rfl, hN6⟩ := hT
      have HN6 := hid (hN6.from (w0 := w) (below_drewN HBW.out nq).size)
      clear hN6
      go_wp2_with fail
      go_ret2
      exact ⟨⟨_, rfl, HN6.out⟩, HB6.out⟩
  · have g0 : (0 : Int) ≤ hi := by have := H12.out.1; omega
    have d0 : decide (0 ≤ hi) = true := by simpa using g0
    have hne : hi ≠ -1 := by omega
    by_cases q : hi < zv
    · have d1 : decide (hi < zv) = true := by simpa using q
      have HTT : Hid (tgt 4 (4 + 1) (upd Zl 0 3 hi) = tr) := by
        show tgt 4 5 (upd Zl 0 3 hi) = tr
        rw [← HTR.out, HZ2.out hne, HAM.out, show min zv hi = hi by omega]
      clear hlo hh hne
      go_wp2_with fail
      go_quiet (fail)
      go_wp2_with fail
      go_region
      all_goals
        go_wp2_with fail
        refine (tightened_any _ 4 (fun _ => 4) (upd Zl 0 3 hi) _ ((HST.out _ hi).mat (fun _ => rfl) HCP.out.1 HCP.out.2) (fun _ _ => rfl) (by decide)).mono ?_
        rw [HTT.out]
        rintro e w6 ⟨hT, hB6⟩
        have HB6 := hid (below_then (HSE.out _ hi) hB6 (Nat.le_refl _))
        clear hB6
        cases tr with
        | none =>
          have hT2 : e = .returned (.tuple #[.slice none 0 0, .bool false]) := hT
          subst hT2
          clear hT
          go_wp2_with fail
          go_ret2
          exact ⟨rfl, HB6.out⟩
        | some R =>
          obtain ⟨V6, rfl, hN6⟩ := hT
          have HN6 := hid (hN6.from (w0 := w) (HSE.out _ hi).size)
          clear hN6
          go_wp2_with fail
          go_ret2
          exact ⟨⟨_, rfl, HN6.out⟩, HB6.out⟩
    · have d1 : decide (hi < zv) = false := by simpa using q
      have HTT : Hid (tgt 4 (4 + 1) Zl = tr) := by
        show tgt 4 5 Zl = tr
        rw [← HTR.out, HZ2.out hne, HAM.out, show min zv hi = zv by omega, HZX.out]
      clear hlo hh hne
      go_wp2_with fail
      go_quiet (fail)
      go_wp2_with fail
      refine (tightened_any _ 4 (fun _ => 4) Zl _ ((HEl.out.drewN nq).mat (fun _ => rfl) HCP.out.1 HCP.out.2) (fun _ _ => rfl) (by decide)).mono ?_
      rw [HTT.out]
      rintro e w6 ⟨hT, hB6⟩
      have HB6 := hid (below_then (below_drewN HBW.out nq) hB6 (Nat.le_refl _))
      clear hB6
      cases tr with
      | none =>
        have hT2 : e = .returned (.tuple #[.slice none 0 0, .bool false]) := hT
        subst hT2
        clear hT
        go_wp2_with fail
        go_ret2
        exact ⟨rfl, HB6.out⟩
      | some R =>
        obtain ⟨V6, rfl, hN6⟩ := hT
        have HN6 := hid (hN6.from (w0 := w) (below_drewN HBW.out nq).size)
        clear hN6
        go_wp2_with fail
        go_ret2
        exact ⟨⟨_, rfl, HN6.out⟩, HB6.out⟩
set_option maxHeartbeats 16000000 in
theorem optB_3 (lo hi : Int) (w : World) (h1 : 0 ≤ lo) (h2 : lo ≤ 1073741824) (h3 : hi = -1 ∨ (lo ≤ hi ∧ hi ≤ 1073741824)) :
    Calls Tryd.prog 13 #[.agg #[.int .i64 3, .int .i64 lo, .int .i64 hi]] w fun e w' => Tres w w' e 4 (tgt 4 5 (refZ 3 pmI lo hi)) ∧ Below w.heap.size w w' := by
  have HB0 := hid (below_new w (.cells #[.int .i64 3, .int .i64 lo, .int .i64 hi] 31))
  have HS0 := hid (show (w.alloc (.cells #[.int .i64 3, .int .i64 lo, .int .i64 hi] 31)).heap.size = w.heap.size + 1 by simp)
  have H12 := hid (And.intro h1 h2)
  have H3 := hid h3
  obtain ⟨tr, htr⟩ : ∃ r, tgt 4 5 (refZ 3 pmI lo hi) = r := ⟨_, rfl⟩
  have HTR := hid htr
  rw [htr]
  clear h1 h2 h3 htr
  go_enter Tryd.func13, Tryd.ntmps13
  go_wp2_with fail
  refine (freeMatrix_any 4 _ (by decide)).mono ?_
  rintro e w1 ⟨⟨V, rfl, hN⟩, hB1⟩
  obtain ⟨p3, cap, b, G, C, rfl, hp3, hcap, hcm, hO⟩ := hN
  obtain rfl := hp3 (by decide)
  have HE0 := hid (hO.base (B' := w.heap.size) (by rw [HS0.out]; omega))
  have HBW0 := hid (HB0.out.trans (hB1.mono (by rw [HS0.out]; omega)))
  have HCP := hid (And.intro hcap hcm)
  have cB : ∀ k v, k < 3 → (w.alloc (.cells #[.int .i64 3, .int .i64 lo, .int .i64 hi] 31)).cell? ⟨w.heap.size, k, none⟩ = some v → w1.cell? ⟨w.heap.size, k, none⟩ = some v := fun k v _ hv => (hB1.cell (p := ⟨w.heap.size, k, none⟩) (by show w.heap.size < (w.alloc (.cells #[.int .i64 3, .int .i64 lo, .int .i64 hi] 31)).heap.size; rw [HS0.out]; omega)).trans hv
  have k0 : w1.cell? ⟨w.heap.size, 0, none⟩ = some (.int .i64 3) := cB 0 _ (by decide) (by go_simp)
  have k1 : w1.cell? ⟨w.heap.size, 1, none⟩ = some (.int .i64 lo) := cB 1 _ (by decide) (by go_simp)
  have k2 : w1.cell? ⟨w.heap.size, 2, none⟩ = some (.int .i64 hi) := cB 2 _ (by decide) (by go_simp)
  have HK0 : Hid (Kc w1 G [(⟨w.heap.size, 1, none⟩, .int .i64 lo), (⟨w.heap.size, 2, none⟩, .int .i64 hi)]) := fun z hz => by
    have hg : ∀ i, i < 4 → G i ≠ w.heap.size := fun i hi => by have := hO.gB i hi (by decide); rw [HS0.out] at this; omega
    simp only [List.mem_cons, List.not_mem_nil, or_false] at hz
    rcases hz with rfl | rfl
    · exact ⟨k1, hg⟩
    · exact ⟨k2, hg⟩
  clear hO hB1 hp3 hcap hcm cB k1 k2
  go_wp2_with fail
  clear k0
  refine (refAhead_any w.heap.size b cap G C _ _ 0 1 0 _ HE0.out HK0.out (by decide) (by decide) (by decide) (by decide)).mono ?_
  rintro e x1 ⟨rfl, hE, hK, hBB⟩
  have HE1 := hid hE
  have HK1 := hid hK
  have HBW1 := hid (HBW0.out.trans hBB)
  clear hE hK hBB
  go_wp2_with fail
  refine (refAhead_any w.heap.size b cap G C _ _ 2 3 0 _ HE1.out HK1.out (by decide) (by decide) (by decide) (by decide)).mono ?_
  rintro e x2 ⟨rfl, hE, hK, hBB⟩
  have HE2 := hid hE
  have HK2 := hid hK
  have HBW2 := hid (HBW1.out.trans hBB)
  clear hE hK hBB
  go_wp2_with fail
  refine (refAhead_any w.heap.size b cap G C _ _ 1 2 0 _ HE2.out HK2.out (by decide) (by decide) (by decide) (by decide)).mono ?_
  rintro e x3 ⟨rfl, hE, hK, hBB⟩
  have HE3 := hid hE
  have HK3 := hid hK
  have HBW3 := hid (HBW2.out.trans hBB)
  clear hE hK hBB
  go_wp2_with fail
  refine (refAhead_any w.heap.size b cap G C _ _ 2 1 0 _ HE3.out HK3.out (by decide) (by decide) (by decide) (by decide)).mono ?_
  rintro e x4 ⟨rfl, hE, hK, hBB⟩
  have HE4 := hid hE
  have HK4 := hid hK
  have HBW4 := hid (HBW3.out.trans hBB)
  clear hE hK hBB
  go_wp2_with fail
  refine (refAhead_any w.heap.size b cap G C _ _ 0 2 1 _ HE4.out HK4.out (by decide) (by decide) (by decide) (by decide)).mono ?_
  rintro e x5 ⟨rfl, hE, hK, hBB⟩
  have HE5 := hid hE
  have HK5 := hid hK
  have HBW5 := hid (HBW4.out.trans hBB)
  clear hE hK hBB
  go_wp2_with fail
  refine (refAhead_any w.heap.size b cap G C _ _ 1 3 1 _ HE5.out HK5.out (by decide) (by decide) (by decide) (by decide)).mono ?_
  rintro e x6 ⟨rfl, hE, hK, hBB⟩
  have HE6 := hid hE
  have HK6 := hid hK
  have HBW6 := hid (HBW5.out.trans hBB)
  clear hE hK hBB
  have kl : x6.cell? ⟨w.heap.size, 1, none⟩ = some (.int .i64 lo) := (HK6.out (⟨w.heap.size, 1, none⟩, .int .i64 lo) (by simp)).1
  go_wp2_with fail
  refine (refAhead_any w.heap.size b cap G C _ _ 1 2 lo _ HE6.out HK6.out (by decide) (by decide) H12.out.1 H12.out.2).mono ?_
  rintro e wq ⟨rfl, hE, hK, hBB⟩
  have HE := hid hE
  have HK := hid hK
  have HBW := hid (HBW6.out.trans hBB)
  have kh : wq.cell? ⟨w.heap.size, 2, none⟩ = some (.int .i64 hi) := (hK (⟨w.heap.size, 2, none⟩, .int .i64 hi) (by simp)).1
  obtain ⟨Zl, hZl⟩ : ∃ Z, (am pmI (am pmI (am pmI (am pmI (am pmI (am pmI (am pmI fre 0 1 (-0)) 2 3 (-0)) 1 2 (-0)) 2 1 (-0)) 0 2 (-1)) 1 3 (-1)) 1 2 (-lo)) = Z := ⟨_, rfl⟩
  have HZ1 := hid (show hi = -1 → refZ 3 pmI lo hi = Zl from fun h => by rw [← hZl]; unfold refZ; rw [if_pos h]; rfl)
  have HZ2 := hid (show hi ≠ -1 → refZ 3 pmI lo hi = am pmI Zl 2 1 hi from fun h => by rw [← hZl]; unfold refZ; rw [if_neg h]; rfl)
  have HEl : Hid (OwnM wq w.heap.size b 4 (fun _ => 4) G C Zl) := by rw [← hZl]; exact hE
  obtain ⟨c1, z1, c2, z2, z3, c3⟩ := HEl.out.at3 (i := 2) (k := 1) (j := 1) (by decide) (by decide) (by decide)
  have hcp := (HEl.out.cp 2 (by decide)).1
  have HST := hid (fun (s : Nat) (v : Int) => (HEl.out.drewN s).set (i := 2) (k := 1) (by decide) (by decide) v)
  have HSE := hid (fun (s : Nat) (v : Int) => (below_drewN HBW.out s).setCell (p := ⟨G 2, 1, none⟩) (HEl.out.gB 2 (by decide) (by decide)) (.int .i64 v))
  have HAM := hid (show am pmI Zl 2 1 hi = upd Zl 2 1 (min (Zl 2 1) hi) from rfl)
  have HZX : Hid (upd Zl 2 1 (Zl 2 1) = Zl) := by
    show upd Zl 2 1 (Zl 2 1) = Zl
    funext a b
    unfold upd
    split
    · rename_i e; obtain ⟨rfl, rfl⟩ := e; rfl
    · rfl
  generalize Zl 2 1 = zv at c2 c3 z1 z2 z3 HAM HZX
  generalize G 2 = gy at c1 c2 c3 z1 z2 z3 HST HSE
  generalize C 2 = cy at c1 hcp
  clear hE hK hBB hZl z1 z2 z3 kl
  rcases H3.out with hm | ⟨hlo, hh⟩
  · have d0 : decide (0 ≤ hi) = false := by simp; omega
    have d1 : ¬ (0 : Int) ≤ hi := by omega
    have HTT : Hid (tgt 4 (4 + 1) Zl = tr) := by show tgt 4 5 Zl = tr; rw [← HZ1.out hm]; exact HTR.out
    clear hm
    go_wp2_with fail
    go_quiet (fail)
    go_wp2_with fail
    refine (tightened_any _ 4 (fun _ => 4) Zl _ ((HEl.out.drewN nq).mat (fun _ => rfl) HCP.out.1 HCP.out.2) (fun _ _ => rfl) (by decide)).mono ?_
    rw [HTT.out]
    rintro e w6 ⟨hT, hB6⟩
    have HB6 := hid (below_then (below_drewN HBW.out nq) hB6 (Nat.le_refl _))
    clear hB6
    cases tr with
    | none =>
      have hT2 : e = .returned (.tuple #[.slice none 0 0, .bool false]) := hT
      subst hT2
      clear hT
      go_wp2_with fail
      go_ret2
      exact ⟨rfl, HB6.out⟩
    | some R =>
      obtain ⟨V6, rfl, hN6⟩ := hT
      have HN6 := hid (hN6.from (w0 := w) (below_drewN HBW.out nq).size)
      clear hN6
      go_wp2_with fail
      go_ret2
      exact ⟨⟨_, rfl, HN6.out⟩, HB6.out⟩
  · have g0 : (0 : Int) ≤ hi := by have := H12.out.1; omega
    have d0 : decide (0 ≤ hi) = true := by simpa using g0
    have hne : hi ≠ -1 := by omega
    by_cases q : hi < zv
    · have d1 : decide (hi < zv) = true := by simpa using q
      have HTT : Hid (tgt 4 (4 + 1) (upd Zl 2 1 hi) = tr) := by
        show tgt 4 5 (upd Zl 2 1 hi) = tr
        rw [← HTR.out, HZ2.out hne, HAM.out, show min zv hi = hi by omega]
      clear hlo hh hne
      go_wp2_with fail
      go_quiet (fail)
      go_wp2_with fail
      go_region
      all_goals
        go_wp2_with fail
        refine (tightened_any _ 4 (fun _ => 4) (upd Zl 2 1 hi) _ ((HST.out _ hi).mat (fun _ => rfl) HCP.out.1 HCP.out.2) (fun _ _ => rfl) (by decide)).mono ?_
        rw [HTT.out]
        rintro e w6 ⟨hT, hB6⟩
        have HB6 := hid (below_then (HSE.out _ hi) hB6 (Nat.le_refl _))
        clear hB6
        cases tr with
        | none =>
          have hT2 : e = .returned (.tuple #[.slice none 0 0, .bool false]) := hT
          subst hT2
          clear hT
          go_wp2_with fail
          go_ret2
          exact ⟨rfl, HB6.out⟩
        | some R =>
          obtain ⟨V6, rfl, hN6⟩ := hT
          have HN6 := hid (hN6.from (w0 := w) (HSE.out _ hi).size)
          clear hN6
          go_wp2_with fail
          go_ret2
          exact ⟨⟨_, rfl, HN6.out⟩, HB6.out⟩
    · have d1 : decide (hi < zv) = false := by simpa using q
      have HTT : Hid (tgt 4 (4 + 1) Zl = tr) := by
        show tgt 4 5 Zl = tr
        rw [← HTR.out, HZ2.out hne, HAM.out, show min zv hi = zv by omega, HZX.out]
      clear hlo hh hne
      go_wp2_with fail
      go_quiet (fail)
      go_wp2_with fail
      refine (tightened_any _ 4 (fun _ => 4) Zl _ ((HEl.out.drewN nq).mat (fun _ => rfl) HCP.out.1 HCP.out.2) (fun _ _ => rfl) (by decide)).mono ?_
      rw [HTT.out]
      rintro e w6 ⟨hT, hB6⟩
      have HB6 := hid (below_then (below_drewN HBW.out nq) hB6 (Nat.le_refl _))
      clear hB6
      cases tr with
      | none =>
        have hT2 : e = .returned (.tuple #[.slice none 0 0, .bool false]) := hT
        subst hT2
        clear hT
        go_wp2_with fail
        go_ret2
        exact ⟨rfl, HB6.out⟩
      | some R =>
        obtain ⟨V6, rfl, hN6⟩ := hT
        have HN6 := hid (hN6.from (w0 := w) (below_drewN HBW.out nq).size)
        clear hN6
        go_wp2_with fail
        go_ret2
        exact ⟨⟨_, rfl, HN6.out⟩, HB6.out⟩
set_option maxHeartbeats 16000000 in
theorem optB_4 (lo hi : Int) (w : World) (h1 : 0 ≤ lo) (h2 : lo ≤ 1073741824) (h3 : hi = -1 ∨ (lo ≤ hi ∧ hi ≤ 1073741824)) :
    Calls Tryd.prog 13 #[.agg #[.int .i64 4, .int .i64 lo, .int .i64 hi]] w fun e w' => Tres w w' e 4 (tgt 4 5 (refZ 3 pmS lo hi)) ∧ Below w.heap.size w w' := by
  have HB0 := hid (below_new w (.cells #[.int .i64 4, .int .i64 lo, .int .i64 hi] 31))
  have HS0 := hid (show (w.alloc (.cells #[.int .i64 4, .int .i64 lo, .int .i64 hi] 31)).heap.size = w.heap.size + 1 by simp)
  have H12 := hid (And.intro h1 h2)
  have H3 := hid h3
  obtain ⟨tr, htr⟩ : ∃ r, tgt 4 5 (refZ 3 pmS lo hi) = r := ⟨_, rfl⟩
  have HTR := hid htr
  rw [htr]
  clear h1 h2 h3 htr
  go_enter Tryd.func13, Tryd.ntmps13
  go_wp2_with fail
  refine (freeMatrix_any 4 _ (by decide)).mono ?_
  rintro e w1 ⟨⟨V, rfl, hN⟩, hB1⟩
  obtain ⟨p3, cap, b, G, C, rfl, hp3, hcap, hcm, hO⟩ := hN
  obtain rfl := hp3 (by decide)
  have HE0 := hid (hO.base (B' := w.heap.size) (by rw [HS0.out]; omega))
  have HBW0 := hid (HB0.out.trans (hB1.mono (by rw [HS0.out]; omega)))
  have HCP := hid (And.intro hcap hcm)
  have cB : ∀ k v, k < 3 → (w.alloc (.cells #[.int .i64 4, .int .i64 lo, .int .i64 hi] 31)).cell? ⟨w.heap.size, k, none⟩ = some v → w1.cell? ⟨w.heap.size, k, none⟩ = some v := fun k v _ hv => (hB1.cell (p := ⟨w.heap.size, k, none⟩) (by show w.heap.size < (w.alloc (.cells #[.int .i64 4, .int .i64 lo, .int .i64 hi] 31)).heap.size; rw [HS0.out]; omega)).trans hv
  have k0 : w1.cell? ⟨w.heap.size, 0, none⟩ = some (.int .i64 4) := cB 0 _ (by decide) (by go_simp)
  have k1 : w1.cell? ⟨w.heap.size, 1, none⟩ = some (.int .i64 lo) := cB 1 _ (by decide) (by go_simp)
  have k2 : w1.cell? ⟨w.heap.size, 2, none⟩ = some (.int .i64 hi) := cB 2 _ (by decide) (by go_simp)
  have HK0 : Hid (Kc w1 G [(⟨w.heap.size, 1, none⟩, .int .i64 lo), (⟨w.heap.size, 2, none⟩, .int .i64 hi)]) := fun z hz => by
    have hg : ∀ i, i < 4 → G i ≠ w.heap.size := fun i hi => by have := hO.gB i hi (by decide); rw [HS0.out] at this; omega
    simp only [List.mem_cons, List.not_mem_nil, or_false] at hz
    rcases hz with rfl | rfl
    · exact ⟨k1, hg⟩
    · exact ⟨k2, hg⟩
  clear hO hB1 hp3 hcap hcm cB k1 k2
  go_wp2_with fail
  clear k0
  refine (refAhead_any w.heap.size b cap G C _ _ 2 3 0 _ HE0.out HK0.out (by decide) (by decide) (by decide) (by decide)).mono ?_
  rintro e x1 ⟨rfl, hE, hK, hBB⟩
  have HE1 := hid hE
  have HK1 := hid hK
  have HBW1 := hid (HBW0.out.trans hBB)
  clear hE hK hBB
  go_wp2_with fail
  refine (refAhead_any w.heap.size b cap G C _ _ 0 1 0 _ HE1.out HK1.out (by decide) (by decide) (by decide) (by decide)).mono ?_
  rintro e x2 ⟨rfl, hE, hK, hBB⟩
  have HE2 := hid hE
  have HK2 := hid hK
  have HBW2 := hid (HBW1.out.trans hBB)
  clear hE hK hBB
  go_wp2_with fail
  refine (refAhead_any w.heap.size b cap G C _ _ 3 0 0 _ HE2.out HK2.out (by decide) (by decide) (by decide) (by decide)).mono ?_
  rintro e x3 ⟨rfl, hE, hK, hBB⟩
  have HE3 := hid hE
  have HK3 := hid hK
  have HBW3 := hid (HBW2.out.trans hBB)
  clear hE hK hBB
  go_wp2_with fail
  refine (refAhead_any w.heap.size b cap G C _ _ 0 3 0 _ HE3.out HK3.out (by decide) (by decide) (by decide) (by decide)).mono ?_
  rintro e x4 ⟨rfl, hE, hK, hBB⟩
  have HE4 := hid hE
  have HK4 := hid hK
  have HBW4 := hid (HBW3.out.trans hBB)
  clear hE hK hBB
  go_wp2_with fail
  refine (refAhead_any w.heap.size b cap G C _ _ 2 0 1 _ HE4.out HK4.out (by decide) (by decide) (by decide) (by decide)).mono ?_
  rintro e x5 ⟨rfl, hE, hK, hBB⟩
  have HE5 := hid hE
  have HK5 := hid hK
  have HBW5 := hid (HBW4.out.trans hBB)
  clear hE hK hBB
  go_wp2_with fail
  refine (refAhead_any w.heap.size b cap G C _ _ 3 1 1 _ HE5.out HK5.out (by decide) (by decide) (by decide) (by decide)).mono ?_
  rintro e x6 ⟨rfl, hE, hK, hBB⟩
  have HE6 := hid hE
  have HK6 := hid hK
  have HBW6 := hid (HBW5.out.trans hBB)
  clear hE hK hBB
  have kl : x6.cell? ⟨w.heap.size, 1, none⟩ = some (.int .i64 lo) := (HK6.out (⟨w.heap.size, 1, none⟩, .int .i64 lo) (by simp)).1
  go_wp2_with fail
  refine (refAhead_any w.heap.size b cap G C _ _ 3 0 lo _ HE6.out HK6.out (by decide) (by decide) H12.out.1 H12.out.2).mono ?_
  rintro e wq ⟨rfl, hE, hK, hBB⟩
  have HE := hid hE
  have HK := hid hK
  have HBW := hid (HBW6.out.trans hBB)
  have kh : wq.cell? ⟨w.heap.size, 2, none⟩ = some (.int .i64 hi) := (hK (⟨w.heap.size, 2, none⟩, .int .i64 hi) (by simp)).1
  obtain ⟨Zl, hZl⟩ : ∃ Z, (am pmI (am pmI (am pmI (am pmI (am pmI (am pmI (am pmI fre 2 3 (-0)) 0 1 (-0)) 3 0 (-0)) 0 3 (-0)) 2 0 (-1)) 3 1 (-1)) 3 0 (-lo)) = Z := ⟨_, rfl⟩
  have HZ1 := hid (show hi = -1 → refZ 3 pmS lo hi = Zl from fun h => by rw [← hZl]; unfold refZ; rw [if_pos h]; rfl)
  have HZ2 := hid (show hi ≠ -1 → refZ 3 pmS lo hi = am pmI Zl 0 3 hi from fun h => by rw [← hZl]; unfold refZ; rw [if_neg h]; rfl)
  have HEl : Hid (OwnM wq w.heap.size b 4 (fun _ => 4) G C Zl) := by rw [← hZl]; exact hE
  obtain ⟨c1, z1, c2, z2, z3, c3⟩ := HEl.out.at3 (i := 0) (k := 3) (j := 3) (by decide) (by decide) (by decide)
  have hcp := (HEl.out.cp 0 (by decide)).1
  have HST := hid (fun (s : Nat) (v : Int) => (HEl.out.drewN s).set (i := 0) (k := 3) (by decide) (by decide) v)
  have HSE := hid (fun (s : Nat) (v : Int) => (below_drewN HBW.out s).setCell (p := ⟨G 0, 3, none⟩) (HEl.out.gB 0 (by decide) (by decide)) (.int .i64 v))
  have HAM := hid (show am pmI Zl 0 3 hi = upd Zl 0 3 (min (Zl 0 3) hi) from rfl)
  have HZX : Hid (upd Zl 0 3 (Zl 0 3) = Zl) := by
    show upd Zl 0 3 (Zl 0 3) = Zl
    funext a b
    unfold upd
    split
    · rename_i e; obtain ⟨rfl, rfl⟩ := e; rfl
    · rfl
  generalize Zl 0 3 = zv at c2 c3 z1 z2 z3 HAM HZX
  generalize G 0 = gy at c1 c2 c3 z1 z2 z3 HST HSE
  generalize C 0 = cy at c1 hcp
  clear hE hK hBB hZl z1 z2 z3 kl
  rcases H3.out with hm | ⟨hlo, hh⟩
  · have d0 : decide (0 ≤ hi) = false := by simp; omega
    have d1 : ¬ (0 : Int) ≤ hi := by omega
    have HTT : Hid (tgt 4 (4 + 1) Zl = tr) := by show tgt 4 5 Zl = tr; rw [← HZ1.out hm]; exact HTR.out
    clear hm
    go_wp2_with fail
    go_quiet (fail)
    go_wp2_with fail
    refine (tightened_any _ 4 (fun _ => 4) Zl _ ((HEl.out.drewN nq).mat (fun _ => rfl) HCP.out.1 HCP.out.2) (fun _ _ => rfl) (by decide)).mono ?_
    rw [HTT.out]
    rintro e w6 ⟨hT, hB6⟩
    have HB6 := hid (below_then (below_drewN HBW.out nq) hB6 (Nat.le_refl _))
    clear hB6
    cases tr with
    | none =>
      have hT2 : e = .returned (.tuple #[.slice none 0 0, .bool false]) := hT
      subst hT2
      clear hT
      go_wp2_with fail
      go_ret2
      exact ⟨rfl, HB6.out⟩
    | some R =>
      obtain ⟨V6, rfl, hN6⟩ := hT
      have HN6 := hid (hN6.from (w0 := w) (below_drewN HBW.out nq).size)
      clear hN6
      go_wp2_with fail
      go_ret2
      exact ⟨⟨_, rfl, HN6.out⟩, HB6.out⟩
  · have g0 : (0 : Int) ≤ hi := by have := H12.out.1; omega
    have d0 : decide (0 ≤ hi) = true := by simpa using g0
    have hne : hi ≠ -1 := by omega
    by_cases q : hi < zv
    · have d1 : decide (hi < zv) = true := by simpa using q
      have HTT : Hid (tgt 4 (4 + 1) (upd Zl 0 3 hi) = tr) := by
        show tgt 4 5 (upd Zl 0 3 hi) = tr
        rw [← HTR.out, HZ2.out hne, HAM.out, show min zv hi = hi by omega]
      clear hlo hh hne
      go_wp2_with fail
      go_quiet (fail)
      go_wp2_with fail
      go_region
      all_goals
        go_wp2_with fail
        refine (tightened_any _ 4 (fun _ => 4) (upd Zl 0 3 hi) _ ((HST.out _ hi).mat (fun _ => rfl) HCP.out.1 HCP.out.2) (fun _ _ => rfl) (by decide)).mono ?_
        rw [HTT.out]
        rintro e w6 ⟨hT, hB6⟩
        have HB6 := hid (below_then (HSE.out _ hi) hB6 (Nat.le_refl _))
        clear hB6
        cases tr with
        | none =>
          have hT2 : e = .returned (.tuple #[.slice none 0 0, .bool false]) := hT
          subst hT2
          clear hT
          go_wp2_with fail
          go_ret2
          exact ⟨rfl, HB6.out⟩
        | some R =>
          obtain ⟨V6, rfl, hN6⟩ := hT
          have HN6 := hid (hN6.from (w0 := w) (HSE.out _ hi).size)
          clear hN6
          go_wp2_with fail
          go_ret2
          exact ⟨⟨_, rfl, HN6.out⟩, HB6.out⟩
    · have d1 : decide (hi < zv) = false := by simpa using q
      have HTT : Hid (tgt 4 (4 + 1) Zl = tr) := by
        show tgt 4 5 Zl = tr
        rw [← HTR.out, HZ2.out hne, HAM.out, show min zv hi = zv by omega, HZX.out]
      clear hlo hh hne
      go_wp2_with fail
      go_quiet (fail)
      go_wp2_with fail
      refine (tightened_any _ 4 (fun _ => 4) Zl _ ((HEl.out.drewN nq).mat (fun _ => rfl) HCP.out.1 HCP.out.2) (fun _ _ => rfl) (by decide)).mono ?_
      rw [HTT.out]
      rintro e w6 ⟨hT, hB6⟩
      have HB6 := hid (below_then (below_drewN HBW.out nq) hB6 (Nat.le_refl _))
      clear hB6
      cases tr with
      | none =>
        have hT2 : e = .returned (.tuple #[.slice none 0 0, .bool false]) := hT
        subst hT2
        clear hT
        go_wp2_with fail
        go_ret2
        exact ⟨rfl, HB6.out⟩
      | some R =>
        obtain ⟨V6, rfl, hN6⟩ := hT
        have HN6 := hid (hN6.from (w0 := w) (below_drewN HBW.out nq).size)
        clear hN6
        go_wp2_with fail
        go_ret2
        exact ⟨⟨_, rfl, HN6.out⟩, HB6.out⟩
end Go.Proofs.YtgikaheojcpmpaaDoor
