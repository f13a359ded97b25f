/-
  A condition and all of it, by the program.
-/
import Derived.Test.YthndlfdbmljkhaaGreatDoorDd
namespace Go.Proofs.YthndlfdbmljkhaaGreatDoor.Chk
open Go.ChangeShapes Go.WideShapes Go.ChangeAt Go.RowKit Go.Maps
set_option linter.unusedVariables false
set_option linter.unusedSimpArgs false
set_option maxRecDepth 20000
set_option maxHeartbeats 16000000 in
theorem condition_any (ts : List Tp) (ws : List Pt) (own : Tp) (b mb : Nat) (K : Kns) (n0 : Nat) (hkn : Known ts ws) (hk : Knw ts ws K) (hty : ∀ i (hi : i < ts.length), tyk ts[i].n ts[i].f = 0) (hown : tyk own.n own.f = 0) : ∀ (n : Nat) (c : Cn) (sv tv fv : Value) (w : World) (dp : Int), n ≤ 8 → dp = 9 - (n : Int) → Wsz c → Scp w ts tv b mb K n0 → Rd w (.row 93 2 (own.f.map encF)) fv → Rd w (.row 63 14 c.sb) sv →
    Calls Tryz.prog 160 #[scV tv b mb, cnV c.k sv c.l c.r, .agg #[.string own.n, fv], .int .i64 dp] w (CR w (cdk ts ws own n c)) := by
  intro n
  induction n with
  | zero =>
    intro c sv tv fv w dp hn hdp hwz hs hF hS
    obtain ⟨tp, tn, tc, rfl⟩ := rd_shape hs.rt
    obtain ⟨fp, fn, fc, rfl⟩ := rd_shape hF
    obtain ⟨p, m, cap, rfl⟩ := rd_shape hS
    obtain ⟨on, ofs⟩ := own
    obtain ⟨ck, csb, l, r⟩ := c
    have HB : Hid (Below w.heap.size w (((w.alloc (.cells [.slice tp tn tc, .func (.func 111) #[] #[.pointer (some ⟨b, 0, none⟩)], .map (some mb)].toArray 163)).alloc (.cells (cnC ck (.slice p m cap) l r).toArray 63)).alloc (.cells [.string on, .slice fp fn fc].toArray 72))) := (B3.start w _ _ _ _ _ _).bel
    obtain ⟨R, hR⟩ : ∃ R, cdk ts ws ⟨on, ofs⟩ 0 ⟨ck, csb, l, r⟩ = R := ⟨_, rfl⟩
    rw [hR]
    unfold cdk at hR
    simp only at hR
    have HR := hid hR
    have d9 : (8 : Int) < dp := by omega
    clear hR hS hF hs hwz hn hdp hkn hk hty hown
    by_cases h1 : 1 ≤ ck ∧ ck ≤ 7
    · have HR2 : Hid (R = (0, 14)) := by show _ = _; rw [← HR.out, if_pos h1]
      obtain ⟨g1, g2⟩ := h1
      clear HR
      go_enter Tryz.func160, Tryz.ntmps160
      go_wp2_with fail
      go_ret2
      exact cr_p HR2.out HB.out
    · have HR2 : Hid (R = (0, 3)) := by show _ = _; rw [← HR.out, if_neg h1]
      clear HR
      by_cases h2 : ck < 1
      · have g1 : ck < 1 := by omega
        clear h1 h2
        go_enter Tryz.func160, Tryz.ntmps160
        go_wp2_with fail
        go_ret2
        exact cr_p HR2.out HB.out
      · obtain ⟨g1, g2⟩ : ¬ ck < 1 ∧ 7 < ck := by omega
        clear h1 h2
        go_enter Tryz.func160, Tryz.ntmps160
        go_wp2_with fail
        go_ret2
        exact cr_p HR2.out HB.out
  | succ n ih =>
    intro c sv tv fv w dp hn hdp hwz hs hF hS
    have hwz0 := hwz
    obtain ⟨_, cs, hcs, hl, hr, hws⟩ := hwz
    have HCMP := hid (fun W (hW : Below w.heap.size w W) => comparison_any ts ws own b mb K n0 hkn hk hty hown c sv tv fv W hl hr (hs.later hW) (hF.later hW) (hS.later hW) cs hcs)
    have hIH := fun x (hx : x ∈ cs) W (hW : Below w.heap.size w W) u (hu : Rd W (.row 63 14 x.sb) u) => ih x u tv fv W (dp + 1) (by omega) (by omega) (hws x hx) (hs.later hW) (hF.later hW) hu
    obtain ⟨tp, tn, tc, rfl⟩ := rd_shape hs.rt
    obtain ⟨fp, fn, fc, rfl⟩ := rd_shape hF
    obtain ⟨p, m, cap, rfl⟩ := rd_shape hS
    have HGRP : Hid (1 ≤ c.k ∧ c.k ≤ 3 → ∀ W, Below w.heap.size w W → Calls Tryz.prog 164 #[scV (.slice tp tn tc) b mb, cnV c.k (.slice p m cap) c.l c.r, .agg #[.string own.n, .slice fp fn fc], .int .i64 dp] W (CR W (if eqz c.l = false ∨ eqz c.r = false then (0, 4) else if (c.k = 3 ∧ c.sb.length ≠ 1) ∨ (c.k ≠ 3 ∧ c.sb.length < 2) then (0, 4) else cgo (cdk ts ws own n) (subs c) 0))) := fun h3 W hW => by
      rw [subs_of hcs, show c.sb.length = cs.length by rw [hcs]; simp]
      exact group_of (cdk ts ws own n) (cdk_range ts ws own n) cs ts b mb own.n c.k c.l c.r tp fp tn tc fn fc (.slice p m cap) dp W h3 (by omega) (by rw [← hcs]; exact hS.later hW) (fun x hx W' hW' u hu => hIH x hx W' (below_trans hW hW' hW.size) u hu)
    obtain ⟨R, hR⟩ : ∃ R, cdk ts ws own (n + 1) c = R := ⟨_, rfl⟩
    rw [hR]
    unfold cdk at hR
    obtain ⟨on, ofs⟩ := own
    obtain ⟨ck, csb, l, r⟩ := c
    simp only at hR HCMP HGRP ⊢
    have HR := hid hR
    have HT : Hid (B3 w (((w.alloc (.cells [.slice tp tn tc, .func (.func 111) #[] #[.pointer (some ⟨b, 0, none⟩)], .map (some mb)].toArray 163)).alloc (.cells (cnC ck (.slice p m cap) l r).toArray 63)).alloc (.cells [.string on, .slice fp fn fc].toArray 72)) [.slice tp tn tc, .func (.func 111) #[] #[.pointer (some ⟨b, 0, none⟩)], .map (some mb)] (cnC ck (.slice p m cap) l r) [.string on, .slice fp fn fc] 163 63 72) := B3.start w _ _ _ _ _ _
    have d8 : ¬ (8 : Int) < dp := by omega
    clear hR hS hF hs hwz0 hcs hl hr hws hIH ih hkn hk hty hown hdp hn
    by_cases h1 : 1 ≤ ck ∧ ck ≤ 7
    · have HR1 := HR.out
      rw [if_neg (fun c => c h1)] at HR1
      obtain ⟨g1, g2⟩ := h1
      have g1' : ¬ ck < 1 := by omega
      have g2' : ¬ 7 < ck := by omega
      by_cases h3 : 3 < ck
      · rw [if_pos h3] at HR1
        have HR2 := hid HR1
        have g3 : 4 ≤ ck := by omega
        rw [HR1] at HCMP
        clear HR1 HR HGRP h3
        go_enter Tryz.func160, Tryz.ntmps160
        go_wp2_with fail
        have X := HCMP.out _ HT.out.bel
        with_reducible refine X.mono ?_
        clear X
        rintro e w2 ⟨m2, rfl, hm2, hb2⟩
        have HT2 : Hid (B3 w w2 [.slice tp tn tc, .func (.func 111) #[] #[.pointer (some ⟨b, 0, none⟩)], .map (some mb)] (cnC ck (.slice p m cap) l r) [.string on, .slice fp fn fc] 163 63 72) := HT.out.next hb2
        have HM := hid hm2
        clear hb2 hm2
        go_wp2_with fail
        go_ret2
        exact ⟨m2, rfl, HM.out, HT2.out.bel⟩
      · rw [if_neg h3] at HR1
        have HG := hid (HGRP.out ⟨by omega, by omega⟩)
        rw [HR1] at HG
        have g3 : ¬ 4 ≤ ck := by omega
        clear HR1 HR HGRP HCMP h3
        go_enter Tryz.func160, Tryz.ntmps160
        go_wp2_with fail
        have X := HG.out _ HT.out.bel
        with_reducible refine X.mono ?_
        clear X
        rintro e w2 ⟨m2, rfl, hm2, hb2⟩
        have HT2 : Hid (B3 w w2 [.slice tp tn tc, .func (.func 111) #[] #[.pointer (some ⟨b, 0, none⟩)], .map (some mb)] (cnC ck (.slice p m cap) l r) [.string on, .slice fp fn fc] 163 63 72) := HT.out.next hb2
        have HM := hid hm2
        clear hb2 hm2
        go_wp2_with fail
        go_ret2
        exact ⟨m2, rfl, HM.out, HT2.out.bel⟩
    · have HR2 : Hid (R = (0, 3)) := by show _ = _; rw [← HR.out, if_pos h1]
      clear HR HCMP HGRP
      by_cases h2 : ck < 1
      · have g1 : ck < 1 := by omega
        clear h1 h2
        go_enter Tryz.func160, Tryz.ntmps160
        go_wp2_with fail
        go_ret2
        exact cr_p HR2.out HT.out.bel
      · obtain ⟨g1, g2⟩ : ¬ ck < 1 ∧ 7 < ck := by omega
        clear h1 h2
        go_enter Tryz.func160, Tryz.ntmps160
        go_wp2_with fail
        go_ret2
        exact cr_p HR2.out HT.out.bel
set_option maxHeartbeats 16000000 in
theorem where_any (ts : List Tp) (ws : List Pt) (own : Tp) (b mb : Nat) (K : Kns) (n0 : Nat) (hkn : Known ts ws) (hk : Knw ts ws K) (hty : ∀ i (hi : i < ts.length), tyk ts[i].n ts[i].f = 0) (hown : tyk own.n own.f = 0) (c : Cn) (sv tv fv : Value) (w : World) (hwz : Wsz c) (hs : Scp w ts tv b mb K n0) (hF : Rd w (.row 93 2 (own.f.map encF)) fv) (hS : Rd w (.row 63 14 c.sb) sv) :
    Calls Tryz.prog 152 #[scV tv b mb, cnV c.k sv c.l c.r, .agg #[.string own.n, fv]] w fun e w' => e = .returned (.int .i64 (if noc c = true then 0 else (cdk ts ws own 8 c).2)) ∧ Below w.heap.size w w' := by
  have HCN := hid (fun W (hW : Below w.heap.size w W) => condition_any ts ws own b mb K n0 hkn hk hty hown 8 c sv tv fv W 1 (Nat.le_refl _) (by decide) hwz (hs.later hW) (hF.later hW) (hS.later hW))
  have hlen : ∀ p m cap, sv = .slice p m cap → m = c.sb.length := fun p m cap h => by
    obtain ⟨_, cs, hcs, _⟩ := hwz
    rw [hcs] at hS ⊢
    subst h
    rw [List.length_map]
    exact (rd_caps hS).1
  obtain ⟨tp, tn, tc, rfl⟩ := rd_shape hs.rt
  obtain ⟨fp, fn, fc, rfl⟩ := rd_shape hF
  obtain ⟨p, m, cap, rfl⟩ := rd_shape hS
  obtain rfl := hlen p m cap rfl
  have HA := hid (fun W => isAlways_any c p cap W)
  obtain ⟨q, hq⟩ : ∃ q, noc c = q := ⟨_, rfl⟩
  obtain ⟨⟨x1, x2⟩, hx⟩ : ∃ x, cdk ts ws own 8 c = x := ⟨_, rfl⟩
  rw [hq] at HA
  rw [hx] at HCN
  rw [hq, hx]
  obtain ⟨on, ofs⟩ := own
  obtain ⟨ck, csb, l, r⟩ := c
  simp only at HCN HA ⊢
  obtain ⟨m, hm⟩ : ∃ m, csb.length = m := ⟨_, rfl⟩
  rw [hm] at HCN HA ⊢
  have HT : Hid (B3 w (((w.alloc (.cells [.slice tp tn tc, .func (.func 111) #[] #[.pointer (some ⟨b, 0, none⟩)], .map (some mb)].toArray 163)).alloc (.cells (cnC ck (.slice p m cap) l r).toArray 63)).alloc (.cells [.string on, .slice fp fn fc].toArray 72)) [.slice tp tn tc, .func (.func 111) #[] #[.pointer (some ⟨b, 0, none⟩)], .map (some mb)] (cnC ck (.slice p m cap) l r) [.string on, .slice fp fn fc] 163 63 72) := B3.start w _ _ _ _ _ _
  clear hm hq hx hlen hS hF hs hwz hkn hk hty hown
  cases q with
  | true =>
    rw [if_pos rfl]
    go_enter Tryz.func152, Tryz.ntmps152
    go_wp2_with fail
    refine (HA.out _).mono ?_
    rintro e w1 ⟨rfl, hb1⟩
    have HT1 : Hid (B3 w w1 [.slice tp tn tc, .func (.func 111) #[] #[.pointer (some ⟨b, 0, none⟩)], .map (some mb)] (cnC ck (.slice p m cap) l r) [.string on, .slice fp fn fc] 163 63 72) := HT.out.next hb1
    clear hb1
    go_wp2_with fail
    go_ret
    exact ⟨rfl, HT1.out.bel⟩
  | false =>
    rw [if_neg (by decide)]
    go_enter Tryz.func152, Tryz.ntmps152
    go_wp2_with fail
    refine (HA.out _).mono ?_
    rintro e w1 ⟨rfl, hb1⟩
    have HT1 : Hid (B3 w w1 [.slice tp tn tc, .func (.func 111) #[] #[.pointer (some ⟨b, 0, none⟩)], .map (some mb)] (cnC ck (.slice p m cap) l r) [.string on, .slice fp fn fc] 163 63 72) := HT.out.next hb1
    clear hb1
    have s0 : w1.cell? ⟨w.heap.size, 0, none⟩ = some (.slice tp tn tc) := HT1.out.c1 0
    have s1 : w1.cell? ⟨w.heap.size, 1, none⟩ = some (.func (.func 111) #[] #[.pointer (some ⟨b, 0, none⟩)]) := HT1.out.c1 1
    have s2 : w1.cell? ⟨w.heap.size, 2, none⟩ = some (.map (some mb)) := HT1.out.c1 2
    have o0 : w1.cell? ⟨w.heap.size + 2, 0, none⟩ = some (.string on) := HT1.out.c3 0
    have o1 : w1.cell? ⟨w.heap.size + 2, 1, none⟩ = some (.slice fp fn fc) := HT1.out.c3 1
    have XC : Hid (w1.rangeAt (w.heap.size + 1) 0 (cnC ck (.slice p m cap) l r)) := range_blk HT1.out.b2
    go_wp2_with ((with_reducible show wpList _ _ _ (Oper.mk _ (.load _ _) _ _ _ _ :: _) _ _); refine wpList_load_mid (by rfl) 63 _ (by rfl) (w.heap.size + 1) 0 (by rfl) (cnC ck (.slice p m cap) l r) _ XC.out Tryz.underlying63 rfl (by kernel_rfl) ?_)
    refine (HCN.out _ HT1.out.bel).mono ?_
    rintro e w2 ⟨m2, rfl, hm2, hb2⟩
    have HT2 : Hid (B3 w w2 [.slice tp tn tc, .func (.func 111) #[] #[.pointer (some ⟨b, 0, none⟩)], .map (some mb)] (cnC ck (.slice p m cap) l r) [.string on, .slice fp fn fc] 163 63 72) := HT1.out.next hb2
    clear hb2 hm2
    go_wp2_with fail
    go_ret
    exact ⟨rfl, HT2.out.bel⟩
end Go.Proofs.YthndlfdbmljkhaaGreatDoor.Chk
