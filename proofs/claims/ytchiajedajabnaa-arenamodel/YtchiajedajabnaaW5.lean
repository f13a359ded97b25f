/-
  The walk of the law ArenaModel: the loop.
-/
import Derived.Test.YtchiajedajabnaaW4
namespace Go.Proofs.Ytchiajedajabnaa
open Go.ChangeShapes Go.WideShapes Go.ChangeAt Go.RowKit
set_option linter.unusedVariables false
set_option linter.unusedSimpArgs false
set_option maxRecDepth 100000 in
set_option maxHeartbeats 16000000 in
theorem arenaModel_walk (v : Value) (al : List Q4) (w : World) (hv : JobsAt w v al) (hwf : ∀ x, x ∈ al → wf4 x) (hml : al.length ≤ maxLen) :
    Calls Try.prog 4 #[v] w fun e w' => e = .returned (.bool true) ∧ Below w.heap.size w w' := by
  have HV : Hid (JobsAt w v al ∧ (∀ x, x ∈ al → wf4 x) ∧ al.length ≤ maxLen) := ⟨hv, hwf, hml⟩
  clear hv hwf hml
  have hmm := @run_makeMap Try.prog
  go_enter Try.func4, Try.ntmps4
  go_wp2_with fail
  refine (jobs_any v al _ HV.out.1 HV.out.2.1 HV.out.2.2).mono ?_
  rintro e w1 ⟨u, js, rfl, hrow, hlen, hok, hB⟩
  obtain ⟨pu, cu, rfl⟩ := own_shape hrow
  have HROW : Hid (w1.ownsRow w.heap.size 37 4 (.slice pu js.length cu) js.length (js.flatMap enc4)) := hrow
  have HB : Hid (Below w.heap.size w w1) := hB
  have HOK : Hid (∀ d, d ∈ js → Okj d) := hok
  clear hrow hok hB HV
  go_wp2_with fail
  refine (play_any _ js _ (jobs_own HROW.out) (by omega)).mono ?_
  rintro e w4 ⟨u, rfl, hF, hB4⟩
  have HB4 : Hid (Below w.heap.size w w4) := HB.out.trans (hB4.mono HB.out.size)
  have hJ := (jobs_own HROW.out).below hB4
  obtain ⟨n, hn⟩ : ∃ n, js.length = n := ⟨_, rfl⟩
  obtain ⟨pf, cf, rfl, hf⟩ := hF
  rw [play_len]
  obtain ⟨pj, cj, hpj, hj⟩ := hJ
  simp only [Value.slice.injEq, true_and] at hpj
  obtain ⟨rfl, rfl⟩ := hpj
  have HF : Hid (0 < (play s0 js).length → ∃ g, pf = some ⟨g, 0, none⟩ ∧ ∀ j (hj : j < (play s0 js).length), g < w4.heap.size ∧ w4.cell? ⟨g, j * 4, none⟩ = some (.int .i64 (play s0 js)[j].1) ∧ w4.cell? ⟨g, j * 4 + 1, none⟩ = some (.int .i64 (play s0 js)[j].2.1) ∧ w4.cell? ⟨g, j * 4 + 2, none⟩ = some (.int .i64 (play s0 js)[j].2.2.1) ∧ w4.cell? ⟨g, j * 4 + 3, none⟩ = some (.int .i64 (play s0 js)[j].2.2.2)) := hf
  have HJ : Hid (0 < js.length → ∃ g off, pu = some ⟨g, off, none⟩ ∧ ∀ j (hj : j < js.length), g < w4.heap.size ∧ w4.cell? ⟨g, off + j * 4, none⟩ = some (.int .i64 js[j].1) ∧ w4.cell? ⟨g, off + j * 4 + 1, none⟩ = some (.int .i64 js[j].2.1) ∧ w4.cell? ⟨g, off + j * 4 + 2, none⟩ = some (.int .i64 js[j].2.2.1) ∧ w4.cell? ⟨g, off + j * 4 + 3, none⟩ = some (.int .i64 js[j].2.2.2)) := hj
  have HN : Hid (js.length = n) := hn
  rw [hn] at hlen ⊢
  clear hf hj hB4 hn HB HROW
  go_wp2
  obtain ⟨kb, hkb⟩ : ∃ kb, w4.heap.size = kb := ⟨_, rfl⟩
  obtain ⟨W5, hW5⟩ : ∃ W5, W5 = (w4.alloc (.map #[] 0)).alloc (.map #[] 0) := ⟨_, rfl⟩
  have hst := model_start w4
  rw [← hW5, hkb] at hst
  have HST : Hid (Mr W5 W5 kb (kb + 1) s0 0 0 0) := hst
  have HW5 : Hid (Below w4.heap.size w4 W5 ∧ W5.heap.size = kb + 2) := by
    show _ ∧ _
    rw [hW5, ← hkb]
    exact ⟨(below_new' _ _).trans ((below_new' _ _).mono (by simp)), by simp⟩
  have HKB : Hid (w4.heap.size = kb) := hkb
  rw [← hW5, hkb]
  clear hW5 hst hkb hmm
  go_loopw [8] (fun i wr => ∃ (k n1 n2 : Nat), k ≤ n ∧ i = .int .i64 (k : Nat) ∧ Mr W5 wr kb (kb + 1) (after s0 (js.take k)) k n1 n2) (fun i _ => n + 1 - (intOf i).toNat)
  case atStart => exact ⟨0, 0, 0, by omega, rfl, HST.out⟩
  case round =>
    obtain ⟨k, n1, n2, hk, rfl, hM⟩ := hrel
    by_cases hlt : k < n
    · have hkj : k < js.length := by have := HN.out; omega
      have hkp : k < (play s0 js).length := by rw [play_len]; exact hkj
      obtain ⟨g, hg, hcf⟩ := HF.out (by rw [play_len]; omega)
      obtain ⟨gj, off, hgj, hcj⟩ := HJ.out (by omega)
      subst hg hgj
      obtain ⟨hgs, f0, f1, f2, f3⟩ := hcf k hkp
      obtain ⟨hjs, j0, j1, j2, j3⟩ := hcj k hkj
      have hq : (play s0 js)[k] = (step (after s0 (js.take k)) js[k]).1 := by
        have := play_at s0 js k hkj
        rw [List.getElem?_eq_getElem hkp] at this
        exact Option.some.inj this
      have hokd := HOK.out js[k] (List.getElem_mem _)
      have haf := after_step s0 js k hkj
      have hai : Ai (after s0 (js.take k)) k := by
        have := Ai.none.after (js.take k)
        rw [List.length_take, Nat.min_eq_left (by omega), Nat.zero_add] at this
        exact this
      have hab : Ab (after s0 (js.take k)) := Ab.none.after _
      obtain ⟨d, hdk⟩ : ∃ d, js[k] = d := ⟨_, rfl⟩
      obtain ⟨S, hS⟩ : ∃ S, after s0 (js.take k) = S := ⟨_, rfl⟩
      rw [hq] at f0 f1 f2 f3
      rw [hdk] at j0 j1 j2 j3 hokd
      rw [hdk, hS] at f0 f1 f2 f3 haf
      rw [hS] at hM hai hab
      obtain ⟨kd, nu, p, t⟩ := d
      dsimp only at j0 j1 j2 j3
      unfold Okj at hokd
      dsimp only at hokd
      have hT : ∀ x : Addr, x.block < w4.heap.size → wr.cell? x = w4.cell? x := fun x hx => by
        have h1 := HW5.out
        have h2 := HKB.out
        exact (hM.turn.cell (p := x) (by omega) (by omega)).trans (h1.1.cell (p := x) hx)
      have b0 := (hT ⟨gj, off + k * 4, none⟩ hjs).trans j0
      have b1 := (hT ⟨gj, off + k * 4 + 1, none⟩ hjs).trans j1
      have b2 := (hT ⟨gj, off + k * 4 + 2, none⟩ hjs).trans j2
      have b3 := (hT ⟨gj, off + k * 4 + 3, none⟩ hjs).trans j3
      have e0 := (hT ⟨g, k * 4, none⟩ hgs).trans f0
      have e1 := (hT ⟨g, k * 4 + 1, none⟩ hgs).trans f1
      have e2 := (hT ⟨g, k * 4 + 2, none⟩ hgs).trans f2
      have e3 := (hT ⟨g, k * 4 + 3, none⟩ hgs).trans f3
      have b0a : ∀ o, (wr.alloc o).cell? ⟨gj, off + k * 4, none⟩ = some (.int .i64 kd) := fun o => cellA b0
      have b1a : ∀ o, (wr.alloc o).cell? ⟨gj, off + k * 4 + 1, none⟩ = some (.int .i64 nu) := fun o => cellA b1
      have b2a : ∀ o, (wr.alloc o).cell? ⟨gj, off + k * 4 + 2, none⟩ = some (.int .i64 p) := fun o => cellA b2
      have b3a : ∀ o, (wr.alloc o).cell? ⟨gj, off + k * 4 + 3, none⟩ = some (.int .i64 t) := fun o => cellA b3
      have hwr : kb + 2 ≤ wr.heap.size := by have := hM.turn.size; have := HW5.out.2; omega
      have hks : g < kb ∧ gj < kb := by have := HKB.out; omega
      have HKS : Hid (g < kb ∧ gj < kb ∧ kb + 2 ≤ wr.heap.size) := ⟨hks.1, hks.2, hwr⟩
      have m1 : wr.heap.size ≠ g := by omega
      have m2 : wr.heap.size ≠ gj := by omega
      have i1 : (0 : Int) ≤ (k : Int) := by omega
      have i2 : (k : Int) < (n : Int) := by omega
      have wp : wfI p := by unfold wfI; omega
      have wt : wfI t := by unfold wfI; omega
      have hlk := hM.kp.look wp wt
      have hn1 : n1 ≤ 2000 := by have h1 := hM.lv; have h2 := hai.pl; unfold As.live at h1; omega
      have hlive : s0.live = 0 := rfl
      have HM : Hid (Mr W5 wr kb (kb + 1) S k n1 n2) := hM
      have HAF : Hid (after s0 (js.take (k + 1)) = (step S (kd, nu, p, t)).2) := haf
      have HWP : Hid (wfI p ∧ wfI t) := ⟨wp, wt⟩
      have HN1 : Hid (n1 ≤ 2000 ∧ n2 ≤ 2000) := ⟨hn1, by have := hM.nk; omega⟩
      clear hcf hcj hgs hjs f0 f1 f2 f3 j0 j1 j2 j3 hq hdk hS haf hT hkp hlive hks wp wt hwr
      rcases (by omega : kd = 1 ∨ kd = 4 ∨ kd = 2 ∨ kd = 3) with rfl | rfl | rfl | rfl
      · obtain ⟨a, u, hL, hak, huk⟩ := lent (n := nu) hab hai HM.out.ac (by omega) (by have := hai.pl; unfold As.live; omega)
        have hs1 : step S (1, nu, p, t) = ln S nu := by simp [step]
        rw [hs1, hL.found] at e0 e1 e2 e3
        dsimp only at e0 e1 e2 e3
        generalize (keptF S p t).getD (.int .i64 0) = x at hlk
        generalize (keptF S p t).isSome = b at hlk
        have hu0 := hL.u0
        have wa : wfI (a : Int) := by unfold wfI; omega
        have wu : wfI (u + 1) := by unfold wfI; omega
        have hG0 : ∀ o, (Instr.lookup 32 (.map (some (kb + 1))) (.agg #[.int .i64 a, .int .i64 (u + 1)]) false).run Try.prog (wr.alloc o) = .ok (.bool false) (wr.alloc o) := fun o => by
          have := (HM.out.gv.block (below_new' wr o |>.block _ HM.out.gv.lt)).mark wa wu
          rw [hL.fresh] at this
          exact this
        have d1 : decide (u + 1 < 1) = false := decide_eq_false (by omega)
        have HL : Hid (Lent S nu (ln S nu).1 (ln S nu).2 a u) := hL
        have HWA : Hid (wfI (a : Int) ∧ wfI (u + 1)) := ⟨wa, wu⟩
        have HS1 : Hid (step S (1, nu, p, t) = ln S nu) := hs1
        clear hL hs1 wa wu hu0 hak huk
        go_wp2_with (at_mapUpdate; refine wpList_store_mh _ (by rfl) _ _ _ 32 4 Try.underlying32 (by rfl) (kb + 1) (givenF S) n2 (by rfl) (HM.out.gv.block ((below_new' wr _).block _ HM.out.gv.lt)) HN1.out.2 a (u + 1) HWA.out.1 HWA.out.2 (by rfl) (.bool true) (el_bool true) (by rfl) ?_; intro w6 hG ht)
        have tg := turned ht
        have hsW : (wr.alloc (.cells #[.int .i64 0, .int .i64 0, .int .i64 (a : Int), .int .i64 (u + 1)] 39)).heap.size = wr.heap.size + 1 := by simp
        have z2 : w6.cell? ⟨wr.heap.size, 2, none⟩ = some (.int .i64 (a : Int)) := (tg.cell (p := ⟨wr.heap.size, 2, none⟩) (by rw [hsW]; exact Nat.lt_succ_self _) (by have := HKS.out; show ¬ wr.heap.size = kb + 1; omega)).trans (by go_simp)
        have z3 : w6.cell? ⟨wr.heap.size, 3, none⟩ = some (.int .i64 (u + 1)) := (tg.cell (p := ⟨wr.heap.size, 3, none⟩) (by rw [hsW]; exact Nat.lt_succ_self _) (by have := HKS.out; show ¬ wr.heap.size = kb + 1; omega)).trans (by go_simp)
        have z1 : w6.cell? ⟨gj, off + k * 4 + 1, none⟩ = some (.int .i64 nu) := (tg.cell (p := ⟨gj, off + k * 4 + 1, none⟩) (by have := HKS.out; rw [hsW]; show gj < _; omega) (by have := HKS.out; show ¬ gj = kb + 1; omega)).trans (b1a _)
        have hml := model_lend (by omega) HM.out (below_new' wr (.cells #[.int .i64 0, .int .i64 0, .int .i64 (a : Int), .int .i64 (u + 1)] 39)) HL.out hG ht HN1.out.1 HWA.out.1 HWA.out.2 1
        rw [show w6.drewN 1 = w6.drew from rfl] at hml
        obtain ⟨hrun, hml2, hml3⟩ := hml
        obtain ⟨w8, hw8⟩ : ∃ w8, putH kb a (u + 1) nu w6.drew = w8 := ⟨_, rfl⟩
        rw [hw8] at hrun hml2 hml3
        have hw6 : wr.heap.size < w6.heap.size := World.block_lt_of_cell? _ _ z2
        have y1 : w8.cell? ⟨gj, off + k * 4 + 1, none⟩ = some (.int .i64 nu) := (hml3.cell (p := ⟨gj, off + k * 4 + 1, none⟩) (World.block_lt_of_cell? _ _ z1) (by have := HKS.out; show ¬ gj = kb; omega)).trans z1
        have y2 : w8.cell? ⟨wr.heap.size, 2, none⟩ = some (.int .i64 (a : Int)) := (hml3.cell (p := ⟨wr.heap.size, 2, none⟩) hw6 (by have := HKS.out; show ¬ wr.heap.size = kb; omega)).trans z2
        have y3 : w8.cell? ⟨wr.heap.size, 3, none⟩ = some (.int .i64 (u + 1)) := (hml3.cell (p := ⟨wr.heap.size, 3, none⟩) hw6 (by have := HKS.out; show ¬ wr.heap.size = kb; omega)).trans z3
        have HML : Hid (Mr W5 w8 kb (kb + 1) (ln S nu).2 (k + 1) (n1 + 1) (n2 + 1)) := hml2
        clear hml2 hml3 hw8 hG ht tg hsW hw6 b0a b1a b2a b3a b0 b1 b2 b3 hG0 hlk e0 e1 e2 e3
        go_region_held3 (fun w' => w'.cell? ⟨wr.heap.size, 2, none⟩ = some (.int .i64 (a : Int)) ∧ w'.cell? ⟨wr.heap.size, 3, none⟩ = some (.int .i64 (u + 1)) ∧ w'.cell? ⟨gj, off + k * 4 + 1, none⟩ = some (.int .i64 nu)) (go_keep) (fail)
        all_goals
          go_wp2
          go_roundw
          case rel =>
            have e : after s0 (js.take (k + 1)) = (ln S nu).2 := HAF.out.trans (by rw [HS1.out])
            exact ⟨k + 1, n1 + 1, n2 + 1, by omega, by go_num, by rw [e]; exact HML.out⟩
          case measure => simp [intOf]; omega
      · have hs1 : (step S (4, nu, p, t)).1 = (0, S.live, 0, 0) := by simp [step]
        rw [hs1, ← HM.out.lv] at e1
        rw [hs1] at e0 e2 e3
        dsimp only at e0 e1 e2 e3
        generalize (keptF S p t).getD (.int .i64 0) = x at hlk
        generalize (keptF S p t).isSome = b at hlk
        clear hs1
        go_wp2_with (at_len; refine wpList_len_mh _ (by rfl) _ (by rfl) kb (keptF S) n1 (by rfl) (HM.out.kp.block ((below_new' wr _).block _ HM.out.kp.lt)) ?_)
        go_roundw
        case rel =>
          refine ⟨k + 1, n1, n2, by omega, by go_num, ?_⟩
          have e : after s0 (js.take (k + 1)) = S := HAF.out.trans (by simp [step])
          rw [e]
          exact HM.out.below (below_new' _ _)
        case measure => simp [intOf]; omega
      · skip
        rcases looked HM.out.ac p t with ⟨hc1, hc2, hc3⟩ | ⟨hc1, hc2, hc3⟩
        · obtain ⟨y, hy⟩ : ∃ y, S.num p.toNat = y := ⟨_, rfl⟩
          rw [hy] at hc2 hc3
          rw [hc2] at hlk
          have hs1 : (step S (2, nu, p, t)).1 = (0, y, 0, 0) := by rw [← hc3]; simp [step]
          rw [hs1] at e0 e1 e2 e3
          dsimp only [Option.getD, Option.isSome] at e0 e1 e2 e3 hlk
          have HC2 : Hid (keptF S p t = some (.int .i64 y)) := hc2
          clear hc1 hc2 hc3 hy hs1
          go_wp2
          go_roundw
          case rel =>
            refine ⟨k + 1, n1, n2, by omega, by go_num, ?_⟩
            have e : after s0 (js.take (k + 1)) = S := HAF.out.trans (by simp [step])
            rw [e]
            exact HM.out.below (below_new' _ _)
          case measure => simp [intOf]; omega
        · rw [hc2] at hlk
          have hs1 : (step S (2, nu, p, t)).1 = (chk S p t, 0, 0, 0) := by rw [← hc3]; simp [step]
          rw [hs1] at e0 e1 e2 e3
          dsimp only [Option.getD, Option.isSome] at e0 e1 e2 e3 hlk
          have HC2 : Hid (keptF S p t = none) := hc2
          obtain ⟨c, hc⟩ : ∃ c, chk S p t = c := ⟨_, rfl⟩
          rw [hc] at hc1 e0
          clear hc2 hc3 hc hs1
          rcases hc1 with rfl | rfl
          · skip
            go_wp2
            go_roundw
            case rel =>
              refine ⟨k + 1, n1, n2, by omega, by go_num, ?_⟩
              have e : after s0 (js.take (k + 1)) = S := HAF.out.trans (by simp [step])
              rw [e]
              exact HM.out.below (below_new' _ _)
            case measure => simp [intOf]; omega
          · skip
            go_wp2
            go_roundw
            case rel =>
              refine ⟨k + 1, n1, n2, by omega, by go_num, ?_⟩
              have e : after s0 (js.take (k + 1)) = S := HAF.out.trans (by simp [step])
              rw [e]
              exact HM.out.below (below_new' _ _)
            case measure => simp [intOf]; omega
      · have HPOS : Hid ((keptF S p t).isSome = true → 1 ≤ n1) := fun hs => by
          have h1 := (backed HM.out.ac p t).2.2.2.1 hs
          have h2 := (hab.step (3, nu, p, t)).live
          have h3 : (step S (3, nu, p, t)).2 = bk S p t := by simp [step]
          rw [h3] at h2
          have := HM.out.lv
          omega
        rcases looked HM.out.ac p t with ⟨hc1, hc2, hc3⟩ | ⟨hc1, hc2, hc3⟩
        · obtain ⟨y, hy⟩ : ∃ y, S.num p.toNat = y := ⟨_, rfl⟩
          rw [hy] at hc2 hc3
          rw [hc2] at hlk
          have hs1 : (step S (3, nu, p, t)).1 = (0, y, 0, 0) := by rw [← hc3]; simp [step]
          rw [hs1] at e0 e1 e2 e3
          dsimp only [Option.getD, Option.isSome] at e0 e1 e2 e3 hlk
          have HC2 : Hid (keptF S p t = some (.int .i64 y)) := hc2
          clear hc1 hc2 hc3 hy hs1
          go_wp2_with (at_delete; refine wpList_delete_mh _ (by rfl) _ _ (by rfl) kb (keptF S) n1 (by rfl) (HM.out.kp.block ((below_new' wr _).block _ HM.out.kp.lt)) p t HWP.out.1 HWP.out.2 (by rfl) ?_; intro w6 hK ht)
          go_roundw
          case rel =>
            have e : after s0 (js.take (k + 1)) = bk S p t := HAF.out.trans (by simp [step])
            obtain ⟨m, hm⟩ := model_back (by omega) HM.out (below_new' _ _) hK ht HPOS.out
            exact ⟨k + 1, m, n2, by omega, by go_num, by rw [e]; exact hm⟩
          case measure => simp [intOf]; omega
        · rw [hc2] at hlk
          have hs1 : (step S (3, nu, p, t)).1 = (chk S p t, 0, 0, 0) := by rw [← hc3]; simp [step]
          rw [hs1] at e0 e1 e2 e3
          dsimp only [Option.getD, Option.isSome] at e0 e1 e2 e3 hlk
          have HC2 : Hid (keptF S p t = none) := hc2
          obtain ⟨c, hc⟩ : ∃ c, chk S p t = c := ⟨_, rfl⟩
          rw [hc] at hc1 e0
          clear hc2 hc3 hc hs1
          rcases hc1 with rfl | rfl
          · skip
            go_wp2_with (at_delete; refine wpList_delete_mh _ (by rfl) _ _ (by rfl) kb (keptF S) n1 (by rfl) (HM.out.kp.block ((below_new' wr _).block _ HM.out.kp.lt)) p t HWP.out.1 HWP.out.2 (by rfl) ?_; intro w6 hK ht)
            go_roundw
            case rel =>
              have e : after s0 (js.take (k + 1)) = bk S p t := HAF.out.trans (by simp [step])
              obtain ⟨m, hm⟩ := model_back (by omega) HM.out (below_new' _ _) hK ht HPOS.out
              exact ⟨k + 1, m, n2, by omega, by go_num, by rw [e]; exact hm⟩
            case measure => simp [intOf]; omega
          · skip
            go_wp2_with (at_delete; refine wpList_delete_mh _ (by rfl) _ _ (by rfl) kb (keptF S) n1 (by rfl) (HM.out.kp.block ((below_new' wr _).block _ HM.out.kp.lt)) p t HWP.out.1 HWP.out.2 (by rfl) ?_; intro w6 hK ht)
            go_roundw
            case rel =>
              have e : after s0 (js.take (k + 1)) = bk S p t := HAF.out.trans (by simp [step])
              obtain ⟨m, hm⟩ := model_back (by omega) HM.out (below_new' _ _) hK ht HPOS.out
              exact ⟨k + 1, m, n2, by omega, by go_num, by rw [e]; exact hm⟩
            case measure => simp [intOf]; omega
    · obtain rfl : k = n := by omega
      have HBr : Hid (Below w.heap.size w wr) := by
        have h1 := HB4.out.trans (HW5.out.1.mono HB4.out.size)
        exact h1.trans (hM.turn.below h1.size (fun x hx c => by have := HKB.out; have := HB4.out.size; omega))
      clear hM hlt
      go_wp2_with fail
      have hr := World.ownsRow_lit (base := wr.heap.size) (e := 37) (size := 4) wr #[.int .i64 1, .int .i64 5, .int .i64 0, .int .i64 0] 1 (Nat.le_refl _) (by unfold maxLen; omega) rfl
      have hjo : JobsAt (wr.alloc (.cells #[.int .i64 1, .int .i64 5, .int .i64 0, .int .i64 0] 37)) (.slice (some ⟨wr.heap.size, 0, none⟩) 1 1) [(1, 5, 0, 0)] := jobs_own (fs := [(1, 5, 0, 0)]) hr
      refine (play_any _ [(1, 5, 0, 0)] _ hjo (by simp)).mono ?_
      have hp1 : play s0 [(1, 5, 0, 0)] = [(0, 0, 0, 1)] := by decide
      rw [hp1]
      rintro e w7 ⟨u, rfl, hF, hB7⟩
      obtain ⟨g, cap, rfl, hc⟩ := hF.form (by simp)
      obtain ⟨_, _, c2, c3⟩ := hc 0 _ rfl
      dsimp only [Nat.zero_mul, Nat.zero_add, List.length_cons, List.length_nil] at c2 c3 ⊢
      have HB7 : Hid (Below w.heap.size w w7) := (HBr.out.trans ((below_new' _ _).mono HBr.out.size)).trans (hB7.mono (by have := HBr.out.size; simp; omega))
      clear hr hjo hp1 hF hB7 hc
      go_wp2
      go_ret
      exact ⟨rfl, HB7.out⟩
end Go.Proofs.Ytchiajedajabnaa
