/-
  Check, by the program.
-/
import Derived.Test.YtpmnagmiikgnkaaDoorDt
import Derived.Test.YtpmnagmiikgnkaaDoorCr
namespace Go.Proofs.YtpmnagmiikgnkaaDoor.Chk
open Go.ChangeShapes Go.WideShapes Go.ChangeAt Go.RowKit Go.Maps
set_option linter.unusedVariables false
set_option linter.unusedSimpArgs false
set_option maxRecDepth 20000
theorem tks_all : ∀ (l done : List Tp), tks done l = 0 → ∀ t, t ∈ l → tyk t.n t.f = 0
  | [], _, _, t, ht => by cases ht
  | y :: r, done, h, t, ht => by
    rw [tks_step] at h
    split at h
    · rename_i c; exact absurd h c
    · rename_i c
      rcases List.mem_cons.1 ht with rfl | ht
      · have c' : tk1 done t = 0 := Classical.byContradiction c
        unfold tk1 at c'
        split at c'
        · rename_i d; exact absurd c' d
        · rename_i d; exact Classical.byContradiction d
      · exact tks_all r _ h t ht
theorem rks_all {ts : List Tp} : ∀ (l done : List Rl), rks (rck ts) done l = 0 → ∀ x, x ∈ l → rck ts x = 0
  | [], _, _, t, ht => by cases ht
  | y :: r, done, h, t, ht => by
    rw [rks_step] at h
    split at h
    · rename_i c; exact absurd h c
    · rename_i c
      rcases List.mem_cons.1 ht with rfl | ht
      · have c' : rk1 ts done t = 0 := Classical.byContradiction c
        unfold rk1 at c'
        split at c'
        · rename_i d; exact absurd c' d
        · rename_i d; exact Classical.byContradiction d
      · exact rks_all r _ h t ht
theorem rck_ok {ts : List Tp} {x : Rl} (h : rck ts x = 0) : Rok ts x ∧ szs x := by
  have h1 : frn x.n = 0 := by
    refine Classical.byContradiction fun c => ?_
    unfold rck at h
    rw [if_pos c] at h
    exact c h
  have h2 : szs x := by
    refine Classical.byContradiction fun c => ?_
    unfold rck at h
    rw [if_neg (fun d => d h1), if_pos c] at h
    omega
  refine ⟨?_, h2⟩
  rw [rck_parts ts x h1 h2] at h
  split at h
  · rename_i c; exact absurd h c
  · rename_i c1
    split at h
    · rename_i c; exact absurd h c
    · rename_i c2
      split at h
      · rename_i c; exact absurd h c
      · rename_i c3
        split at h
        · rename_i c; exact absurd h c
        · have a1 := wfs_known x.w [] (Classical.byContradiction c1)
          have a2 := nfs_known x.t (x.w.map Pt.va) (Classical.byContradiction c2)
          have a3 := mfs_known x.m (x.w.map Pt.va ++ x.t.map Pt.va) (Classical.byContradiction c3)
          refine ⟨fun p hp => ?_, fun he => ?_⟩
          · rw [List.mem_append, List.mem_append] at hp
            rcases hp with (hp | hp) | hp
            · exact a1 p hp
            · exact a2 p hp
            · obtain ⟨m, hm, rfl⟩ := List.mem_map.1 hp
              exact a3 m hm
          · unfold eck at h
            rw [if_neg (by rw [he]; decide)] at h
            split at h
            · omega
            · rename_i c
              rcases ixq_lt (q := fun t : Tp => seq t.n x.e.ty) ts 0 with d | ⟨j, hj, d, _⟩
              · have d0 : tyq ts x.e.ty = -1 := d
                omega
              · exact ⟨j, hj, by show ixq _ _ _ = _; rw [d]; simp⟩
set_option maxHeartbeats 16000000 in
/-- Check tells what the reference's words tell. -/
theorem check_any (ts : List Tp) (rs : List Rl) (hzz : ∀ r, r ∈ rs → Szr r) (tv rv : Value) (w : World) (hT : Rd w (.row 62 2 (ts.map encY)) tv) (hR : Rd w (.row 38 7 (rs.map encR)) rv) (htk : Tab w 0 kpl) (htr : Tab w 1 rll) :
    Calls Tryd.prog 6 #[.agg #[tv, rv]] w fun e w' => e = .returned (.int .i64 (bok ts rs)) ∧ Below w.heap.size w w' := by
  obtain ⟨tp, tc, rfl, _, _⟩ := rd_row lenY hT
  obtain ⟨rp, rc, rfl, _, _⟩ := rd_row lenR hR
  unfold bok bkf
  by_cases hs : 6 < ts.length ∨ 5 < rs.length
  · rw [if_pos hs]
    clear hT hR htk htr
    generalize ts.length = tn at *
    generalize rs.length = rn at *
    have HB : Hid (Below w.heap.size w (w.alloc (.cells #[.slice tp tn tc, .slice rp rn rc] 25))) := (Below.refl _ _).alloc (Nat.le_refl _) _
    by_cases h1 : 6 < tn
    · have d1 : decide ((tn : Int) > 6) = true := by simp; omega
      have d2 : (6 : Int) < (tn : Int) := by omega
      clear hs
      go_enter Tryd.func6, Tryd.ntmps6
      go_wp2_with fail
      go_ret
      exact ⟨rfl, HB.out⟩
    · have d1 : decide ((tn : Int) > 6) = false := by simp; omega
      have d2 : ¬ (6 : Int) < (tn : Int) := by omega
      have d3 : decide ((rn : Int) > 5) = true := by simp; omega
      have d4 : (5 : Int) < (rn : Int) := by omega
      clear hs
      go_enter Tryd.func6, Tryd.ntmps6
      go_wp2_with fail
      go_ret
      exact ⟨rfl, HB.out⟩
  · rw [if_neg hs]
    have HCT := hid (fun W (hW : Below w.heap.size w W) => checkTypes_any ts _ W (hT.later hW) (tab_later htk hW) (tab_later htr hW) (by omega))
    have HCR := hid (fun (hz : tks [] ts = 0) W (hW : Below w.heap.size w W) => checkRules_any ts (fun i hi => tks_all ts [] hz _ (List.getElem_mem hi)) rs hzz _ _ W (hT.later hW) (hR.later hW) (tab_later htk hW) (tab_later htr hW) (by omega))
    have HIE := hid (fun (hz : tks [] ts = 0) (hr : rks (rck ts) [] rs = 0) (q : Bool) (hq : ts.any (fun t => cmo rs t.n rs.length t.n) = q) W (hW : Below w.heap.size w W) => isEndless_any ts rs (fun x hx => (rck_ok (rks_all rs [] hr x hx)).1) (by omega) (fun x hx => by have h := (rck_ok (rks_all rs [] hr x hx)).2; unfold szs at h; omega) _ _ W (hT.later hW) (hR.later hW) q (by rw [← hq]; exact edl_eq (dst_of hz) (fun x hx => (rck_ok (rks_all rs [] hr x hx)).1) (by omega) (fun i j => edb_iff ts rs i j)))
    obtain ⟨qe, hqe⟩ : ∃ q, ts.any (fun t => cmo rs t.n rs.length t.n) = q := ⟨_, rfl⟩
    rw [hqe]
    have HIE2 := hid (fun hz hr => HIE.out hz hr qe hqe)
    clear HIE hqe hT hR htk htr hzz
    obtain ⟨E1, hE1⟩ : ∃ E, tks [] ts = E := ⟨_, rfl⟩
    obtain ⟨E2, hE2⟩ : ∃ E, rks (rck ts) [] rs = E := ⟨_, rfl⟩
    rw [hE1, hE2]
    rw [hE1] at HCT HCR HIE2
    rw [hE2] at HCR HIE2
    clear hE1 hE2
    obtain ⟨tn, htn⟩ : ∃ n, ts.length = n := ⟨_, rfl⟩
    obtain ⟨rn, hrn⟩ : ∃ n, rs.length = n := ⟨_, rfl⟩
    rw [htn] at HCT HCR HIE2 hs ⊢
    rw [hrn] at HCR HIE2 hs ⊢
    have d1 : decide ((tn : Int) > 6) = false := by simp; omega
    have d2 : ¬ (6 : Int) < (tn : Int) := by omega
    have d3 : decide ((rn : Int) > 5) = false := by simp; omega
    have d4 : ¬ (5 : Int) < (rn : Int) := by omega
    have HT : Hid (BlkT w (w.alloc (.cells [.slice tp tn tc, .slice rp rn rc].toArray 25)) [.slice tp tn tc, .slice rp rn rc] 25) := BlkT.start w _ _
    clear htn hrn hs
    by_cases h1 : E1 = 0
    · have HR0 := hid (HCR.out h1)
      have HI0 := hid (HIE2.out h1)
      clear HCR HIE2
      have HCR := HR0
      rw [if_neg (fun c => c h1)]
      subst h1
      by_cases h2 : E2 = 0
      · have HIE := hid (HI0.out h2)
        rw [if_neg (fun c => c h2)]
        subst h2
        clear HI0 HR0
        cases qe with
        | true =>
          rw [if_pos rfl]
          go_enter Tryd.func6, Tryd.ntmps6
          go_wp2_with fail
          refine (HCT.out _ HT.out.bel).mono ?_
          rintro e w1 ⟨rfl, hb1⟩
          have HT1 : Hid (BlkT w w1 [.slice tp tn tc, .slice rp rn rc] 25) := HT.out.next hb1
          clear hb1
          have c0 : w1.cell? ⟨w.heap.size, 0, none⟩ = some (.slice tp tn tc) := HT1.out.c 0
          have c1 : w1.cell? ⟨w.heap.size, 1, none⟩ = some (.slice rp rn rc) := HT1.out.c 1
          go_wp2_with fail
          refine (HCR.out _ HT1.out.bel).mono ?_
          rintro e w2 ⟨rfl, hb2⟩
          have HT2 : Hid (BlkT w w2 [.slice tp tn tc, .slice rp rn rc] 25) := HT1.out.next hb2
          clear hb2 c0 c1
          have c0 : w2.cell? ⟨w.heap.size, 0, none⟩ = some (.slice tp tn tc) := HT2.out.c 0
          have c1 : w2.cell? ⟨w.heap.size, 1, none⟩ = some (.slice rp rn rc) := HT2.out.c 1
          go_wp2_with fail
          refine (HIE.out _ HT2.out.bel).mono ?_
          rintro e w3 ⟨rfl, hb3⟩
          have HT3 : Hid (BlkT w w3 [.slice tp tn tc, .slice rp rn rc] 25) := HT2.out.next hb3
          clear hb3 c0 c1
          go_wp2_with fail
          go_ret
          exact ⟨rfl, HT3.out.bel⟩
        | false =>
          rw [if_neg (by decide)]
          go_enter Tryd.func6, Tryd.ntmps6
          go_wp2_with fail
          refine (HCT.out _ HT.out.bel).mono ?_
          rintro e w1 ⟨rfl, hb1⟩
          have HT1 : Hid (BlkT w w1 [.slice tp tn tc, .slice rp rn rc] 25) := HT.out.next hb1
          clear hb1
          have c0 : w1.cell? ⟨w.heap.size, 0, none⟩ = some (.slice tp tn tc) := HT1.out.c 0
          have c1 : w1.cell? ⟨w.heap.size, 1, none⟩ = some (.slice rp rn rc) := HT1.out.c 1
          go_wp2_with fail
          refine (HCR.out _ HT1.out.bel).mono ?_
          rintro e w2 ⟨rfl, hb2⟩
          have HT2 : Hid (BlkT w w2 [.slice tp tn tc, .slice rp rn rc] 25) := HT1.out.next hb2
          clear hb2 c0 c1
          have c0 : w2.cell? ⟨w.heap.size, 0, none⟩ = some (.slice tp tn tc) := HT2.out.c 0
          have c1 : w2.cell? ⟨w.heap.size, 1, none⟩ = some (.slice rp rn rc) := HT2.out.c 1
          go_wp2_with fail
          refine (HIE.out _ HT2.out.bel).mono ?_
          rintro e w3 ⟨rfl, hb3⟩
          have HT3 : Hid (BlkT w w3 [.slice tp tn tc, .slice rp rn rc] 25) := HT2.out.next hb3
          clear hb3 c0 c1
          go_wp2_with fail
          go_ret
          exact ⟨rfl, HT3.out.bel⟩
      · rw [if_pos h2]
        have d9 : (E2 != 0) = true := by simpa using h2
        clear h2 HI0 HR0
        go_enter Tryd.func6, Tryd.ntmps6
        go_wp2_with fail
        refine (HCT.out _ HT.out.bel).mono ?_
        rintro e w1 ⟨rfl, hb1⟩
        have HT1 : Hid (BlkT w w1 [.slice tp tn tc, .slice rp rn rc] 25) := HT.out.next hb1
        clear hb1
        have c0 : w1.cell? ⟨w.heap.size, 0, none⟩ = some (.slice tp tn tc) := HT1.out.c 0
        have c1 : w1.cell? ⟨w.heap.size, 1, none⟩ = some (.slice rp rn rc) := HT1.out.c 1
        go_wp2_with fail
        refine (HCR.out _ HT1.out.bel).mono ?_
        rintro e w2 ⟨rfl, hb2⟩
        have HT2 : Hid (BlkT w w2 [.slice tp tn tc, .slice rp rn rc] 25) := HT1.out.next hb2
        clear hb2 c0 c1
        go_wp2_with fail
        go_ret
        exact ⟨rfl, HT2.out.bel⟩
    · rw [if_pos h1]
      have d9 : (E1 != 0) = true := by simpa using h1
      clear h1 HCR HIE2
      go_enter Tryd.func6, Tryd.ntmps6
      go_wp2_with fail
      refine (HCT.out _ HT.out.bel).mono ?_
      rintro e w1 ⟨rfl, hb1⟩
      have HT1 : Hid (BlkT w w1 [.slice tp tn tc, .slice rp rn rc] 25) := HT.out.next hb1
      clear hb1
      go_wp2_with fail
      go_ret
      exact ⟨rfl, HT1.out.bel⟩
end Go.Proofs.YtpmnagmiikgnkaaDoor.Chk
