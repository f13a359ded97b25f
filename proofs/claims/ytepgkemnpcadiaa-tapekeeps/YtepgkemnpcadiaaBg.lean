/-
  Acts that are the same; acts that begin others.
-/
import Derived.Test.YtepgkemnpcadiaaPl
import Derived.Test.YtepgkemnpcadiaaZc
namespace Go.Proofs.Ytepgkemnpcadiaa
open Go.ChangeShapes Go.WideShapes Go.ChangeAt Go.RowKit Go.Maps
set_option linter.unusedVariables false
set_option linter.unusedSimpArgs false
set_option maxRecDepth 20000
theorem ach_few {a : Ac} (h : ach a = 0) : a.o.l.length ≤ 1000 := by
  obtain ⟨k, o, p, s⟩ := a
  show o.l.length ≤ 1000
  rcases ach_kind h with ⟨_, h2, _⟩ | ⟨_, _, _, h4⟩
  · have h2 : ochk o = 0 := h2
    have hb : brk o = 0 := by
      by_cases hb : brk o = 0
      · exact hb
      · rw [ochk_of rfl hb] at h2; exact h2
    rcases brk_kind hb with hk | hk | hk
    · rw [ochk_1 hb hk] at h2
      have he : evk o.a o.b o.l = 0 := by
        by_cases he : evk o.a o.b o.l = 0
        · exact he
        · rw [if_pos he] at h2; exact absurd h2 he
      unfold evk at he
      split at he
      · contradiction
      · split at he
        · cases he
        · omega
    · have : o.l.length = 0 := by
        unfold brk S.bare at hb
        rw [hk] at hb
        by_cases hz : o.l.length = 0
        · exact hz
        · exfalso; revert hb; simp [hz]
      omega
    · have : o.l.length = 0 := by
        unfold brk S.bare at hb
        rw [hk] at hb
        by_cases hz : o.l.length = 0
        · exact hz
        · exfalso; revert hb; simp [hz]
      omega
  · have h4 : emp o = true := h4
    rw [emp_zop h4]
    exact Nat.zero_le _
set_option maxHeartbeats 16000000 in
theorem sameActK_any (a : Ac) (u1 u2 : Value) (w : World) (h1 : ValsAt w u1 a.o.l) (h2 : ValsAt w u2 a.o.l) (hl : a.o.l.length ≤ 1000) :
    Calls Try.prog 41 #[acv a u1, acv a u2] w fun e w' => e = .returned (.bool true) ∧ Below w.heap.size w w' := by
  obtain ⟨ak, ⟨ok, os, oa, ob, ol, od, oc⟩, aq, ay⟩ := a
  simp only at h1 h2 hl
  obtain ⟨p1, c1, hs1, _⟩ := h1.shape'
  obtain ⟨p2, c2, hs2, _⟩ := h2.shape'
  obtain ⟨n1, hn1⟩ : ∃ n, ol.length = n := ⟨_, rfl⟩
  obtain ⟨n2, hn2⟩ : ∃ n, ol.length = n := ⟨_, rfl⟩
  have HSO := hid (fun W (b : Below w.heap.size w W) => sameOpK_any ⟨ok, os, oa, ob, ol, od, oc⟩ u1 u2 W (h1.below b) (h2.below b) hl)
  rw [hn1] at hs1
  rw [hn2] at hs2
  subst hs1 hs2
  unfold opv at HSO
  unfold acv
  simp only at HSO ⊢
  clear h1 h2 hl hn1 hn2
  have HB2 := hid (bxs2 w [.int .i64 ak, .int .i64 ok, .string os, .int .i64 oa, .int .i64 ob, .slice p1 n1 c1, .int .i64 od, .bool oc, .int .i64 aq, .string ay] [.int .i64 ak, .int .i64 ok, .string os, .int .i64 oa, .int .i64 ob, .slice p2 n2 c2, .int .i64 od, .bool oc, .int .i64 aq, .string ay] 28 28)
  go_enter Try.func41, Try.ntmps41
  go_upto_region 1 with fail
  generalize (w.alloc (.cells #[.int .i64 ak, .int .i64 ok, .string os, .int .i64 oa, .int .i64 ob, .slice p1 n1 c1, .int .i64 od, .bool oc, .int .i64 aq, .string ay] 28)).alloc (.cells #[.int .i64 ak, .int .i64 ok, .string os, .int .i64 oa, .int .i64 ob, .slice p2 n2 c2, .int .i64 od, .bool oc, .int .i64 aq, .string ay] 28) = WB at HB2 ⊢
  have x0 : WB.cell? ⟨w.heap.size, 0, none⟩ = some (.int .i64 ak) := HB2.out.c 0 (by simp) 0
  have x1 : WB.cell? ⟨w.heap.size, 1, none⟩ = some (.int .i64 ok) := HB2.out.c 0 (by simp) 1
  have x2 : WB.cell? ⟨w.heap.size, 2, none⟩ = some (.string os) := HB2.out.c 0 (by simp) 2
  have x3 : WB.cell? ⟨w.heap.size, 3, none⟩ = some (.int .i64 oa) := HB2.out.c 0 (by simp) 3
  have x4 : WB.cell? ⟨w.heap.size, 4, none⟩ = some (.int .i64 ob) := HB2.out.c 0 (by simp) 4
  have x5 : WB.cell? ⟨w.heap.size, 5, none⟩ = some (.slice p1 n1 c1) := HB2.out.c 0 (by simp) 5
  have x6 : WB.cell? ⟨w.heap.size, 6, none⟩ = some (.int .i64 od) := HB2.out.c 0 (by simp) 6
  have x7 : WB.cell? ⟨w.heap.size, 7, none⟩ = some (.bool oc) := HB2.out.c 0 (by simp) 7
  have x8 : WB.cell? ⟨w.heap.size, 8, none⟩ = some (.int .i64 aq) := HB2.out.c 0 (by simp) 8
  have x9 : WB.cell? ⟨w.heap.size, 9, none⟩ = some (.string ay) := HB2.out.c 0 (by simp) 9
  have y0 : WB.cell? ⟨w.heap.size + 1, 0, none⟩ = some (.int .i64 ak) := by rw [cell_of_blk (HB2.out.b 1 (by simp))]; rfl
  have y1 : WB.cell? ⟨w.heap.size + 1, 1, none⟩ = some (.int .i64 ok) := by rw [cell_of_blk (HB2.out.b 1 (by simp))]; rfl
  have y2 : WB.cell? ⟨w.heap.size + 1, 2, none⟩ = some (.string os) := by rw [cell_of_blk (HB2.out.b 1 (by simp))]; rfl
  have y3 : WB.cell? ⟨w.heap.size + 1, 3, none⟩ = some (.int .i64 oa) := by rw [cell_of_blk (HB2.out.b 1 (by simp))]; rfl
  have y4 : WB.cell? ⟨w.heap.size + 1, 4, none⟩ = some (.int .i64 ob) := by rw [cell_of_blk (HB2.out.b 1 (by simp))]; rfl
  have y5 : WB.cell? ⟨w.heap.size + 1, 5, none⟩ = some (.slice p2 n2 c2) := by rw [cell_of_blk (HB2.out.b 1 (by simp))]; rfl
  have y6 : WB.cell? ⟨w.heap.size + 1, 6, none⟩ = some (.int .i64 od) := by rw [cell_of_blk (HB2.out.b 1 (by simp))]; rfl
  have y7 : WB.cell? ⟨w.heap.size + 1, 7, none⟩ = some (.bool oc) := by rw [cell_of_blk (HB2.out.b 1 (by simp))]; rfl
  have y8 : WB.cell? ⟨w.heap.size + 1, 8, none⟩ = some (.int .i64 aq) := by rw [cell_of_blk (HB2.out.b 1 (by simp))]; rfl
  have y9 : WB.cell? ⟨w.heap.size + 1, 9, none⟩ = some (.string ay) := by rw [cell_of_blk (HB2.out.b 1 (by simp))]; rfl
  go_wp2_with fail
  refine (HSO.out _ HB2.out.bel).mono ?_
  rintro e w3 ⟨rfl, hb⟩
  clear x0 y0 x1 y1 x2 y2 x3 y3 x4 y4 x5 y5 x6 y6 x7 y7 x8 y8 x9 y9
  go_wp2
  go_ret
  exact ⟨ret_bool (by simp), below_trans HB2.out.bel hb HB2.out.bel.size⟩
theorem ent_same : ∀ args w, (callFunc 41 args).run Try.prog w = .ok (.enter 41 args) w := enters_of Try.func41 (by kernel_rfl) rfl
set_option maxHeartbeats 16000000 in
theorem begins_any (La Lb : List Ac) (v1 v2 : Value) (B1 B2 : Nat) (w : World) (h1 : AO w B1 v1 La) (h2 : AO w B2 v2 Lb) (hp : ∃ k, La = Lb.take k) (hok : ∀ a ∈ La, a.o.l.length ≤ 1000) (hl : La.length ≤ 10000000) :
    Calls Try.prog 25 #[v1, v2] w fun e w' => e = .returned (.bool true) ∧ Below w.heap.size w w' := by
  have hle : La.length ≤ Lb.length := by obtain ⟨k, rfl⟩ := hp; rw [List.length_take]; omega
  have HEQ : Hid (∀ k (h : k < La.length) (h' : k < Lb.length), Lb[k] = La[k]) := fun k h h' => by
    obtain ⟨j, rfl⟩ := hp
    simp
  obtain ⟨p1, c1, hs1⟩ := h1.shape
  obtain ⟨p2, c2, hs2⟩ := h2.shape
  obtain ⟨n, hn⟩ : ∃ n, La.length = n := ⟨_, rfl⟩
  obtain ⟨m, hm⟩ : ∃ m, Lb.length = m := ⟨_, rfl⟩
  rw [hn] at hs1
  rw [hm] at hs2
  subst hs1 hs2
  have H1 := hid h1
  have H2 := hid h2
  have HN := hid hn
  have HM := hid hm
  have HOK := hid hok
  have hnm : (n : Int) ≤ (m : Int) := by omega
  have hno : ¬ (m : Int) < (n : Int) := by omega
  have hmx : (n : Int) ≤ 10000000 := by omega
  clear h1 h2 hp hok hl hn hm hle
  go_enter Try.func25, Try.ntmps25
  go_wp2_with fail
  go_loopw [5] (fun i wr => ∃ k : Nat, i = .int .i64 (k : Int) ∧ k ≤ n ∧ Below w.heap.size w wr) (fun i _ => n + 1 - (intOf i).toNat)
  case atStart => exact ⟨0, rfl, by omega, Below.refl _ _⟩
  case round =>
    obtain ⟨k, rfl, hkn, hbb⟩ := hrel
    have HB := hid hbb
    have HKN := hid hkn
    clear hbb
    by_cases hlt : k < n
    · have hkd : k < La.length := by have := HN.out; omega
      have hke : k < Lb.length := by have := HM.out; omega
      obtain ⟨g1, c1', u1, hsh, hg1, hc1, hv1⟩ := AO.at H1.out k hkd
      rw [HN.out] at hsh
      simp at hsh
      obtain ⟨rfl, rfl⟩ := hsh
      obtain ⟨g2, c2', u2, hsh, hg2, hc2, hv2⟩ := AO.at H2.out k hke
      rw [HM.out] at hsh
      simp at hsh
      obtain ⟨rfl, rfl⟩ := hsh
      rw [HEQ.out k hkd hke] at hc2 hv2
      have hfew := HOK.out _ (List.getElem_mem hkd)
      have HSA := hid (fun W (b : Below w.heap.size w W) => sameActK_any La[k] u1 u2 W (hv1.va.below b) (hv2.va.below b) hfew)
      obtain ⟨q1, k1, d1, hsh⟩ := hv1.shape3
      subst hsh
      obtain ⟨q2, k2, d2, hsh⟩ := hv2.shape3
      subst hsh
      obtain ⟨⟨ak, ⟨ok, os, oa, ob, ol, od, oc⟩, aq, ay⟩, hA⟩ : ∃ A, La[k] = A := ⟨_, rfl⟩
      rw [hA] at hc1 hc2 HSA
      unfold acv at HSA
      simp only at hc1 hc2 HSA
      have HC1 := hid hc1
      have HC2 := hid hc2
      have i1 : (0 : Int) ≤ (k : Int) := by omega
      have i2 : (k : Int) < (n : Int) := by omega
      have i3 : (k : Int) < (m : Int) := by omega
      have HLT := hid hlt
      clear hc1 hc2 hv1 hv2 hA hfew
      go_upto_region 6 with fail
      have HKS : Hid (∀ W : World, Below w.heap.size w W → W.cell? ⟨g1, k * 10, none⟩ = some (.int .i64 ak) ∧ W.cell? ⟨g1, k * 10 + 1, none⟩ = some (.int .i64 ok) ∧ W.cell? ⟨g1, k * 10 + 2, none⟩ = some (.string os) ∧ W.cell? ⟨g1, k * 10 + 3, none⟩ = some (.int .i64 oa) ∧ W.cell? ⟨g1, k * 10 + 4, none⟩ = some (.int .i64 ob) ∧ W.cell? ⟨g1, k * 10 + 5, none⟩ = some (.slice q1 k1 d1) ∧ W.cell? ⟨g1, k * 10 + 6, none⟩ = some (.int .i64 od) ∧ W.cell? ⟨g1, k * 10 + 7, none⟩ = some (.bool oc) ∧ W.cell? ⟨g1, k * 10 + 8, none⟩ = some (.int .i64 aq) ∧ W.cell? ⟨g1, k * 10 + 9, none⟩ = some (.string ay) ∧ W.cell? ⟨g2, k * 10, none⟩ = some (.int .i64 ak) ∧ W.cell? ⟨g2, k * 10 + 1, none⟩ = some (.int .i64 ok) ∧ W.cell? ⟨g2, k * 10 + 2, none⟩ = some (.string os) ∧ W.cell? ⟨g2, k * 10 + 3, none⟩ = some (.int .i64 oa) ∧ W.cell? ⟨g2, k * 10 + 4, none⟩ = some (.int .i64 ob) ∧ W.cell? ⟨g2, k * 10 + 5, none⟩ = some (.slice q2 k2 d2) ∧ W.cell? ⟨g2, k * 10 + 6, none⟩ = some (.int .i64 od) ∧ W.cell? ⟨g2, k * 10 + 7, none⟩ = some (.bool oc) ∧ W.cell? ⟨g2, k * 10 + 8, none⟩ = some (.int .i64 aq) ∧ W.cell? ⟨g2, k * 10 + 9, none⟩ = some (.string ay)) := fun W hb => ⟨(hb.cell hg1).trans (HC1.out 0 _ rfl), (hb.cell hg1).trans (HC1.out 1 _ rfl), (hb.cell hg1).trans (HC1.out 2 _ rfl), (hb.cell hg1).trans (HC1.out 3 _ rfl), (hb.cell hg1).trans (HC1.out 4 _ rfl), (hb.cell hg1).trans (HC1.out 5 _ rfl), (hb.cell hg1).trans (HC1.out 6 _ rfl), (hb.cell hg1).trans (HC1.out 7 _ rfl), (hb.cell hg1).trans (HC1.out 8 _ rfl), (hb.cell hg1).trans (HC1.out 9 _ rfl), (hb.cell hg2).trans (HC2.out 0 _ rfl), (hb.cell hg2).trans (HC2.out 1 _ rfl), (hb.cell hg2).trans (HC2.out 2 _ rfl), (hb.cell hg2).trans (HC2.out 3 _ rfl), (hb.cell hg2).trans (HC2.out 4 _ rfl), (hb.cell hg2).trans (HC2.out 5 _ rfl), (hb.cell hg2).trans (HC2.out 6 _ rfl), (hb.cell hg2).trans (HC2.out 7 _ rfl), (hb.cell hg2).trans (HC2.out 8 _ rfl), (hb.cell hg2).trans (HC2.out 9 _ rfl)⟩
      have HD0 : Hid (Below w.heap.size w wr.drew) := HB.out.drew
      refine start_n (S := (fun w' => w'.cell? ⟨g1, k * 10, none⟩ = some (.int .i64 ak) ∧ w'.cell? ⟨g1, k * 10 + 1, none⟩ = some (.int .i64 ok) ∧ w'.cell? ⟨g1, k * 10 + 2, none⟩ = some (.string os) ∧ w'.cell? ⟨g1, k * 10 + 3, none⟩ = some (.int .i64 oa) ∧ w'.cell? ⟨g1, k * 10 + 4, none⟩ = some (.int .i64 ob) ∧ w'.cell? ⟨g1, k * 10 + 5, none⟩ = some (.slice q1 k1 d1) ∧ w'.cell? ⟨g1, k * 10 + 6, none⟩ = some (.int .i64 od) ∧ w'.cell? ⟨g1, k * 10 + 7, none⟩ = some (.bool oc) ∧ w'.cell? ⟨g1, k * 10 + 8, none⟩ = some (.int .i64 aq) ∧ w'.cell? ⟨g1, k * 10 + 9, none⟩ = some (.string ay) ∧ w'.cell? ⟨g2, k * 10, none⟩ = some (.int .i64 ak) ∧ w'.cell? ⟨g2, k * 10 + 1, none⟩ = some (.int .i64 ok) ∧ w'.cell? ⟨g2, k * 10 + 2, none⟩ = some (.string os) ∧ w'.cell? ⟨g2, k * 10 + 3, none⟩ = some (.int .i64 oa) ∧ w'.cell? ⟨g2, k * 10 + 4, none⟩ = some (.int .i64 ob) ∧ w'.cell? ⟨g2, k * 10 + 5, none⟩ = some (.slice q2 k2 d2) ∧ w'.cell? ⟨g2, k * 10 + 6, none⟩ = some (.int .i64 od) ∧ w'.cell? ⟨g2, k * 10 + 7, none⟩ = some (.bool oc) ∧ w'.cell? ⟨g2, k * 10 + 8, none⟩ = some (.int .i64 aq) ∧ w'.cell? ⟨g2, k * 10 + 9, none⟩ = some (.string ay))) 10 #[false, false, false, false, false, false, false, false, false, false] rfl rfl (by kernel_rfl) (HKS.out _ HD0.out) (fun hHeld => ?_)
      refine take_mk (i := 0) (v := ?v1) rfl (by kernel_rfl) (by kernel_rfl) (by kernel_rfl) (fun _ _ _ h => h) (Or.inl ⟨by rfl, ?hy1⟩) (by assumption) ?rest1
      case hy1 => (intro w0 hSw; (try dsimp only at hSw); go_simp <;> (try (with_reducible rfl)))
      (try simp only [Act.put, List.setIfInBounds_toArray, List.set_cons_zero, List.set_cons_succ])
      refine take_mk (i := 1) (v := ?v2) rfl (by kernel_rfl) (by kernel_rfl) (by kernel_rfl) (fun _ _ _ h => h) (Or.inl ⟨by rfl, ?hy2⟩) (by assumption) ?rest2
      case hy2 => (intro w0 hSw; (try dsimp only at hSw); go_simp <;> (try (with_reducible rfl)))
      (try simp only [Act.put, List.setIfInBounds_toArray, List.set_cons_zero, List.set_cons_succ])
      refine take_mk (i := 2) (v := ?v3) rfl (by kernel_rfl) (by kernel_rfl) (by kernel_rfl) (fun _ _ _ h => h) (Or.inl ⟨by rfl, ?hy3⟩) (by assumption) ?rest3
      case hy3 => (intro w0 hSw; (try dsimp only at hSw); go_simp <;> (try (with_reducible rfl)))
      (try simp only [Act.put, List.setIfInBounds_toArray, List.set_cons_zero, List.set_cons_succ])
      refine take_mk (i := 3) (v := ?v4) rfl (by kernel_rfl) (by kernel_rfl) (by kernel_rfl) (fun _ _ _ h => h) (Or.inl ⟨by rfl, ?hy4⟩) (by assumption) ?rest4
      case hy4 => (intro w0 hSw; (try dsimp only at hSw); go_simp <;> (try (with_reducible rfl)))
      (try simp only [Act.put, List.setIfInBounds_toArray, List.set_cons_zero, List.set_cons_succ])
      refine take_mk (i := 4) (v := ?v5) rfl (by kernel_rfl) (by kernel_rfl) (by kernel_rfl) (fun _ _ _ h => h) (Or.inl ⟨by rfl, ?hy5⟩) (by assumption) ?rest5
      case hy5 => (intro w0 hSw; (try dsimp only at hSw); go_simp <;> (try (with_reducible rfl)))
      (try simp only [Act.put, List.setIfInBounds_toArray, List.set_cons_zero, List.set_cons_succ])
      refine take_mk (i := 5) (v := ?v6) rfl (by kernel_rfl) (by kernel_rfl) (by kernel_rfl) (fun _ _ _ h => h) (Or.inl ⟨by rfl, ?hy6⟩) (by assumption) ?rest6
      case hy6 => (intro w0 hSw; (try dsimp only at hSw); go_simp <;> (try (with_reducible rfl)))
      (try simp only [Act.put, List.setIfInBounds_toArray, List.set_cons_zero, List.set_cons_succ])
      refine take_mk (i := 6) (v := ?v7) rfl (by kernel_rfl) (by kernel_rfl) (by kernel_rfl) (fun _ _ _ h => h) (Or.inl ⟨by rfl, ?hy7⟩) (by assumption) ?rest7
      case hy7 => (intro w0 hSw; (try dsimp only at hSw); go_simp <;> (try (with_reducible rfl)))
      (try simp only [Act.put, List.setIfInBounds_toArray, List.set_cons_zero, List.set_cons_succ])
      refine take_mk (i := 7) (v := ?v8) rfl (by kernel_rfl) (by kernel_rfl) (by kernel_rfl) (fun _ _ _ h => h) (Or.inl ⟨by rfl, ?hy8⟩) (by assumption) ?rest8
      case hy8 => (intro w0 hSw; (try dsimp only at hSw); go_simp <;> (try (with_reducible rfl)))
      (try simp only [Act.put, List.setIfInBounds_toArray, List.set_cons_zero, List.set_cons_succ])
      refine wpAnyH_ready (rs := [8]) (by kernel_rfl) (by simp) ?_
      refine cons_mk rfl (fun K hK => ?_) AllReadyH.nil
      refine want_mk (by rfl) ?_
      refine op_cl 41 ent_same _ _ (by rfl) #[.agg #[.int .i64 ak, .int .i64 ok, .string os, .int .i64 oa, .int .i64 ob, .slice q1 k1 d1, .int .i64 od, .bool oc, .int .i64 aq, .string ay], .agg #[.int .i64 ak, .int .i64 ok, .string os, .int .i64 oa, .int .i64 ob, .slice q2 k2 d2, .int .i64 od, .bool oc, .int .i64 aq, .string ay]] (by simp only [List.map_toArray, List.map_cons, List.map_nil]; rfl) _ (HSA.out _ HD0.out) ?_
      rintro e w5 ⟨rfl, hb⟩
      refine ⟨_, rfl, ?_⟩
      have HB5 : Hid (Below w.heap.size w w5) := below_trans HD0.out hb HD0.out.size
      clear hb
      refine hK.out _ _ (HKS.out _ HB5.out) (fun hHeld => ?_)
      clear hK K
      (try simp only [Act.put, List.setIfInBounds_toArray, List.set_cons_zero, List.set_cons_succ])
      refine take_mk (i := 9) (v := ?v9) rfl (by kernel_rfl) (by kernel_rfl) (by kernel_rfl) (fun _ _ _ h => h) (Or.inl ⟨by rfl, ?hy9⟩) (by assumption) ?rest9
      case hy9 => (intro w0 hSw; (try dsimp only at hSw); go_simp <;> (try (with_reducible rfl)))
      (try simp only [Act.put, List.setIfInBounds_toArray, List.set_cons_zero, List.set_cons_succ])
      refine wpAnyH_done (by kernel_rfl) ?_ _
      go_wp2_with fail
      go_roundw
      case rel => exact ⟨k + 1, by go_num, by have := HLT.out; omega, HB5.out⟩
      case measure => exact meas_k (by have := HLT.out; omega)
    · have hi : ¬ (k : Int) < (n : Int) := by omega
      clear hlt
      go_wp2
      go_ret
      exact ⟨rfl, HB.out⟩
end Go.Proofs.Ytepgkemnpcadiaa
