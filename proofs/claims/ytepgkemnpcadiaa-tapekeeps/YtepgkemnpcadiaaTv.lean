/-
  A tape with acts that are read, wherever they lie: dotterelkeep.taped.
-/
import Derived.Test.YtepgkemnpcadiaaTr
namespace Go.Proofs.Ytepgkemnpcadiaa
open Go.ChangeShapes Go.WideShapes Go.ChangeAt Go.RowKit Go.Maps
set_option linter.unusedVariables false
set_option linter.unusedSimpArgs false
set_option maxRecDepth 20000
theorem ValsAt.shape3 {w : World} {v : Value} {l : List Vl} (h : ValsAt w v l) : ∃ p n cap, v = .slice p n cap := by
  obtain ⟨p, c, h, _⟩ := h.shape'
  exact ⟨p, _, c, h⟩
/-- Acts that are read. -/
def AR (w : World) (v : Value) (La : List Ac) : Prop := (∃ p cap, v = .slice p La.length cap) ∧ ∀ k (hk : k < La.length), ∃ (g cap : Nat) (u : Value), v = .slice (some ⟨g, 0, none⟩) La.length cap ∧ g < w.heap.size ∧ (∀ i x, (acC La[k] u)[i]? = some x → w.cell? ⟨g, k * 10 + i, none⟩ = some x) ∧ ValsAt w u La[k].o.l
theorem AO.ar {w : World} {B : Nat} {v : Value} {La : List Ac} (h : AO w B v La) : AR w v La :=
  ⟨h.shape, fun k hk => by
    obtain ⟨g, c, u, h1, h2, h3, h4⟩ := h.at k hk
    exact ⟨g, c, u, h1, h2, h3, h4.va⟩⟩
theorem AR.shape {w : World} {v : Value} {La : List Ac} (h : AR w v La) : ∃ p cap, v = .slice p La.length cap := h.1
theorem AR.at {w : World} {v : Value} {La : List Ac} (h : AR w v La) (k : Nat) (hk : k < La.length) : ∃ (g cap : Nat) (u : Value), v = .slice (some ⟨g, 0, none⟩) La.length cap ∧ g < w.heap.size ∧ (∀ i x, (acC La[k] u)[i]? = some x → w.cell? ⟨g, k * 10 + i, none⟩ = some x) ∧ ValsAt w u La[k].o.l := h.2 k hk
theorem AR.below {w w' : World} {v : Value} {La : List Ac} (h : AR w v La) (b : Below w.heap.size w w') : AR w' v La :=
  ⟨h.1, fun k hk => by
    obtain ⟨g, c, u, h1, h2, h3, h4⟩ := h.2 k hk
    exact ⟨g, c, u, h1, Nat.lt_of_lt_of_le h2 b.size, fun i x hx => (b.cell h2).trans (h3 i x hx), h4.below b⟩⟩
theorem AR.take {w : World} {p : Option Addr} {n c : Nat} {La : List Ac} (h : AR w (.slice p n c) La) (K : Nat) (hK : K ≤ La.length) : AR w (.slice p K K) (La.take K) := by
  have hl : (La.take K).length = K := by rw [List.length_take]; omega
  refine ⟨⟨p, K, by rw [hl]⟩, fun k hk => ?_⟩
  rw [hl] at hk
  obtain ⟨g, c', u, h1, h2, h3, h4⟩ := h.2 k (by omega)
  simp at h1
  obtain ⟨rfl, _, _⟩ := h1
  refine ⟨g, K, u, by rw [hl], h2, ?_, ?_⟩
  · rw [List.getElem_take]; exact h3
  · rw [List.getElem_take]; exact h4
set_option maxHeartbeats 16000000 in
theorem taped_ar (La : List Ac) (v : Value) (w : World) (hv : AR w v La) (hok : ∀ a ∈ La, ach a = 0) (hl : La.length ≤ 24) :
    Calls Try.prog 24 #[v] w fun e w' => ∃ v', e = .returned (.tuple #[tpv v' 0, .bool true]) ∧ BO w' w.heap.size v' (tpd La) ∧ Below w.heap.size w w' := by
  obtain ⟨p0, c0, hsh⟩ := hv.shape
  obtain ⟨n, hn⟩ : ∃ n, La.length = n := ⟨_, rfl⟩
  rw [hn] at hsh
  subst hsh
  have HV := hid hv
  have HOK := hid hok
  have HN := hid hn
  have HL : Hid (n ≤ 24) := by rw [← hn]; exact hl
  have hmx : (n : Int) ≤ 24 := by omega
  have HTL : Hid (∀ k, k ≤ n → (tpd (La.take k)).length ≤ 100000) := fun k hk => by
    have := tpd_len (La.take k) (fun a ha => hok a (List.mem_of_mem_take ha))
    rw [List.length_take] at this
    omega
  clear hv hok hl hn
  unfold tpv
  have HB2 := hid (bxs2 w [.slice none 0 0, .int .i64 0] [.slice none 0 0, .int .i64 0] 34 34)
  go_enter Try.func24, Try.ntmps24
  go_upto_region 2 with fail
  generalize (w.alloc (.cells #[.slice none 0 0, .int .i64 0] 34)).alloc (.cells #[.slice none 0 0, .int .i64 0] 34) = WB at HB2 ⊢
  have HT2 : Hid (WB.heap[w.heap.size]? = some (.cells #[.slice none 0 0, .int .i64 0] 34 (0, 0))) := HB2.out.b 0 (by simp)
  have HT4 : Hid (WB.heap[w.heap.size + 1]? = some (.cells #[.slice none 0 0, .int .i64 0] 34 (0, 0))) := HB2.out.b 1 (by simp)
  have HB := hid HB2.out.bel
  clear HB2
  go_wp2_with fail
  go_loopw [5] (fun i wr => ∃ (k : Nat) (u : Value), i = .int .i64 (k : Int) ∧ k ≤ n ∧ BO wr (w.heap.size + 2) u (tpd (La.take k)) ∧ Below w.heap.size w wr ∧ wr.heap[w.heap.size]? = some (.cells #[.slice none 0 0, .int .i64 0] 34 (0, 0)) ∧ wr.heap[w.heap.size + 1]? = some (.cells #[u, .int .i64 0] 34 (0, 0))) (fun i _ => n + 1 - (intOf i).toNat)
  case atStart => exact ⟨0, .slice none 0 0, rfl, by omega, BO.nil _ _, HB.out, HT2.out, HT4.out⟩
  case round =>
    obtain ⟨k, u, rfl, hkn, hbo, hbb, ht2, ht4⟩ := hrel
    obtain ⟨pu, nu, cu, hsh⟩ := hbo.shape3
    subst hsh
    have HKN := hid hkn
    have HT2 : Hid (wr.heap[w.heap.size]? = some (.cells #[.slice none 0 0, .int .i64 0] 34 (0, 0))) := ht2
    have HT4 : Hid (wr.heap[w.heap.size + 1]? = some (.cells #[.slice pu nu cu, .int .i64 0] 34 (0, 0))) := ht4
    have HB : Hid (Below w.heap.size w wr) := hbb
    have HU : Hid (BA wr (.slice pu nu cu) (tpd (La.take k))) := hbo.ba
    have HBO : Hid (BO wr (w.heap.size + 2) (.slice pu nu cu) (tpd (La.take k))) := hbo
    have HAV : Hid (AR wr (.slice p0 n c0) La) := AR.below HV.out hbb
    clear ht2 ht4 hbb hbo
    by_cases hlt : k < n
    · have hkd : k < La.length := by have := HN.out; omega
      obtain ⟨g, cap', ua, hsh, hgs, hc, hvo⟩ := AR.at HAV.out k hkd
      rw [HN.out] at hsh
      simp at hsh
      obtain ⟨rfl, rfl⟩ := hsh
      obtain ⟨pa, na, ca, hsh⟩ := hvo.shape3
      subst hsh
      have HK0 := hid (HOK.out _ (List.getElem_mem hkd))
      have HSN : Hid (tpd (La.take (k + 1)) = tpd (La.take k) ++ hdb (abt La[k]).length ++ abt La[k]) := by show _ = _; rw [List.take_succ_eq_append_getElem hkd, tpd_snoc]
      have HAP := hid (fun W (h : BA W (.slice pu nu cu) (tpd (La.take k))) (h2 : ValsAt W (.slice pa na ca) La[k].o.l) => tapp_any (tpd (La.take k)) (.slice pu nu cu) 0 La[k] (.slice pa na ca) W h h2)
      rw [tap_fits HK0.out (HTL.out k (by omega)), ← HSN.out] at HAP
      obtain ⟨⟨ak, ⟨ok, os, oa, ob, ol, od, oc⟩, aq, ay⟩, hA⟩ : ∃ A, La[k] = A := ⟨_, rfl⟩
      rw [hA] at hc hvo HAP
      unfold tpv acv at HAP
      simp only at hc hvo HAP
      have HVA := hid hvo
      have HHC := hid hc
      have i1 : (0 : Int) ≤ (k : Int) := by omega
      have i2 : (k : Int) < (n : Int) := by omega
      have HLT := hid hlt
      clear hc hvo hA
      have HNU : Hid (nu < (tpd (La.take (k + 1))).length) := by
        have e1 : nu = (tpd (La.take k)).length := by obtain ⟨p9, c9, e, _⟩ := HU.out; simp at e; exact e.2.1
        have e2 : (hdb (abt La[k]).length).length = 2 := rfl
        show _ < _
        rw [HSN.out, List.length_append, List.length_append, e1, e2]
        omega
      go_upto_region 5 with fail
      have HKS : Hid (∀ W : World, Below wr.heap.size wr W → W.cell? ⟨w.heap.size + 1, 0, none⟩ = some (.slice pu nu cu) ∧ W.cell? ⟨w.heap.size + 1, 1, none⟩ = some (.int .i64 0) ∧ W.cell? ⟨g, k * 10, none⟩ = some (.int .i64 ak) ∧ W.cell? ⟨g, k * 10 + 1, none⟩ = some (.int .i64 ok) ∧ W.cell? ⟨g, k * 10 + 2, none⟩ = some (.string os) ∧ W.cell? ⟨g, k * 10 + 3, none⟩ = some (.int .i64 oa) ∧ W.cell? ⟨g, k * 10 + 4, none⟩ = some (.int .i64 ob) ∧ W.cell? ⟨g, k * 10 + 5, none⟩ = some (.slice pa na ca) ∧ W.cell? ⟨g, k * 10 + 6, none⟩ = some (.int .i64 od) ∧ W.cell? ⟨g, k * 10 + 7, none⟩ = some (.bool oc) ∧ W.cell? ⟨g, k * 10 + 8, none⟩ = some (.int .i64 aq) ∧ W.cell? ⟨g, k * 10 + 9, none⟩ = some (.string ay)) := fun W hb => ⟨by rw [cell_of_blk ((hb.block _ (blk_lt HT4.out)).trans HT4.out)]; rfl, by rw [cell_of_blk ((hb.block _ (blk_lt HT4.out)).trans HT4.out)]; rfl, (hb.cell hgs).trans (HHC.out 0 _ rfl), (hb.cell hgs).trans (HHC.out 1 _ rfl), (hb.cell hgs).trans (HHC.out 2 _ rfl), (hb.cell hgs).trans (HHC.out 3 _ rfl), (hb.cell hgs).trans (HHC.out 4 _ rfl), (hb.cell hgs).trans (HHC.out 5 _ rfl), (hb.cell hgs).trans (HHC.out 6 _ rfl), (hb.cell hgs).trans (HHC.out 7 _ rfl), (hb.cell hgs).trans (HHC.out 8 _ rfl), (hb.cell hgs).trans (HHC.out 9 _ rfl)⟩
      have HD0 : Hid (Below wr.heap.size wr wr.drew) := (Below.refl _ _).drew
      refine start_n (S := (fun w' => w'.cell? ⟨w.heap.size + 1, 0, none⟩ = some (.slice pu nu cu) ∧ w'.cell? ⟨w.heap.size + 1, 1, none⟩ = some (.int .i64 0) ∧ w'.cell? ⟨g, k * 10, none⟩ = some (.int .i64 ak) ∧ w'.cell? ⟨g, k * 10 + 1, none⟩ = some (.int .i64 ok) ∧ w'.cell? ⟨g, k * 10 + 2, none⟩ = some (.string os) ∧ w'.cell? ⟨g, k * 10 + 3, none⟩ = some (.int .i64 oa) ∧ w'.cell? ⟨g, k * 10 + 4, none⟩ = some (.int .i64 ob) ∧ w'.cell? ⟨g, k * 10 + 5, none⟩ = some (.slice pa na ca) ∧ w'.cell? ⟨g, k * 10 + 6, none⟩ = some (.int .i64 od) ∧ w'.cell? ⟨g, k * 10 + 7, none⟩ = some (.bool oc) ∧ w'.cell? ⟨g, k * 10 + 8, none⟩ = some (.int .i64 aq) ∧ w'.cell? ⟨g, k * 10 + 9, none⟩ = some (.string ay))) 12 #[false, false, false, false, false, false, false, false, false, false, false, false] rfl rfl (by kernel_rfl) (HKS.out _ HD0.out) (fun hHeld => ?_)
      refine take_mk (i := 0) (v := ?v1) rfl (by kernel_rfl) (by kernel_rfl) (by kernel_rfl) (fun _ _ _ h => h) (Or.inl ⟨by rfl, ?hy1⟩) (by assumption) ?rest1
      case hy1 => (intro w0 hSw; (try dsimp only at hSw); go_simp <;> (try (with_reducible rfl)))
      (try simp only [Act.put, List.setIfInBounds_toArray, List.set_cons_zero, List.set_cons_succ])
      refine take_mk (i := 1) (v := ?v2) rfl (by kernel_rfl) (by kernel_rfl) (by kernel_rfl) (fun _ _ _ h => h) (Or.inl ⟨by rfl, ?hy2⟩) (by assumption) ?rest2
      case hy2 => (intro w0 hSw; (try dsimp only at hSw); go_simp <;> (try (with_reducible rfl)))
      (try simp only [Act.put, List.setIfInBounds_toArray, List.set_cons_zero, List.set_cons_succ])
      refine take_mk (i := 2) (v := ?v3) rfl (by kernel_rfl) (by kernel_rfl) (by kernel_rfl) (fun _ _ _ h => h) (Or.inl ⟨by rfl, ?hy3⟩) (by assumption) ?rest3
      case hy3 => (intro w0 hSw; (try dsimp only at hSw); go_simp <;> (try (with_reducible rfl)))
      (try simp only [Act.put, List.setIfInBounds_toArray, List.set_cons_zero, List.set_cons_succ])
      refine take_mk (i := 3) (v := ?v4) rfl (by kernel_rfl) (by kernel_rfl) (by kernel_rfl) (fun _ _ _ h => h) (Or.inl ⟨by rfl, ?hy4⟩) (by assumption) ?rest4
      case hy4 => (intro w0 hSw; (try dsimp only at hSw); go_simp <;> (try (with_reducible rfl)))
      (try simp only [Act.put, List.setIfInBounds_toArray, List.set_cons_zero, List.set_cons_succ])
      refine take_mk (i := 4) (v := ?v5) rfl (by kernel_rfl) (by kernel_rfl) (by kernel_rfl) (fun _ _ _ h => h) (Or.inl ⟨by rfl, ?hy5⟩) (by assumption) ?rest5
      case hy5 => (intro w0 hSw; (try dsimp only at hSw); go_simp <;> (try (with_reducible rfl)))
      (try simp only [Act.put, List.setIfInBounds_toArray, List.set_cons_zero, List.set_cons_succ])
      refine wpAnyH_ready (rs := [5, 9]) (by kernel_rfl) (by simp) ?_
      refine cons_mk rfl (fun K hK => ?_) (cons_mk rfl (fun K hK => ?_) AllReadyH.nil)
      · refine want_mk (by rfl) ?_
        refine op_cl 12 ent_tapp _ _ (by rfl) #[.agg #[.slice pu nu cu, .int .i64 0], .agg #[.int .i64 ak, .int .i64 ok, .string os, .int .i64 oa, .int .i64 ob, .slice pa na ca, .int .i64 od, .bool oc, .int .i64 aq, .string ay]] (by simp only [List.map_toArray, List.map_cons, List.map_nil]; rfl) _ (HAP.out _ (BA.below (B := 0) HU.out HD0.out) (HVA.out.below HD0.out)) ?_
        rintro e w5 ⟨v5, rfl, ho, hb⟩
        refine ⟨_, rfl, ?_⟩
        have HN5 := hid ho
        obtain ⟨p5, n5, c5, hsh⟩ := ho.shape3
        subst hsh
        have HO5 := hid ho
        have HL5 : Hid (nu < n5) := by obtain ⟨p9, c9, e, _⟩ := ho.ba; simp at e; have := HNU.out; show _ < _; omega
        have HB5 : Hid (Below wr.heap.size wr w5) := below_trans HD0.out hb (by simp)
        clear ho hb HN5
        refine hK.out _ _ (HKS.out _ HB5.out) (fun hHeld => ?_)
        clear hK K
        (try simp only [Act.put, List.setIfInBounds_toArray, List.set_cons_zero, List.set_cons_succ])
        refine take_mk (i := 6) (v := ?v6) rfl (by kernel_rfl) (by kernel_rfl) (by kernel_rfl) (fun _ _ _ h => h) (Or.inl ⟨by rfl, ?hy6⟩) (by assumption) ?rest6
        case hy6 => (intro w0 hSw; (try dsimp only at hSw); go_simp <;> (try (with_reducible rfl)))
        (try simp only [Act.put, List.setIfInBounds_toArray, List.set_cons_zero, List.set_cons_succ])
        refine take_mk (i := 7) (v := ?v7) rfl (by kernel_rfl) (by kernel_rfl) (by kernel_rfl) (fun _ _ _ h => h) (Or.inl ⟨by rfl, ?hy7⟩) (by assumption) ?rest7
        case hy7 => (intro w0 hSw; (try dsimp only at hSw); go_simp <;> (try (with_reducible rfl)))
        (try simp only [Act.put, List.setIfInBounds_toArray, List.set_cons_zero, List.set_cons_succ])
        refine take_mk (i := 8) (v := ?v8) rfl (by kernel_rfl) (by kernel_rfl) (by kernel_rfl) (fun _ _ _ h => h) (Or.inl ⟨by rfl, ?hy8⟩) (by assumption) ?rest8
        case hy8 => (intro w0 hSw; (try dsimp only at hSw); go_simp <;> (try (with_reducible rfl)))
        (try simp only [Act.put, List.setIfInBounds_toArray, List.set_cons_zero, List.set_cons_succ])
        refine wpAnyH_ready (rs := [9]) (by kernel_rfl) (by simp) ?_
        refine cons_mk rfl (fun K hK => ?_) AllReadyH.nil
        refine want_mk (by rfl) ?_
        refine op_al 34 (by rfl) [.slice none 0 0, .int .i64 0] (by kernel_rfl) ?_
        refine hK.out _ _ (HKS.out _ (HB5.out.alloc HB5.out.size _)) (fun hHeld => ?_)
        clear hK K
        (try simp only [Act.put, List.setIfInBounds_toArray, List.set_cons_zero, List.set_cons_succ])
        refine wpAnyH_ready (rs := [10]) (by kernel_rfl) (by simp) ?_
        refine cons_mk rfl (fun K hK => ?_) AllReadyH.nil
        refine want_mk (by rfl) ?_
        refine op_st 34 _ _ (by rfl) w5.heap.size 0 [.slice none 0 0, .int .i64 0] 34 (.agg #[.slice p5 n5 c5, .int .i64 0]) [.slice p5 n5 c5, .int .i64 0] (by rfl) (by rfl) (by rfl) (heap_alloc_new _ _) (by simp) (by kernel_rfl) (by rfl) ?_
        intro w7 hq1 hq2
        have HU7 := hid hq1
        have HF7 := hid hq2
        clear hq1 hq2
        refine hK.out _ _ (HKS.out _ (below_fr (HB5.out.alloc HB5.out.size _) HF7.out HB5.out.size)) (fun hHeld => ?_)
        clear hK K
        (try simp only [Act.put, List.setIfInBounds_toArray, List.set_cons_zero, List.set_cons_succ])
        refine take_mk (i := 11) (v := ?v9) rfl (by kernel_rfl) (by kernel_rfl) (by kernel_rfl) (fun _ _ _ h => h) (Or.inl ⟨by rfl, ?hy9⟩) (by assumption) ?rest9
        case hy9 => (intro w0 hSw; (try dsimp only at hSw); go_simp <;> (try (with_reducible rfl)))
        (try simp only [Act.put, List.setIfInBounds_toArray, List.set_cons_zero, List.set_cons_succ])
        refine wpAnyH_done (by kernel_rfl) ?_ _
        have HBa : Hid (Below w5.heap.size w5 w7) := below_fr ((Below.refl _ w5).alloc (Nat.le_refl _) _) HF7.out (Nat.le_refl _)
        have HO7 : Hid (BO w7 wr.heap.size (.slice p5 n5 c5) (tpd (La.take (k + 1)))) := (HO5.out.weak (by simp)).below HBa.out
        have HB7 : Hid (Below wr.heap.size wr w7) := below_trans HB5.out HBa.out HB5.out.size
        have HN7 : Hid (wr.heap.size ≤ w5.heap.size) := HB5.out.size
        clear HF7 HBa HO5
        have HS1 : Hid (w.heap.size + 1 < wr.heap.size) := blk_lt HT4.out
        replace HT2 : Hid (w7.heap[w.heap.size]? = some (.cells #[.slice none 0 0, .int .i64 0] 34 (0, 0))) := (HB7.out.block _ (blk_lt HT2.out)).trans HT2.out
        replace HT4 : Hid (w7.heap[w.heap.size + 1]? = some (.cells #[.slice pu nu cu, .int .i64 0] 34 (0, 0))) := (HB7.out.block _ (blk_lt HT4.out)).trans HT4.out
        replace HB : Hid (Below w.heap.size w w7) := below_trans HB.out HB7.out HB.out.size
        have HT6 := HU7
        have HO7 : Hid (BO w7 wr.heap.size (.slice p5 n5 c5) (tpd (La.take (k + 1)))) := HO7.out
        have HT6 : Hid (w7.heap[w5.heap.size]? = some (.cells #[.slice p5 n5 c5, .int .i64 0] 34 (0, 0))) := HU7.out
        have x0 : w7.cell? ⟨w5.heap.size, 0, none⟩ = some (.slice p5 n5 c5) := by rw [cell_of_blk HT6.out]; rfl
        have x1 : w7.cell? ⟨w5.heap.size, 1, none⟩ = some (.int .i64 0) := by rw [cell_of_blk HT6.out]; rfl
        have y0 : w7.cell? ⟨w.heap.size + 1, 0, none⟩ = some (.slice pu nu cu) := by rw [cell_of_blk HT4.out]; rfl
        have y1 : w7.cell? ⟨w.heap.size + 1, 1, none⟩ = some (.int .i64 0) := by rw [cell_of_blk HT4.out]; rfl
        have hl5 : ¬ (n5 : Int) ≤ (nu : Int) := by have := HL5.out; omega
        go_wp2_with ((with_reducible show wpList _ _ _ (Oper.mk _ (.store 34 _ _) _ _ _ _ :: _) _ _); refine wp_st (by rfl) 34 _ _ (by rfl) (w.heap.size + 1) 0 [.slice pu nu cu, .int .i64 0] 34 (.agg #[.slice p5 n5 c5, .int .i64 0]) [.slice p5 n5 c5, .int .i64 0] (by rfl) (by rfl) (by rfl) HT4.out (by simp) (by kernel_rfl) (by rfl) ?_; intro w8 hq1 hq2; have HU8 := hid hq1; have HF8 := hid hq2; clear hq1 hq2 x0 x1 y0 y1)
        go_roundw
        case rel => exact ⟨k + 1, .slice p5 n5 c5, by go_num, by omega, (HO7.out.frLt HF8.out (by have := HS1.out; omega)).weak (by have := HS1.out; omega), below_fr HB.out HF8.out (by omega), blk_set HT2.out HF8.out (by omega), HU8.out⟩
        case measure => exact meas_k (by have := HLT.out; omega)
      · refine want_mk (by rfl) ?_
        refine op_al 34 (by rfl) [.slice none 0 0, .int .i64 0] (by kernel_rfl) ?_
        have HDa : Hid (Below wr.heap.size wr (wr.drew.alloc (.cells #[.slice none 0 0, .int .i64 0] 34))) := HD0.out.alloc (by simp) _
        refine hK.out _ _ (HKS.out _ HDa.out) (fun hHeld => ?_)
        clear hK K
        (try simp only [Act.put, List.setIfInBounds_toArray, List.set_cons_zero, List.set_cons_succ])
        refine wpAnyH_ready (rs := [5]) (by kernel_rfl) (by simp) ?_
        refine cons_mk rfl (fun K hK => ?_) AllReadyH.nil
        refine want_mk (by rfl) ?_
        refine op_cl 12 ent_tapp _ _ (by rfl) #[.agg #[.slice pu nu cu, .int .i64 0], .agg #[.int .i64 ak, .int .i64 ok, .string os, .int .i64 oa, .int .i64 ob, .slice pa na ca, .int .i64 od, .bool oc, .int .i64 aq, .string ay]] (by simp only [List.map_toArray, List.map_cons, List.map_nil]; rfl) _ (HAP.out _ (BA.below (B := 0) HU.out HDa.out) (HVA.out.below HDa.out)) ?_
        rintro e w5 ⟨v5, rfl, ho, hb⟩
        refine ⟨_, rfl, ?_⟩
        have HN5 := hid ho
        obtain ⟨p5, n5, c5, hsh⟩ := ho.shape3
        subst hsh
        have HO5 := hid ho
        have HL5 : Hid (nu < n5) := by obtain ⟨p9, c9, e, _⟩ := ho.ba; simp at e; have := HNU.out; show _ < _; omega
        have HB5 : Hid (Below wr.heap.size wr w5) := below_trans HDa.out hb HDa.out.size
        have HT6 : Hid (w5.heap[wr.drew.heap.size]? = some (.cells #[.slice none 0 0, .int .i64 0] 34 (0, 0))) := (hb.block _ (by simp)).trans (heap_alloc_new _ _)
        clear ho hb HN5
        refine hK.out _ _ (HKS.out _ HB5.out) (fun hHeld => ?_)
        clear hK K
        (try simp only [Act.put, List.setIfInBounds_toArray, List.set_cons_zero, List.set_cons_succ])
        refine take_mk (i := 6) (v := ?vb10) rfl (by kernel_rfl) (by kernel_rfl) (by kernel_rfl) (fun _ _ _ h => h) (Or.inl ⟨by rfl, ?hyb10⟩) (by assumption) ?restb10
        case hyb10 => (intro w0 hSw; (try dsimp only at hSw); go_simp <;> (try (with_reducible rfl)))
        (try simp only [Act.put, List.setIfInBounds_toArray, List.set_cons_zero, List.set_cons_succ])
        refine take_mk (i := 7) (v := ?vb11) rfl (by kernel_rfl) (by kernel_rfl) (by kernel_rfl) (fun _ _ _ h => h) (Or.inl ⟨by rfl, ?hyb11⟩) (by assumption) ?restb11
        case hyb11 => (intro w0 hSw; (try dsimp only at hSw); go_simp <;> (try (with_reducible rfl)))
        (try simp only [Act.put, List.setIfInBounds_toArray, List.set_cons_zero, List.set_cons_succ])
        refine take_mk (i := 8) (v := ?vb12) rfl (by kernel_rfl) (by kernel_rfl) (by kernel_rfl) (fun _ _ _ h => h) (Or.inl ⟨by rfl, ?hyb12⟩) (by assumption) ?restb12
        case hyb12 => (intro w0 hSw; (try dsimp only at hSw); go_simp <;> (try (with_reducible rfl)))
        (try simp only [Act.put, List.setIfInBounds_toArray, List.set_cons_zero, List.set_cons_succ])
        refine wpAnyH_ready (rs := [10]) (by kernel_rfl) (by simp) ?_
        refine cons_mk rfl (fun K hK => ?_) AllReadyH.nil
        refine want_mk (by rfl) ?_
        refine op_st 34 _ _ (by rfl) wr.drew.heap.size 0 [.slice none 0 0, .int .i64 0] 34 (.agg #[.slice p5 n5 c5, .int .i64 0]) [.slice p5 n5 c5, .int .i64 0] (by rfl) (by rfl) (by rfl) HT6.out (by simp) (by kernel_rfl) (by rfl) ?_
        intro w7 hq1 hq2
        have HU7 := hid hq1
        have HF7 := hid hq2
        clear hq1 hq2
        refine hK.out _ _ (HKS.out _ (below_fr HB5.out HF7.out (by simp))) (fun hHeld => ?_)
        clear hK K
        (try simp only [Act.put, List.setIfInBounds_toArray, List.set_cons_zero, List.set_cons_succ])
        refine take_mk (i := 11) (v := ?vb13) rfl (by kernel_rfl) (by kernel_rfl) (by kernel_rfl) (fun _ _ _ h => h) (Or.inl ⟨by rfl, ?hyb13⟩) (by assumption) ?restb13
        case hyb13 => (intro w0 hSw; (try dsimp only at hSw); go_simp <;> (try (with_reducible rfl)))
        (try simp only [Act.put, List.setIfInBounds_toArray, List.set_cons_zero, List.set_cons_succ])
        refine wpAnyH_done (by kernel_rfl) ?_ _
        have HO7 : Hid (BO w7 wr.heap.size (.slice p5 n5 c5) (tpd (La.take (k + 1)))) := (HO5.out.frLt HF7.out (by simp)).weak (by simp)
        have HB7 : Hid (Below wr.heap.size wr w7) := below_fr HB5.out HF7.out (by simp)
        have HN7 : Hid (wr.heap.size ≤ wr.drew.heap.size) := Nat.le_of_eq (by simp)
        clear HF7 HT6 HO5
        have HS1 : Hid (w.heap.size + 1 < wr.heap.size) := blk_lt HT4.out
        replace HT2 : Hid (w7.heap[w.heap.size]? = some (.cells #[.slice none 0 0, .int .i64 0] 34 (0, 0))) := (HB7.out.block _ (blk_lt HT2.out)).trans HT2.out
        replace HT4 : Hid (w7.heap[w.heap.size + 1]? = some (.cells #[.slice pu nu cu, .int .i64 0] 34 (0, 0))) := (HB7.out.block _ (blk_lt HT4.out)).trans HT4.out
        replace HB : Hid (Below w.heap.size w w7) := below_trans HB.out HB7.out HB.out.size
        have HT6 := HU7
        have HO7 : Hid (BO w7 wr.heap.size (.slice p5 n5 c5) (tpd (La.take (k + 1)))) := HO7.out
        have HT6 : Hid (w7.heap[wr.heap.size]? = some (.cells #[.slice p5 n5 c5, .int .i64 0] 34 (0, 0))) := HU7.out
        have x0 : w7.cell? ⟨wr.heap.size, 0, none⟩ = some (.slice p5 n5 c5) := by rw [cell_of_blk HT6.out]; rfl
        have x1 : w7.cell? ⟨wr.heap.size, 1, none⟩ = some (.int .i64 0) := by rw [cell_of_blk HT6.out]; rfl
        have y0 : w7.cell? ⟨w.heap.size + 1, 0, none⟩ = some (.slice pu nu cu) := by rw [cell_of_blk HT4.out]; rfl
        have y1 : w7.cell? ⟨w.heap.size + 1, 1, none⟩ = some (.int .i64 0) := by rw [cell_of_blk HT4.out]; rfl
        have hl5 : ¬ (n5 : Int) ≤ (nu : Int) := by have := HL5.out; omega
        go_wp2_with ((with_reducible show wpList _ _ _ (Oper.mk _ (.store 34 _ _) _ _ _ _ :: _) _ _); refine wp_st (by rfl) 34 _ _ (by rfl) (w.heap.size + 1) 0 [.slice pu nu cu, .int .i64 0] 34 (.agg #[.slice p5 n5 c5, .int .i64 0]) [.slice p5 n5 c5, .int .i64 0] (by rfl) (by rfl) (by rfl) HT4.out (by simp) (by kernel_rfl) (by rfl) ?_; intro w8 hq1 hq2; have HU8 := hid hq1; have HF8 := hid hq2; clear hq1 hq2 x0 x1 y0 y1)
        go_roundw
        case rel => exact ⟨k + 1, .slice p5 n5 c5, by go_num, by omega, (HO7.out.frLt HF8.out (by have := HS1.out; omega)).weak (by have := HS1.out; omega), below_fr HB.out HF8.out (by omega), blk_set HT2.out HF8.out (by omega), HU8.out⟩
        case measure => exact meas_k (by have := HLT.out; omega)
    · have hke : La.take k = La := List.take_of_length_le (by have := HN.out; omega)
      rw [hke] at HBO
      have hi : ¬ (k : Int) < (n : Int) := by omega
      clear hke
      have x0 : wr.cell? ⟨w.heap.size + 1, 0, none⟩ = some (.slice pu nu cu) := by rw [cell_of_blk HT4.out]; rfl
      have x1 : wr.cell? ⟨w.heap.size + 1, 1, none⟩ = some (.int .i64 0) := by rw [cell_of_blk HT4.out]; rfl
      go_wp2_with ((with_reducible show wpList _ _ _ (Oper.mk _ (.store 34 _ _) _ _ _ _ :: _) _ _); refine wp_st (by rfl) 34 _ _ (by rfl) w.heap.size 0 [.slice none 0 0, .int .i64 0] 34 (.agg #[.slice pu nu cu, .int .i64 0]) [.slice pu nu cu, .int .i64 0] (by rfl) (by rfl) (by rfl) HT2.out (by simp) (by kernel_rfl) (by rfl) ?_; intro w8 hq1 hq2; have HU8 := hid hq1; have HF8 := hid hq2; clear hq1 hq2)
      exact ret_twoT w.heap.size [.slice pu nu cu, .int .i64 0] 34 _ HU8.out rfl rfl (by rfl) Try.underlying34 rfl (by kernel_rfl) ⟨.slice pu nu cu, rfl, (HBO.out.frLt HF8.out (by omega)).weak (by omega), below_fr HB.out HF8.out (by omega)⟩
end Go.Proofs.Ytepgkemnpcadiaa
