/-
  What was synced is recovered behind every crash: TapeKeeps.
-/
import Derived.Test.YtepgkemnpcadiaaTv
import Derived.Test.YtepgkemnpcadiaaTu
namespace Go.Proofs.Ytepgkemnpcadiaa
open Go.ChangeShapes Go.WideShapes Go.ChangeAt Go.RowKit Go.Maps
set_option linter.unusedVariables false
set_option linter.unusedSimpArgs false
set_option maxRecDepth 20000
theorem rcA_app : ∀ (A : List Ac) (h : ∀ a ∈ A, ach a = 0) (r : List UInt8), rcA (tpd A ++ r) = (A ++ (rcA r).1, (tpd A).length + (rcA r).2)
  | [], _, r => by simp [tpd]
  | a :: A, h, r => by
    have ih := rcA_app A (fun x hx => h x (List.mem_cons_of_mem _ hx)) r
    rw [tpd_cons, List.append_assoc, rcA_cons (h a List.mem_cons_self), ih]
    have : (hdb (abt a).length ++ abt a).length = (abt a).length + 2 := by rw [List.length_append]; show 2 + _ = _; omega
    simp only [List.cons_append, List.length_append] at this ⊢
    congr 1
    omega
/-- As many acts as were synced are recovered, at the least. -/
theorem trc_keeps {La : List Ac} (h : ∀ a ∈ La, ach a = 0) (K E j : Nat) (hK : K ≤ La.length) (hE : (tpd (La.take K)).length ≤ E) (hE2 : E ≤ (tpd La).length) (hl : E ≤ 200000) (s : Int) (X : List UInt8 × Int × Int) (hj : j ≤ La.length) (ht : trc ((tpd La).take E) E = (La.take j, X)) : K ≤ j := by
  have e : (tpd La).take E = tpd (La.take K) ++ (tpd (La.drop K)).take (E - (tpd (La.take K)).length) := by
    have : tpd La = tpd (La.take K) ++ tpd (La.drop K) := by rw [← tpd_app, List.take_append_drop]
    rw [this, List.take_append, List.take_of_length_le (by omega)]
  have hr := rcA_app (La.take K) (fun a ha => h a (List.mem_of_mem_take ha)) ((tpd (La.drop K)).take (E - (tpd (La.take K)).length))
  have hlen : ((tpd La).take E).length = E := by rw [List.length_take]; omega
  unfold trc at ht
  rw [if_pos (by unfold tmay; rw [hlen]; simp; omega), e, hr] at ht
  have h1 := congrArg (fun x => x.1.length) ht
  simp only [List.length_append, List.length_take] at h1
  omega
theorem tpd_mono (La : List Ac) {K j : Nat} (h : K ≤ j) : (tpd (La.take K)).length ≤ (tpd (La.take j)).length := by
  have : La.take j = La.take K ++ (La.take j).drop K := by
    have := List.take_append_drop K (La.take j)
    rw [List.take_take, Nat.min_eq_left h] at this
    exact this.symm
  rw [this, tpd_app, List.length_append]
  omega
theorem tpd_some {La : List Ac} {K : Nat} (hK : K ≤ La.length) (h : 0 < K) : 0 < (tpd (La.take K)).length := by
  match La, K, hK, h with
  | [], K, hK, h => exact absurd hK (by simp; omega)
  | a :: r, K + 1, _, _ =>
    rw [List.take_succ_cons, tpd_cons, List.length_append, List.length_append]
    have : (hdb (abt a).length).length = 2 := rfl
    omega
theorem tcr_keeps {l : List UInt8} {s k : Int} (h : l.length ≤ 100000) (hs : 0 ≤ s ∧ s ≤ l.length) (hk : 0 ≤ k) : ∃ E : Nat, E ≤ l.length ∧ s ≤ (E : Int) ∧ tcr l s k = (l.take E, (E : Int), 0) := by
  refine ⟨tcrN l s k, ?_, ?_, ?_⟩
  · unfold tcrN; split <;> omega
  · unfold tcrN; split <;> omega
  · rw [tcr_fits h hs, if_neg (by omega)]
theorem tsy_ok {l : List UInt8} (h : l.length ≤ 100000) : tsy l 0 = (l, (l.length : Int), 0) := by
  unfold tsy
  rw [if_pos (by unfold tmay; simp; omega)]
theorem AO.capl {w : World} {B n c : Nat} {p : Option Addr} {La : List Ac} (h : AO w B (.slice p n c) La) : n ≤ c := by
  obtain ⟨ps, _, h2, _⟩ := h
  rcases h2.2 with ⟨h3, h4⟩ | ⟨g, cap, cur, h3, _, _, h5, _⟩
  · cases h3; omega
  · cases h3; exact h5
set_option maxHeartbeats 16000000 in
theorem tapeKeeps_walk (ds : List Rw) (v : Value) (at_ keep : Int) (w : World) (hv : DsAt w v ds) (hok : ∀ x ∈ ds, x.ok) (ha : wfI at_) (hk : wfI keep) :
    Calls Try.prog 8 #[v, .int .i64 at_, .int .i64 keep] w fun e w' => e = .returned (.bool true) ∧ Below w.heap.size w w' := by
  have HV := hid hv
  have HNT := hid (notes_any ds v w hv hok)
  obtain ⟨h1, h2⟩ := notes_ok ds
  obtain ⟨La, hLa⟩ : ∃ La, (ds.take 24).map noteA = La := ⟨_, rfl⟩
  rw [hLa] at h1 h2 HNT
  have hlen := tpd_len La h1
  obtain ⟨N, hN⟩ : ∃ N, (tpd La).length = N := ⟨_, rfl⟩
  rw [hN] at hlen
  have hN2 : N ≤ 72072 := by omega
  obtain ⟨M, hM⟩ : ∃ M, La.length = M := ⟨_, rfl⟩
  have HPA := hid (fun W => picked_any at_ ((M : Int) + 1) W ha.1 ha.2 (by omega) (by omega))
  have hpa := pk_bd at_ ((M : Int) + 1) (by omega)
  obtain ⟨K, hK9⟩ : ∃ K : Nat, pk at_ ((M : Int) + 1) = (K : Int) := ⟨_, (Int.toNat_of_nonneg hpa.1).symm⟩
  rw [hK9] at HPA hpa
  have hKM : K ≤ M := by omega
  have hkl : (La.take K).length = K := by rw [List.length_take]; omega
  have h1k : ∀ a ∈ La.take K, ach a = 0 := fun a ha => h1 a (List.mem_of_mem_take ha)
  have HTP := hid (fun W v (h : AR W v (La.take K)) => taped_ar (La.take K) v W h h1k (by omega))
  have hlk : ∀ q, (tpd (La.take q)).length ≤ 100000 := fun q => by
    have := tpd_len (La.take q) (fun a ha => h1 a (List.mem_of_mem_take ha))
    rw [List.length_take] at this
    omega
  obtain ⟨S, hS⟩ : ∃ S, (tpd (La.take K)).length = S := ⟨_, rfl⟩
  have HSY := hid (fun W v (h : BA W v (tpd (La.take K))) => tsync_any (tpd (La.take K)) v 0 W h)
  rw [tsy_ok (hlk K), hS] at HSY
  have HPK := hid (fun W => picked_any keep 400 W hk.1 hk.2 (by decide) (by decide))
  have hpk := pk_bd keep 400 (by decide)
  obtain ⟨k, hk9⟩ : ∃ k, pk keep 400 = k := ⟨_, rfl⟩
  rw [hk9] at HPK hpk
  have hSm : ∀ q, K ≤ q → (S : Int) ≤ ((tpd (La.take q)).length : Int) := fun q hq => by have := tpd_mono La hq; omega
  have hSN : S ≤ N := by have := tpd_mono La hKM; rw [List.take_of_length_le (by omega : La.length ≤ M), hN, hS] at this; exact this
  obtain ⟨E, hE1, hE3, hE2⟩ := tcr_keeps (l := tpd La) (s := (S : Int)) (k := k) (by omega) (by omega) hpk.1
  have HC := hid (fun W v (h : BA W v (tpd La)) => tcrash_any (tpd La) v S k W h (by unfold wfI; omega))
  rw [hE2] at HC
  rw [hN] at hE1
  obtain ⟨j, hj1, hj2, hj3⟩ := trc_full h1 E (by omega) (by omega)
  have hjK := trc_keeps h1 K E j (by omega) (by omega) (by omega) (by omega) 0 _ hj1 hj2
  have hjS := tpd_mono La hjK
  have HR1 := hid (fun W v (h : BA W v ((tpd La).take E)) => trec_any ((tpd La).take E) v E W h)
  rw [hj2] at HR1
  have h1j : ∀ a ∈ La.take j, ach a = 0 := fun a ha => h1 a (List.mem_of_mem_take ha)
  have HBG := hid (fun W v1 v2 B1 B2 x1 x2 => begins_any (La.take j) La v1 v2 B1 B2 W x1 x2 ⟨j, rfl⟩ (fun a ha => ach_few (h1j a ha)) (by rw [List.length_take]; omega))
  have hjl : (La.take j).length = j := by rw [List.length_take]; omega
  have hS0 : (K : Int) = 0 ∨ (0 < (S : Int)) := by
    by_cases h0 : K = 0
    · exact Or.inl (by omega)
    · right; have := tpd_some (La := La) (K := K) (by omega) (by omega); omega
  obtain ⟨lu, hlu⟩ : ∃ lu, tpd (La.take j) = lu := ⟨_, rfl⟩
  rw [hlu] at HR1 hjS
  rw [hS] at hjS
  obtain ⟨L, hL⟩ : ∃ L, lu.length = L := ⟨_, rfl⟩
  rw [hL] at HR1 hjS
  obtain ⟨Lg, hLg⟩ : ∃ Lg, La.take j = Lg := ⟨_, rfl⟩
  rw [hLg] at HR1 HBG hjl
  have HOK : Hid (∀ a ∈ La, ach a = 0) := h1
  have HTL := hid hlk
  have HSM := hid hSm
  have HJ := hid hjl
  have HLL := hid hL
  have HM := hid hM
  have HKL := hid hkl
  have HSS := hid hS
  have HLE : Hid (((tpd La).take E).length = E) := by show _ = _; rw [List.length_take]; omega
  have HS0 := hid hS0
  have HKM := hid hKM
  have hKj : (K : Int) ≤ (j : Int) := by omega
  have hSL : (S : Int) ≤ (L : Int) := by omega
  have hK0 : (0 : Int) ≤ (K : Int) := by omega
  have hM24 : (M : Int) ≤ 24 := by omega
  have hj24 : (j : Int) ≤ 24 := by omega
  have hS9 : (S : Int) ≤ 100000 := by omega
  clear hS0 hLg hL hlu hjl h1j hjS hjK hj1 hj2 hj3 hE1 hE2 hE3 hSN hSm hk9 hpk hS hlk h1k hkl hKM hK9 hpa hM hN2 hN hlen h1 h2 hLa ha hk hv hok
  obtain ⟨p0, n0, c0, hsh⟩ : ∃ p n c, v = .slice p n c := by obtain ⟨p, cap, h, _⟩ := HV.out; exact ⟨p, _, cap, h⟩
  subst hsh
  unfold tpv at HTP HSY HC HR1
  simp only at HSY HC HR1
  go_enter Try.func8, Try.ntmps8
  go_wp2_with fail
  refine (HNT.out).mono ?_
  rintro e w1 ⟨r1, rfl, hao, hb⟩
  obtain ⟨pr, cr, hsh⟩ := hao.shape
  rw [HM.out] at hsh
  subst hsh
  have HAO := hid hao
  have HBw := hid hb
  clear hao hb
  have HB : Hid (Below w1.heap.size w1 w1) := Below.refl _ _
  go_wp2_with fail
  refine (HPA.out _).mono ?_
  rintro e w1 ⟨rfl, rfl⟩
  have hKc : (K : Int) ≤ (cr : Int) := by have h1 := AO.capl HAO.out; have := HKM.out; omega
  have HAK := hid ((AO.ar HAO.out).take K (by have := HM.out; have := HKM.out; omega))
  go_wp2_with fail
  refine (HTP.out _ _ HAK.out).mono ?_
  rintro e w2 ⟨v2, rfl, ho, hb⟩
  obtain ⟨p2, c2, hsh⟩ := ho.shape
  rw [HSS.out] at hsh
  subst hsh
  have HO2 := hid ho.ba
  have HB2 := hid hb
  have HS1 : Hid (w1.heap.size ≤ w2.heap.size) := HB2.out.size
  clear ho hb HAK
  replace HB : Hid (Below w1.heap.size w1 w2) := below_trans HB.out HB2.out HB.out.size
  have HT : Hid (BA w2 (.slice p2 S c2) (tpd (La.take K))) := HO2.out
  go_upto_region 4 with ((with_reducible show wpList _ _ _ (Oper.mk _ (.store 34 _ _) _ _ _ _ :: _) _ _); refine wp_st (by rfl) 34 _ _ (by rfl) w2.heap.size 0 [.slice none 0 0, .int .i64 0] 34 (.agg #[.slice p2 S c2, .int .i64 0]) [.slice p2 S c2, .int .i64 0] (by rfl) (by rfl) (by rfl) (heap_alloc_new _ _) (by simp) (by kernel_rfl) (by rfl) ?_; intro w3 hq1 hq2; have HU3 := hid hq1; have HF3 := hid hq2; clear hq1 hq2)
  have HBn3 : Hid (Below w2.heap.size w2 w3) := below_fr ((Below.refl _ _).alloc (Nat.le_refl _) _) HF3.out (Nat.le_refl _)
  replace HB : Hid (Below w1.heap.size w1 w3) := below_trans HB.out HBn3.out HB.out.size
  replace HT : Hid (BA w3 (.slice p2 S c2) (tpd (La.take K))) := BA.below (B := 0) HT.out HBn3.out
  have HT9 : Hid (w3.heap[w2.heap.size]? = some (.cells #[.slice p2 S c2, .int .i64 0] 34 (0, 0))) := HU3.out
  clear HU3 HF3
  have x0 : w3.cell? ⟨w2.heap.size, 0, none⟩ = some (.slice p2 S c2) := by rw [cell_of_blk HT9.out]; rfl
  have x1 : w3.cell? ⟨w2.heap.size, 1, none⟩ = some (.int .i64 0) := by rw [cell_of_blk HT9.out]; rfl
  go_wp2_with fail
  refine (HSY.out _ _ HT.out).mono ?_
  rintro e w4 ⟨v4, rfl, ho, hb⟩
  clear x0 x1
  obtain ⟨p4, c4, hsh⟩ := ho.shape
  rw [HSS.out] at hsh
  subst hsh
  have HO4 := hid ho
  have HB4 := hid hb
  have HS2 : Hid (w2.heap.size < w3.heap.size) := blk_lt HT9.out
  have HS4 : Hid (w3.heap.size ≤ w4.heap.size) := HB4.out.size
  clear ho hb
  clear HT
  replace HB : Hid (Below w1.heap.size w1 w4) := below_trans HB.out HB4.out HB.out.size
  replace HT9 : Hid (w4.heap[w2.heap.size]? = some (.cells #[.slice p2 S c2, .int .i64 0] 34 (0, 0))) := (HB4.out.block _ (blk_lt HT9.out)).trans HT9.out
  go_upto_region 5 with ((with_reducible show wpList _ _ _ (Oper.mk _ (.store 34 _ _) _ _ _ _ :: _) _ _); refine wp_st (by rfl) 34 _ _ (by rfl) (w2.heap.size) 0 [.slice p2 S c2, .int .i64 0] 34 (.agg #[.slice p4 S c4, .int .i64 S]) [.slice p4 S c4, .int .i64 S] (by rfl) (by rfl) (by rfl) HT9.out (by simp) (by kernel_rfl) (by rfl) ?_; intro w5 hq1 hq2; have HU5 := hid hq1; have HF5 := hid hq2; clear hq1 hq2)
  have HO5 := hid (HO4.out.frLt HF5.out HS2.out)
  have HS5 : Hid (w3.heap.size ≤ w5.heap.size) := by have := HF5.out.size; have := HS4.out; show _ ≤ _; omega
  replace HB : Hid (Below w1.heap.size w1 w5) := below_fr HB.out HF5.out (by first | omega | (have := HS2.out; have := HS1.out; omega))
  replace HT9 : Hid (w5.heap[w2.heap.size]? = some (.cells #[.slice p4 S c4, .int .i64 S] 34 (0, 0))) := HU5.out
  clear HU5 HF5
  have x0 : w5.cell? ⟨w2.heap.size, 0, none⟩ = some (.slice p4 S c4) := by rw [cell_of_blk HT9.out]; rfl
  have x1 : w5.cell? ⟨w2.heap.size, 1, none⟩ = some (.int .i64 S) := by rw [cell_of_blk HT9.out]; rfl
  go_wp2_with fail
  clear x0 x1
  go_loopw [13] (fun i wr => ∃ (q : Nat) (u : Value), i = .int .i64 (q : Int) ∧ K ≤ q ∧ q ≤ M ∧ BO wr w3.heap.size u (tpd (La.take q)) ∧ Below w1.heap.size w1 wr ∧ w3.heap.size ≤ wr.heap.size ∧ wr.heap[w2.heap.size]? = some (.cells #[u, .int .i64 S] 34 (0, 0))) (fun i _ => M + 1 - (intOf i).toNat)
  case atStart => exact ⟨K, .slice p4 S c4, rfl, Nat.le_refl _, HKM.out, HO5.out, HB.out, HS5.out, HT9.out⟩
  case round =>
    obtain ⟨q, u, rfl, hKq, hqM, hbo, hbb, hss, ht9⟩ := hrel
    obtain ⟨pu, nu, cu, hsh⟩ := hbo.shape3
    subst hsh
    clear HT9 HB HO5
    have HKQ := hid hKq
    have HQM := hid hqM
    have HS3 : Hid (w3.heap.size ≤ wr.heap.size) := hss
    have HT9 : Hid (wr.heap[w2.heap.size]? = some (.cells #[.slice pu nu cu, .int .i64 S] 34 (0, 0))) := ht9
    have HB : Hid (Below w1.heap.size w1 wr) := hbb
    have HU : Hid (BA wr (.slice pu nu cu) (tpd (La.take q))) := hbo.ba
    have HBO : Hid (BO wr w3.heap.size (.slice pu nu cu) (tpd (La.take q))) := hbo
    clear ht9 hbb hbo hss
    by_cases hlt : q < M
    · have hkd : q < La.length := by have := HM.out; omega
      obtain ⟨g, cap', ua, hsh, hgs, hc, hvo⟩ := AO.at (AO.below HAO.out HB.out) q hkd
      rw [HM.out] at hsh
      simp at hsh
      obtain ⟨rfl, rfl⟩ := hsh
      obtain ⟨pa, na, ca, hsh⟩ := hvo.shape3
      subst hsh
      have HK0 := hid (HOK.out _ (List.getElem_mem hkd))
      have HSN : Hid (tpd (La.take (q + 1)) = tpd (La.take q) ++ hdb (abt La[q]).length ++ abt La[q]) := by show _ = _; rw [List.take_succ_eq_append_getElem hkd, tpd_snoc]
      have HAP := hid (fun W (h : BA W (.slice pu nu cu) (tpd (La.take q))) (h2 : ValsAt W (.slice pa na ca) La[q].o.l) => tapp_any (tpd (La.take q)) (.slice pu nu cu) S La[q] (.slice pa na ca) W h h2)
      rw [tap_at HK0.out (HTL.out q) ⟨by omega, HSM.out q HKQ.out⟩, ← HSN.out] at HAP
      obtain ⟨⟨ak, ⟨ok, os, oa, ob, ol, od, oc⟩, aq, ay⟩, hA⟩ : ∃ A, La[q] = A := ⟨_, rfl⟩
      rw [hA] at hc hvo HAP
      unfold tpv acv at HAP
      simp only at hc hvo HAP
      have HVA := hid hvo.va
      have HHC := hid hc
      have i1 : (0 : Int) ≤ (q : Int) := by omega
      have i2 : (q : Int) < (M : Int) := by omega
      have HLT := hid hlt
      clear hc hvo hA hKq hqM
      go_upto_region 9 with fail
      have HKS : Hid (∀ W : World, Below wr.heap.size wr W → W.cell? ⟨w2.heap.size, 0, none⟩ = some (.slice pu nu cu) ∧ W.cell? ⟨w2.heap.size, 1, none⟩ = some (.int .i64 S) ∧ W.cell? ⟨g, q * 10, none⟩ = some (.int .i64 ak) ∧ W.cell? ⟨g, q * 10 + 1, none⟩ = some (.int .i64 ok) ∧ W.cell? ⟨g, q * 10 + 2, none⟩ = some (.string os) ∧ W.cell? ⟨g, q * 10 + 3, none⟩ = some (.int .i64 oa) ∧ W.cell? ⟨g, q * 10 + 4, none⟩ = some (.int .i64 ob) ∧ W.cell? ⟨g, q * 10 + 5, none⟩ = some (.slice pa na ca) ∧ W.cell? ⟨g, q * 10 + 6, none⟩ = some (.int .i64 od) ∧ W.cell? ⟨g, q * 10 + 7, none⟩ = some (.bool oc) ∧ W.cell? ⟨g, q * 10 + 8, none⟩ = some (.int .i64 aq) ∧ W.cell? ⟨g, q * 10 + 9, none⟩ = some (.string ay)) := fun W hb => ⟨by rw [cell_of_blk ((hb.block _ (blk_lt HT9.out)).trans HT9.out)]; rfl, by rw [cell_of_blk ((hb.block _ (blk_lt HT9.out)).trans HT9.out)]; rfl, (hb.cell hgs).trans (HHC.out 0 _ rfl), (hb.cell hgs).trans (HHC.out 1 _ rfl), (hb.cell hgs).trans (HHC.out 2 _ rfl), (hb.cell hgs).trans (HHC.out 3 _ rfl), (hb.cell hgs).trans (HHC.out 4 _ rfl), (hb.cell hgs).trans (HHC.out 5 _ rfl), (hb.cell hgs).trans (HHC.out 6 _ rfl), (hb.cell hgs).trans (HHC.out 7 _ rfl), (hb.cell hgs).trans (HHC.out 8 _ rfl), (hb.cell hgs).trans (HHC.out 9 _ rfl)⟩
      have HD0 : Hid (Below wr.heap.size wr wr.drew) := (Below.refl _ wr).drew
      refine start_n (S := (fun w' => w'.cell? ⟨w2.heap.size, 0, none⟩ = some (.slice pu nu cu) ∧ w'.cell? ⟨w2.heap.size, 1, none⟩ = some (.int .i64 S) ∧ w'.cell? ⟨g, q * 10, none⟩ = some (.int .i64 ak) ∧ w'.cell? ⟨g, q * 10 + 1, none⟩ = some (.int .i64 ok) ∧ w'.cell? ⟨g, q * 10 + 2, none⟩ = some (.string os) ∧ w'.cell? ⟨g, q * 10 + 3, none⟩ = some (.int .i64 oa) ∧ w'.cell? ⟨g, q * 10 + 4, none⟩ = some (.int .i64 ob) ∧ w'.cell? ⟨g, q * 10 + 5, none⟩ = some (.slice pa na ca) ∧ w'.cell? ⟨g, q * 10 + 6, none⟩ = some (.int .i64 od) ∧ w'.cell? ⟨g, q * 10 + 7, none⟩ = some (.bool oc) ∧ w'.cell? ⟨g, q * 10 + 8, none⟩ = some (.int .i64 aq) ∧ w'.cell? ⟨g, q * 10 + 9, none⟩ = some (.string ay))) 12 #[false, false, false, false, false, false, false, false, false, false, false, false] rfl rfl (by kernel_rfl) (HKS.out _ HD0.out) (fun hHeld => ?_)
      refine take_mk (i := 0) (v := ?v1) rfl (by kernel_rfl) (by kernel_rfl) (by kernel_rfl) (fun _ _ _ h => h) (Or.inl ⟨by rfl, ?hy1⟩) (by assumption) ?rest1
      case hy1 => (intro w0 hSw; (try dsimp only at hSw); go_simp <;> (try (with_reducible rfl)))
      (try simp only [Act.put, List.setIfInBounds_toArray, List.set_cons_zero, List.set_cons_succ])
      refine take_mk (i := 1) (v := ?v2) rfl (by kernel_rfl) (by kernel_rfl) (by kernel_rfl) (fun _ _ _ h => h) (Or.inl ⟨by rfl, ?hy2⟩) (by assumption) ?rest2
      case hy2 => (intro w0 hSw; (try dsimp only at hSw); go_simp <;> (try (with_reducible rfl)))
      (try simp only [Act.put, List.setIfInBounds_toArray, List.set_cons_zero, List.set_cons_succ])
      refine take_mk (i := 2) (v := ?v3) rfl (by kernel_rfl) (by kernel_rfl) (by kernel_rfl) (fun _ _ _ h => h) (Or.inl ⟨by rfl, ?hy3⟩) (by assumption) ?rest3
      case hy3 => (intro w0 hSw; (try dsimp only at hSw); go_simp <;> (try (with_reducible rfl)))
      (try simp only [Act.put, List.setIfInBounds_toArray, List.set_cons_zero, List.set_cons_succ])
      refine take_mk (i := 3) (v := ?v4) rfl (by kernel_rfl) (by kernel_rfl) (by kernel_rfl) (fun _ _ _ h => h) (Or.inl ⟨by rfl, ?hy4⟩) (by assumption) ?rest4
      case hy4 => (intro w0 hSw; (try dsimp only at hSw); go_simp <;> (try (with_reducible rfl)))
      (try simp only [Act.put, List.setIfInBounds_toArray, List.set_cons_zero, List.set_cons_succ])
      refine take_mk (i := 4) (v := ?v5) rfl (by kernel_rfl) (by kernel_rfl) (by kernel_rfl) (fun _ _ _ h => h) (Or.inl ⟨by rfl, ?hy5⟩) (by assumption) ?rest5
      case hy5 => (intro w0 hSw; (try dsimp only at hSw); go_simp <;> (try (with_reducible rfl)))
      (try simp only [Act.put, List.setIfInBounds_toArray, List.set_cons_zero, List.set_cons_succ])
      refine wpAnyH_ready (rs := [5, 9]) (by kernel_rfl) (by simp) ?_
      refine cons_mk rfl (fun K' hK => ?_) (cons_mk rfl (fun K' hK => ?_) AllReadyH.nil)
      · refine want_mk (by rfl) ?_
        refine op_cl 12 ent_tapp _ _ (by rfl) #[.agg #[.slice pu nu cu, .int .i64 S], .agg #[.int .i64 ak, .int .i64 ok, .string os, .int .i64 oa, .int .i64 ob, .slice pa na ca, .int .i64 od, .bool oc, .int .i64 aq, .string ay]] (by simp only [List.map_toArray, List.map_cons, List.map_nil]; rfl) _ (HAP.out _ (BA.below (B := 0) HU.out HD0.out) (HVA.out.below HD0.out)) ?_
        rintro e w5' ⟨v5, rfl, ho, hb⟩
        refine ⟨_, rfl, ?_⟩
        obtain ⟨p5, n5, c5, hsh⟩ := ho.shape3
        subst hsh
        have HO5 := hid ho
        have HB5 : Hid (Below wr.heap.size wr w5') := below_trans HD0.out hb (by simp)
        clear ho hb
        refine hK.out _ _ (HKS.out _ HB5.out) (fun hHeld => ?_)
        clear hK K'
        (try simp only [Act.put, List.setIfInBounds_toArray, List.set_cons_zero, List.set_cons_succ])
        refine take_mk (i := 6) (v := ?v6) rfl (by kernel_rfl) (by kernel_rfl) (by kernel_rfl) (fun _ _ _ h => h) (Or.inl ⟨by rfl, ?hy6⟩) (by assumption) ?rest6
        case hy6 => (intro w0 hSw; (try dsimp only at hSw); go_simp <;> (try (with_reducible rfl)))
        (try simp only [Act.put, List.setIfInBounds_toArray, List.set_cons_zero, List.set_cons_succ])
        refine take_mk (i := 7) (v := ?v7) rfl (by kernel_rfl) (by kernel_rfl) (by kernel_rfl) (fun _ _ _ h => h) (Or.inl ⟨by rfl, ?hy7⟩) (by assumption) ?rest7
        case hy7 => (intro w0 hSw; (try dsimp only at hSw); go_simp <;> (try (with_reducible rfl)))
        (try simp only [Act.put, List.setIfInBounds_toArray, List.set_cons_zero, List.set_cons_succ])
        refine take_mk (i := 8) (v := ?v8) rfl (by kernel_rfl) (by kernel_rfl) (by kernel_rfl) (fun _ _ _ h => h) (Or.inl ⟨by rfl, ?hy8⟩) (by assumption) ?rest8
        case hy8 => (intro w0 hSw; (try dsimp only at hSw); go_simp <;> (try (with_reducible rfl)))
        (try simp only [Act.put, List.setIfInBounds_toArray, List.set_cons_zero, List.set_cons_succ])
        refine wpAnyH_ready (rs := [9]) (by kernel_rfl) (by simp) ?_
        refine cons_mk rfl (fun K' hK => ?_) AllReadyH.nil
        refine want_mk (by rfl) ?_
        refine op_al 34 (by rfl) [.slice none 0 0, .int .i64 0] (by kernel_rfl) ?_
        refine hK.out _ _ (HKS.out _ (HB5.out.alloc HB5.out.size _)) (fun hHeld => ?_)
        clear hK K'
        (try simp only [Act.put, List.setIfInBounds_toArray, List.set_cons_zero, List.set_cons_succ])
        refine wpAnyH_ready (rs := [10]) (by kernel_rfl) (by simp) ?_
        refine cons_mk rfl (fun K' hK => ?_) AllReadyH.nil
        refine want_mk (by rfl) ?_
        refine op_st 34 _ _ (by rfl) w5'.heap.size 0 [.slice none 0 0, .int .i64 0] 34 (.agg #[.slice p5 n5 c5, .int .i64 S]) [.slice p5 n5 c5, .int .i64 S] (by rfl) (by rfl) (by rfl) (heap_alloc_new _ _) (by simp) (by kernel_rfl) (by rfl) ?_
        intro w7 hq1 hq2
        have HU7 := hid hq1
        have HF7 := hid hq2
        clear hq1 hq2
        refine hK.out _ _ (HKS.out _ (below_fr (HB5.out.alloc HB5.out.size _) HF7.out HB5.out.size)) (fun hHeld => ?_)
        clear hK K'
        (try simp only [Act.put, List.setIfInBounds_toArray, List.set_cons_zero, List.set_cons_succ])
        refine take_mk (i := 11) (v := ?v9) rfl (by kernel_rfl) (by kernel_rfl) (by kernel_rfl) (fun _ _ _ h => h) (Or.inl ⟨by rfl, ?hy9⟩) (by assumption) ?rest9
        case hy9 => (intro w0 hSw; (try dsimp only at hSw); go_simp <;> (try (with_reducible rfl)))
        (try simp only [Act.put, List.setIfInBounds_toArray, List.set_cons_zero, List.set_cons_succ])
        refine wpAnyH_done (by kernel_rfl) ?_ _
        have HBa : Hid (Below w5'.heap.size w5' w7) := below_fr ((Below.refl _ w5').alloc (Nat.le_refl _) _) HF7.out (Nat.le_refl _)
        have HO7 : Hid (BO w7 wr.heap.size (.slice p5 n5 c5) (tpd (La.take (q + 1)))) := (HO5.out.weak (by simp)).below HBa.out
        have HB7 : Hid (Below wr.heap.size wr w7) := below_trans HB5.out HBa.out HB5.out.size
        have HN7 : Hid (wr.heap.size ≤ w5'.heap.size) := HB5.out.size
        clear HF7 HBa HO5
        have HS9 : Hid (w2.heap.size < wr.heap.size) := blk_lt HT9.out
        replace HT9 : Hid (w7.heap[w2.heap.size]? = some (.cells #[.slice pu nu cu, .int .i64 S] 34 (0, 0))) := (HB7.out.block _ (blk_lt HT9.out)).trans HT9.out
        replace HB : Hid (Below w1.heap.size w1 w7) := below_trans HB.out HB7.out HB.out.size
        have HT6 : Hid (w7.heap[w5'.heap.size]? = some (.cells #[.slice p5 n5 c5, .int .i64 S] 34 (0, 0))) := HU7.out
        have x0 : w7.cell? ⟨w5'.heap.size, 0, none⟩ = some (.slice p5 n5 c5) := by rw [cell_of_blk HT6.out]; rfl
        have x1 : w7.cell? ⟨w5'.heap.size, 1, none⟩ = some (.int .i64 S) := by rw [cell_of_blk HT6.out]; rfl
        go_wp2_with ((with_reducible show wpList _ _ _ (Oper.mk _ (.store 34 _ _) _ _ _ _ :: _) _ _); refine wp_st (by rfl) 34 _ _ (by rfl) w2.heap.size 0 [.slice pu nu cu, .int .i64 S] 34 (.agg #[.slice p5 n5 c5, .int .i64 S]) [.slice p5 n5 c5, .int .i64 S] (by rfl) (by rfl) (by rfl) HT9.out (by simp) (by kernel_rfl) (by rfl) ?_; intro w8 hq1 hq2; have HU8 := hid hq1; have HF8 := hid hq2; clear hq1 hq2 x0 x1)
        go_roundw
        case rel => exact ⟨q + 1, .slice p5 n5 c5, by go_num, by have := HKQ.out; omega, by have := HLT.out; omega, (HO7.out.frLt HF8.out HS9.out).weak HS3.out, below_fr HB.out HF8.out (by have := HS1.out; omega), by have := HF8.out.size; have := HB7.out.size; have := HS3.out; omega, HU8.out⟩
        case measure => exact meas_k (by have := HLT.out; omega)
      · refine want_mk (by rfl) ?_
        refine op_al 34 (by rfl) [.slice none 0 0, .int .i64 0] (by kernel_rfl) ?_
        have HDa : Hid (Below wr.heap.size wr (wr.drew.alloc (.cells #[.slice none 0 0, .int .i64 0] 34))) := HD0.out.alloc (by simp) _
        refine hK.out _ _ (HKS.out _ HDa.out) (fun hHeld => ?_)
        clear hK K'
        (try simp only [Act.put, List.setIfInBounds_toArray, List.set_cons_zero, List.set_cons_succ])
        refine wpAnyH_ready (rs := [5]) (by kernel_rfl) (by simp) ?_
        refine cons_mk rfl (fun K' hK => ?_) AllReadyH.nil
        refine want_mk (by rfl) ?_
        refine op_cl 12 ent_tapp _ _ (by rfl) #[.agg #[.slice pu nu cu, .int .i64 S], .agg #[.int .i64 ak, .int .i64 ok, .string os, .int .i64 oa, .int .i64 ob, .slice pa na ca, .int .i64 od, .bool oc, .int .i64 aq, .string ay]] (by simp only [List.map_toArray, List.map_cons, List.map_nil]; rfl) _ (HAP.out _ (BA.below (B := 0) HU.out HDa.out) (HVA.out.below HDa.out)) ?_
        rintro e w5' ⟨v5, rfl, ho, hb⟩
        refine ⟨_, rfl, ?_⟩
        obtain ⟨p5, n5, c5, hsh⟩ := ho.shape3
        subst hsh
        have HO5 := hid ho
        have HB5 : Hid (Below wr.heap.size wr w5') := below_trans HDa.out hb HDa.out.size
        have HT6 : Hid (w5'.heap[wr.drew.heap.size]? = some (.cells #[.slice none 0 0, .int .i64 0] 34 (0, 0))) := (hb.block _ (by simp)).trans (heap_alloc_new _ _)
        clear ho hb
        refine hK.out _ _ (HKS.out _ HB5.out) (fun hHeld => ?_)
        clear hK K'
        (try simp only [Act.put, List.setIfInBounds_toArray, List.set_cons_zero, List.set_cons_succ])
        refine take_mk (i := 6) (v := ?vb10) rfl (by kernel_rfl) (by kernel_rfl) (by kernel_rfl) (fun _ _ _ h => h) (Or.inl ⟨by rfl, ?hyb10⟩) (by assumption) ?restb10
        case hyb10 => (intro w0 hSw; (try dsimp only at hSw); go_simp <;> (try (with_reducible rfl)))
        (try simp only [Act.put, List.setIfInBounds_toArray, List.set_cons_zero, List.set_cons_succ])
        refine take_mk (i := 7) (v := ?vb11) rfl (by kernel_rfl) (by kernel_rfl) (by kernel_rfl) (fun _ _ _ h => h) (Or.inl ⟨by rfl, ?hyb11⟩) (by assumption) ?restb11
        case hyb11 => (intro w0 hSw; (try dsimp only at hSw); go_simp <;> (try (with_reducible rfl)))
        (try simp only [Act.put, List.setIfInBounds_toArray, List.set_cons_zero, List.set_cons_succ])
        refine take_mk (i := 8) (v := ?vb12) rfl (by kernel_rfl) (by kernel_rfl) (by kernel_rfl) (fun _ _ _ h => h) (Or.inl ⟨by rfl, ?hyb12⟩) (by assumption) ?restb12
        case hyb12 => (intro w0 hSw; (try dsimp only at hSw); go_simp <;> (try (with_reducible rfl)))
        (try simp only [Act.put, List.setIfInBounds_toArray, List.set_cons_zero, List.set_cons_succ])
        refine wpAnyH_ready (rs := [10]) (by kernel_rfl) (by simp) ?_
        refine cons_mk rfl (fun K' hK => ?_) AllReadyH.nil
        refine want_mk (by rfl) ?_
        refine op_st 34 _ _ (by rfl) wr.drew.heap.size 0 [.slice none 0 0, .int .i64 0] 34 (.agg #[.slice p5 n5 c5, .int .i64 S]) [.slice p5 n5 c5, .int .i64 S] (by rfl) (by rfl) (by rfl) HT6.out (by simp) (by kernel_rfl) (by rfl) ?_
        intro w7 hq1 hq2
        have HU7 := hid hq1
        have HF7 := hid hq2
        clear hq1 hq2
        refine hK.out _ _ (HKS.out _ (below_fr HB5.out HF7.out (by simp))) (fun hHeld => ?_)
        clear hK K'
        (try simp only [Act.put, List.setIfInBounds_toArray, List.set_cons_zero, List.set_cons_succ])
        refine take_mk (i := 11) (v := ?vb13) rfl (by kernel_rfl) (by kernel_rfl) (by kernel_rfl) (fun _ _ _ h => h) (Or.inl ⟨by rfl, ?hyb13⟩) (by assumption) ?restb13
        case hyb13 => (intro w0 hSw; (try dsimp only at hSw); go_simp <;> (try (with_reducible rfl)))
        (try simp only [Act.put, List.setIfInBounds_toArray, List.set_cons_zero, List.set_cons_succ])
        refine wpAnyH_done (by kernel_rfl) ?_ _
        have HO7 : Hid (BO w7 wr.heap.size (.slice p5 n5 c5) (tpd (La.take (q + 1)))) := (HO5.out.frLt HF7.out (by simp)).weak (by simp)
        have HB7 : Hid (Below wr.heap.size wr w7) := below_fr HB5.out HF7.out (by simp)
        have HN7 : Hid (wr.heap.size ≤ wr.drew.heap.size) := Nat.le_of_eq (by simp)
        clear HF7 HT6 HO5
        have HS9 : Hid (w2.heap.size < wr.heap.size) := blk_lt HT9.out
        replace HT9 : Hid (w7.heap[w2.heap.size]? = some (.cells #[.slice pu nu cu, .int .i64 S] 34 (0, 0))) := (HB7.out.block _ (blk_lt HT9.out)).trans HT9.out
        replace HB : Hid (Below w1.heap.size w1 w7) := below_trans HB.out HB7.out HB.out.size
        have HT6 : Hid (w7.heap[wr.heap.size]? = some (.cells #[.slice p5 n5 c5, .int .i64 S] 34 (0, 0))) := HU7.out
        have x0 : w7.cell? ⟨wr.heap.size, 0, none⟩ = some (.slice p5 n5 c5) := by rw [cell_of_blk HT6.out]; rfl
        have x1 : w7.cell? ⟨wr.heap.size, 1, none⟩ = some (.int .i64 S) := by rw [cell_of_blk HT6.out]; rfl
        go_wp2_with ((with_reducible show wpList _ _ _ (Oper.mk _ (.store 34 _ _) _ _ _ _ :: _) _ _); refine wp_st (by rfl) 34 _ _ (by rfl) w2.heap.size 0 [.slice pu nu cu, .int .i64 S] 34 (.agg #[.slice p5 n5 c5, .int .i64 S]) [.slice p5 n5 c5, .int .i64 S] (by rfl) (by rfl) (by rfl) HT9.out (by simp) (by kernel_rfl) (by rfl) ?_; intro w8 hq1 hq2; have HU8 := hid hq1; have HF8 := hid hq2; clear hq1 hq2 x0 x1)
        go_roundw
        case rel => exact ⟨q + 1, .slice p5 n5 c5, by go_num, by have := HKQ.out; omega, by have := HLT.out; omega, (HO7.out.frLt HF8.out HS9.out).weak HS3.out, below_fr HB.out HF8.out (by have := HS1.out; omega), by have := HF8.out.size; have := HB7.out.size; have := HS3.out; omega, HU8.out⟩
        case measure => exact meas_k (by have := HLT.out; omega)
    · have hke : La.take q = La := List.take_of_length_le (by have := HM.out; omega)
      rw [hke] at HBO HU
      have hi : ¬ (q : Int) < (M : Int) := by omega
      clear hke hlt hKq hqM
      go_upto_region 13 with fail
      have HS9 : Hid (w2.heap.size < wr.heap.size) := blk_lt HT9.out
      have HD0 : Hid (Below wr.heap.size wr wr.drew) := (Below.refl _ wr).drew
      have HT9D : Hid (wr.drew.heap[w2.heap.size]? = some (.cells #[.slice pu nu cu, .int .i64 S] 34 (0, 0))) := (HD0.out.block _ HS9.out).trans HT9.out
      have HTD : Hid (BA wr.drew (.slice pu nu cu) (tpd La)) := BA.below (B := 0) HU.out HD0.out
      clear HU
      clear HBO
      refine start_n (S := (fun _ => True)) 9 #[false, false, false, false, false, false, false, false, false] rfl rfl (by kernel_rfl) (trivial) (fun hHeld => ?_)
      refine take_mk (i := 1) (v := ?v14) rfl (by kernel_rfl) (by kernel_rfl) (by kernel_rfl) (fun _ _ _ h => h) (Or.inl ⟨by rfl, ?hy14⟩) (by assumption) ?rest14
      case hy14 => (intro w0 hSw; (try dsimp only at hSw); go_simp <;> (try (with_reducible rfl)))
      (try simp only [Act.put, List.setIfInBounds_toArray, List.set_cons_zero, List.set_cons_succ])
      refine wpAnyH_ready (rs := [0, 2]) (by kernel_rfl) (by simp) ?_
      refine cons_mk rfl (fun K' hK => ?_) (cons_mk rfl (fun K' hK => ?_) AllReadyH.nil)
      · refine want_mk (by rfl) ?_
        refine op_ld 34 _ (by rfl) w2.heap.size 0 (by rfl) [.slice pu nu cu, .int .i64 S] _ (range_blk HT9D.out) Try.underlying34 rfl (by kernel_rfl) ?_
        refine hK.out _ _ trivial (fun hHeld => ?_)
        clear hK K'
        (try simp only [Act.put, List.setIfInBounds_toArray, List.set_cons_zero, List.set_cons_succ])
        refine wpAnyH_ready (rs := [2]) (by kernel_rfl) (by simp) ?_
        refine cons_mk rfl (fun K' hK => ?_) AllReadyH.nil
        refine want_mk (by rfl) ?_
        refine op_cl 23 ent_pik2 _ _ (by rfl) #[.int .i64 keep, .int .i64 400] (by simp only [List.map_toArray, List.map_cons, List.map_nil]; rfl) _ (HPK.out _) ?_
        rintro e wq ⟨rfl, rfl⟩
        refine ⟨_, rfl, ?_⟩
        refine hK.out _ _ trivial (fun hHeld => ?_)
        clear hK K'
        (try simp only [Act.put, List.setIfInBounds_toArray, List.set_cons_zero, List.set_cons_succ])
        refine wpAnyH_ready (rs := [3]) (by kernel_rfl) (by simp) ?_
        refine cons_mk rfl (fun K' hK => ?_) AllReadyH.nil
        refine want_mk (by rfl) ?_
        refine op_cl 17 ent_crsh _ _ (by rfl) #[.agg #[.slice pu nu cu, .int .i64 S], .int .i64 k] (by simp only [List.map_toArray, List.map_cons, List.map_nil]; rfl) _ (HC.out _ _ HTD.out) ?_
        rintro e wa ⟨v5, rfl, ho, hb⟩
        refine ⟨_, rfl, ?_⟩
        obtain ⟨p5, c5, hsh⟩ := ho.shape
        rw [HLE.out] at hsh
        subst hsh
        have HO5 := hid ho
        have HB5 : Hid (Below wr.heap.size wr wa) := below_trans HD0.out hb HD0.out.size
        have HT95 : Hid (wa.heap[w2.heap.size]? = some (.cells #[.slice pu nu cu, .int .i64 S] 34 (0, 0))) := (HB5.out.block _ HS9.out).trans HT9.out
        clear ho hb
        refine hK.out _ _ trivial (fun hHeld => ?_)
        clear hK K'
        (try simp only [Act.put, List.setIfInBounds_toArray, List.set_cons_zero, List.set_cons_succ])
        refine take_mk (i := 4) (v := ?v15) rfl (by kernel_rfl) (by kernel_rfl) (by kernel_rfl) (fun _ _ _ h => h) (Or.inl ⟨by rfl, ?hy15⟩) (by assumption) ?rest15
        case hy15 => (intro w0 hSw; (try dsimp only at hSw); go_simp <;> (try (with_reducible rfl)))
        (try simp only [Act.put, List.setIfInBounds_toArray, List.set_cons_zero, List.set_cons_succ])
        refine take_mk (i := 5) (v := ?v16) rfl (by kernel_rfl) (by kernel_rfl) (by kernel_rfl) (fun _ _ _ h => h) (Or.inl ⟨by rfl, ?hy16⟩) (by assumption) ?rest16
        case hy16 => (intro w0 hSw; (try dsimp only at hSw); go_simp <;> (try (with_reducible rfl)))
        (try simp only [Act.put, List.setIfInBounds_toArray, List.set_cons_zero, List.set_cons_succ])
        refine take_mk (i := 6) (v := ?v17) rfl (by kernel_rfl) (by kernel_rfl) (by kernel_rfl) (fun _ _ _ h => h) (Or.inl ⟨by rfl, ?hy17⟩) (by assumption) ?rest17
        case hy17 => (intro w0 hSw; (try dsimp only at hSw); go_simp <;> (try (with_reducible rfl)))
        (try simp only [Act.put, List.setIfInBounds_toArray, List.set_cons_zero, List.set_cons_succ])
        refine wpAnyH_ready (rs := [7]) (by kernel_rfl) (by simp) ?_
        refine cons_mk rfl (fun K' hK => ?_) AllReadyH.nil
        refine want_mk (by rfl) ?_
        refine op_st 34 _ _ (by rfl) w2.heap.size 0 [.slice pu nu cu, .int .i64 S] 34 (.agg #[.slice p5 E c5, .int .i64 E]) [.slice p5 E c5, .int .i64 E] (by rfl) (by rfl) (by rfl) HT95.out (by simp) (by kernel_rfl) (by rfl) ?_
        intro wb hq1 hq2
        have HU6 := hid hq1
        have HF6 := hid hq2
        clear hq1 hq2
        refine hK.out _ _ trivial (fun hHeld => ?_)
        clear hK K'
        (try simp only [Act.put, List.setIfInBounds_toArray, List.set_cons_zero, List.set_cons_succ])
        refine take_mk (i := 8) (v := ?v18) rfl (by kernel_rfl) (by kernel_rfl) (by kernel_rfl) (fun _ _ _ h => h) (Or.inl ⟨by rfl, ?hy18⟩) (by assumption) ?rest18
        case hy18 => (intro w0 hSw; (try dsimp only at hSw); go_simp <;> (try (with_reducible rfl)))
        (try simp only [Act.put, List.setIfInBounds_toArray, List.set_cons_zero, List.set_cons_succ])
        refine wpAnyH_done (by kernel_rfl) ?_ _
        replace HT9 : Hid (wa.heap[w2.heap.size]? = some (.cells #[.slice pu nu cu, .int .i64 S] 34 (0, 0))) := (HB5.out.block _ (blk_lt HT9.out)).trans HT9.out
        replace HB : Hid (Below w1.heap.size w1 wa) := below_trans HB.out HB5.out HB.out.size
        replace HB : Hid (Below w1.heap.size w1 wb) := below_fr HB.out HF6.out (by first | omega | (have := HS1.out; omega))
        replace HT9 : Hid (wb.heap[w2.heap.size]? = some (.cells #[.slice p5 E c5, .int .i64 E] 34 (0, 0))) := HU6.out
        have HU : Hid (BA wb (.slice p5 E c5) ((tpd La).take E)) := ((HO5.out.frLt HF6.out (by have := HS9.out; have := HD0.out.size; omega)).ba)
        clear HU6 HF6 HO5 HB5 HT95 HT9D HTD HD0
        have x0 : wb.cell? ⟨w2.heap.size, 0, none⟩ = some (.slice p5 E c5) := by rw [cell_of_blk HT9.out]; rfl
        have x1 : wb.cell? ⟨w2.heap.size, 1, none⟩ = some (.int .i64 E) := by rw [cell_of_blk HT9.out]; rfl
        go_wp2_with fail
        refine (HR1.out _ _ HU.out).mono ?_
        rintro e wc ⟨r7, v7, rfl, hao, ho, hb⟩
        clear x0 x1
        obtain ⟨p7, c7, hsh⟩ := ho.shape
        rw [HLL.out] at hsh
        subst hsh
        obtain ⟨pg, cg, hsh⟩ := hao.shape
        rw [HJ.out] at hsh
        subst hsh
        have HO7 := hid ho.ba
        have HA7 := hid hao
        have HBh7 := hid hb
        clear ho hb hao
        clear HU
        clear HT9
        replace HB : Hid (Below w1.heap.size w1 wc) := below_trans HB.out HBh7.out HB.out.size
        have HG : Hid (AO wc wb.heap.size (.slice pg j cg) Lg) := HA7.out
        go_upto_region 15 with ((with_reducible show wpList _ _ _ (Oper.mk _ (.store 34 _ _) _ _ _ _ :: _) _ _); refine wp_st (by rfl) 34 _ _ (by rfl) wc.heap.size 0 [.slice none 0 0, .int .i64 0] 34 (.agg #[.slice p7 L c7, .int .i64 L]) [.slice p7 L c7, .int .i64 L] (by rfl) (by rfl) (by rfl) (heap_alloc_new _ _) (by simp) (by kernel_rfl) (by rfl) ?_; intro wd hq1 hq2; have HUd := hid hq1; have HFd := hid hq2; clear hq1 hq2)
        have HBnd : Hid (Below wc.heap.size wc wd) := below_fr ((Below.refl _ _).alloc (Nat.le_refl _) _) HFd.out (Nat.le_refl _)
        replace HB : Hid (Below w1.heap.size w1 wd) := below_trans HB.out HBnd.out HB.out.size
        replace HG : Hid (AO wd wb.heap.size (.slice pg j cg) Lg) := AO.below HG.out HBnd.out
        have HT18 : Hid (wd.heap[wc.heap.size]? = some (.cells #[.slice p7 L c7, .int .i64 L] 34 (0, 0))) := HUd.out
        clear HUd HFd
        have x0 : wd.cell? ⟨wc.heap.size, 0, none⟩ = some (.slice p7 L c7) := by rw [cell_of_blk HT18.out]; rfl
        have x1 : wd.cell? ⟨wc.heap.size, 1, none⟩ = some (.int .i64 L) := by rw [cell_of_blk HT18.out]; rfl
        go_wp2_with fail
        refine (HBG.out _ _ _ _ _ HG.out (AO.below HAO.out HB.out)).mono ?_
        rintro e we ⟨rfl, hb⟩
        clear x0 x1
        have HBhe := hid hb
        clear hb
        replace HB : Hid (Below w1.heap.size w1 we) := below_trans HB.out HBhe.out HB.out.size
        replace HG : Hid (AO we wb.heap.size (.slice pg j cg) Lg) := AO.below HG.out HBhe.out
        replace HT18 : Hid (we.heap[wc.heap.size]? = some (.cells #[.slice p7 L c7, .int .i64 L] 34 (0, 0))) := (HBhe.out.block _ (blk_lt HT18.out)).trans HT18.out
        have x0 : we.cell? ⟨wc.heap.size, 0, none⟩ = some (.slice p7 L c7) := by rw [cell_of_blk HT18.out]; rfl
        have x1 : we.cell? ⟨wc.heap.size, 1, none⟩ = some (.int .i64 L) := by rw [cell_of_blk HT18.out]; rfl
        go_wp2
        all_goals
          go_ret
          exact ⟨ret_bool (by first | (simp; done) | (have := HS0.out; simp; omega) | (have := HS0.out; simp at *; omega) | (have := HS0.out; simp_all; omega)), below_trans HBw.out HB.out HBw.out.size⟩
      · refine want_mk (by rfl) ?_
        refine op_cl 23 ent_pik2 _ _ (by rfl) #[.int .i64 keep, .int .i64 400] (by simp only [List.map_toArray, List.map_cons, List.map_nil]; rfl) _ (HPK.out _) ?_
        rintro e wq ⟨rfl, rfl⟩
        refine ⟨_, rfl, ?_⟩
        refine hK.out _ _ trivial (fun hHeld => ?_)
        clear hK K'
        (try simp only [Act.put, List.setIfInBounds_toArray, List.set_cons_zero, List.set_cons_succ])
        refine wpAnyH_ready (rs := [0]) (by kernel_rfl) (by simp) ?_
        refine cons_mk rfl (fun K' hK => ?_) AllReadyH.nil
        refine want_mk (by rfl) ?_
        refine op_ld 34 _ (by rfl) w2.heap.size 0 (by rfl) [.slice pu nu cu, .int .i64 S] _ (range_blk HT9D.out) Try.underlying34 rfl (by kernel_rfl) ?_
        refine hK.out _ _ trivial (fun hHeld => ?_)
        clear hK K'
        (try simp only [Act.put, List.setIfInBounds_toArray, List.set_cons_zero, List.set_cons_succ])
        refine wpAnyH_ready (rs := [3]) (by kernel_rfl) (by simp) ?_
        refine cons_mk rfl (fun K' hK => ?_) AllReadyH.nil
        refine want_mk (by rfl) ?_
        refine op_cl 17 ent_crsh _ _ (by rfl) #[.agg #[.slice pu nu cu, .int .i64 S], .int .i64 k] (by simp only [List.map_toArray, List.map_cons, List.map_nil]; rfl) _ (HC.out _ _ HTD.out) ?_
        rintro e wa ⟨v5, rfl, ho, hb⟩
        refine ⟨_, rfl, ?_⟩
        obtain ⟨p5, c5, hsh⟩ := ho.shape
        rw [HLE.out] at hsh
        subst hsh
        have HO5 := hid ho
        have HB5 : Hid (Below wr.heap.size wr wa) := below_trans HD0.out hb HD0.out.size
        have HT95 : Hid (wa.heap[w2.heap.size]? = some (.cells #[.slice pu nu cu, .int .i64 S] 34 (0, 0))) := (HB5.out.block _ HS9.out).trans HT9.out
        clear ho hb
        refine hK.out _ _ trivial (fun hHeld => ?_)
        clear hK K'
        (try simp only [Act.put, List.setIfInBounds_toArray, List.set_cons_zero, List.set_cons_succ])
        refine take_mk (i := 4) (v := ?vb19) rfl (by kernel_rfl) (by kernel_rfl) (by kernel_rfl) (fun _ _ _ h => h) (Or.inl ⟨by rfl, ?hyb19⟩) (by assumption) ?restb19
        case hyb19 => (intro w0 hSw; (try dsimp only at hSw); go_simp <;> (try (with_reducible rfl)))
        (try simp only [Act.put, List.setIfInBounds_toArray, List.set_cons_zero, List.set_cons_succ])
        refine take_mk (i := 5) (v := ?vb20) rfl (by kernel_rfl) (by kernel_rfl) (by kernel_rfl) (fun _ _ _ h => h) (Or.inl ⟨by rfl, ?hyb20⟩) (by assumption) ?restb20
        case hyb20 => (intro w0 hSw; (try dsimp only at hSw); go_simp <;> (try (with_reducible rfl)))
        (try simp only [Act.put, List.setIfInBounds_toArray, List.set_cons_zero, List.set_cons_succ])
        refine take_mk (i := 6) (v := ?vb21) rfl (by kernel_rfl) (by kernel_rfl) (by kernel_rfl) (fun _ _ _ h => h) (Or.inl ⟨by rfl, ?hyb21⟩) (by assumption) ?restb21
        case hyb21 => (intro w0 hSw; (try dsimp only at hSw); go_simp <;> (try (with_reducible rfl)))
        (try simp only [Act.put, List.setIfInBounds_toArray, List.set_cons_zero, List.set_cons_succ])
        refine wpAnyH_ready (rs := [7]) (by kernel_rfl) (by simp) ?_
        refine cons_mk rfl (fun K' hK => ?_) AllReadyH.nil
        refine want_mk (by rfl) ?_
        refine op_st 34 _ _ (by rfl) w2.heap.size 0 [.slice pu nu cu, .int .i64 S] 34 (.agg #[.slice p5 E c5, .int .i64 E]) [.slice p5 E c5, .int .i64 E] (by rfl) (by rfl) (by rfl) HT95.out (by simp) (by kernel_rfl) (by rfl) ?_
        intro wb hq1 hq2
        have HU6 := hid hq1
        have HF6 := hid hq2
        clear hq1 hq2
        refine hK.out _ _ trivial (fun hHeld => ?_)
        clear hK K'
        (try simp only [Act.put, List.setIfInBounds_toArray, List.set_cons_zero, List.set_cons_succ])
        refine take_mk (i := 8) (v := ?vb22) rfl (by kernel_rfl) (by kernel_rfl) (by kernel_rfl) (fun _ _ _ h => h) (Or.inl ⟨by rfl, ?hyb22⟩) (by assumption) ?restb22
        case hyb22 => (intro w0 hSw; (try dsimp only at hSw); go_simp <;> (try (with_reducible rfl)))
        (try simp only [Act.put, List.setIfInBounds_toArray, List.set_cons_zero, List.set_cons_succ])
        refine wpAnyH_done (by kernel_rfl) ?_ _
        replace HT9 : Hid (wa.heap[w2.heap.size]? = some (.cells #[.slice pu nu cu, .int .i64 S] 34 (0, 0))) := (HB5.out.block _ (blk_lt HT9.out)).trans HT9.out
        replace HB : Hid (Below w1.heap.size w1 wa) := below_trans HB.out HB5.out HB.out.size
        replace HB : Hid (Below w1.heap.size w1 wb) := below_fr HB.out HF6.out (by first | omega | (have := HS1.out; omega))
        replace HT9 : Hid (wb.heap[w2.heap.size]? = some (.cells #[.slice p5 E c5, .int .i64 E] 34 (0, 0))) := HU6.out
        have HU : Hid (BA wb (.slice p5 E c5) ((tpd La).take E)) := ((HO5.out.frLt HF6.out (by have := HS9.out; have := HD0.out.size; omega)).ba)
        clear HU6 HF6 HO5 HB5 HT95 HT9D HTD HD0
        have x0 : wb.cell? ⟨w2.heap.size, 0, none⟩ = some (.slice p5 E c5) := by rw [cell_of_blk HT9.out]; rfl
        have x1 : wb.cell? ⟨w2.heap.size, 1, none⟩ = some (.int .i64 E) := by rw [cell_of_blk HT9.out]; rfl
        go_wp2_with fail
        refine (HR1.out _ _ HU.out).mono ?_
        rintro e wc ⟨r7, v7, rfl, hao, ho, hb⟩
        clear x0 x1
        obtain ⟨p7, c7, hsh⟩ := ho.shape
        rw [HLL.out] at hsh
        subst hsh
        obtain ⟨pg, cg, hsh⟩ := hao.shape
        rw [HJ.out] at hsh
        subst hsh
        have HO7 := hid ho.ba
        have HA7 := hid hao
        have HBh7 := hid hb
        clear ho hb hao
        clear HU
        clear HT9
        replace HB : Hid (Below w1.heap.size w1 wc) := below_trans HB.out HBh7.out HB.out.size
        have HG : Hid (AO wc wb.heap.size (.slice pg j cg) Lg) := HA7.out
        go_upto_region 15 with ((with_reducible show wpList _ _ _ (Oper.mk _ (.store 34 _ _) _ _ _ _ :: _) _ _); refine wp_st (by rfl) 34 _ _ (by rfl) wc.heap.size 0 [.slice none 0 0, .int .i64 0] 34 (.agg #[.slice p7 L c7, .int .i64 L]) [.slice p7 L c7, .int .i64 L] (by rfl) (by rfl) (by rfl) (heap_alloc_new _ _) (by simp) (by kernel_rfl) (by rfl) ?_; intro wd hq1 hq2; have HUd := hid hq1; have HFd := hid hq2; clear hq1 hq2)
        have HBnd : Hid (Below wc.heap.size wc wd) := below_fr ((Below.refl _ _).alloc (Nat.le_refl _) _) HFd.out (Nat.le_refl _)
        replace HB : Hid (Below w1.heap.size w1 wd) := below_trans HB.out HBnd.out HB.out.size
        replace HG : Hid (AO wd wb.heap.size (.slice pg j cg) Lg) := AO.below HG.out HBnd.out
        have HT18 : Hid (wd.heap[wc.heap.size]? = some (.cells #[.slice p7 L c7, .int .i64 L] 34 (0, 0))) := HUd.out
        clear HUd HFd
        have x0 : wd.cell? ⟨wc.heap.size, 0, none⟩ = some (.slice p7 L c7) := by rw [cell_of_blk HT18.out]; rfl
        have x1 : wd.cell? ⟨wc.heap.size, 1, none⟩ = some (.int .i64 L) := by rw [cell_of_blk HT18.out]; rfl
        go_wp2_with fail
        refine (HBG.out _ _ _ _ _ HG.out (AO.below HAO.out HB.out)).mono ?_
        rintro e we ⟨rfl, hb⟩
        clear x0 x1
        have HBhe := hid hb
        clear hb
        replace HB : Hid (Below w1.heap.size w1 we) := below_trans HB.out HBhe.out HB.out.size
        replace HG : Hid (AO we wb.heap.size (.slice pg j cg) Lg) := AO.below HG.out HBhe.out
        replace HT18 : Hid (we.heap[wc.heap.size]? = some (.cells #[.slice p7 L c7, .int .i64 L] 34 (0, 0))) := (HBhe.out.block _ (blk_lt HT18.out)).trans HT18.out
        have x0 : we.cell? ⟨wc.heap.size, 0, none⟩ = some (.slice p7 L c7) := by rw [cell_of_blk HT18.out]; rfl
        have x1 : we.cell? ⟨wc.heap.size, 1, none⟩ = some (.int .i64 L) := by rw [cell_of_blk HT18.out]; rfl
        go_wp2
        all_goals
          go_ret
          exact ⟨ret_bool (by first | (simp; done) | (have := HS0.out; simp; omega) | (have := HS0.out; simp at *; omega) | (have := HS0.out; simp_all; omega)), below_trans HBw.out HB.out HBw.out.size⟩
end Go.Proofs.Ytepgkemnpcadiaa
