/-
  Behind a crash one goes on: TapeOn.
-/
import Derived.Test.YtepgkemnpcadiabTr
namespace Go.Proofs.Ytepgkemnpcadiab
open Go.ChangeShapes Go.WideShapes Go.ChangeAt Go.RowKit Go.Maps
set_option linter.unusedVariables false
set_option linter.unusedSimpArgs false
set_option maxRecDepth 20000
theorem tcr_zero {l : List UInt8} {k : Int} (h : l.length ≤ 100000) (hk : 0 ≤ k) : ∃ E : Nat, E ≤ l.length ∧ tcr l 0 k = (l.take E, (E : Int), 0) := by
  refine ⟨tcrN l 0 k, ?_, ?_⟩
  · unfold tcrN; split <;> omega
  · rw [tcr_fits h (by omega), if_neg (by omega)]
theorem trc_full {La : List Ac} (h : ∀ a ∈ La, ach a = 0) (E : Nat) (hl : E ≤ 200000) (hE : E ≤ (tpd La).length) :
    ∃ j, j ≤ La.length ∧ trc ((tpd La).take E) E = (La.take j, tpd (La.take j), ((tpd (La.take j)).length : Int), 0) ∧ (tpd (La.take j)).length ≤ E := by
  obtain ⟨j, h1, h2, h3, _⟩ := trc_cut h E E hl hE (by omega)
  refine ⟨j, h1, ?_, h3⟩
  rw [h2]
  congr 3
  split <;> omega
theorem tap_at {l : List UInt8} {s : Int} {a : Ac} (h : ach a = 0) (hl : l.length ≤ 100000) (hs : 0 ≤ s ∧ s ≤ l.length) : tap l s a = (l ++ hdb (abt a).length ++ abt a, s, 0) := by
  have := abt_len h
  unfold tap
  rw [if_pos (by unfold tmay; simp; omega), if_neg (by simp [h]), if_neg (by omega)]
theorem ent_begins : ∀ args w, (callFunc 13 args).run Try.prog w = .ok (.enter 13 args) w := enters_of Try.func13 (by kernel_rfl) rfl
theorem ent_crsh : ∀ args w, (callFunc 14 args).run Try.prog w = .ok (.enter 14 args) w := enters_of Try.func14 (by kernel_rfl) rfl
theorem want_yes {o : Oper} {y : _} {X E : Prop} (hg : Region.wanted o y = true) (h : X) : if Region.wanted o y = true then X else E := by
  rw [if_pos hg]
  exact h
set_option maxHeartbeats 16000000 in
theorem tapeOn_walk (ds : List Rw) (v : Value) (keep : Int) (D : Rw) (w : World) (hv : DsAt w v ds) (hok : ∀ x ∈ ds, x.ok) (hk : wfI keep) (hD : D.ok) :
    Calls Try.prog 4 #[v, .int .i64 keep, rwv D] w fun e w' => e = .returned (.bool true) ∧ Below w.heap.size w w' := by
  have HV := hid hv
  have HNT := hid (fun W (b : Below w.heap.size w W) => notes_any ds v W (hv.below b) hok)
  have HN := hid (fun W => note_any D hD W)
  have hda := note_ok D
  obtain ⟨h1, h2⟩ := notes_ok ds
  obtain ⟨La, hLa⟩ : ∃ La, (ds.take 24).map noteA = La := ⟨_, rfl⟩
  rw [hLa] at h1 h2 HNT
  have HTP := hid (fun W v B (h : AO W B v La) => taped_any La v B W h h1 h2)
  have hlen := tpd_len La h1
  obtain ⟨N, hN⟩ : ∃ N, (tpd La).length = N := ⟨_, rfl⟩
  rw [hN] at hlen
  have hN2 : N ≤ 72072 := by omega
  have HPK := hid (fun W => picked_any keep 400 W hk.1 hk.2 (by decide) (by decide))
  have hpk := pk_bd keep 400 (by decide)
  obtain ⟨k, hk9⟩ : ∃ k, pk keep 400 = k := ⟨_, rfl⟩
  rw [hk9] at HPK hpk
  obtain ⟨E, hE1, hE2⟩ := tcr_zero (l := tpd La) (k := k) (by omega) hpk.1
  have HC := hid (fun W v (h : BA W v (tpd La)) => tcrash_any (tpd La) v 0 k W h (by unfold wfI; omega))
  rw [hE2] at HC
  rw [hN] at hE1
  obtain ⟨j, hj1, hj2, hj3⟩ := trc_full h1 E (by omega) (by omega)
  have h1j : ∀ a ∈ La.take j, ach a = 0 := fun a ha => h1 a (List.mem_of_mem_take ha)
  have HR1 := hid (fun W v (h : BA W v ((tpd La).take E)) => trec_any ((tpd La).take E) v E W h)
  rw [hj2] at HR1
  obtain ⟨A, hA⟩ : ∃ A, noteA D = A := ⟨_, rfl⟩
  rw [hA] at HN hda
  have HAP := hid (fun W v u (h : BA W v (tpd (La.take j))) (h2 : ValsAt W u A.o.l) => tapp_any (tpd (La.take j)) v ((tpd (La.take j)).length : Int) A u W h h2)
  rw [tap_at hda (by omega) (by omega), ← tpd_snoc] at HAP
  have hjl : (La.take j).length = j := by rw [List.length_take]; omega
  obtain ⟨Lb, hLb⟩ : ∃ Lb, La.take j ++ [A] = Lb := ⟨_, rfl⟩
  have h1b : ∀ a ∈ Lb, ach a = 0 := fun a ha => by
    rw [← hLb] at ha
    rcases List.mem_append.1 ha with ha | ha
    · exact h1j a ha
    · simp at ha; subst ha; exact hda
  have hpre : La.take j = Lb.take j := by rw [← hLb, List.take_left' hjl]
  have hbl0 : Lb.length = j + 1 := by rw [← hLb, List.length_append, hjl]; rfl
  obtain ⟨m, hbl⟩ : ∃ m, Lb.length = m := ⟨_, rfl⟩
  have hmj : (m : Int) = (j : Int) + 1 := by omega
  have hj24 : (j : Int) ≤ 24 := by omega
  have hat : ∀ h : j < Lb.length, Lb[j] = A := fun h => by
    have : Lb[j]? = some A := by rw [← hLb, List.getElem?_append_right (by omega), hjl]; simp
    rw [List.getElem?_eq_getElem h] at this
    simpa using this
  have hb1 : (tpd (La.take j)).length ≤ (tpd Lb).length := by rw [← hLb, tpd_app, List.length_append]; omega
  have hb2 := tpd_len Lb h1b
  have hR2 := trc_all h1b ((tpd (La.take j)).length : Int) (by omega) (by omega)
  rw [hLb] at HAP
  have HR2 := hid (fun W v (h : BA W v (tpd Lb)) => trec_any (tpd Lb) v ((tpd (La.take j)).length : Int) W h)
  rw [hR2] at HR2
  have HBG := hid (fun W v1 v2 B1 B2 x1 x2 => begins_any (La.take j) Lb v1 v2 B1 B2 W x1 x2 ⟨j, hpre⟩ (fun a ha => ach_few (h1j a ha)) (by omega))
  have HSA := hid (fun W u1 u2 x1 x2 => sameActK_any A u1 u2 W x1 x2 (ach_few hda))
  obtain ⟨lu, hlu⟩ : ∃ lu, tpd (La.take j) = lu := ⟨_, rfl⟩
  obtain ⟨lb, hlb⟩ : ∃ lb, tpd Lb = lb := ⟨_, rfl⟩
  obtain ⟨l, hl⟩ : ∃ l, tpd La = l := ⟨_, rfl⟩
  rw [hlu] at HR1 HAP HR2
  rw [hlb] at HAP HR2
  rw [hl] at HTP HC HR1 hN
  obtain ⟨Lg, hLg⟩ : ∃ Lg, La.take j = Lg := ⟨_, rfl⟩
  rw [hLg] at HR1 HBG hjl
  obtain ⟨L, hL⟩ : ∃ L, lu.length = L := ⟨_, rfl⟩
  rw [hL] at HR1 HAP HR2
  have HJ := hid hjl
  have HBL := hid hbl
  have HAT := hid hat
  have HLL := hid hL
  have HNN := hid hN
  have HLE : Hid ((l.take E).length = E) := by show _ = _; rw [List.length_take]; omega
  clear hbl0 hL hLg hlu hlb hl hR2 hb1 hb2 hat hbl hpre h1b hLb hjl hA h1j hj1 hj2 hj3 hE1 hE2 hk9 hpk hN2 hlen hN h1 h2 hLa hda hv hok hk hD
  obtain ⟨p0, n0, c0, hsh⟩ : ∃ p n c, v = .slice p n c := by obtain ⟨p, cap, h, _⟩ := HV.out; exact ⟨p, _, cap, h⟩
  subst hsh
  obtain ⟨ki, ty, lo, n, de, tx, co⟩ := D
  obtain ⟨ak, ⟨ok, os, oa, ob, ol, od, oc⟩, aq, ay⟩ := A
  unfold rwv at HN ⊢
  unfold tpv at HTP HC HR1 HR2 HAP
  unfold acv at HN HAP HSA
  simp only at HN HC HR1 HR2 HAP HSA ⊢
  go_enter Try.func4, Try.ntmps4
  go_upto_region 1 with fail
  have HT1 : Hid ((w.alloc (.cells #[.int .i64 ki, .int .i64 ty, .int .i64 lo, .int .i64 n, .int .i64 de, .string tx, .bool co] 37)).heap[w.heap.size]? = some (.cells #[.int .i64 ki, .int .i64 ty, .int .i64 lo, .int .i64 n, .int .i64 de, .string tx, .bool co] 37 (0, 0))) := heap_alloc_new _ _
  have HB : Hid (Below w.heap.size w (w.alloc (.cells #[.int .i64 ki, .int .i64 ty, .int .i64 lo, .int .i64 n, .int .i64 de, .string tx, .bool co] 37))) := (Below.refl _ w).alloc (Nat.le_refl _) _
  generalize w.alloc (.cells #[.int .i64 ki, .int .i64 ty, .int .i64 lo, .int .i64 n, .int .i64 de, .string tx, .bool co] 37) = w1 at HT1 HB ⊢
  have HS1 : Hid (w.heap.size < w1.heap.size) := blk_lt HT1.out
  go_wp2_with fail
  refine (HNT.out _ HB.out).mono ?_
  rintro e w2 ⟨r1, rfl, hao, hb⟩
  obtain ⟨pr, nr, cr, hsh⟩ : ∃ p n c, r1 = .slice p n c := by obtain ⟨p, c, h⟩ := hao.shape; exact ⟨p, _, c, h⟩
  subst hsh
  have HAO := hid hao
  have HB1 := hid hb
  clear hao hb
  replace HT1 : Hid (w2.heap[w.heap.size]? = some (.cells #[.int .i64 ki, .int .i64 ty, .int .i64 lo, .int .i64 n, .int .i64 de, .string tx, .bool co] 37 (0, 0))) := (HB1.out.block _ (blk_lt HT1.out)).trans HT1.out
  replace HB : Hid (Below w.heap.size w w2) := below_trans HB.out HB1.out HB.out.size
  go_wp2_with fail
  refine (HTP.out _ _ _ HAO.out).mono ?_
  rintro e w3 ⟨v3, rfl, ho, hb⟩
  obtain ⟨p3, c3, hsh⟩ := ho.shape
  rw [HNN.out] at hsh
  subst hsh
  have HO3 := hid ho.ba
  have HB2 := hid hb
  clear ho hb HAO
  replace HT1 : Hid (w3.heap[w.heap.size]? = some (.cells #[.int .i64 ki, .int .i64 ty, .int .i64 lo, .int .i64 n, .int .i64 de, .string tx, .bool co] 37 (0, 0))) := (HB2.out.block _ (blk_lt HT1.out)).trans HT1.out
  replace HB : Hid (Below w.heap.size w w3) := below_trans HB.out HB2.out HB.out.size
  have HT : Hid (BA w3 (.slice p3 N c3) l) := HO3.out
  go_upto_region 2 with ((with_reducible show wpList _ _ _ (Oper.mk _ (.store 27 _ _) _ _ _ _ :: _) _ _); refine wp_st (by rfl) 27 _ _ (by rfl) w3.heap.size 0 [.slice none 0 0, .int .i64 0] 27 (.agg #[.slice p3 N c3, .int .i64 0]) [.slice p3 N c3, .int .i64 0] (by rfl) (by rfl) (by rfl) (heap_alloc_new _ _) (by simp) (by kernel_rfl) (by rfl) ?_; intro w4 hq1 hq2; have HU4 := hid hq1; have HF4 := hid hq2; clear hq1 hq2)
  have HBn4 : Hid (Below w3.heap.size w3 w4) := below_fr ((Below.refl _ _).alloc (Nat.le_refl _) _) HF4.out (Nat.le_refl _)
  replace HT1 : Hid (w4.heap[w.heap.size]? = some (.cells #[.int .i64 ki, .int .i64 ty, .int .i64 lo, .int .i64 n, .int .i64 de, .string tx, .bool co] 37 (0, 0))) := (HBn4.out.block _ (blk_lt HT1.out)).trans HT1.out
  replace HB : Hid (Below w.heap.size w w4) := below_trans HB.out HBn4.out HB.out.size
  replace HT : Hid (BA w4 (.slice p3 N c3) l) := BA.below (B := 0) HT.out HBn4.out
  have HT7 : Hid (w4.heap[w3.heap.size]? = some (.cells #[.slice p3 N c3, .int .i64 0] 27 (0, 0))) := HU4.out
  clear HU4 HF4
  have HS7 : Hid (w3.heap.size < w4.heap.size) := blk_lt HT7.out
  have HS2 : Hid (w.heap.size < w3.heap.size) := by have := HB1.out.size; have := HB2.out.size; have := HS1.out; show _ < _; omega
  have HD0 : Hid (Below w4.heap.size w4 w4.drew) := (Below.refl _ w4).drew
  have HT7D : Hid (w4.drew.heap[w3.heap.size]? = some (.cells #[.slice p3 N c3, .int .i64 0] 27 (0, 0))) := (HD0.out.block _ HS7.out).trans HT7.out
  have HTD : Hid (BA w4.drew (.slice p3 N c3) l) := BA.below (B := 0) HT.out HD0.out
  clear HT
  refine start_n (S := (fun _ => True)) 9 #[false, false, false, false, false, false, false, false, false] rfl rfl (by kernel_rfl) (trivial) (fun hHeld => ?_)
  refine take_mk (i := 1) (v := ?v1) rfl (by kernel_rfl) (by kernel_rfl) (by kernel_rfl) (fun _ _ _ h => h) (Or.inl ⟨by rfl, ?hy1⟩) (by assumption) ?rest1
  case hy1 => (intro w0 hSw; (try dsimp only at hSw); go_simp <;> (try (with_reducible rfl)))
  (try simp only [Act.put, List.setIfInBounds_toArray, List.set_cons_zero, List.set_cons_succ])
  refine wpAnyH_ready (rs := [0, 2]) (by kernel_rfl) (by simp) ?_
  refine cons_mk rfl (fun K hK => ?_) (cons_mk rfl (fun K hK => ?_) AllReadyH.nil)
  · refine want_mk (by rfl) ?_
    refine op_ld 27 _ (by rfl) w3.heap.size 0 (by rfl) [.slice p3 N c3, .int .i64 0] _ (range_blk HT7D.out) Try.underlying27 rfl (by kernel_rfl) ?_
    refine hK.out _ _ trivial (fun hHeld => ?_)
    clear hK K
    (try simp only [Act.put, List.setIfInBounds_toArray, List.set_cons_zero, List.set_cons_succ])
    refine wpAnyH_ready (rs := [2]) (by kernel_rfl) (by simp) ?_
    refine cons_mk rfl (fun K hK => ?_) AllReadyH.nil
    refine want_mk (by rfl) ?_
    refine op_cl 11 ent_pik2 _ _ (by rfl) #[.int .i64 keep, .int .i64 400] (by simp only [List.map_toArray, List.map_cons, List.map_nil]; rfl) _ (HPK.out _) ?_
    rintro e w5 ⟨rfl, rfl⟩
    refine ⟨_, rfl, ?_⟩
    refine hK.out _ _ trivial (fun hHeld => ?_)
    clear hK K
    (try simp only [Act.put, List.setIfInBounds_toArray, List.set_cons_zero, List.set_cons_succ])
    refine wpAnyH_ready (rs := [3]) (by kernel_rfl) (by simp) ?_
    refine cons_mk rfl (fun K hK => ?_) AllReadyH.nil
    refine want_mk (by rfl) ?_
    refine op_cl 14 ent_crsh _ _ (by rfl) #[.agg #[.slice p3 N c3, .int .i64 0], .int .i64 k] (by simp only [List.map_toArray, List.map_cons, List.map_nil]; rfl) _ (HC.out _ _ HTD.out) ?_
    rintro e w5 ⟨v5, rfl, ho, hb⟩
    refine ⟨_, rfl, ?_⟩
    obtain ⟨p5, c5, hsh⟩ := ho.shape
    rw [HLE.out] at hsh
    subst hsh
    have HO5 := hid ho
    have HB5 : Hid (Below w4.heap.size w4 w5) := below_trans HD0.out hb HD0.out.size
    have HT75 : Hid (w5.heap[w3.heap.size]? = some (.cells #[.slice p3 N c3, .int .i64 0] 27 (0, 0))) := (HB5.out.block _ HS7.out).trans HT7.out
    clear ho hb
    refine hK.out _ _ trivial (fun hHeld => ?_)
    clear hK K
    (try simp only [Act.put, List.setIfInBounds_toArray, List.set_cons_zero, List.set_cons_succ])
    refine take_mk (i := 4) (v := ?v2) rfl (by kernel_rfl) (by kernel_rfl) (by kernel_rfl) (fun _ _ _ h => h) (Or.inl ⟨by rfl, ?hy2⟩) (by assumption) ?rest2
    case hy2 => (intro w0 hSw; (try dsimp only at hSw); go_simp <;> (try (with_reducible rfl)))
    (try simp only [Act.put, List.setIfInBounds_toArray, List.set_cons_zero, List.set_cons_succ])
    refine take_mk (i := 5) (v := ?v3) rfl (by kernel_rfl) (by kernel_rfl) (by kernel_rfl) (fun _ _ _ h => h) (Or.inl ⟨by rfl, ?hy3⟩) (by assumption) ?rest3
    case hy3 => (intro w0 hSw; (try dsimp only at hSw); go_simp <;> (try (with_reducible rfl)))
    (try simp only [Act.put, List.setIfInBounds_toArray, List.set_cons_zero, List.set_cons_succ])
    refine take_mk (i := 6) (v := ?v4) rfl (by kernel_rfl) (by kernel_rfl) (by kernel_rfl) (fun _ _ _ h => h) (Or.inl ⟨by rfl, ?hy4⟩) (by assumption) ?rest4
    case hy4 => (intro w0 hSw; (try dsimp only at hSw); go_simp <;> (try (with_reducible rfl)))
    (try simp only [Act.put, List.setIfInBounds_toArray, List.set_cons_zero, List.set_cons_succ])
    refine wpAnyH_ready (rs := [7]) (by kernel_rfl) (by simp) ?_
    refine cons_mk rfl (fun K hK => ?_) AllReadyH.nil
    refine want_mk (by rfl) ?_
    refine op_st 27 _ _ (by rfl) w3.heap.size 0 [.slice p3 N c3, .int .i64 0] 27 (.agg #[.slice p5 E c5, .int .i64 E]) [.slice p5 E c5, .int .i64 E] (by rfl) (by rfl) (by rfl) HT75.out (by simp) (by kernel_rfl) (by rfl) ?_
    intro w6 hq1 hq2
    have HU6 := hid hq1
    have HF6 := hid hq2
    clear hq1 hq2
    refine hK.out _ _ trivial (fun hHeld => ?_)
    clear hK K
    (try simp only [Act.put, List.setIfInBounds_toArray, List.set_cons_zero, List.set_cons_succ])
    refine take_mk (i := 8) (v := ?v5) rfl (by kernel_rfl) (by kernel_rfl) (by kernel_rfl) (fun _ _ _ h => h) (Or.inl ⟨by rfl, ?hy5⟩) (by assumption) ?rest5
    case hy5 => (intro w0 hSw; (try dsimp only at hSw); go_simp <;> (try (with_reducible rfl)))
    (try simp only [Act.put, List.setIfInBounds_toArray, List.set_cons_zero, List.set_cons_succ])
    refine wpAnyH_done (by kernel_rfl) ?_ _
    replace HT1 : Hid (w5.heap[w.heap.size]? = some (.cells #[.int .i64 ki, .int .i64 ty, .int .i64 lo, .int .i64 n, .int .i64 de, .string tx, .bool co] 37 (0, 0))) := (HB5.out.block _ (blk_lt HT1.out)).trans HT1.out
    replace HB : Hid (Below w.heap.size w w5) := below_trans HB.out HB5.out HB.out.size
    replace HT7 : Hid (w5.heap[w3.heap.size]? = some (.cells #[.slice p3 N c3, .int .i64 0] 27 (0, 0))) := (HB5.out.block _ (blk_lt HT7.out)).trans HT7.out
    replace HT1 : Hid (w6.heap[w.heap.size]? = some (.cells #[.int .i64 ki, .int .i64 ty, .int .i64 lo, .int .i64 n, .int .i64 de, .string tx, .bool co] 37 (0, 0))) := hid (blk_set HT1.out HF6.out (by first | omega | (have := HS7.out; have := HS2.out; omega)))
    replace HB : Hid (Below w.heap.size w w6) := below_fr HB.out HF6.out (by first | omega | (have := HS7.out; have := HS2.out; omega))
    replace HT7 : Hid (w6.heap[w3.heap.size]? = some (.cells #[.slice p5 E c5, .int .i64 E] 27 (0, 0))) := HU6.out
    have HU : Hid (BA w6 (.slice p5 E c5) (l.take E)) := ((HO5.out.frLt HF6.out (by have := HS7.out; have := HD0.out.size; omega)).ba)
    clear HU6 HF6 HO5 HB5 HT75 HT7D HTD HD0
    have x0 : w6.cell? ⟨w3.heap.size, 0, none⟩ = some (.slice p5 E c5) := by rw [cell_of_blk HT7.out]; rfl
    have x1 : w6.cell? ⟨w3.heap.size, 1, none⟩ = some (.int .i64 E) := by rw [cell_of_blk HT7.out]; rfl
    go_wp2_with fail
    refine (HR1.out _ _ HU.out).mono ?_
    rintro e w7 ⟨r7, v7, rfl, hao, ho, hb⟩
    clear x0 x1
    obtain ⟨p7, c7, hsh⟩ := ho.shape
    rw [HLL.out] at hsh
    subst hsh
    obtain ⟨pg, cg, hsh⟩ := hao.shape
    rw [HJ.out] at hsh
    subst hsh
    have HO7 := hid ho.ba
    have HA7 := hid hao
    have HBh7 := hid hb
    clear ho hb hao
    clear HU
    clear HT7
    replace HT1 : Hid (w7.heap[w.heap.size]? = some (.cells #[.int .i64 ki, .int .i64 ty, .int .i64 lo, .int .i64 n, .int .i64 de, .string tx, .bool co] 37 (0, 0))) := (HBh7.out.block _ (blk_lt HT1.out)).trans HT1.out
    replace HB : Hid (Below w.heap.size w w7) := below_trans HB.out HBh7.out HB.out.size
    have HU : Hid (BA w7 (.slice p7 L c7) lu) := HO7.out
    have HG : Hid (AO w7 w6.heap.size (.slice pg j cg) Lg) := HA7.out
    go_upto_region 4 with ((with_reducible show wpList _ _ _ (Oper.mk _ (.store 27 _ _) _ _ _ _ :: _) _ _); refine wp_st (by rfl) 27 _ _ (by rfl) w7.heap.size 0 [.slice none 0 0, .int .i64 0] 27 (.agg #[.slice p7 L c7, .int .i64 L]) [.slice p7 L c7, .int .i64 L] (by rfl) (by rfl) (by rfl) (heap_alloc_new _ _) (by simp) (by kernel_rfl) (by rfl) ?_; intro w8 hq1 hq2; have HU8 := hid hq1; have HF8 := hid hq2; clear hq1 hq2)
    have HBn8 : Hid (Below w7.heap.size w7 w8) := below_fr ((Below.refl _ _).alloc (Nat.le_refl _) _) HF8.out (Nat.le_refl _)
    replace HT1 : Hid (w8.heap[w.heap.size]? = some (.cells #[.int .i64 ki, .int .i64 ty, .int .i64 lo, .int .i64 n, .int .i64 de, .string tx, .bool co] 37 (0, 0))) := (HBn8.out.block _ (blk_lt HT1.out)).trans HT1.out
    replace HB : Hid (Below w.heap.size w w8) := below_trans HB.out HBn8.out HB.out.size
    replace HU : Hid (BA w8 (.slice p7 L c7) lu) := BA.below (B := 0) HU.out HBn8.out
    replace HG : Hid (AO w8 w6.heap.size (.slice pg j cg) Lg) := AO.below HG.out HBn8.out
    have HT11 : Hid (w8.heap[w7.heap.size]? = some (.cells #[.slice p7 L c7, .int .i64 L] 27 (0, 0))) := HU8.out
    clear HU8 HF8
    have x0 : w8.cell? ⟨w.heap.size, 0, none⟩ = some (.int .i64 ki) := by rw [cell_of_blk HT1.out]; rfl
    have x1 : w8.cell? ⟨w.heap.size, 1, none⟩ = some (.int .i64 ty) := by rw [cell_of_blk HT1.out]; rfl
    have x2 : w8.cell? ⟨w.heap.size, 2, none⟩ = some (.int .i64 lo) := by rw [cell_of_blk HT1.out]; rfl
    have x3 : w8.cell? ⟨w.heap.size, 3, none⟩ = some (.int .i64 n) := by rw [cell_of_blk HT1.out]; rfl
    have x4 : w8.cell? ⟨w.heap.size, 4, none⟩ = some (.int .i64 de) := by rw [cell_of_blk HT1.out]; rfl
    have x5 : w8.cell? ⟨w.heap.size, 5, none⟩ = some (.string tx) := by rw [cell_of_blk HT1.out]; rfl
    have x6 : w8.cell? ⟨w.heap.size, 6, none⟩ = some (.bool co) := by rw [cell_of_blk HT1.out]; rfl
    go_wp2_with fail
    refine (HN.out _).mono ?_
    rintro e w9 ⟨u, rfl, hvo, hb⟩
    clear x0 x1 x2 x3 x4 x5 x6
    obtain ⟨pu, nu, cu, hsh⟩ := hvo.shape3
    subst hsh
    have HVO9 := hid hvo
    have HBh9 := hid hb
    clear hvo hb
    clear HT1
    replace HB : Hid (Below w.heap.size w w9) := below_trans HB.out HBh9.out HB.out.size
    replace HU : Hid (BA w9 (.slice p7 L c7) lu) := BA.below (B := 0) HU.out HBh9.out
    replace HG : Hid (AO w9 w6.heap.size (.slice pg j cg) Lg) := AO.below HG.out HBh9.out
    replace HT11 : Hid (w9.heap[w7.heap.size]? = some (.cells #[.slice p7 L c7, .int .i64 L] 27 (0, 0))) := (HBh9.out.block _ (blk_lt HT11.out)).trans HT11.out
    have HVA : Hid (VO w9 w8.heap.size (.slice pu nu cu) ol) := HVO9.out
    go_upto_region 5 with ((with_reducible show wpList _ _ _ (Oper.mk _ (.store 46 _ _) _ _ _ _ :: _) _ _); refine wp_st (by rfl) 46 _ _ (by rfl) w9.heap.size 0 [.int .i64 0, .int .i64 0, .string ⟨#[]⟩, .int .i64 0, .int .i64 0, .slice none 0 0, .int .i64 0, .bool false, .int .i64 0, .string ⟨#[]⟩] 46 (.agg #[.int .i64 ak, .int .i64 ok, .string os, .int .i64 oa, .int .i64 ob, .slice pu nu cu, .int .i64 od, .bool oc, .int .i64 aq, .string ay]) [.int .i64 ak, .int .i64 ok, .string os, .int .i64 oa, .int .i64 ob, .slice pu nu cu, .int .i64 od, .bool oc, .int .i64 aq, .string ay] (by rfl) (by rfl) (by rfl) (heap_alloc_new _ _) (by simp) (by kernel_rfl) (by rfl) ?_; intro wa hq1 hq2; have HUa := hid hq1; have HFa := hid hq2; clear hq1 hq2)
    have HBna : Hid (Below w9.heap.size w9 wa) := below_fr ((Below.refl _ _).alloc (Nat.le_refl _) _) HFa.out (Nat.le_refl _)
    replace HB : Hid (Below w.heap.size w wa) := below_trans HB.out HBna.out HB.out.size
    replace HU : Hid (BA wa (.slice p7 L c7) lu) := BA.below (B := 0) HU.out HBna.out
    replace HG : Hid (AO wa w6.heap.size (.slice pg j cg) Lg) := AO.below HG.out HBna.out
    replace HT11 : Hid (wa.heap[w7.heap.size]? = some (.cells #[.slice p7 L c7, .int .i64 L] 27 (0, 0))) := (HBna.out.block _ (blk_lt HT11.out)).trans HT11.out
    replace HVA : Hid (VO wa w8.heap.size (.slice pu nu cu) ol) := VO.kept HVA.out (fun i _ hi => HBna.out.block i hi)
    have HT13 : Hid (wa.heap[w9.heap.size]? = some (.cells #[.int .i64 ak, .int .i64 ok, .string os, .int .i64 oa, .int .i64 ob, .slice pu nu cu, .int .i64 od, .bool oc, .int .i64 aq, .string ay] 46 (0, 0))) := HUa.out
    clear HUa HFa
    have x0 : wa.cell? ⟨w7.heap.size, 0, none⟩ = some (.slice p7 L c7) := by rw [cell_of_blk HT11.out]; rfl
    have x1 : wa.cell? ⟨w7.heap.size, 1, none⟩ = some (.int .i64 L) := by rw [cell_of_blk HT11.out]; rfl
    have y0 : wa.cell? ⟨w9.heap.size, 0, none⟩ = some (.int .i64 ak) := by rw [cell_of_blk HT13.out]; rfl
    have y1 : wa.cell? ⟨w9.heap.size, 1, none⟩ = some (.int .i64 ok) := by rw [cell_of_blk HT13.out]; rfl
    have y2 : wa.cell? ⟨w9.heap.size, 2, none⟩ = some (.string os) := by rw [cell_of_blk HT13.out]; rfl
    have y3 : wa.cell? ⟨w9.heap.size, 3, none⟩ = some (.int .i64 oa) := by rw [cell_of_blk HT13.out]; rfl
    have y4 : wa.cell? ⟨w9.heap.size, 4, none⟩ = some (.int .i64 ob) := by rw [cell_of_blk HT13.out]; rfl
    have y5 : wa.cell? ⟨w9.heap.size, 5, none⟩ = some (.slice pu nu cu) := by rw [cell_of_blk HT13.out]; rfl
    have y6 : wa.cell? ⟨w9.heap.size, 6, none⟩ = some (.int .i64 od) := by rw [cell_of_blk HT13.out]; rfl
    have y7 : wa.cell? ⟨w9.heap.size, 7, none⟩ = some (.bool oc) := by rw [cell_of_blk HT13.out]; rfl
    have y8 : wa.cell? ⟨w9.heap.size, 8, none⟩ = some (.int .i64 aq) := by rw [cell_of_blk HT13.out]; rfl
    have y9 : wa.cell? ⟨w9.heap.size, 9, none⟩ = some (.string ay) := by rw [cell_of_blk HT13.out]; rfl
    go_wp2_with fail
    refine (HAP.out _ _ _ HU.out HVA.out.va).mono ?_
    rintro e wb ⟨vb, rfl, ho, hb⟩
    clear x0 x1 y0 y1 y2 y3 y4 y5 y6 y7 y8 y9
    obtain ⟨pb, nb, cb, hsh⟩ := ho.shape3
    subst hsh
    have HOb := hid ho.ba
    have HBhb := hid hb
    clear ho hb
    clear HU
    clear HT11
    replace HB : Hid (Below w.heap.size w wb) := below_trans HB.out HBhb.out HB.out.size
    replace HG : Hid (AO wb w6.heap.size (.slice pg j cg) Lg) := AO.below HG.out HBhb.out
    replace HVA : Hid (VO wb w8.heap.size (.slice pu nu cu) ol) := VO.kept HVA.out (fun i _ hi => HBhb.out.block i hi)
    replace HT13 : Hid (wb.heap[w9.heap.size]? = some (.cells #[.int .i64 ak, .int .i64 ok, .string os, .int .i64 oa, .int .i64 ob, .slice pu nu cu, .int .i64 od, .bool oc, .int .i64 aq, .string ay] 46 (0, 0))) := (HBhb.out.block _ (blk_lt HT13.out)).trans HT13.out
    have HU : Hid (BA wb (.slice pb nb cb) lb) := HOb.out
    go_upto_region 6 with ((with_reducible show wpList _ _ _ (Oper.mk _ (.store 27 _ _) _ _ _ _ :: _) _ _); refine wp_st (by rfl) 27 _ _ (by rfl) wb.heap.size 0 [.slice none 0 0, .int .i64 0] 27 (.agg #[.slice pb nb cb, .int .i64 L]) [.slice pb nb cb, .int .i64 L] (by rfl) (by rfl) (by rfl) (heap_alloc_new _ _) (by simp) (by kernel_rfl) (by rfl) ?_; intro wc hq1 hq2; have HUc := hid hq1; have HFc := hid hq2; clear hq1 hq2)
    have HBnc : Hid (Below wb.heap.size wb wc) := below_fr ((Below.refl _ _).alloc (Nat.le_refl _) _) HFc.out (Nat.le_refl _)
    replace HB : Hid (Below w.heap.size w wc) := below_trans HB.out HBnc.out HB.out.size
    replace HG : Hid (AO wc w6.heap.size (.slice pg j cg) Lg) := AO.below HG.out HBnc.out
    replace HVA : Hid (VO wc w8.heap.size (.slice pu nu cu) ol) := VO.kept HVA.out (fun i _ hi => HBnc.out.block i hi)
    replace HT13 : Hid (wc.heap[w9.heap.size]? = some (.cells #[.int .i64 ak, .int .i64 ok, .string os, .int .i64 oa, .int .i64 ob, .slice pu nu cu, .int .i64 od, .bool oc, .int .i64 aq, .string ay] 46 (0, 0))) := (HBnc.out.block _ (blk_lt HT13.out)).trans HT13.out
    replace HU : Hid (BA wc (.slice pb nb cb) lb) := BA.below (B := 0) HU.out HBnc.out
    have HT14 : Hid (wc.heap[wb.heap.size]? = some (.cells #[.slice pb nb cb, .int .i64 L] 27 (0, 0))) := HUc.out
    clear HUc HFc
    have x0 : wc.cell? ⟨wb.heap.size, 0, none⟩ = some (.slice pb nb cb) := by rw [cell_of_blk HT14.out]; rfl
    have x1 : wc.cell? ⟨wb.heap.size, 1, none⟩ = some (.int .i64 L) := by rw [cell_of_blk HT14.out]; rfl
    go_wp2_with fail
    refine (HR2.out _ _ HU.out).mono ?_
    rintro e wd ⟨rd, vd, rfl, hao, ho, hb⟩
    clear x0 x1
    obtain ⟨pd, nd, cd, hsh⟩ := ho.shape3
    subst hsh
    obtain ⟨ph, ch, hsh⟩ := hao.shape
    rw [HBL.out] at hsh
    subst hsh
    have HAd := hid hao
    have HBhd := hid hb
    clear ho hb hao
    clear HU
    clear HT14
    replace HB : Hid (Below w.heap.size w wd) := below_trans HB.out HBhd.out HB.out.size
    replace HG : Hid (AO wd w6.heap.size (.slice pg j cg) Lg) := AO.below HG.out HBhd.out
    replace HVA : Hid (VO wd w8.heap.size (.slice pu nu cu) ol) := VO.kept HVA.out (fun i _ hi => HBhd.out.block i hi)
    replace HT13 : Hid (wd.heap[w9.heap.size]? = some (.cells #[.int .i64 ak, .int .i64 ok, .string os, .int .i64 oa, .int .i64 ob, .slice pu nu cu, .int .i64 od, .bool oc, .int .i64 aq, .string ay] 46 (0, 0))) := (HBhd.out.block _ (blk_lt HT13.out)).trans HT13.out
    have HH : Hid (AO wd wc.heap.size (.slice ph m ch) Lb) := HAd.out
    go_upto_region 7 with ((with_reducible show wpList _ _ _ (Oper.mk _ (.store 27 _ _) _ _ _ _ :: _) _ _); refine wp_st (by rfl) 27 _ _ (by rfl) wd.heap.size 0 [.slice none 0 0, .int .i64 0] 27 (.agg #[.slice pd nd cd, .int .i64 L]) [.slice pd nd cd, .int .i64 L] (by rfl) (by rfl) (by rfl) (heap_alloc_new _ _) (by simp) (by kernel_rfl) (by rfl) ?_; intro we hq1 hq2; have HUe := hid hq1; have HFe := hid hq2; clear hq1 hq2)
    have HBne : Hid (Below wd.heap.size wd we) := below_fr ((Below.refl _ _).alloc (Nat.le_refl _) _) HFe.out (Nat.le_refl _)
    replace HB : Hid (Below w.heap.size w we) := below_trans HB.out HBne.out HB.out.size
    replace HG : Hid (AO we w6.heap.size (.slice pg j cg) Lg) := AO.below HG.out HBne.out
    replace HVA : Hid (VO we w8.heap.size (.slice pu nu cu) ol) := VO.kept HVA.out (fun i _ hi => HBne.out.block i hi)
    replace HT13 : Hid (we.heap[w9.heap.size]? = some (.cells #[.int .i64 ak, .int .i64 ok, .string os, .int .i64 oa, .int .i64 ob, .slice pu nu cu, .int .i64 od, .bool oc, .int .i64 aq, .string ay] 46 (0, 0))) := (HBne.out.block _ (blk_lt HT13.out)).trans HT13.out
    replace HH : Hid (AO we wc.heap.size (.slice ph m ch) Lb) := AO.below HH.out HBne.out
    have HT17 : Hid (we.heap[wd.heap.size]? = some (.cells #[.slice pd nd cd, .int .i64 L] 27 (0, 0))) := HUe.out
    clear HUe HFe
    obtain ⟨g, ch', u2, hsh, hg, hc, hv2⟩ := AO.at HH.out j (by have := HBL.out; omega)
    rw [HBL.out] at hsh
    simp at hsh
    obtain ⟨rfl, rfl⟩ := hsh
    rw [HAT.out (by have := HBL.out; omega)] at hc hv2
    obtain ⟨p2, n2, c2, hsh⟩ := hv2.shape3
    subst hsh
    have HC2 := hid hc
    have HV2 := hid hv2
    have HG2 := hid hg
    have HSD : Hid (w9.heap.size < we.heap.size) := blk_lt HT13.out
    clear hc hv2 hg
    have HD1 : Hid (Below we.heap.size we we.drew) := (Below.refl _ we).drew
    have HKS : Hid (∀ W : World, Below we.heap.size we W → W.cell? ⟨g, j * 10, none⟩ = some (.int .i64 ak) ∧ W.cell? ⟨g, j * 10 + 1, none⟩ = some (.int .i64 ok) ∧ W.cell? ⟨g, j * 10 + 2, none⟩ = some (.string os) ∧ W.cell? ⟨g, j * 10 + 3, none⟩ = some (.int .i64 oa) ∧ W.cell? ⟨g, j * 10 + 4, none⟩ = some (.int .i64 ob) ∧ W.cell? ⟨g, j * 10 + 5, none⟩ = some (.slice p2 n2 c2) ∧ W.cell? ⟨g, j * 10 + 6, none⟩ = some (.int .i64 od) ∧ W.cell? ⟨g, j * 10 + 7, none⟩ = some (.bool oc) ∧ W.cell? ⟨g, j * 10 + 8, none⟩ = some (.int .i64 aq) ∧ W.cell? ⟨g, j * 10 + 9, none⟩ = some (.string ay) ∧ W.cell? ⟨w9.heap.size, 0, none⟩ = some (.int .i64 ak) ∧ W.cell? ⟨w9.heap.size, 1, none⟩ = some (.int .i64 ok) ∧ W.cell? ⟨w9.heap.size, 2, none⟩ = some (.string os) ∧ W.cell? ⟨w9.heap.size, 3, none⟩ = some (.int .i64 oa) ∧ W.cell? ⟨w9.heap.size, 4, none⟩ = some (.int .i64 ob) ∧ W.cell? ⟨w9.heap.size, 5, none⟩ = some (.slice pu nu cu) ∧ W.cell? ⟨w9.heap.size, 6, none⟩ = some (.int .i64 od) ∧ W.cell? ⟨w9.heap.size, 7, none⟩ = some (.bool oc) ∧ W.cell? ⟨w9.heap.size, 8, none⟩ = some (.int .i64 aq) ∧ W.cell? ⟨w9.heap.size, 9, none⟩ = some (.string ay)) := fun W hb => ⟨(hb.cell HG2.out).trans (HC2.out 0 _ rfl), (hb.cell HG2.out).trans (HC2.out 1 _ rfl), (hb.cell HG2.out).trans (HC2.out 2 _ rfl), (hb.cell HG2.out).trans (HC2.out 3 _ rfl), (hb.cell HG2.out).trans (HC2.out 4 _ rfl), (hb.cell HG2.out).trans (HC2.out 5 _ rfl), (hb.cell HG2.out).trans (HC2.out 6 _ rfl), (hb.cell HG2.out).trans (HC2.out 7 _ rfl), (hb.cell HG2.out).trans (HC2.out 8 _ rfl), (hb.cell HG2.out).trans (HC2.out 9 _ rfl), by rw [cell_of_blk ((hb.block _ HSD.out).trans HT13.out)]; rfl, by rw [cell_of_blk ((hb.block _ HSD.out).trans HT13.out)]; rfl, by rw [cell_of_blk ((hb.block _ HSD.out).trans HT13.out)]; rfl, by rw [cell_of_blk ((hb.block _ HSD.out).trans HT13.out)]; rfl, by rw [cell_of_blk ((hb.block _ HSD.out).trans HT13.out)]; rfl, by rw [cell_of_blk ((hb.block _ HSD.out).trans HT13.out)]; rfl, by rw [cell_of_blk ((hb.block _ HSD.out).trans HT13.out)]; rfl, by rw [cell_of_blk ((hb.block _ HSD.out).trans HT13.out)]; rfl, by rw [cell_of_blk ((hb.block _ HSD.out).trans HT13.out)]; rfl, by rw [cell_of_blk ((hb.block _ HSD.out).trans HT13.out)]; rfl⟩
    have i1 : (0 : Int) ≤ (j : Int) := by omega
    have i2 : (j : Int) < (j : Int) + 1 := by omega
    have hwr : IntKind.i64.wrap ((j : Int) + 1) = (j : Int) + 1 := IntWalk.i64_in _ (by omega)
    refine start_n (S := (fun w' => w'.cell? ⟨g, j * 10, none⟩ = some (.int .i64 ak) ∧ w'.cell? ⟨g, j * 10 + 1, none⟩ = some (.int .i64 ok) ∧ w'.cell? ⟨g, j * 10 + 2, none⟩ = some (.string os) ∧ w'.cell? ⟨g, j * 10 + 3, none⟩ = some (.int .i64 oa) ∧ w'.cell? ⟨g, j * 10 + 4, none⟩ = some (.int .i64 ob) ∧ w'.cell? ⟨g, j * 10 + 5, none⟩ = some (.slice p2 n2 c2) ∧ w'.cell? ⟨g, j * 10 + 6, none⟩ = some (.int .i64 od) ∧ w'.cell? ⟨g, j * 10 + 7, none⟩ = some (.bool oc) ∧ w'.cell? ⟨g, j * 10 + 8, none⟩ = some (.int .i64 aq) ∧ w'.cell? ⟨g, j * 10 + 9, none⟩ = some (.string ay) ∧ w'.cell? ⟨w9.heap.size, 0, none⟩ = some (.int .i64 ak) ∧ w'.cell? ⟨w9.heap.size, 1, none⟩ = some (.int .i64 ok) ∧ w'.cell? ⟨w9.heap.size, 2, none⟩ = some (.string os) ∧ w'.cell? ⟨w9.heap.size, 3, none⟩ = some (.int .i64 oa) ∧ w'.cell? ⟨w9.heap.size, 4, none⟩ = some (.int .i64 ob) ∧ w'.cell? ⟨w9.heap.size, 5, none⟩ = some (.slice pu nu cu) ∧ w'.cell? ⟨w9.heap.size, 6, none⟩ = some (.int .i64 od) ∧ w'.cell? ⟨w9.heap.size, 7, none⟩ = some (.bool oc) ∧ w'.cell? ⟨w9.heap.size, 8, none⟩ = some (.int .i64 aq) ∧ w'.cell? ⟨w9.heap.size, 9, none⟩ = some (.string ay))) 40 #[false, false, false, false, false, false, false, false, false, false, false, false, false, false, false, false, false, false, false, false, false, false, false, false, false, false, false, false, false, false, false, false, false, false, false, false, false, false, false, false] rfl rfl (by kernel_rfl) (HKS.out _ HD1.out) (fun hHeld => ?_)
    refine take_mk (i := 0) (v := ?v6) rfl (by kernel_rfl) (by kernel_rfl) (by kernel_rfl) (fun _ _ _ h => h) (Or.inl ⟨by rfl, ?hy6⟩) (by assumption) ?rest6
    case hy6 => (intro w0 hSw; (try dsimp only at hSw); go_simp <;> (try (with_reducible rfl)))
    (try simp only [Act.put, List.setIfInBounds_toArray, List.set_cons_zero, List.set_cons_succ])
    refine take_mk (i := 1) (v := ?v7) rfl (by kernel_rfl) (by kernel_rfl) (by kernel_rfl) (fun _ _ _ h => h) (Or.inl ⟨by rfl, ?hy7⟩) (by assumption) ?rest7
    case hy7 => (intro w0 hSw; (try dsimp only at hSw); go_simp <;> (try (with_reducible rfl)))
    (try simp only [Act.put, List.setIfInBounds_toArray, List.set_cons_zero, List.set_cons_succ])
    refine take_mk (i := 2) (v := ?v8) rfl (by kernel_rfl) (by kernel_rfl) (by kernel_rfl) (fun _ _ _ h => h) (Or.inl ⟨by rfl, ?hy8⟩) (by assumption) ?rest8
    case hy8 => (intro w0 hSw; (try dsimp only at hSw); go_simp <;> (try (with_reducible rfl)))
    (try simp only [Act.put, List.setIfInBounds_toArray, List.set_cons_zero, List.set_cons_succ])
    refine take_mk (i := 3) (v := ?v9) rfl (by kernel_rfl) (by kernel_rfl) (by kernel_rfl) (fun _ _ _ h => h) (Or.inl ⟨by rfl, ?hy9⟩) (by assumption) ?rest9
    case hy9 => (intro w0 hSw; (try dsimp only at hSw); go_simp <;> (try (with_reducible rfl)))
    (try simp only [Act.put, List.setIfInBounds_toArray, List.set_cons_zero, List.set_cons_succ])
    refine take_mk (i := 4) (v := ?v10) rfl (by kernel_rfl) (by kernel_rfl) (by kernel_rfl) (fun _ _ _ h => h) (Or.inl ⟨by rfl, ?hy10⟩) (by assumption) ?rest10
    case hy10 => (intro w0 hSw; (try dsimp only at hSw); go_simp <;> (try (with_reducible rfl)))
    (try simp only [Act.put, List.setIfInBounds_toArray, List.set_cons_zero, List.set_cons_succ])
    refine take_mk (i := 5) (v := ?v11) rfl (by kernel_rfl) (by kernel_rfl) (by kernel_rfl) (fun _ _ _ h => h) (Or.inl ⟨by rfl, ?hy11⟩) (by assumption) ?rest11
    case hy11 => (intro w0 hSw; (try dsimp only at hSw); go_simp <;> (try (with_reducible rfl)))
    (try simp only [Act.put, List.setIfInBounds_toArray, List.set_cons_zero, List.set_cons_succ])
    refine take_mk (i := 6) (v := ?v12) rfl (by kernel_rfl) (by kernel_rfl) (by kernel_rfl) (fun _ _ _ h => h) (Or.inl ⟨by rfl, ?hy12⟩) (by assumption) ?rest12
    case hy12 => (intro w0 hSw; (try dsimp only at hSw); go_simp <;> (try (with_reducible rfl)))
    (try simp only [Act.put, List.setIfInBounds_toArray, List.set_cons_zero, List.set_cons_succ])
    refine take_mk (i := 7) (v := ?v13) rfl (by kernel_rfl) (by kernel_rfl) (by kernel_rfl) (fun _ _ _ h => h) (Or.inl ⟨by rfl, ?hy13⟩) (by assumption) ?rest13
    case hy13 => (intro w0 hSw; (try dsimp only at hSw); go_simp <;> (try (with_reducible rfl)))
    (try simp only [Act.put, List.setIfInBounds_toArray, List.set_cons_zero, List.set_cons_succ])
    refine take_mk (i := 8) (v := ?v14) rfl (by kernel_rfl) (by kernel_rfl) (by kernel_rfl) (fun _ _ _ h => h) (Or.inl ⟨by rfl, ?hy14⟩) (by assumption) ?rest14
    case hy14 => (intro w0 hSw; (try dsimp only at hSw); go_simp <;> (try (with_reducible rfl)))
    (try simp only [Act.put, List.setIfInBounds_toArray, List.set_cons_zero, List.set_cons_succ])
    refine take_mk (i := 9) (v := ?v15) rfl (by kernel_rfl) (by kernel_rfl) (by kernel_rfl) (fun _ _ _ h => h) (Or.inl ⟨by rfl, ?hy15⟩) (by assumption) ?rest15
    case hy15 => (intro w0 hSw; (try dsimp only at hSw); go_simp <;> (try (with_reducible rfl)))
    (try simp only [Act.put, List.setIfInBounds_toArray, List.set_cons_zero, List.set_cons_succ])
    refine take_mk (i := 10) (v := ?v16) rfl (by kernel_rfl) (by kernel_rfl) (by kernel_rfl) (fun _ _ _ h => h) (Or.inl ⟨by rfl, ?hy16⟩) (by assumption) ?rest16
    case hy16 => (intro w0 hSw; (try dsimp only at hSw); go_simp <;> (try (with_reducible rfl)))
    (try simp only [Act.put, List.setIfInBounds_toArray, List.set_cons_zero, List.set_cons_succ])
    refine take_mk (i := 11) (v := ?v17) rfl (by kernel_rfl) (by kernel_rfl) (by kernel_rfl) (fun _ _ _ h => h) (Or.inl ⟨by rfl, ?hy17⟩) (by assumption) ?rest17
    case hy17 => (intro w0 hSw; (try dsimp only at hSw); go_simp <;> (try (with_reducible rfl)))
    (try simp only [Act.put, List.setIfInBounds_toArray, List.set_cons_zero, List.set_cons_succ])
    refine take_mk (i := 12) (v := ?v18) rfl (by kernel_rfl) (by kernel_rfl) (by kernel_rfl) (fun _ _ _ h => h) (Or.inl ⟨by rfl, ?hy18⟩) (by assumption) ?rest18
    case hy18 => (intro w0 hSw; (try dsimp only at hSw); go_simp <;> (try (with_reducible rfl)))
    (try simp only [Act.put, List.setIfInBounds_toArray, List.set_cons_zero, List.set_cons_succ])
    refine take_mk (i := 13) (v := ?v19) rfl (by kernel_rfl) (by kernel_rfl) (by kernel_rfl) (fun _ _ _ h => h) (Or.inl ⟨by rfl, ?hy19⟩) (by assumption) ?rest19
    case hy19 => (intro w0 hSw; (try dsimp only at hSw); go_simp <;> (try (with_reducible rfl)))
    (try simp only [Act.put, List.setIfInBounds_toArray, List.set_cons_zero, List.set_cons_succ])
    refine take_mk (i := 14) (v := ?v20) rfl (by kernel_rfl) (by kernel_rfl) (by kernel_rfl) (fun _ _ _ h => h) (Or.inl ⟨by rfl, ?hy20⟩) (by assumption) ?rest20
    case hy20 => (intro w0 hSw; (try dsimp only at hSw); go_simp <;> (try (with_reducible rfl)))
    (try simp only [Act.put, List.setIfInBounds_toArray, List.set_cons_zero, List.set_cons_succ])
    refine take_mk (i := 15) (v := ?v21) rfl (by kernel_rfl) (by kernel_rfl) (by kernel_rfl) (fun _ _ _ h => h) (Or.inl ⟨by rfl, ?hy21⟩) (by assumption) ?rest21
    case hy21 => (intro w0 hSw; (try dsimp only at hSw); go_simp <;> (try (with_reducible rfl)))
    (try simp only [Act.put, List.setIfInBounds_toArray, List.set_cons_zero, List.set_cons_succ])
    refine take_mk (i := 16) (v := ?v22) rfl (by kernel_rfl) (by kernel_rfl) (by kernel_rfl) (fun _ _ _ h => h) (Or.inl ⟨by rfl, ?hy22⟩) (by assumption) ?rest22
    case hy22 => (intro w0 hSw; (try dsimp only at hSw); go_simp <;> (try (with_reducible rfl)))
    (try simp only [Act.put, List.setIfInBounds_toArray, List.set_cons_zero, List.set_cons_succ])
    refine take_mk (i := 17) (v := ?v23) rfl (by kernel_rfl) (by kernel_rfl) (by kernel_rfl) (fun _ _ _ h => h) (Or.inl ⟨by rfl, ?hy23⟩) (by assumption) ?rest23
    case hy23 => (intro w0 hSw; (try dsimp only at hSw); go_simp <;> (try (with_reducible rfl)))
    (try simp only [Act.put, List.setIfInBounds_toArray, List.set_cons_zero, List.set_cons_succ])
    refine take_mk (i := 18) (v := ?v24) rfl (by kernel_rfl) (by kernel_rfl) (by kernel_rfl) (fun _ _ _ h => h) (Or.inl ⟨by rfl, ?hy24⟩) (by assumption) ?rest24
    case hy24 => (intro w0 hSw; (try dsimp only at hSw); go_simp <;> (try (with_reducible rfl)))
    (try simp only [Act.put, List.setIfInBounds_toArray, List.set_cons_zero, List.set_cons_succ])
    refine take_mk (i := 19) (v := ?v25) rfl (by kernel_rfl) (by kernel_rfl) (by kernel_rfl) (fun _ _ _ h => h) (Or.inl ⟨by rfl, ?hy25⟩) (by assumption) ?rest25
    case hy25 => (intro w0 hSw; (try dsimp only at hSw); go_simp <;> (try (with_reducible rfl)))
    (try simp only [Act.put, List.setIfInBounds_toArray, List.set_cons_zero, List.set_cons_succ])
    refine take_mk (i := 20) (v := ?v26) rfl (by kernel_rfl) (by kernel_rfl) (by kernel_rfl) (fun _ _ _ h => h) (Or.inl ⟨by rfl, ?hy26⟩) (by assumption) ?rest26
    case hy26 => (intro w0 hSw; (try dsimp only at hSw); go_simp <;> (try (with_reducible rfl)))
    (try simp only [Act.put, List.setIfInBounds_toArray, List.set_cons_zero, List.set_cons_succ])
    refine take_mk (i := 21) (v := ?v27) rfl (by kernel_rfl) (by kernel_rfl) (by kernel_rfl) (fun _ _ _ h => h) (Or.inl ⟨by rfl, ?hy27⟩) (by assumption) ?rest27
    case hy27 => (intro w0 hSw; (try dsimp only at hSw); go_simp <;> (try (with_reducible rfl)))
    (try simp only [Act.put, List.setIfInBounds_toArray, List.set_cons_zero, List.set_cons_succ])
    refine take_mk (i := 22) (v := ?v28) rfl (by kernel_rfl) (by kernel_rfl) (by kernel_rfl) (fun _ _ _ h => h) (Or.inl ⟨by rfl, ?hy28⟩) (by assumption) ?rest28
    case hy28 => (intro w0 hSw; (try dsimp only at hSw); go_simp <;> (try (with_reducible rfl)))
    (try simp only [Act.put, List.setIfInBounds_toArray, List.set_cons_zero, List.set_cons_succ])
    refine take_mk (i := 23) (v := ?v29) rfl (by kernel_rfl) (by kernel_rfl) (by kernel_rfl) (fun _ _ _ h => h) (Or.inl ⟨by rfl, ?hy29⟩) (by assumption) ?rest29
    case hy29 => (intro w0 hSw; (try dsimp only at hSw); go_simp <;> (try (with_reducible rfl)))
    (try simp only [Act.put, List.setIfInBounds_toArray, List.set_cons_zero, List.set_cons_succ])
    refine take_mk (i := 24) (v := ?v30) rfl (by kernel_rfl) (by kernel_rfl) (by kernel_rfl) (fun _ _ _ h => h) (Or.inl ⟨by rfl, ?hy30⟩) (by assumption) ?rest30
    case hy30 => (intro w0 hSw; (try dsimp only at hSw); go_simp <;> (try (with_reducible rfl)))
    (try simp only [Act.put, List.setIfInBounds_toArray, List.set_cons_zero, List.set_cons_succ])
    refine take_mk (i := 25) (v := ?v31) rfl (by kernel_rfl) (by kernel_rfl) (by kernel_rfl) (fun _ _ _ h => h) (Or.inl ⟨by rfl, ?hy31⟩) (by assumption) ?rest31
    case hy31 => (intro w0 hSw; (try dsimp only at hSw); go_simp <;> (try (with_reducible rfl)))
    (try simp only [Act.put, List.setIfInBounds_toArray, List.set_cons_zero, List.set_cons_succ])
    refine take_mk (i := 26) (v := ?v32) rfl (by kernel_rfl) (by kernel_rfl) (by kernel_rfl) (fun _ _ _ h => h) (Or.inl ⟨by rfl, ?hy32⟩) (by assumption) ?rest32
    case hy32 => (intro w0 hSw; (try dsimp only at hSw); go_simp <;> (try (with_reducible rfl)))
    (try simp only [Act.put, List.setIfInBounds_toArray, List.set_cons_zero, List.set_cons_succ])
    refine take_mk (i := 27) (v := ?v33) rfl (by kernel_rfl) (by kernel_rfl) (by kernel_rfl) (fun _ _ _ h => h) (Or.inl ⟨by rfl, ?hy33⟩) (by assumption) ?rest33
    case hy33 => (intro w0 hSw; (try dsimp only at hSw); go_simp <;> (try (with_reducible rfl)))
    (try simp only [Act.put, List.setIfInBounds_toArray, List.set_cons_zero, List.set_cons_succ])
    refine wpAnyH_ready (rs := [28]) (by kernel_rfl) (by simp) ?_
    refine cons_mk rfl (fun K hK => ?_) AllReadyH.nil
    refine want_yes (by rfl) ?_
    refine op_cl 13 ent_begins _ _ (by rfl) #[.slice pg j cg, .slice (some ⟨g, 0, none⟩) m ch] (by simp only [List.map_toArray, List.map_cons, List.map_nil]; rfl) _ (HBG.out _ _ _ _ _ (AO.below HG.out HD1.out) (AO.below HH.out HD1.out)) ?_
    rintro e wf ⟨rfl, hb⟩
    refine ⟨_, rfl, ?_⟩
    have HBf : Hid (Below we.heap.size we wf) := below_trans HD1.out hb HD1.out.size
    clear hb
    refine hK.out _ _ (HKS.out _ HBf.out) (fun hHeld => ?_)
    clear hK K
    (try simp only [Act.put, List.setIfInBounds_toArray, List.set_cons_zero, List.set_cons_succ])
    refine take_mk (i := 29) (v := ?v34) rfl (by kernel_rfl) (by kernel_rfl) (by kernel_rfl) (fun _ _ _ h => h) (Or.inl ⟨by rfl, ?hy34⟩) (by assumption) ?rest34
    case hy34 => (intro w0 hSw; (try dsimp only at hSw); go_simp <;> (try (with_reducible rfl)))
    (try simp only [Act.put, List.setIfInBounds_toArray, List.set_cons_zero, List.set_cons_succ])
    refine take_mk (i := 30) (v := ?v35) rfl (by kernel_rfl) (by kernel_rfl) (by kernel_rfl) (fun _ _ _ h => h) (Or.inl ⟨by rfl, ?hy35⟩) (by assumption) ?rest35
    case hy35 => (intro w0 hSw; (try dsimp only at hSw); go_simp <;> (try (with_reducible rfl)))
    (try simp only [Act.put, List.setIfInBounds_toArray, List.set_cons_zero, List.set_cons_succ])
    refine take_mk (i := 31) (v := ?v36) rfl (by kernel_rfl) (by kernel_rfl) (by kernel_rfl) (fun _ _ _ h => h) (Or.inl ⟨by rfl, ?hy36⟩) (by assumption) ?rest36
    case hy36 => (intro w0 hSw; (try dsimp only at hSw); go_simp <;> (try (with_reducible rfl)))
    (try simp only [Act.put, List.setIfInBounds_toArray, List.set_cons_zero, List.set_cons_succ])
    refine take_mk (i := 32) (v := ?v37) rfl (by kernel_rfl) (by kernel_rfl) (by kernel_rfl) (fun _ _ _ h => h) (Or.inl ⟨by rfl, ?hy37⟩) (by assumption) ?rest37
    case hy37 => (intro w0 hSw; (try dsimp only at hSw); go_simp <;> (try (with_reducible rfl)))
    (try simp only [Act.put, List.setIfInBounds_toArray, List.set_cons_zero, List.set_cons_succ])
    refine take_mk (i := 33) (v := ?v38) rfl (by kernel_rfl) (by kernel_rfl) (by kernel_rfl) (fun _ _ _ h => h) (Or.inl ⟨by rfl, ?hy38⟩) (by assumption) ?rest38
    case hy38 => (intro w0 hSw; (try dsimp only at hSw); go_simp <;> (try (with_reducible rfl)))
    (try simp only [Act.put, List.setIfInBounds_toArray, List.set_cons_zero, List.set_cons_succ])
    refine take_mk (i := 34) (v := ?v39) rfl (by kernel_rfl) (by kernel_rfl) (by kernel_rfl) (fun _ _ _ h => h) (Or.inl ⟨by rfl, ?hy39⟩) (by assumption) ?rest39
    case hy39 => (intro w0 hSw; (try dsimp only at hSw); go_simp <;> (try (with_reducible rfl)))
    (try simp only [Act.put, List.setIfInBounds_toArray, List.set_cons_zero, List.set_cons_succ])
    refine take_mk (i := 35) (v := ?v40) rfl (by kernel_rfl) (by kernel_rfl) (by kernel_rfl) (fun _ _ _ h => h) (Or.inl ⟨by rfl, ?hy40⟩) (by assumption) ?rest40
    case hy40 => (intro w0 hSw; (try dsimp only at hSw); go_simp <;> (try (with_reducible rfl)))
    (try simp only [Act.put, List.setIfInBounds_toArray, List.set_cons_zero, List.set_cons_succ])
    refine take_mk (i := 36) (v := ?v41) rfl (by kernel_rfl) (by kernel_rfl) (by kernel_rfl) (fun _ _ _ h => h) (Or.inl ⟨by rfl, ?hy41⟩) (by assumption) ?rest41
    case hy41 => (intro w0 hSw; (try dsimp only at hSw); go_simp <;> (try (with_reducible rfl)))
    (try simp only [Act.put, List.setIfInBounds_toArray, List.set_cons_zero, List.set_cons_succ])
    refine wpAnyH_ready (rs := [37]) (by kernel_rfl) (by simp) ?_
    refine cons_mk rfl (fun K hK => ?_) AllReadyH.nil
    refine want_yes (by rfl) ?_
    refine op_cl 17 ent_same _ _ (by rfl) #[.agg #[.int .i64 ak, .int .i64 ok, .string os, .int .i64 oa, .int .i64 ob, .slice p2 n2 c2, .int .i64 od, .bool oc, .int .i64 aq, .string ay], .agg #[.int .i64 ak, .int .i64 ok, .string os, .int .i64 oa, .int .i64 ob, .slice pu nu cu, .int .i64 od, .bool oc, .int .i64 aq, .string ay]] (by simp only [List.map_toArray, List.map_cons, List.map_nil]; rfl) _ (HSA.out _ _ _ (HV2.out.va.below HBf.out) (HVA.out.va.below HBf.out)) ?_
    rintro e wg ⟨rfl, hb⟩
    refine ⟨_, rfl, ?_⟩
    have HBg : Hid (Below we.heap.size we wg) := below_trans HBf.out hb HBf.out.size
    clear hb
    refine hK.out _ _ (HKS.out _ HBg.out) (fun hHeld => ?_)
    clear hK K
    (try simp only [Act.put, List.setIfInBounds_toArray, List.set_cons_zero, List.set_cons_succ])
    refine take_mk (i := 38) (v := ?v42) rfl (by kernel_rfl) (by kernel_rfl) (by kernel_rfl) (fun _ _ _ h => h) (Or.inl ⟨by rfl, ?hy42⟩) (by assumption) ?rest42
    case hy42 => (intro w0 hSw; (try dsimp only at hSw); go_simp <;> (try (with_reducible rfl)))
    (try simp only [Act.put, List.setIfInBounds_toArray, List.set_cons_zero, List.set_cons_succ])
    refine take_mk (i := 39) (v := ?v43) rfl (by kernel_rfl) (by kernel_rfl) (by kernel_rfl) (fun _ _ _ h => h) (Or.inl ⟨by rfl, ?hy43⟩) (by assumption) ?rest43
    case hy43 => (intro w0 hSw; (try dsimp only at hSw); go_simp <;> (try (with_reducible rfl)))
    (try simp only [Act.put, List.setIfInBounds_toArray, List.set_cons_zero, List.set_cons_succ])
    refine wpAnyH_done (by kernel_rfl) ?_ _
    go_wp2
    go_ret
    exact ⟨ret_bool (by simp), below_trans HB.out HBg.out HB.out.size⟩
  · refine want_mk (by rfl) ?_
    refine op_cl 11 ent_pik2 _ _ (by rfl) #[.int .i64 keep, .int .i64 400] (by simp only [List.map_toArray, List.map_cons, List.map_nil]; rfl) _ (HPK.out _) ?_
    rintro e w5 ⟨rfl, rfl⟩
    refine ⟨_, rfl, ?_⟩
    refine hK.out _ _ trivial (fun hHeld => ?_)
    clear hK K
    (try simp only [Act.put, List.setIfInBounds_toArray, List.set_cons_zero, List.set_cons_succ])
    refine wpAnyH_ready (rs := [0]) (by kernel_rfl) (by simp) ?_
    refine cons_mk rfl (fun K hK => ?_) AllReadyH.nil
    refine want_mk (by rfl) ?_
    refine op_ld 27 _ (by rfl) w3.heap.size 0 (by rfl) [.slice p3 N c3, .int .i64 0] _ (range_blk HT7D.out) Try.underlying27 rfl (by kernel_rfl) ?_
    refine hK.out _ _ trivial (fun hHeld => ?_)
    clear hK K
    (try simp only [Act.put, List.setIfInBounds_toArray, List.set_cons_zero, List.set_cons_succ])
    refine wpAnyH_ready (rs := [3]) (by kernel_rfl) (by simp) ?_
    refine cons_mk rfl (fun K hK => ?_) AllReadyH.nil
    refine want_mk (by rfl) ?_
    refine op_cl 14 ent_crsh _ _ (by rfl) #[.agg #[.slice p3 N c3, .int .i64 0], .int .i64 k] (by simp only [List.map_toArray, List.map_cons, List.map_nil]; rfl) _ (HC.out _ _ HTD.out) ?_
    rintro e w5 ⟨v5, rfl, ho, hb⟩
    refine ⟨_, rfl, ?_⟩
    obtain ⟨p5, c5, hsh⟩ := ho.shape
    rw [HLE.out] at hsh
    subst hsh
    have HO5 := hid ho
    have HB5 : Hid (Below w4.heap.size w4 w5) := below_trans HD0.out hb HD0.out.size
    have HT75 : Hid (w5.heap[w3.heap.size]? = some (.cells #[.slice p3 N c3, .int .i64 0] 27 (0, 0))) := (HB5.out.block _ HS7.out).trans HT7.out
    clear ho hb
    refine hK.out _ _ trivial (fun hHeld => ?_)
    clear hK K
    (try simp only [Act.put, List.setIfInBounds_toArray, List.set_cons_zero, List.set_cons_succ])
    refine take_mk (i := 4) (v := ?vb44) rfl (by kernel_rfl) (by kernel_rfl) (by kernel_rfl) (fun _ _ _ h => h) (Or.inl ⟨by rfl, ?hyb44⟩) (by assumption) ?restb44
    case hyb44 => (intro w0 hSw; (try dsimp only at hSw); go_simp <;> (try (with_reducible rfl)))
    (try simp only [Act.put, List.setIfInBounds_toArray, List.set_cons_zero, List.set_cons_succ])
    refine take_mk (i := 5) (v := ?vb45) rfl (by kernel_rfl) (by kernel_rfl) (by kernel_rfl) (fun _ _ _ h => h) (Or.inl ⟨by rfl, ?hyb45⟩) (by assumption) ?restb45
    case hyb45 => (intro w0 hSw; (try dsimp only at hSw); go_simp <;> (try (with_reducible rfl)))
    (try simp only [Act.put, List.setIfInBounds_toArray, List.set_cons_zero, List.set_cons_succ])
    refine take_mk (i := 6) (v := ?vb46) rfl (by kernel_rfl) (by kernel_rfl) (by kernel_rfl) (fun _ _ _ h => h) (Or.inl ⟨by rfl, ?hyb46⟩) (by assumption) ?restb46
    case hyb46 => (intro w0 hSw; (try dsimp only at hSw); go_simp <;> (try (with_reducible rfl)))
    (try simp only [Act.put, List.setIfInBounds_toArray, List.set_cons_zero, List.set_cons_succ])
    refine wpAnyH_ready (rs := [7]) (by kernel_rfl) (by simp) ?_
    refine cons_mk rfl (fun K hK => ?_) AllReadyH.nil
    refine want_mk (by rfl) ?_
    refine op_st 27 _ _ (by rfl) w3.heap.size 0 [.slice p3 N c3, .int .i64 0] 27 (.agg #[.slice p5 E c5, .int .i64 E]) [.slice p5 E c5, .int .i64 E] (by rfl) (by rfl) (by rfl) HT75.out (by simp) (by kernel_rfl) (by rfl) ?_
    intro w6 hq1 hq2
    have HU6 := hid hq1
    have HF6 := hid hq2
    clear hq1 hq2
    refine hK.out _ _ trivial (fun hHeld => ?_)
    clear hK K
    (try simp only [Act.put, List.setIfInBounds_toArray, List.set_cons_zero, List.set_cons_succ])
    refine take_mk (i := 8) (v := ?vb47) rfl (by kernel_rfl) (by kernel_rfl) (by kernel_rfl) (fun _ _ _ h => h) (Or.inl ⟨by rfl, ?hyb47⟩) (by assumption) ?restb47
    case hyb47 => (intro w0 hSw; (try dsimp only at hSw); go_simp <;> (try (with_reducible rfl)))
    (try simp only [Act.put, List.setIfInBounds_toArray, List.set_cons_zero, List.set_cons_succ])
    refine wpAnyH_done (by kernel_rfl) ?_ _
    replace HT1 : Hid (w5.heap[w.heap.size]? = some (.cells #[.int .i64 ki, .int .i64 ty, .int .i64 lo, .int .i64 n, .int .i64 de, .string tx, .bool co] 37 (0, 0))) := (HB5.out.block _ (blk_lt HT1.out)).trans HT1.out
    replace HB : Hid (Below w.heap.size w w5) := below_trans HB.out HB5.out HB.out.size
    replace HT7 : Hid (w5.heap[w3.heap.size]? = some (.cells #[.slice p3 N c3, .int .i64 0] 27 (0, 0))) := (HB5.out.block _ (blk_lt HT7.out)).trans HT7.out
    replace HT1 : Hid (w6.heap[w.heap.size]? = some (.cells #[.int .i64 ki, .int .i64 ty, .int .i64 lo, .int .i64 n, .int .i64 de, .string tx, .bool co] 37 (0, 0))) := hid (blk_set HT1.out HF6.out (by first | omega | (have := HS7.out; have := HS2.out; omega)))
    replace HB : Hid (Below w.heap.size w w6) := below_fr HB.out HF6.out (by first | omega | (have := HS7.out; have := HS2.out; omega))
    replace HT7 : Hid (w6.heap[w3.heap.size]? = some (.cells #[.slice p5 E c5, .int .i64 E] 27 (0, 0))) := HU6.out
    have HU : Hid (BA w6 (.slice p5 E c5) (l.take E)) := ((HO5.out.frLt HF6.out (by have := HS7.out; have := HD0.out.size; omega)).ba)
    clear HU6 HF6 HO5 HB5 HT75 HT7D HTD HD0
    have x0 : w6.cell? ⟨w3.heap.size, 0, none⟩ = some (.slice p5 E c5) := by rw [cell_of_blk HT7.out]; rfl
    have x1 : w6.cell? ⟨w3.heap.size, 1, none⟩ = some (.int .i64 E) := by rw [cell_of_blk HT7.out]; rfl
    go_wp2_with fail
    refine (HR1.out _ _ HU.out).mono ?_
    rintro e w7 ⟨r7, v7, rfl, hao, ho, hb⟩
    clear x0 x1
    obtain ⟨p7, c7, hsh⟩ := ho.shape
    rw [HLL.out] at hsh
    subst hsh
    obtain ⟨pg, cg, hsh⟩ := hao.shape
    rw [HJ.out] at hsh
    subst hsh
    have HO7 := hid ho.ba
    have HA7 := hid hao
    have HBh7 := hid hb
    clear ho hb hao
    clear HU
    clear HT7
    replace HT1 : Hid (w7.heap[w.heap.size]? = some (.cells #[.int .i64 ki, .int .i64 ty, .int .i64 lo, .int .i64 n, .int .i64 de, .string tx, .bool co] 37 (0, 0))) := (HBh7.out.block _ (blk_lt HT1.out)).trans HT1.out
    replace HB : Hid (Below w.heap.size w w7) := below_trans HB.out HBh7.out HB.out.size
    have HU : Hid (BA w7 (.slice p7 L c7) lu) := HO7.out
    have HG : Hid (AO w7 w6.heap.size (.slice pg j cg) Lg) := HA7.out
    go_upto_region 4 with ((with_reducible show wpList _ _ _ (Oper.mk _ (.store 27 _ _) _ _ _ _ :: _) _ _); refine wp_st (by rfl) 27 _ _ (by rfl) w7.heap.size 0 [.slice none 0 0, .int .i64 0] 27 (.agg #[.slice p7 L c7, .int .i64 L]) [.slice p7 L c7, .int .i64 L] (by rfl) (by rfl) (by rfl) (heap_alloc_new _ _) (by simp) (by kernel_rfl) (by rfl) ?_; intro w8 hq1 hq2; have HU8 := hid hq1; have HF8 := hid hq2; clear hq1 hq2)
    have HBn8 : Hid (Below w7.heap.size w7 w8) := below_fr ((Below.refl _ _).alloc (Nat.le_refl _) _) HF8.out (Nat.le_refl _)
    replace HT1 : Hid (w8.heap[w.heap.size]? = some (.cells #[.int .i64 ki, .int .i64 ty, .int .i64 lo, .int .i64 n, .int .i64 de, .string tx, .bool co] 37 (0, 0))) := (HBn8.out.block _ (blk_lt HT1.out)).trans HT1.out
    replace HB : Hid (Below w.heap.size w w8) := below_trans HB.out HBn8.out HB.out.size
    replace HU : Hid (BA w8 (.slice p7 L c7) lu) := BA.below (B := 0) HU.out HBn8.out
    replace HG : Hid (AO w8 w6.heap.size (.slice pg j cg) Lg) := AO.below HG.out HBn8.out
    have HT11 : Hid (w8.heap[w7.heap.size]? = some (.cells #[.slice p7 L c7, .int .i64 L] 27 (0, 0))) := HU8.out
    clear HU8 HF8
    have x0 : w8.cell? ⟨w.heap.size, 0, none⟩ = some (.int .i64 ki) := by rw [cell_of_blk HT1.out]; rfl
    have x1 : w8.cell? ⟨w.heap.size, 1, none⟩ = some (.int .i64 ty) := by rw [cell_of_blk HT1.out]; rfl
    have x2 : w8.cell? ⟨w.heap.size, 2, none⟩ = some (.int .i64 lo) := by rw [cell_of_blk HT1.out]; rfl
    have x3 : w8.cell? ⟨w.heap.size, 3, none⟩ = some (.int .i64 n) := by rw [cell_of_blk HT1.out]; rfl
    have x4 : w8.cell? ⟨w.heap.size, 4, none⟩ = some (.int .i64 de) := by rw [cell_of_blk HT1.out]; rfl
    have x5 : w8.cell? ⟨w.heap.size, 5, none⟩ = some (.string tx) := by rw [cell_of_blk HT1.out]; rfl
    have x6 : w8.cell? ⟨w.heap.size, 6, none⟩ = some (.bool co) := by rw [cell_of_blk HT1.out]; rfl
    go_wp2_with fail
    refine (HN.out _).mono ?_
    rintro e w9 ⟨u, rfl, hvo, hb⟩
    clear x0 x1 x2 x3 x4 x5 x6
    obtain ⟨pu, nu, cu, hsh⟩ := hvo.shape3
    subst hsh
    have HVO9 := hid hvo
    have HBh9 := hid hb
    clear hvo hb
    clear HT1
    replace HB : Hid (Below w.heap.size w w9) := below_trans HB.out HBh9.out HB.out.size
    replace HU : Hid (BA w9 (.slice p7 L c7) lu) := BA.below (B := 0) HU.out HBh9.out
    replace HG : Hid (AO w9 w6.heap.size (.slice pg j cg) Lg) := AO.below HG.out HBh9.out
    replace HT11 : Hid (w9.heap[w7.heap.size]? = some (.cells #[.slice p7 L c7, .int .i64 L] 27 (0, 0))) := (HBh9.out.block _ (blk_lt HT11.out)).trans HT11.out
    have HVA : Hid (VO w9 w8.heap.size (.slice pu nu cu) ol) := HVO9.out
    go_upto_region 5 with ((with_reducible show wpList _ _ _ (Oper.mk _ (.store 46 _ _) _ _ _ _ :: _) _ _); refine wp_st (by rfl) 46 _ _ (by rfl) w9.heap.size 0 [.int .i64 0, .int .i64 0, .string ⟨#[]⟩, .int .i64 0, .int .i64 0, .slice none 0 0, .int .i64 0, .bool false, .int .i64 0, .string ⟨#[]⟩] 46 (.agg #[.int .i64 ak, .int .i64 ok, .string os, .int .i64 oa, .int .i64 ob, .slice pu nu cu, .int .i64 od, .bool oc, .int .i64 aq, .string ay]) [.int .i64 ak, .int .i64 ok, .string os, .int .i64 oa, .int .i64 ob, .slice pu nu cu, .int .i64 od, .bool oc, .int .i64 aq, .string ay] (by rfl) (by rfl) (by rfl) (heap_alloc_new _ _) (by simp) (by kernel_rfl) (by rfl) ?_; intro wa hq1 hq2; have HUa := hid hq1; have HFa := hid hq2; clear hq1 hq2)
    have HBna : Hid (Below w9.heap.size w9 wa) := below_fr ((Below.refl _ _).alloc (Nat.le_refl _) _) HFa.out (Nat.le_refl _)
    replace HB : Hid (Below w.heap.size w wa) := below_trans HB.out HBna.out HB.out.size
    replace HU : Hid (BA wa (.slice p7 L c7) lu) := BA.below (B := 0) HU.out HBna.out
    replace HG : Hid (AO wa w6.heap.size (.slice pg j cg) Lg) := AO.below HG.out HBna.out
    replace HT11 : Hid (wa.heap[w7.heap.size]? = some (.cells #[.slice p7 L c7, .int .i64 L] 27 (0, 0))) := (HBna.out.block _ (blk_lt HT11.out)).trans HT11.out
    replace HVA : Hid (VO wa w8.heap.size (.slice pu nu cu) ol) := VO.kept HVA.out (fun i _ hi => HBna.out.block i hi)
    have HT13 : Hid (wa.heap[w9.heap.size]? = some (.cells #[.int .i64 ak, .int .i64 ok, .string os, .int .i64 oa, .int .i64 ob, .slice pu nu cu, .int .i64 od, .bool oc, .int .i64 aq, .string ay] 46 (0, 0))) := HUa.out
    clear HUa HFa
    have x0 : wa.cell? ⟨w7.heap.size, 0, none⟩ = some (.slice p7 L c7) := by rw [cell_of_blk HT11.out]; rfl
    have x1 : wa.cell? ⟨w7.heap.size, 1, none⟩ = some (.int .i64 L) := by rw [cell_of_blk HT11.out]; rfl
    have y0 : wa.cell? ⟨w9.heap.size, 0, none⟩ = some (.int .i64 ak) := by rw [cell_of_blk HT13.out]; rfl
    have y1 : wa.cell? ⟨w9.heap.size, 1, none⟩ = some (.int .i64 ok) := by rw [cell_of_blk HT13.out]; rfl
    have y2 : wa.cell? ⟨w9.heap.size, 2, none⟩ = some (.string os) := by rw [cell_of_blk HT13.out]; rfl
    have y3 : wa.cell? ⟨w9.heap.size, 3, none⟩ = some (.int .i64 oa) := by rw [cell_of_blk HT13.out]; rfl
    have y4 : wa.cell? ⟨w9.heap.size, 4, none⟩ = some (.int .i64 ob) := by rw [cell_of_blk HT13.out]; rfl
    have y5 : wa.cell? ⟨w9.heap.size, 5, none⟩ = some (.slice pu nu cu) := by rw [cell_of_blk HT13.out]; rfl
    have y6 : wa.cell? ⟨w9.heap.size, 6, none⟩ = some (.int .i64 od) := by rw [cell_of_blk HT13.out]; rfl
    have y7 : wa.cell? ⟨w9.heap.size, 7, none⟩ = some (.bool oc) := by rw [cell_of_blk HT13.out]; rfl
    have y8 : wa.cell? ⟨w9.heap.size, 8, none⟩ = some (.int .i64 aq) := by rw [cell_of_blk HT13.out]; rfl
    have y9 : wa.cell? ⟨w9.heap.size, 9, none⟩ = some (.string ay) := by rw [cell_of_blk HT13.out]; rfl
    go_wp2_with fail
    refine (HAP.out _ _ _ HU.out HVA.out.va).mono ?_
    rintro e wb ⟨vb, rfl, ho, hb⟩
    clear x0 x1 y0 y1 y2 y3 y4 y5 y6 y7 y8 y9
    obtain ⟨pb, nb, cb, hsh⟩ := ho.shape3
    subst hsh
    have HOb := hid ho.ba
    have HBhb := hid hb
    clear ho hb
    clear HU
    clear HT11
    replace HB : Hid (Below w.heap.size w wb) := below_trans HB.out HBhb.out HB.out.size
    replace HG : Hid (AO wb w6.heap.size (.slice pg j cg) Lg) := AO.below HG.out HBhb.out
    replace HVA : Hid (VO wb w8.heap.size (.slice pu nu cu) ol) := VO.kept HVA.out (fun i _ hi => HBhb.out.block i hi)
    replace HT13 : Hid (wb.heap[w9.heap.size]? = some (.cells #[.int .i64 ak, .int .i64 ok, .string os, .int .i64 oa, .int .i64 ob, .slice pu nu cu, .int .i64 od, .bool oc, .int .i64 aq, .string ay] 46 (0, 0))) := (HBhb.out.block _ (blk_lt HT13.out)).trans HT13.out
    have HU : Hid (BA wb (.slice pb nb cb) lb) := HOb.out
    go_upto_region 6 with ((with_reducible show wpList _ _ _ (Oper.mk _ (.store 27 _ _) _ _ _ _ :: _) _ _); refine wp_st (by rfl) 27 _ _ (by rfl) wb.heap.size 0 [.slice none 0 0, .int .i64 0] 27 (.agg #[.slice pb nb cb, .int .i64 L]) [.slice pb nb cb, .int .i64 L] (by rfl) (by rfl) (by rfl) (heap_alloc_new _ _) (by simp) (by kernel_rfl) (by rfl) ?_; intro wc hq1 hq2; have HUc := hid hq1; have HFc := hid hq2; clear hq1 hq2)
    have HBnc : Hid (Below wb.heap.size wb wc) := below_fr ((Below.refl _ _).alloc (Nat.le_refl _) _) HFc.out (Nat.le_refl _)
    replace HB : Hid (Below w.heap.size w wc) := below_trans HB.out HBnc.out HB.out.size
    replace HG : Hid (AO wc w6.heap.size (.slice pg j cg) Lg) := AO.below HG.out HBnc.out
    replace HVA : Hid (VO wc w8.heap.size (.slice pu nu cu) ol) := VO.kept HVA.out (fun i _ hi => HBnc.out.block i hi)
    replace HT13 : Hid (wc.heap[w9.heap.size]? = some (.cells #[.int .i64 ak, .int .i64 ok, .string os, .int .i64 oa, .int .i64 ob, .slice pu nu cu, .int .i64 od, .bool oc, .int .i64 aq, .string ay] 46 (0, 0))) := (HBnc.out.block _ (blk_lt HT13.out)).trans HT13.out
    replace HU : Hid (BA wc (.slice pb nb cb) lb) := BA.below (B := 0) HU.out HBnc.out
    have HT14 : Hid (wc.heap[wb.heap.size]? = some (.cells #[.slice pb nb cb, .int .i64 L] 27 (0, 0))) := HUc.out
    clear HUc HFc
    have x0 : wc.cell? ⟨wb.heap.size, 0, none⟩ = some (.slice pb nb cb) := by rw [cell_of_blk HT14.out]; rfl
    have x1 : wc.cell? ⟨wb.heap.size, 1, none⟩ = some (.int .i64 L) := by rw [cell_of_blk HT14.out]; rfl
    go_wp2_with fail
    refine (HR2.out _ _ HU.out).mono ?_
    rintro e wd ⟨rd, vd, rfl, hao, ho, hb⟩
    clear x0 x1
    obtain ⟨pd, nd, cd, hsh⟩ := ho.shape3
    subst hsh
    obtain ⟨ph, ch, hsh⟩ := hao.shape
    rw [HBL.out] at hsh
    subst hsh
    have HAd := hid hao
    have HBhd := hid hb
    clear ho hb hao
    clear HU
    clear HT14
    replace HB : Hid (Below w.heap.size w wd) := below_trans HB.out HBhd.out HB.out.size
    replace HG : Hid (AO wd w6.heap.size (.slice pg j cg) Lg) := AO.below HG.out HBhd.out
    replace HVA : Hid (VO wd w8.heap.size (.slice pu nu cu) ol) := VO.kept HVA.out (fun i _ hi => HBhd.out.block i hi)
    replace HT13 : Hid (wd.heap[w9.heap.size]? = some (.cells #[.int .i64 ak, .int .i64 ok, .string os, .int .i64 oa, .int .i64 ob, .slice pu nu cu, .int .i64 od, .bool oc, .int .i64 aq, .string ay] 46 (0, 0))) := (HBhd.out.block _ (blk_lt HT13.out)).trans HT13.out
    have HH : Hid (AO wd wc.heap.size (.slice ph m ch) Lb) := HAd.out
    go_upto_region 7 with ((with_reducible show wpList _ _ _ (Oper.mk _ (.store 27 _ _) _ _ _ _ :: _) _ _); refine wp_st (by rfl) 27 _ _ (by rfl) wd.heap.size 0 [.slice none 0 0, .int .i64 0] 27 (.agg #[.slice pd nd cd, .int .i64 L]) [.slice pd nd cd, .int .i64 L] (by rfl) (by rfl) (by rfl) (heap_alloc_new _ _) (by simp) (by kernel_rfl) (by rfl) ?_; intro we hq1 hq2; have HUe := hid hq1; have HFe := hid hq2; clear hq1 hq2)
    have HBne : Hid (Below wd.heap.size wd we) := below_fr ((Below.refl _ _).alloc (Nat.le_refl _) _) HFe.out (Nat.le_refl _)
    replace HB : Hid (Below w.heap.size w we) := below_trans HB.out HBne.out HB.out.size
    replace HG : Hid (AO we w6.heap.size (.slice pg j cg) Lg) := AO.below HG.out HBne.out
    replace HVA : Hid (VO we w8.heap.size (.slice pu nu cu) ol) := VO.kept HVA.out (fun i _ hi => HBne.out.block i hi)
    replace HT13 : Hid (we.heap[w9.heap.size]? = some (.cells #[.int .i64 ak, .int .i64 ok, .string os, .int .i64 oa, .int .i64 ob, .slice pu nu cu, .int .i64 od, .bool oc, .int .i64 aq, .string ay] 46 (0, 0))) := (HBne.out.block _ (blk_lt HT13.out)).trans HT13.out
    replace HH : Hid (AO we wc.heap.size (.slice ph m ch) Lb) := AO.below HH.out HBne.out
    have HT17 : Hid (we.heap[wd.heap.size]? = some (.cells #[.slice pd nd cd, .int .i64 L] 27 (0, 0))) := HUe.out
    clear HUe HFe
    obtain ⟨g, ch', u2, hsh, hg, hc, hv2⟩ := AO.at HH.out j (by have := HBL.out; omega)
    rw [HBL.out] at hsh
    simp at hsh
    obtain ⟨rfl, rfl⟩ := hsh
    rw [HAT.out (by have := HBL.out; omega)] at hc hv2
    obtain ⟨p2, n2, c2, hsh⟩ := hv2.shape3
    subst hsh
    have HC2 := hid hc
    have HV2 := hid hv2
    have HG2 := hid hg
    have HSD : Hid (w9.heap.size < we.heap.size) := blk_lt HT13.out
    clear hc hv2 hg
    have HD1 : Hid (Below we.heap.size we we.drew) := (Below.refl _ we).drew
    have HKS : Hid (∀ W : World, Below we.heap.size we W → W.cell? ⟨g, j * 10, none⟩ = some (.int .i64 ak) ∧ W.cell? ⟨g, j * 10 + 1, none⟩ = some (.int .i64 ok) ∧ W.cell? ⟨g, j * 10 + 2, none⟩ = some (.string os) ∧ W.cell? ⟨g, j * 10 + 3, none⟩ = some (.int .i64 oa) ∧ W.cell? ⟨g, j * 10 + 4, none⟩ = some (.int .i64 ob) ∧ W.cell? ⟨g, j * 10 + 5, none⟩ = some (.slice p2 n2 c2) ∧ W.cell? ⟨g, j * 10 + 6, none⟩ = some (.int .i64 od) ∧ W.cell? ⟨g, j * 10 + 7, none⟩ = some (.bool oc) ∧ W.cell? ⟨g, j * 10 + 8, none⟩ = some (.int .i64 aq) ∧ W.cell? ⟨g, j * 10 + 9, none⟩ = some (.string ay) ∧ W.cell? ⟨w9.heap.size, 0, none⟩ = some (.int .i64 ak) ∧ W.cell? ⟨w9.heap.size, 1, none⟩ = some (.int .i64 ok) ∧ W.cell? ⟨w9.heap.size, 2, none⟩ = some (.string os) ∧ W.cell? ⟨w9.heap.size, 3, none⟩ = some (.int .i64 oa) ∧ W.cell? ⟨w9.heap.size, 4, none⟩ = some (.int .i64 ob) ∧ W.cell? ⟨w9.heap.size, 5, none⟩ = some (.slice pu nu cu) ∧ W.cell? ⟨w9.heap.size, 6, none⟩ = some (.int .i64 od) ∧ W.cell? ⟨w9.heap.size, 7, none⟩ = some (.bool oc) ∧ W.cell? ⟨w9.heap.size, 8, none⟩ = some (.int .i64 aq) ∧ W.cell? ⟨w9.heap.size, 9, none⟩ = some (.string ay)) := fun W hb => ⟨(hb.cell HG2.out).trans (HC2.out 0 _ rfl), (hb.cell HG2.out).trans (HC2.out 1 _ rfl), (hb.cell HG2.out).trans (HC2.out 2 _ rfl), (hb.cell HG2.out).trans (HC2.out 3 _ rfl), (hb.cell HG2.out).trans (HC2.out 4 _ rfl), (hb.cell HG2.out).trans (HC2.out 5 _ rfl), (hb.cell HG2.out).trans (HC2.out 6 _ rfl), (hb.cell HG2.out).trans (HC2.out 7 _ rfl), (hb.cell HG2.out).trans (HC2.out 8 _ rfl), (hb.cell HG2.out).trans (HC2.out 9 _ rfl), by rw [cell_of_blk ((hb.block _ HSD.out).trans HT13.out)]; rfl, by rw [cell_of_blk ((hb.block _ HSD.out).trans HT13.out)]; rfl, by rw [cell_of_blk ((hb.block _ HSD.out).trans HT13.out)]; rfl, by rw [cell_of_blk ((hb.block _ HSD.out).trans HT13.out)]; rfl, by rw [cell_of_blk ((hb.block _ HSD.out).trans HT13.out)]; rfl, by rw [cell_of_blk ((hb.block _ HSD.out).trans HT13.out)]; rfl, by rw [cell_of_blk ((hb.block _ HSD.out).trans HT13.out)]; rfl, by rw [cell_of_blk ((hb.block _ HSD.out).trans HT13.out)]; rfl, by rw [cell_of_blk ((hb.block _ HSD.out).trans HT13.out)]; rfl, by rw [cell_of_blk ((hb.block _ HSD.out).trans HT13.out)]; rfl⟩
    have i1 : (0 : Int) ≤ (j : Int) := by omega
    have i2 : (j : Int) < (j : Int) + 1 := by omega
    have hwr : IntKind.i64.wrap ((j : Int) + 1) = (j : Int) + 1 := IntWalk.i64_in _ (by omega)
    refine start_n (S := (fun w' => w'.cell? ⟨g, j * 10, none⟩ = some (.int .i64 ak) ∧ w'.cell? ⟨g, j * 10 + 1, none⟩ = some (.int .i64 ok) ∧ w'.cell? ⟨g, j * 10 + 2, none⟩ = some (.string os) ∧ w'.cell? ⟨g, j * 10 + 3, none⟩ = some (.int .i64 oa) ∧ w'.cell? ⟨g, j * 10 + 4, none⟩ = some (.int .i64 ob) ∧ w'.cell? ⟨g, j * 10 + 5, none⟩ = some (.slice p2 n2 c2) ∧ w'.cell? ⟨g, j * 10 + 6, none⟩ = some (.int .i64 od) ∧ w'.cell? ⟨g, j * 10 + 7, none⟩ = some (.bool oc) ∧ w'.cell? ⟨g, j * 10 + 8, none⟩ = some (.int .i64 aq) ∧ w'.cell? ⟨g, j * 10 + 9, none⟩ = some (.string ay) ∧ w'.cell? ⟨w9.heap.size, 0, none⟩ = some (.int .i64 ak) ∧ w'.cell? ⟨w9.heap.size, 1, none⟩ = some (.int .i64 ok) ∧ w'.cell? ⟨w9.heap.size, 2, none⟩ = some (.string os) ∧ w'.cell? ⟨w9.heap.size, 3, none⟩ = some (.int .i64 oa) ∧ w'.cell? ⟨w9.heap.size, 4, none⟩ = some (.int .i64 ob) ∧ w'.cell? ⟨w9.heap.size, 5, none⟩ = some (.slice pu nu cu) ∧ w'.cell? ⟨w9.heap.size, 6, none⟩ = some (.int .i64 od) ∧ w'.cell? ⟨w9.heap.size, 7, none⟩ = some (.bool oc) ∧ w'.cell? ⟨w9.heap.size, 8, none⟩ = some (.int .i64 aq) ∧ w'.cell? ⟨w9.heap.size, 9, none⟩ = some (.string ay))) 40 #[false, false, false, false, false, false, false, false, false, false, false, false, false, false, false, false, false, false, false, false, false, false, false, false, false, false, false, false, false, false, false, false, false, false, false, false, false, false, false, false] rfl rfl (by kernel_rfl) (HKS.out _ HD1.out) (fun hHeld => ?_)
    refine take_mk (i := 0) (v := ?vb48) rfl (by kernel_rfl) (by kernel_rfl) (by kernel_rfl) (fun _ _ _ h => h) (Or.inl ⟨by rfl, ?hyb48⟩) (by assumption) ?restb48
    case hyb48 => (intro w0 hSw; (try dsimp only at hSw); go_simp <;> (try (with_reducible rfl)))
    (try simp only [Act.put, List.setIfInBounds_toArray, List.set_cons_zero, List.set_cons_succ])
    refine take_mk (i := 1) (v := ?vb49) rfl (by kernel_rfl) (by kernel_rfl) (by kernel_rfl) (fun _ _ _ h => h) (Or.inl ⟨by rfl, ?hyb49⟩) (by assumption) ?restb49
    case hyb49 => (intro w0 hSw; (try dsimp only at hSw); go_simp <;> (try (with_reducible rfl)))
    (try simp only [Act.put, List.setIfInBounds_toArray, List.set_cons_zero, List.set_cons_succ])
    refine take_mk (i := 2) (v := ?vb50) rfl (by kernel_rfl) (by kernel_rfl) (by kernel_rfl) (fun _ _ _ h => h) (Or.inl ⟨by rfl, ?hyb50⟩) (by assumption) ?restb50
    case hyb50 => (intro w0 hSw; (try dsimp only at hSw); go_simp <;> (try (with_reducible rfl)))
    (try simp only [Act.put, List.setIfInBounds_toArray, List.set_cons_zero, List.set_cons_succ])
    refine take_mk (i := 3) (v := ?vb51) rfl (by kernel_rfl) (by kernel_rfl) (by kernel_rfl) (fun _ _ _ h => h) (Or.inl ⟨by rfl, ?hyb51⟩) (by assumption) ?restb51
    case hyb51 => (intro w0 hSw; (try dsimp only at hSw); go_simp <;> (try (with_reducible rfl)))
    (try simp only [Act.put, List.setIfInBounds_toArray, List.set_cons_zero, List.set_cons_succ])
    refine take_mk (i := 4) (v := ?vb52) rfl (by kernel_rfl) (by kernel_rfl) (by kernel_rfl) (fun _ _ _ h => h) (Or.inl ⟨by rfl, ?hyb52⟩) (by assumption) ?restb52
    case hyb52 => (intro w0 hSw; (try dsimp only at hSw); go_simp <;> (try (with_reducible rfl)))
    (try simp only [Act.put, List.setIfInBounds_toArray, List.set_cons_zero, List.set_cons_succ])
    refine take_mk (i := 5) (v := ?vb53) rfl (by kernel_rfl) (by kernel_rfl) (by kernel_rfl) (fun _ _ _ h => h) (Or.inl ⟨by rfl, ?hyb53⟩) (by assumption) ?restb53
    case hyb53 => (intro w0 hSw; (try dsimp only at hSw); go_simp <;> (try (with_reducible rfl)))
    (try simp only [Act.put, List.setIfInBounds_toArray, List.set_cons_zero, List.set_cons_succ])
    refine take_mk (i := 6) (v := ?vb54) rfl (by kernel_rfl) (by kernel_rfl) (by kernel_rfl) (fun _ _ _ h => h) (Or.inl ⟨by rfl, ?hyb54⟩) (by assumption) ?restb54
    case hyb54 => (intro w0 hSw; (try dsimp only at hSw); go_simp <;> (try (with_reducible rfl)))
    (try simp only [Act.put, List.setIfInBounds_toArray, List.set_cons_zero, List.set_cons_succ])
    refine take_mk (i := 7) (v := ?vb55) rfl (by kernel_rfl) (by kernel_rfl) (by kernel_rfl) (fun _ _ _ h => h) (Or.inl ⟨by rfl, ?hyb55⟩) (by assumption) ?restb55
    case hyb55 => (intro w0 hSw; (try dsimp only at hSw); go_simp <;> (try (with_reducible rfl)))
    (try simp only [Act.put, List.setIfInBounds_toArray, List.set_cons_zero, List.set_cons_succ])
    refine take_mk (i := 8) (v := ?vb56) rfl (by kernel_rfl) (by kernel_rfl) (by kernel_rfl) (fun _ _ _ h => h) (Or.inl ⟨by rfl, ?hyb56⟩) (by assumption) ?restb56
    case hyb56 => (intro w0 hSw; (try dsimp only at hSw); go_simp <;> (try (with_reducible rfl)))
    (try simp only [Act.put, List.setIfInBounds_toArray, List.set_cons_zero, List.set_cons_succ])
    refine take_mk (i := 9) (v := ?vb57) rfl (by kernel_rfl) (by kernel_rfl) (by kernel_rfl) (fun _ _ _ h => h) (Or.inl ⟨by rfl, ?hyb57⟩) (by assumption) ?restb57
    case hyb57 => (intro w0 hSw; (try dsimp only at hSw); go_simp <;> (try (with_reducible rfl)))
    (try simp only [Act.put, List.setIfInBounds_toArray, List.set_cons_zero, List.set_cons_succ])
    refine take_mk (i := 10) (v := ?vb58) rfl (by kernel_rfl) (by kernel_rfl) (by kernel_rfl) (fun _ _ _ h => h) (Or.inl ⟨by rfl, ?hyb58⟩) (by assumption) ?restb58
    case hyb58 => (intro w0 hSw; (try dsimp only at hSw); go_simp <;> (try (with_reducible rfl)))
    (try simp only [Act.put, List.setIfInBounds_toArray, List.set_cons_zero, List.set_cons_succ])
    refine take_mk (i := 11) (v := ?vb59) rfl (by kernel_rfl) (by kernel_rfl) (by kernel_rfl) (fun _ _ _ h => h) (Or.inl ⟨by rfl, ?hyb59⟩) (by assumption) ?restb59
    case hyb59 => (intro w0 hSw; (try dsimp only at hSw); go_simp <;> (try (with_reducible rfl)))
    (try simp only [Act.put, List.setIfInBounds_toArray, List.set_cons_zero, List.set_cons_succ])
    refine take_mk (i := 12) (v := ?vb60) rfl (by kernel_rfl) (by kernel_rfl) (by kernel_rfl) (fun _ _ _ h => h) (Or.inl ⟨by rfl, ?hyb60⟩) (by assumption) ?restb60
    case hyb60 => (intro w0 hSw; (try dsimp only at hSw); go_simp <;> (try (with_reducible rfl)))
    (try simp only [Act.put, List.setIfInBounds_toArray, List.set_cons_zero, List.set_cons_succ])
    refine take_mk (i := 13) (v := ?vb61) rfl (by kernel_rfl) (by kernel_rfl) (by kernel_rfl) (fun _ _ _ h => h) (Or.inl ⟨by rfl, ?hyb61⟩) (by assumption) ?restb61
    case hyb61 => (intro w0 hSw; (try dsimp only at hSw); go_simp <;> (try (with_reducible rfl)))
    (try simp only [Act.put, List.setIfInBounds_toArray, List.set_cons_zero, List.set_cons_succ])
    refine take_mk (i := 14) (v := ?vb62) rfl (by kernel_rfl) (by kernel_rfl) (by kernel_rfl) (fun _ _ _ h => h) (Or.inl ⟨by rfl, ?hyb62⟩) (by assumption) ?restb62
    case hyb62 => (intro w0 hSw; (try dsimp only at hSw); go_simp <;> (try (with_reducible rfl)))
    (try simp only [Act.put, List.setIfInBounds_toArray, List.set_cons_zero, List.set_cons_succ])
    refine take_mk (i := 15) (v := ?vb63) rfl (by kernel_rfl) (by kernel_rfl) (by kernel_rfl) (fun _ _ _ h => h) (Or.inl ⟨by rfl, ?hyb63⟩) (by assumption) ?restb63
    case hyb63 => (intro w0 hSw; (try dsimp only at hSw); go_simp <;> (try (with_reducible rfl)))
    (try simp only [Act.put, List.setIfInBounds_toArray, List.set_cons_zero, List.set_cons_succ])
    refine take_mk (i := 16) (v := ?vb64) rfl (by kernel_rfl) (by kernel_rfl) (by kernel_rfl) (fun _ _ _ h => h) (Or.inl ⟨by rfl, ?hyb64⟩) (by assumption) ?restb64
    case hyb64 => (intro w0 hSw; (try dsimp only at hSw); go_simp <;> (try (with_reducible rfl)))
    (try simp only [Act.put, List.setIfInBounds_toArray, List.set_cons_zero, List.set_cons_succ])
    refine take_mk (i := 17) (v := ?vb65) rfl (by kernel_rfl) (by kernel_rfl) (by kernel_rfl) (fun _ _ _ h => h) (Or.inl ⟨by rfl, ?hyb65⟩) (by assumption) ?restb65
    case hyb65 => (intro w0 hSw; (try dsimp only at hSw); go_simp <;> (try (with_reducible rfl)))
    (try simp only [Act.put, List.setIfInBounds_toArray, List.set_cons_zero, List.set_cons_succ])
    refine take_mk (i := 18) (v := ?vb66) rfl (by kernel_rfl) (by kernel_rfl) (by kernel_rfl) (fun _ _ _ h => h) (Or.inl ⟨by rfl, ?hyb66⟩) (by assumption) ?restb66
    case hyb66 => (intro w0 hSw; (try dsimp only at hSw); go_simp <;> (try (with_reducible rfl)))
    (try simp only [Act.put, List.setIfInBounds_toArray, List.set_cons_zero, List.set_cons_succ])
    refine take_mk (i := 19) (v := ?vb67) rfl (by kernel_rfl) (by kernel_rfl) (by kernel_rfl) (fun _ _ _ h => h) (Or.inl ⟨by rfl, ?hyb67⟩) (by assumption) ?restb67
    case hyb67 => (intro w0 hSw; (try dsimp only at hSw); go_simp <;> (try (with_reducible rfl)))
    (try simp only [Act.put, List.setIfInBounds_toArray, List.set_cons_zero, List.set_cons_succ])
    refine take_mk (i := 20) (v := ?vb68) rfl (by kernel_rfl) (by kernel_rfl) (by kernel_rfl) (fun _ _ _ h => h) (Or.inl ⟨by rfl, ?hyb68⟩) (by assumption) ?restb68
    case hyb68 => (intro w0 hSw; (try dsimp only at hSw); go_simp <;> (try (with_reducible rfl)))
    (try simp only [Act.put, List.setIfInBounds_toArray, List.set_cons_zero, List.set_cons_succ])
    refine take_mk (i := 21) (v := ?vb69) rfl (by kernel_rfl) (by kernel_rfl) (by kernel_rfl) (fun _ _ _ h => h) (Or.inl ⟨by rfl, ?hyb69⟩) (by assumption) ?restb69
    case hyb69 => (intro w0 hSw; (try dsimp only at hSw); go_simp <;> (try (with_reducible rfl)))
    (try simp only [Act.put, List.setIfInBounds_toArray, List.set_cons_zero, List.set_cons_succ])
    refine take_mk (i := 22) (v := ?vb70) rfl (by kernel_rfl) (by kernel_rfl) (by kernel_rfl) (fun _ _ _ h => h) (Or.inl ⟨by rfl, ?hyb70⟩) (by assumption) ?restb70
    case hyb70 => (intro w0 hSw; (try dsimp only at hSw); go_simp <;> (try (with_reducible rfl)))
    (try simp only [Act.put, List.setIfInBounds_toArray, List.set_cons_zero, List.set_cons_succ])
    refine take_mk (i := 23) (v := ?vb71) rfl (by kernel_rfl) (by kernel_rfl) (by kernel_rfl) (fun _ _ _ h => h) (Or.inl ⟨by rfl, ?hyb71⟩) (by assumption) ?restb71
    case hyb71 => (intro w0 hSw; (try dsimp only at hSw); go_simp <;> (try (with_reducible rfl)))
    (try simp only [Act.put, List.setIfInBounds_toArray, List.set_cons_zero, List.set_cons_succ])
    refine take_mk (i := 24) (v := ?vb72) rfl (by kernel_rfl) (by kernel_rfl) (by kernel_rfl) (fun _ _ _ h => h) (Or.inl ⟨by rfl, ?hyb72⟩) (by assumption) ?restb72
    case hyb72 => (intro w0 hSw; (try dsimp only at hSw); go_simp <;> (try (with_reducible rfl)))
    (try simp only [Act.put, List.setIfInBounds_toArray, List.set_cons_zero, List.set_cons_succ])
    refine take_mk (i := 25) (v := ?vb73) rfl (by kernel_rfl) (by kernel_rfl) (by kernel_rfl) (fun _ _ _ h => h) (Or.inl ⟨by rfl, ?hyb73⟩) (by assumption) ?restb73
    case hyb73 => (intro w0 hSw; (try dsimp only at hSw); go_simp <;> (try (with_reducible rfl)))
    (try simp only [Act.put, List.setIfInBounds_toArray, List.set_cons_zero, List.set_cons_succ])
    refine take_mk (i := 26) (v := ?vb74) rfl (by kernel_rfl) (by kernel_rfl) (by kernel_rfl) (fun _ _ _ h => h) (Or.inl ⟨by rfl, ?hyb74⟩) (by assumption) ?restb74
    case hyb74 => (intro w0 hSw; (try dsimp only at hSw); go_simp <;> (try (with_reducible rfl)))
    (try simp only [Act.put, List.setIfInBounds_toArray, List.set_cons_zero, List.set_cons_succ])
    refine take_mk (i := 27) (v := ?vb75) rfl (by kernel_rfl) (by kernel_rfl) (by kernel_rfl) (fun _ _ _ h => h) (Or.inl ⟨by rfl, ?hyb75⟩) (by assumption) ?restb75
    case hyb75 => (intro w0 hSw; (try dsimp only at hSw); go_simp <;> (try (with_reducible rfl)))
    (try simp only [Act.put, List.setIfInBounds_toArray, List.set_cons_zero, List.set_cons_succ])
    refine wpAnyH_ready (rs := [28]) (by kernel_rfl) (by simp) ?_
    refine cons_mk rfl (fun K hK => ?_) AllReadyH.nil
    refine want_yes (by rfl) ?_
    refine op_cl 13 ent_begins _ _ (by rfl) #[.slice pg j cg, .slice (some ⟨g, 0, none⟩) m ch] (by simp only [List.map_toArray, List.map_cons, List.map_nil]; rfl) _ (HBG.out _ _ _ _ _ (AO.below HG.out HD1.out) (AO.below HH.out HD1.out)) ?_
    rintro e wf ⟨rfl, hb⟩
    refine ⟨_, rfl, ?_⟩
    have HBf : Hid (Below we.heap.size we wf) := below_trans HD1.out hb HD1.out.size
    clear hb
    refine hK.out _ _ (HKS.out _ HBf.out) (fun hHeld => ?_)
    clear hK K
    (try simp only [Act.put, List.setIfInBounds_toArray, List.set_cons_zero, List.set_cons_succ])
    refine take_mk (i := 29) (v := ?vb76) rfl (by kernel_rfl) (by kernel_rfl) (by kernel_rfl) (fun _ _ _ h => h) (Or.inl ⟨by rfl, ?hyb76⟩) (by assumption) ?restb76
    case hyb76 => (intro w0 hSw; (try dsimp only at hSw); go_simp <;> (try (with_reducible rfl)))
    (try simp only [Act.put, List.setIfInBounds_toArray, List.set_cons_zero, List.set_cons_succ])
    refine take_mk (i := 30) (v := ?vb77) rfl (by kernel_rfl) (by kernel_rfl) (by kernel_rfl) (fun _ _ _ h => h) (Or.inl ⟨by rfl, ?hyb77⟩) (by assumption) ?restb77
    case hyb77 => (intro w0 hSw; (try dsimp only at hSw); go_simp <;> (try (with_reducible rfl)))
    (try simp only [Act.put, List.setIfInBounds_toArray, List.set_cons_zero, List.set_cons_succ])
    refine take_mk (i := 31) (v := ?vb78) rfl (by kernel_rfl) (by kernel_rfl) (by kernel_rfl) (fun _ _ _ h => h) (Or.inl ⟨by rfl, ?hyb78⟩) (by assumption) ?restb78
    case hyb78 => (intro w0 hSw; (try dsimp only at hSw); go_simp <;> (try (with_reducible rfl)))
    (try simp only [Act.put, List.setIfInBounds_toArray, List.set_cons_zero, List.set_cons_succ])
    refine take_mk (i := 32) (v := ?vb79) rfl (by kernel_rfl) (by kernel_rfl) (by kernel_rfl) (fun _ _ _ h => h) (Or.inl ⟨by rfl, ?hyb79⟩) (by assumption) ?restb79
    case hyb79 => (intro w0 hSw; (try dsimp only at hSw); go_simp <;> (try (with_reducible rfl)))
    (try simp only [Act.put, List.setIfInBounds_toArray, List.set_cons_zero, List.set_cons_succ])
    refine take_mk (i := 33) (v := ?vb80) rfl (by kernel_rfl) (by kernel_rfl) (by kernel_rfl) (fun _ _ _ h => h) (Or.inl ⟨by rfl, ?hyb80⟩) (by assumption) ?restb80
    case hyb80 => (intro w0 hSw; (try dsimp only at hSw); go_simp <;> (try (with_reducible rfl)))
    (try simp only [Act.put, List.setIfInBounds_toArray, List.set_cons_zero, List.set_cons_succ])
    refine take_mk (i := 34) (v := ?vb81) rfl (by kernel_rfl) (by kernel_rfl) (by kernel_rfl) (fun _ _ _ h => h) (Or.inl ⟨by rfl, ?hyb81⟩) (by assumption) ?restb81
    case hyb81 => (intro w0 hSw; (try dsimp only at hSw); go_simp <;> (try (with_reducible rfl)))
    (try simp only [Act.put, List.setIfInBounds_toArray, List.set_cons_zero, List.set_cons_succ])
    refine take_mk (i := 35) (v := ?vb82) rfl (by kernel_rfl) (by kernel_rfl) (by kernel_rfl) (fun _ _ _ h => h) (Or.inl ⟨by rfl, ?hyb82⟩) (by assumption) ?restb82
    case hyb82 => (intro w0 hSw; (try dsimp only at hSw); go_simp <;> (try (with_reducible rfl)))
    (try simp only [Act.put, List.setIfInBounds_toArray, List.set_cons_zero, List.set_cons_succ])
    refine take_mk (i := 36) (v := ?vb83) rfl (by kernel_rfl) (by kernel_rfl) (by kernel_rfl) (fun _ _ _ h => h) (Or.inl ⟨by rfl, ?hyb83⟩) (by assumption) ?restb83
    case hyb83 => (intro w0 hSw; (try dsimp only at hSw); go_simp <;> (try (with_reducible rfl)))
    (try simp only [Act.put, List.setIfInBounds_toArray, List.set_cons_zero, List.set_cons_succ])
    refine wpAnyH_ready (rs := [37]) (by kernel_rfl) (by simp) ?_
    refine cons_mk rfl (fun K hK => ?_) AllReadyH.nil
    refine want_yes (by rfl) ?_
    refine op_cl 17 ent_same _ _ (by rfl) #[.agg #[.int .i64 ak, .int .i64 ok, .string os, .int .i64 oa, .int .i64 ob, .slice p2 n2 c2, .int .i64 od, .bool oc, .int .i64 aq, .string ay], .agg #[.int .i64 ak, .int .i64 ok, .string os, .int .i64 oa, .int .i64 ob, .slice pu nu cu, .int .i64 od, .bool oc, .int .i64 aq, .string ay]] (by simp only [List.map_toArray, List.map_cons, List.map_nil]; rfl) _ (HSA.out _ _ _ (HV2.out.va.below HBf.out) (HVA.out.va.below HBf.out)) ?_
    rintro e wg ⟨rfl, hb⟩
    refine ⟨_, rfl, ?_⟩
    have HBg : Hid (Below we.heap.size we wg) := below_trans HBf.out hb HBf.out.size
    clear hb
    refine hK.out _ _ (HKS.out _ HBg.out) (fun hHeld => ?_)
    clear hK K
    (try simp only [Act.put, List.setIfInBounds_toArray, List.set_cons_zero, List.set_cons_succ])
    refine take_mk (i := 38) (v := ?vb84) rfl (by kernel_rfl) (by kernel_rfl) (by kernel_rfl) (fun _ _ _ h => h) (Or.inl ⟨by rfl, ?hyb84⟩) (by assumption) ?restb84
    case hyb84 => (intro w0 hSw; (try dsimp only at hSw); go_simp <;> (try (with_reducible rfl)))
    (try simp only [Act.put, List.setIfInBounds_toArray, List.set_cons_zero, List.set_cons_succ])
    refine take_mk (i := 39) (v := ?vb85) rfl (by kernel_rfl) (by kernel_rfl) (by kernel_rfl) (fun _ _ _ h => h) (Or.inl ⟨by rfl, ?hyb85⟩) (by assumption) ?restb85
    case hyb85 => (intro w0 hSw; (try dsimp only at hSw); go_simp <;> (try (with_reducible rfl)))
    (try simp only [Act.put, List.setIfInBounds_toArray, List.set_cons_zero, List.set_cons_succ])
    refine wpAnyH_done (by kernel_rfl) ?_ _
    go_wp2
    go_ret
    exact ⟨ret_bool (by simp), below_trans HB.out HBg.out HB.out.size⟩
end Go.Proofs.Ytepgkemnpcadiab
