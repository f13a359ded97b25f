/-
  The walk of the law WheelDue.
-/
import Derived.Test.YtccddjfcceclnaaDu
import Derived.Test.YtccddjfcceclnaaW3
namespace Go.Proofs.Ytccddjfcceclnaa
open Go.ChangeShapes Go.WideShapes Go.ChangeAt Go.RowKit Go.Maps
set_option linter.unusedVariables false
set_option linter.unusedSimpArgs false
/-- What the law's loop knows at round k. -/
structure Dl (w2 wr : World) (s0 : Sp) (ds : List Dd) (k : Nat) : Prop where
  mi : Mi wr w2.heap.size (tims (after s0 (ds.take k)).L) k
  bel : Below w2.heap.size w2 wr
theorem Dl.below {w2 wr w' : World} {s0 : Sp} {ds : List Dd} {k : Nat} (h : Dl w2 wr s0 ds k) (b : Below wr.heap.size wr w') : Dl w2 w' s0 ds k :=
  ⟨h.mi.block (b.block _ h.mi.lt), h.bel.trans (b.mono h.bel.size)⟩
theorem turned_below {w2 wr w' : World} (h : Below w2.heap.size w2 wr) (t : wr.mapTurned w' w2.heap.size) : Below w2.heap.size w2 w' :=
  h.grown t.grown h.size (fun k hk => by cases hk; exact Nat.le_refl _)
theorem dropIds_nil (F : Seen) (E : List Tm) : dropIds F (E.take 0) = F := by funext y; simp [dropIds]
theorem dropIds_at {L E : List Tm} (hn : (L.map Tm.i).Nodup) (hE : (E.map Tm.i).Nodup) (hm : ∀ e, e ∈ E → e ∈ L) (j : Nat) (hj : j < E.length) : dropIds (tims L) (E.take j) E[j].i = some E[j].a := by
  unfold dropIds
  rw [if_neg (fun c => ?_), tims_some hn (hm _ (List.getElem_mem hj))]
  obtain ⟨t, ht, e⟩ := List.any_eq_true.1 c
  simp at e
  obtain ⟨i, hi, rfl⟩ := List.getElem_of_mem ht
  simp at hi
  simp only [List.getElem_take] at e
  have h1 : (E.map Tm.i)[i]'(by simp; omega) = (E.map Tm.i)[j]'(by simpa using hj) := by simp; exact_mod_cast e
  have := (List.getElem_inj hE).1 h1
  omega
theorem okd_mid {n m : Nat} {ds : List Dd} (h : Okd n ds m) (k : Nat) (hk : k ≤ ds.length) {x : Nat} (hx : Okd n (ds.take k) x) : x ≤ m := by
  induction ds generalizing n k with
  | nil => simp [Okd] at h hx; omega
  | cons d r ih =>
    obtain ⟨y, h1, h2⟩ := h
    cases k with
    | zero =>
      simp [Okd] at hx
      have := h2.le
      unfold Step1 at h1
      omega
    | succ k =>
      obtain ⟨z, h3, h4⟩ := hx
      rw [h1.one h3] at h2
      exact ih h2 k (by simpa using hk) h4
set_option maxRecDepth 100000 in
set_option maxHeartbeats 16000000 in
theorem wheelDue_walk (f : Int) (v : Value) (al : List Dd) (w : World) (hf : wfI f) (hv : Trips w v al) (hwf : ∀ x, x ∈ al → wfD x) :
    Calls Try.prog 4 #[.int .i64 f, v] w fun e w' => e = .returned (.bool true) ∧ Below w.heap.size w w' := by
  obtain ⟨n0, hn0, hp0⟩ := picked_const f 549755813888 549755813888 rfl hf (by omega) (by omega)
  have P0 : Hid (∀ W, Calls Try.prog 13 #[.int .i64 f, .int .i64 549755813888] W fun e w' => e = .returned (.int .i64 n0) ∧ w' = W) := hp0
  have HV : Hid (Trips w v al ∧ ∀ x, x ∈ al → wfD x) := ⟨hv, hwf⟩
  clear hp0 hv hwf hf
  go_enter Try.func4, Try.ntmps4
  go_wp2_with (go_at_call 13; refine (P0.out _).mono ?_; rintro e w ⟨rfl, rfl⟩)
  refine (deeds_any n0 v al _ HV.out.1 HV.out.2 (by omega)).mono ?_
  rintro e w1 ⟨u, ds, m, rfl, hrow, hok, hl, hm, hB⟩
  obtain ⟨n, hnl⟩ : ∃ n, ds.length = n := ⟨_, rfl⟩
  obtain ⟨pu, cu, rfl, hpu⟩ : ∃ p cap, u = .slice p n cap ∧ (0 < n → ∃ g, p = some ⟨g, 0, none⟩) := by
    rw [← hnl]
    rcases hrow.2 with ⟨h1, h0⟩ | ⟨g, cap, cur, h1, _⟩
    · exact ⟨none, 0, by rw [h0]; exact h1, fun h => by omega⟩
    · exact ⟨_, cap, h1, fun _ => ⟨g, rfl⟩⟩
  have hm9 : m ≤ n0 + 54000 := by omega
  go_wp2_with fail
  refine (play_any n0 _ ds _ (deeds_own hrow) (okd_wf hok (by omega)) (by omega) (by omega)).mono ?_
  rintro e w2 ⟨tv, dv, rfl, hT, hD, hB2⟩
  have hlc := codes_len ⟨n0, 0, []⟩ ds
  have hlr := rows_len ⟨n0, 0, []⟩ ds
  obtain ⟨pt, ct, et, hct⟩ := hT.shape
  obtain ⟨pd, cd, us, ed, hcd⟩ : ∃ pd cd, ∃ us : Nat → Value, dv = .slice pd n cd ∧ (0 < n → ∃ b, pd = some ⟨b, 0, none⟩ ∧ ∀ j (hj : j < (rows ⟨n0, 0, []⟩ ds).length), w2.cell? ⟨b, j, none⟩ = some (us j) ∧ ListAt w2 (us j) (rows ⟨n0, 0, []⟩ ds)[j]) := by
    rcases hD with ⟨h1, h2⟩ | ⟨b, cap, us, h1, h2, h3⟩
    · rw [h2] at hlr
      simp at hlr
      exact ⟨none, 0, fun _ => .slice none 0 0, by rw [h1, ← hnl, ← hlr], fun h => by omega⟩
    · exact ⟨_, cap, us, by rw [h1, hlr, hnl], fun _ => ⟨b, rfl, fun j hj => ⟨(h3 j hj).1, (h3 j hj).2.1⟩⟩⟩
  rw [hlc, hnl] at et
  subst et ed
  have HDS : Hid (ds.length = n ∧ Okd n0 ds m ∧ (0 < n → ∃ g, pu = some ⟨g, 0, none⟩) ∧ w2.ownsRow w.heap.size 36 3 (.slice pu n cu) ds.length (ds.flatMap encD)) := ⟨hnl, hok, hpu, owns_block hrow (fun i hi => hB2.block i (hrow.lt i hi).2)⟩
  have HCT : Hid ((codes ⟨n0, 0, []⟩ ds).length = ds.length ∧ (rows ⟨n0, 0, []⟩ ds).length = ds.length ∧ (0 < (codes ⟨n0, 0, []⟩ ds).length → ∃ b, pt = some ⟨b, 0, none⟩ ∧ ∀ j (hj : j < (codes ⟨n0, 0, []⟩ ds).length), w2.cell? ⟨b, j, none⟩ = some (.int .i64 (codes ⟨n0, 0, []⟩ ds)[j]))) := ⟨hlc, hlr, hct⟩
  have HCD : Hid (0 < n → ∃ b, pd = some ⟨b, 0, none⟩ ∧ ∀ j (hj : j < (rows ⟨n0, 0, []⟩ ds).length), w2.cell? ⟨b, j, none⟩ = some (us j) ∧ ListAt w2 (us j) (rows ⟨n0, 0, []⟩ ds)[j]) := hcd
  have HB2 : Hid (Below w.heap.size w w2) := hB.trans (hB2.mono hB.size)
  have hn60 : n ≤ 60 := by omega
  have hmm := @run_makeMap Try.prog
  clear hrow hok hl hm hB hpu hnl hT hD hB2 hlc hlr hct hcd
  go_wp2_with fail
  go_loopw [11] (fun i wr => ∃ k : Nat, k ≤ n ∧ i = .int .i64 (k : Nat) ∧ Dl w2 wr ⟨n0, 0, []⟩ ds k) (fun i _ => n + 1 - (intOf i).toNat)
  case atStart => exact ⟨0, by omega, rfl, ⟨by simpa [after] using mi_made w2, below_new' _ _⟩⟩
  case round =>
    obtain ⟨k, hk, rfl, L⟩ := hrel
    by_cases hlt : k < n
    · clear hmm
      obtain ⟨hdl, hok, hpu, hrow2⟩ := HDS.out
      obtain ⟨hlc, hlr, hct⟩ := HCT.out
      have hkd : k < ds.length := by omega
      obtain ⟨g, hg⟩ := hpu (by omega)
      obtain ⟨b1, hb1, hc1⟩ := hct (by omega)
      obtain ⟨b2, hb2, hc2⟩ := HCD.out (by omega)
      obtain ⟨x1, x2, r1, r2, r3⟩ := hok.take k hkd
      have hx2 : x2 ≤ m := by
        have := hok
        have h3 : Okd n0 (ds.take (k + 1)) x2 := r3
        exact okd_mid hok (k + 1) (by omega) h3
      obtain ⟨s, hs⟩ : ∃ s, after ⟨n0, 0, []⟩ (ds.take k) = s := ⟨_, rfl⟩
      have hx12 : x1 ≤ x2 := by unfold Step1 at r2; omega
      have hnow : s.now = x1 := by rw [← hs]; exact after_now (s := ⟨n0, 0, []⟩) r1 (by unfold mt; omega)
      have hgood : Good s := by rw [← hs]; exact after_good (good_none (by unfold mt; omega)) _
      have hlen : s.L.length ≤ k := by
        have := after_len ⟨n0, 0, []⟩ ds k (by omega)
        rw [hs] at this; simpa using this
      obtain ⟨d, hd⟩ : ∃ d, ds[k] = d := ⟨_, rfl⟩
      rw [hd] at r2
      rw [← hnow] at r2
      have hst := due_step r2 (by omega) hgood (by omega)
      have hpl := play_at ⟨n0, 0, []⟩ ds k hkd
      rw [hs, hd] at hpl
      have hnext := after_step ⟨n0, 0, []⟩ ds k hkd
      rw [hs, hd] at hnext
      have hcell : ∀ i u, (ds.flatMap encD)[i]? = some u → wr.cell? ⟨g, i, none⟩ = some u := fun i u hu => by
        subst hg
        have := hrow2.cells rfl i u hu
        rw [Addr.add_mid, Nat.zero_add] at this
        exact (L.bel.cell (p := ⟨g, i, none⟩) (hrow2.lt g rfl).2).trans this
      obtain ⟨q0, q1, q2⟩ := flatD_at ds k hkd
      rw [hd] at q0 q1 q2
      have c0 := hcell _ _ q0
      have c1 := hcell _ _ q1
      have c2 := hcell _ _ q2
      have hcc : wr.cell? ⟨b1, k, none⟩ = some (.int .i64 (step s d).1) := by
        have h1 := hc1 k (by omega)
        have h2 : (codes ⟨n0, 0, []⟩ ds)[k]'(by omega) = (step s d).1 := by
          have : (codes ⟨n0, 0, []⟩ ds)[k]? = some (step s d).1 := by unfold codes; rw [List.getElem?_map, hpl]; rfl
          exact (List.getElem?_eq_some_iff.1 this).2
        rw [h2] at h1
        exact (L.bel.cell (p := ⟨b1, k, none⟩) (World.block_lt_of_cell? _ _ h1)).trans h1
      obtain ⟨x, hx⟩ : ∃ x, us k = x := ⟨_, rfl⟩
      have hrr := hc2 k (by omega)
      have h2r : (rows ⟨n0, 0, []⟩ ds)[k]'(by omega) = (step s d).2.1.map fun t => (t.i : Int) := by
        have : (rows ⟨n0, 0, []⟩ ds)[k]? = some ((step s d).2.1.map fun t => (t.i : Int)) := by unfold rows; rw [List.getElem?_map, hpl]; rfl
        exact (List.getElem?_eq_some_iff.1 this).2
      rw [hx, h2r] at hrr
      have hcr : wr.cell? ⟨b2, k, none⟩ = some x := (L.bel.cell (p := ⟨b2, k, none⟩) (World.block_lt_of_cell? _ _ hrr.1)).trans hrr.1
      have hxl : ListAt w2 x ((step s d).2.1.map fun t => (t.i : Int)) := hrr.2
      have HR2 : Hid (w2.cell? ⟨b2, k, none⟩ = some x) := hrr.1
      have hmb := L.mi.lt
      have HID : Hid (wfI d.2.1) := by show wfI _; unfold Step1 at r2; unfold wfI; omega
      have hLmi : Mi wr w2.heap.size (tims s.L) k := by have := L.mi; rw [hs] at this; exact this
      have HMI : Hid (Mi (wr.alloc (.cells #[.int .i64 d.1, .int .i64 d.2.1, .int .i64 d.2.2] 36)) w2.heap.size (tims s.L) k) := hLmi.block (by first | exact heap_alloc_old _ _ hmb | exact heap_alloc_old _ _ _ hmb)
      have HBL : Hid (Below w2.heap.size w2 (wr.alloc (.cells #[.int .i64 d.1, .int .i64 d.2.1, .int .i64 d.2.2] 36))) := L.bel.alloc L.bel.size _
      have HHS : Hid ((tims s.L d.2.1).isSome = s.has d.2.1 ∧ Good s) := ⟨tims_has s d.2.1, hgood⟩
      have HNX : Hid (after ⟨n0, 0, []⟩ (ds.take (k + 1)) = (step s d).2.2) := hnext
      have hne : wr.heap.size ≠ w2.heap.size := by omega
      have ca1 : ∀ o, (wr.alloc o).cell? ⟨b1, k, none⟩ = some (.int .i64 (step s d).1) := fun o => cellA hcc
      have ca2 : ∀ o, (wr.alloc o).cell? ⟨b2, k, none⟩ = some x := fun o => cellA hcr
      have i1 : (0 : Int) ≤ (k : Int) := by omega
      have i2 : (k : Int) < (n : Int) := by omega
      subst hg hb1 hb2
      clear hdl hok hpu hrow2 hlc hlr hct hkd hc1 hc2 r1 r3 hx2 hs hx12 hlen hd hpl hnext hcell q0 q1 q2 hrr h2r L hLmi hx hcc hcr hnow
      rcases hst with ⟨k1, k2, k3, k4, k5⟩ | ⟨k1, k2, k3, k4, i, a, k5, k6, k7⟩ | ⟨k1, k2, k3, k4⟩ | ⟨k1, k2, k3, k4⟩ | ⟨k1, k2, k3, k4⟩
      · rw [k4] at hxl
        obtain ⟨px, cx, rfl, _⟩ := hxl.shape
        rw [k3] at ca1
        rw [k1] at c0
        obtain ⟨t0, ht0⟩ : ∃ t0, tims s.L d.2.1 = some t0 := Option.isSome_iff_exists.1 (by rw [tims_has]; exact k2)
        have ht0p : (0 : Int) < (t0 : Int) := by
          obtain ⟨t, h1, h2, h3⟩ := tims_mem ht0
          have := hgood.late t h1
          omega
        have HT1 : Hid ((tims s.L d.2.1).getD 0 = t0 ∧ (tims s.L d.2.1).isSome = true) := by show _ ∧ _; rw [ht0]; exact ⟨rfl, rfl⟩
        have HK5 : Hid ((step s d).2.2 = s) := k5
        rw [k1] at HMI HBL
        clear hxl k2 k3 k4 k5 ht0 hgood r2
        go_wp2_with (at_lookup; refine wpList_look_mi _ (by rfl) _ _ (by rfl) w2.heap.size (tims s.L) k (by rfl) HMI.out d.2.1 HID.out (by rfl) t0 true HT1.out.1 HT1.out.2 ?_)
        go_roundw
        case rel => exact ⟨k + 1, by omega, by go_num, ⟨by rw [HNX.out, HK5.out]; exact HMI.out.mono (by omega), HBL.out⟩⟩
        case measure => simp [intOf]; omega
      · rw [k4] at hxl
        obtain ⟨px, cx, rfl, _⟩ := hxl.shape
        rw [k3] at ca1
        rw [k1] at c0
        rw [k5] at c1
        rw [k6] at c2
        rw [k1, k5, k6] at HMI HBL
        rw [k5] at HID
        have HT1 : Hid ((tims s.L (i : Int)).getD 0 = 0 ∧ (tims s.L (i : Int)).isSome = false) := by
          show _ ∧ _
          have h1 : (tims s.L (i : Int)).isSome = false := by rw [tims_has, ← k5]; exact k2
          refine ⟨?_, h1⟩
          cases h2 : tims s.L (i : Int) with
          | none => rfl
          | some y => rw [h2] at h1; cases h1
        have HK7 : Hid (tims (step s d).2.2.L = (tims s.L).put i a) := by
          show _ = _
          rw [k7]
          refine tims_put hgood.apart (t := ⟨i, a, s.ords + 1⟩) (fun u hu e => ?_)
          have : s.has d.2.1 = true := (s.has_iff _).2 ⟨u, hu, by rw [k5]; exact_mod_cast e⟩
          rw [k2] at this; cases this
        have HWA : Hid (wfI (a : Int)) := by show wfI _; have h9 := hgood.now; unfold mt at h9; unfold Step1 at r2; unfold wfI; omega
        clear hxl k2 k3 k4 k5 k6 k7 hgood r2
        go_wp2_with (first
          | (at_lookup; refine wpList_look_mi _ (by rfl) _ _ (by rfl) w2.heap.size (tims s.L) k (by rfl) HMI.out i HID.out (by rfl) 0 false HT1.out.1 HT1.out.2 ?_)
          | (at_mapUpdate; refine wpList_store_mi _ (by rfl) _ _ _ (by rfl) w2.heap.size (tims s.L) k (by rfl) HMI.out (by omega) i HID.out (by rfl) a HWA.out (by rfl) ?_; intro w3 hM3 ht3))
        go_roundw
        case rel => exact ⟨k + 1, by omega, by go_num, ⟨by rw [HNX.out, HK7.out]; exact hM3, turned_below HBL.out ht3⟩⟩
        case measure => simp [intOf]; omega
      · rw [k3] at ca1
        rw [k1] at c0 HMI HBL
        have HT1 : Hid ((tims s.L d.2.1).isSome = true) := by show _ = _; rw [tims_has]; exact k2
        have HK7 : Hid (tims (step s d).2.2.L = (tims s.L).del d.2.1) := by show _ = _; rw [k4]; exact tims_del _ _
        obtain ⟨t0, ht0⟩ : ∃ t0, (tims s.L d.2.1).getD 0 = t0 := ⟨_, rfl⟩
        have HT0 : Hid ((tims s.L d.2.1).getD 0 = t0) := ht0
        clear hxl k2 k3 k4 hgood r2 ca2 ht0
        go_wp2_with (first
          | (at_lookup; refine wpList_look_mi _ (by rfl) _ _ (by rfl) w2.heap.size (tims s.L) k (by rfl) HMI.out d.2.1 HID.out (by rfl) t0 true HT0.out HT1.out ?_)
          | (at_delete; refine wpList_delete_mi _ (by rfl) _ _ (by rfl) w2.heap.size (tims s.L) k (by rfl) HMI.out d.2.1 HID.out (by rfl) ?_; intro w3 hM3 ht3))
        go_roundw
        case rel => exact ⟨k + 1, by omega, by go_num, ⟨by rw [HNX.out, HK7.out]; exact hM3.mono (by omega), turned_below HBL.out ht3⟩⟩
        case measure => simp [intOf]; omega
      · rw [k3] at ca1
        rw [k1] at c0 HMI HBL
        have HT1 : Hid ((tims s.L d.2.1).isSome = false) := by show _ = _; rw [tims_has]; exact k2
        have HK7 : Hid (tims (step s d).2.2.L = (tims s.L).del d.2.1) := by
          show _ = _
          rw [k4]
          funext y
          unfold Seen.del
          by_cases e : y = d.2.1
          · rw [if_pos e, e]
            have := HT1.out
            cases h2 : tims s.L d.2.1 with
            | none => rfl
            | some y => rw [h2] at this; cases this
          · rw [if_neg e]
        obtain ⟨t0, ht0⟩ : ∃ t0, (tims s.L d.2.1).getD 0 = t0 := ⟨_, rfl⟩
        have HT0 : Hid ((tims s.L d.2.1).getD 0 = t0) := ht0
        clear hxl k2 k3 k4 hgood r2 ca2 ht0
        go_wp2_with (first
          | (at_lookup; refine wpList_look_mi _ (by rfl) _ _ (by rfl) w2.heap.size (tims s.L) k (by rfl) HMI.out d.2.1 HID.out (by rfl) t0 false HT0.out HT1.out ?_)
          | (at_delete; refine wpList_delete_mi _ (by rfl) _ _ (by rfl) w2.heap.size (tims s.L) k (by rfl) HMI.out d.2.1 HID.out (by rfl) ?_; intro w3 hM3 ht3))
        go_roundw
        case rel => exact ⟨k + 1, by omega, by go_num, ⟨by rw [HNX.out, HK7.out]; exact hM3.mono (by omega), turned_below HBL.out ht3⟩⟩
        case measure => simp [intOf]; omega
      · rw [k3] at hxl
        rw [k1] at c0 HMI HBL
        rw [k2] at c2 HMI HBL
        obtain ⟨E, hE⟩ : ∃ E, srt (s.L.filter fun t => decide ((t.a : Int) ≤ x2)) = E := ⟨_, rfl⟩
        rw [hE] at hxl
        have hEm : ∀ e, e ∈ E → e ∈ s.L ∧ e.a ≤ x2 := fun e he => by
          rw [← hE] at he
          obtain ⟨h1, h2⟩ := List.mem_filter.1 ((srt_perm _).mem_iff.1 he)
          exact ⟨h1, by simpa using h2⟩
        have hEs : E.Pairwise fun t u => tle t u = true := by rw [← hE]; exact srt_sorted _
        have hEn : (E.map Tm.i).Nodup := by
          rw [← hE]
          exact ((srt_perm _).map Tm.i).nodup_iff.2 (List.Nodup.sublist (List.Sublist.map _ List.filter_sublist) hgood.apart)
        have HALL : Hid (dropIds (tims s.L) E = tims (step s d).2.2.L) := by
          show _ = _
          rw [← hE, k4]
          exact dropIds_all hgood.apart _
        have HLATE : Hid (∀ y a, tims (step s d).2.2.L y = some a → x2 < a) := fun y a h => by
          rw [k4] at h
          obtain ⟨t, h1, h2, h3⟩ := tims_mem h
          have := (List.mem_filter.1 h1).2
          simp at this
          omega
        have HE : Hid ((∀ e, e ∈ E → e ∈ s.L ∧ e.a ≤ x2 ∧ wfI e.i) ∧ E.Pairwise (fun t u => tle t u = true) ∧ (E.map Tm.i).Nodup) :=
          ⟨fun e he => ⟨(hEm e he).1, (hEm e he).2, by have := hgood.ids e (hEm e he).1; unfold wfI; omega⟩, hEs, hEn⟩
        have HAP : Hid ((s.L.map Tm.i).Nodup) := hgood.apart
        obtain ⟨px, cx, rfl, hpx⟩ := hxl.shape
        obtain ⟨ne, hne2⟩ : ∃ ne, E.length = ne := ⟨_, rfl⟩
        have hml : (E.map fun t => (t.i : Int)).length = ne := by simp [hne2]
        have HPX : Hid (0 < ne → ∃ b, px = some ⟨b, 0, none⟩ ∧ ∀ j (hj : j < E.length), w2.cell? ⟨b, j, none⟩ = some (.int .i64 E[j].i)) := fun h0 => by
          obtain ⟨b, h1, h2⟩ := hpx (by rw [hml]; exact h0)
          exact ⟨b, h1, fun j hj => by have := h2 j (by rw [hml, ← hne2]; exact hj); simpa using this⟩
        have HNE : Hid (E.length = ne) := hne2
        have hne1000 : (ne : Int) ≤ 1000 := by
          have h5 : E.length ≤ s.L.length := by
            rw [← hE, (srt_perm _).length_eq]; exact List.length_filter_le _ _
          have := hgood.few
          omega
        rw [hml] at ca2 HR2
        obtain ⟨t0, ht0⟩ : ∃ t0, (tims s.L d.2.1).getD 0 = t0 := ⟨_, rfl⟩
        obtain ⟨bb, hbb⟩ : ∃ bb, (tims s.L d.2.1).isSome = bb := ⟨_, rfl⟩
        have HT0 : Hid ((tims s.L d.2.1).getD 0 = t0 ∧ (tims s.L d.2.1).isSome = bb) := ⟨ht0, hbb⟩
        clear hxl k3 k4 hgood r2 ht0 hbb hEm hEs hEn hE hpx hml hne2
        go_wp2_with (at_lookup; refine wpList_look_mi _ (by rfl) _ _ (by rfl) w2.heap.size (tims s.L) k (by rfl) HMI.out d.2.1 HID.out (by rfl) t0 bb HT0.out.1 HT0.out.2 ?_)
        go_loopw [15, 16] (fun la ii wi => ∃ j last : Nat, j ≤ ne ∧ ii = .int .i64 (j : Nat) ∧ la = .int .i64 (last : Nat) ∧ Mi wi w2.heap.size (dropIds (tims s.L) (E.take j)) k ∧ Below w2.heap.size w2 wi ∧ wi.cell? ⟨wr.heap.size, 2, none⟩ = some (.int .i64 x2) ∧ (∀ e, e ∈ E.drop j → last ≤ e.a)) (fun _ ii _ => ne + 1 - (intOf ii).toNat)
        case atStart => exact ⟨0, 0, by omega, rfl, rfl, by rw [dropIds_nil]; exact HMI.out, HBL.out, by go_simp, fun e _ => Nat.zero_le _⟩
        case round =>
          obtain ⟨j, last, hj, rfl, rfl, hM, hB, hbx, hla⟩ := hrel
          have HMj : Hid (Mi wr w2.heap.size (dropIds (tims s.L) (E.take j)) k) := hM
          have HBj : Hid (Below w2.heap.size w2 wr) := hB
          have HLA : Hid (∀ e, e ∈ E.drop j → last ≤ e.a) := hla
          have cr : wr.cell? ⟨b2, k, none⟩ = some (.slice px ne cx) := (hB.cell (p := ⟨b2, k, none⟩) (World.block_lt_of_cell? _ _ HR2.out)).trans HR2.out
          by_cases hje : j < ne
          · have hjE : j < E.length := by have := HNE.out; omega
            obtain ⟨b3, hb3, hc3⟩ := HPX.out (by omega)
            have hc3j := hc3 j hjE
            obtain ⟨e, he⟩ : ∃ e, E[j] = e := ⟨_, rfl⟩
            rw [he] at hc3j
            have heE : e ∈ E := by rw [← he]; exact List.getElem_mem _
            obtain ⟨h1, h2, h3⟩ := HE.out.1 e heE
            have ce : wr.cell? ⟨b3, j, none⟩ = some (.int .i64 e.i) := (hB.cell (p := ⟨b3, j, none⟩) (World.block_lt_of_cell? _ _ hc3j)).trans hc3j
            have hFe : dropIds (tims s.L) (E.take j) e.i = some e.a := by
              have := dropIds_at HAP.out HE.out.2.2 (fun e he => (HE.out.1 e he).1) j hjE
              rw [he] at this; exact this
            have HFE : Hid ((dropIds (tims s.L) (E.take j) e.i).getD 0 = e.a ∧ (dropIds (tims s.L) (E.take j) e.i).isSome = true) := by show _ ∧ _; rw [hFe]; exact ⟨rfl, rfl⟩
            have hdrop : E.drop j = e :: E.drop (j + 1) := by rw [← he]; exact List.drop_eq_getElem_cons hjE
            have hle : last ≤ e.a := hla e (by rw [hdrop]; exact List.mem_cons_self)
            have HWE : Hid (wfI e.i) := h3
            have HNX2 : Hid (dropIds (tims s.L) (E.take (j + 1)) = (dropIds (tims s.L) (E.take j)).del e.i) := by
              show _ = _
              rw [dropIds_step _ _ j hjE, he]
            have HLN : Hid (∀ u, u ∈ E.drop (j + 1) → e.a ≤ u.a) := fun u hu => by
              have hp : (E.drop j).Pairwise fun t u => tle t u = true := HE.out.2.1.sublist (List.drop_sublist _ _)
              rw [hdrop, List.pairwise_cons] at hp
              have := (tle_iff e u).1 (hp.1 u hu)
              omega
            have g1 : (x2 < e.a) = False := by simp; exact h2
            have g2 : (e.a < last) = False := by simp; exact hle
            have j1 : (0 : Int) ≤ (j : Int) := by omega
            have j2 : (j : Int) < (ne : Int) := by omega
            subst hb3
            clear hc3 hc3j he heE h1 h2 h3 hFe hdrop hle hM hB hla hjE
            go_wp2_with (first
              | (at_lookup; refine wpList_look_mi _ (by rfl) _ _ (by rfl) w2.heap.size (dropIds (tims s.L) (E.take j)) k (by rfl) HMj.out e.i HWE.out (by rfl) e.a true HFE.out.1 HFE.out.2 ?_)
              | (at_delete; refine wpList_delete_mi _ (by rfl) _ _ (by rfl) w2.heap.size (dropIds (tims s.L) (E.take j)) k (by rfl) HMj.out e.i HWE.out (by rfl) ?_; intro w3 hM3 ht3))
            go_roundw
            case rel => exact ⟨j + 1, e.a, by omega, by go_num, rfl, by rw [HNX2.out]; exact hM3, turned_below HBj.out ht3, cell_of_turned ht3 hbx hne, HLN.out⟩
            case measure => simp [intOf]; omega
          · obtain rfl : j = ne := by omega
            have hMf : Mi wr w2.heap.size (tims (step s d).2.2.L) k := by
              have := HMj.out
              rw [← HNE.out, List.take_length, HALL.out] at this
              exact this
            have HMF : Hid (Mi wr w2.heap.size (tims (step s d).2.2.L) k) := hMf
            clear hMf hM hB hla HMj HLA hje
            go_wp2_with fail
            go_loopw [19] (fun ii wv => ∃ j3 : Nat, 1 ≤ j3 ∧ j3 ≤ 31 ∧ ii = .int .i64 (j3 : Nat) ∧ wv = wr) (fun ii _ => 32 - (intOf ii).toNat)
            case atStart => exact ⟨1, by omega, by omega, rfl, rfl⟩
            case round =>
              obtain ⟨j3, h31, h32, rfl, rfl⟩ := hrel
              by_cases h30 : j3 ≤ 30
              · have HW3 : Hid (wfI (j3 : Int)) := by show wfI _; unfold wfI; omega
                have i30 : (j3 : Int) ≤ 30 := by omega
                cases hF : tims (step s d).2.2.L (j3 : Int) with
                | none =>
                  have HF3 : Hid ((tims (step s d).2.2.L (j3 : Int)).getD 0 = 0 ∧ (tims (step s d).2.2.L (j3 : Int)).isSome = false) := by show _ ∧ _; rw [hF]; exact ⟨rfl, rfl⟩
                  clear hF
                  go_wp2_with (at_lookup; refine wpList_look_mi _ (by rfl) _ _ (by rfl) w2.heap.size (tims (step s d).2.2.L) k (by rfl) HMF.out j3 HW3.out (by rfl) 0 false HF3.out.1 HF3.out.2 ?_)
                  go_roundw
                  case rel => exact ⟨j3 + 1, by omega, by omega, by go_num, by first | rfl | trivial⟩
                  case measure => simp [intOf]; omega
                | some a3 =>
                  have HF3 : Hid ((tims (step s d).2.2.L (j3 : Int)).getD 0 = a3 ∧ (tims (step s d).2.2.L (j3 : Int)).isSome = true) := by show _ ∧ _; rw [hF]; exact ⟨rfl, rfl⟩
                  have hlt3 := HLATE.out _ _ hF
                  have g3 : (a3 ≤ x2) = False := by simp; exact hlt3
                  clear hF
                  go_wp2_with (at_lookup; refine wpList_look_mi _ (by rfl) _ _ (by rfl) w2.heap.size (tims (step s d).2.2.L) k (by rfl) HMF.out j3 HW3.out (by rfl) a3 true HF3.out.1 HF3.out.2 ?_)
                  go_roundw
                  case rel => exact ⟨j3 + 1, by omega, by omega, by go_num, by first | rfl | trivial⟩
                  case measure => simp [intOf]; omega
              · obtain rfl : j3 = 31 := by omega
                go_wp2
                go_roundw
                case rel => exact ⟨k + 1, by omega, by go_num, ⟨by rw [HNX.out]; exact HMF.out.mono (by omega), HBj.out⟩⟩
                case measure => simp [intOf]; omega
    · obtain rfl : k = n := by omega
      have HBL : Hid (Below w2.heap.size w2 wr) := L.bel
      clear L hmm
      go_wp2_with (go_at_call 9; refine (play_neg _).mono ?_; rintro e wr ⟨rfl, rfl⟩)
      go_ret
      exact ⟨rfl, HB2.out.trans (HBL.out.mono HB2.out.size)⟩
end Go.Proofs.Ytccddjfcceclnaa
