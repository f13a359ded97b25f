/-
  Rules, one by one, by the program.
-/
import Derived.Test.YthndlfdbmljkhaaGreatDoorDo
namespace Go.Proofs.YthndlfdbmljkhaaGreatDoor.Chk
open Go.ChangeShapes Go.WideShapes Go.ChangeAt Go.RowKit Go.Maps
set_option linter.unusedVariables false
set_option linter.unusedSimpArgs false
set_option maxRecDepth 20000
/-- What is at hand while rules are checked. -/
structure Rsc (w : World) (ts : List Tp) (tv : Value) (tb cb mb : Nat) (L : List ByteArray) (n : Nat) : Prop where
  cc : w.cell? ⟨cb, 0, none⟩ = some (.map (some mb))
  nm : Nm w mb L n
  tk : Tab w 0 kpl
  tr : Tab w 1 rll
  tc : w.cell? ⟨tb, 0, none⟩ = some tv
  rt : Rd w (.row 72 2 (ts.map encY)) tv
theorem Rsc.later {w w' : World} {ts : List Tp} {tv : Value} {tb cb mb n : Nat} {L : List ByteArray} (h : Rsc w ts tv tb cb mb L n) (hb : Below w.heap.size w w') : Rsc w' ts tv tb cb mb L n :=
  ⟨(hb.cell (p := ⟨cb, 0, none⟩) (World.block_lt_of_cell? _ _ h.cc)).trans h.cc, h.nm.later hb, tab_later h.tk hb, tab_later h.tr hb, (hb.cell (p := ⟨tb, 0, none⟩) (World.block_lt_of_cell? _ _ h.tc)).trans h.tc, h.rt.later hb⟩
theorem Rsc.fr {w w' : World} {ts : List Tp} {tv : Value} {tb cb mb n n' : Nat} {L L' : List ByteArray} (h : Rsc w ts tv tb cb mb L n) (hf : Fr (fun i => i = mb) w w') (hk : Nm w' mb L' n') : Rsc w' ts tv tb cb mb L' n' :=
  ⟨cell_fr h.nm.isMap hf h.cc, hk, tab_fr h.nm.isMap hf h.tk (by decide), tab_fr h.nm.isMap hf h.tr (by decide), cell_fr h.nm.isMap hf h.tc, h.rt.fr h.nm.isMap hf⟩
/-- What is wrong with a rule behind others. -/
def rk1 (ts : List Tp) (done : List Rl) (x : Rl) : Int := if rck ts x ≠ 0 then rck ts x else tkn (done.map Rl.n) x.n
theorem rks_step (ts : List Tp) (done : List Rl) (x : Rl) (r : List Rl) : rks (rck ts) done (x :: r) = if rk1 ts done x ≠ 0 then rk1 ts done x else rks (rck ts) (done ++ [x]) r := by
  rw [rks]
  have e : (done.map Rl.n).any (fun r => seq r x.n) = done.any (fun d => seq d.n x.n) := by rw [List.any_map]; rfl
  unfold rk1 tkn
  rw [e]
  by_cases h1 : rck ts x = 0
  · by_cases h4 : done.any (fun d => seq d.n x.n) = true
    · have e : (if rck ts x ≠ 0 then rck ts x else if done.any (fun d => seq d.n x.n) = true then 7 else 0) = 7 := by rw [if_neg (fun c => c h1), if_pos h4]
      rw [e, if_neg (fun c => c h1), if_pos h4]
      rfl
    · have e : (if rck ts x ≠ 0 then rck ts x else if done.any (fun d => seq d.n x.n) = true then 7 else 0) = 0 := by rw [if_neg (fun c => c h1), if_neg h4]
      rw [e, if_neg (fun c => c h1), if_neg h4]
      rfl
  · simp [h1]
theorem rck_size {ts : List Tp} {x : Rl} (h : rck ts x = 0) : x.n.size ≤ maxLen := by
  unfold rck at h
  split at h
  · rename_i c; exact absurd h c
  · rename_i c; exact frn_size (Classical.byContradiction c)
set_option maxHeartbeats 16000000 in
theorem checkRule1_any (ts : List Tp) (hty : ∀ i (hi : i < ts.length), tyk ts[i].n ts[i].f = 0) (done : List Rl) (r : Rl) (hzr : Szr r) (tv u1 u2 u3 u4 u5 : Value) (tb cb mb n : Nat) (w : World) (hs : Rsc w ts tv tb cb mb (done.map Rl.n) n) (h1 : Rd w (.row 65 18 (r.w.map encP)) u1) (h2 : Rd w (.row 65 18 (r.t.map encP)) u2) (h3 : Rd w (.row 68 20 (r.m.map encM)) u3) (h4 : Rd w (.row 103 3 (r.k.map encK)) u4) (h5 : Rd w (.row 61 6 (r.e.v.map encO)) u5) (hn : n ≤ 100) :
    Calls Tryz.prog 61 #[.agg #[.string r.n, u1, u2, u3, u4, .string r.e.ty, u5], .pointer (some ⟨tb, 0, none⟩), .pointer (some ⟨cb, 0, none⟩)] w fun e w' => e = .returned (.int .i64 (rk1 ts done r)) ∧ Fr (fun i => i = mb) w w' ∧ (rk1 ts done r = 0 → Nm w' mb ((done ++ [r]).map Rl.n) (n + 1)) := by
  have HCR := hid (fun W (hW : Below w.heap.size w W) => checkRule_any ts hty r hzr tv u1 u2 u3 u4 u5 W (hs.rt.later hW) (tab_later hs.tk hW) (tab_later hs.tr hW) (h1.later hW) (h2.later hW) (h3.later hW) (h4.later hW) (h5.later hW))
  have HTA := hid (fun W (hW : Below w.heap.size w W) (hz : rck ts r = 0) => take_any mb (done.map Rl.n) n r.n (rck_size hz) hn W (hs.nm.later hW))
  have HCC := hid (fun W (hW : Below w.heap.size w W) => (hs.later hW).cc)
  have HTC := hid (fun W (hW : Below w.heap.size w W) => (hs.later hW).tc)
  have hmp : (done ++ [r]).map Rl.n = done.map Rl.n ++ [r.n] := by rw [List.map_append]; rfl
  rw [hmp]
  unfold rk1
  obtain ⟨E0, hE0⟩ : ∃ E, rck ts r = E := ⟨_, rfl⟩
  rw [hE0] at HCR HTA
  rw [hE0]
  obtain ⟨E3, hE3⟩ : ∃ E, tkn (done.map Rl.n) r.n = E := ⟨_, rfl⟩
  rw [hE3] at HTA
  rw [hE3]
  obtain ⟨tp, tn, tc, rfl⟩ := rd_shape hs.rt
  obtain ⟨q1, l1, j1, rfl⟩ := rd_shape h1
  obtain ⟨q2, l2, j2, rfl⟩ := rd_shape h2
  obtain ⟨q3, l3, j3, rfl⟩ := rd_shape h3
  obtain ⟨q4, l4, j4, rfl⟩ := rd_shape h4
  obtain ⟨q5, l5, j5, rfl⟩ := rd_shape h5
  clear hs h1 h2 h3 h4 h5 hn hmp hE0 hE3 hzr
  obtain ⟨rn, ws, ns, ms, ks, ⟨ety, vs⟩⟩ := r
  simp only at HCR HTA ⊢
  have HT : Hid (BlkT w (w.alloc (.cells [.string rn, .slice q1 l1 j1, .slice q2 l2 j2, .slice q3 l3 j3, .slice q4 l4 j4, .string ety, .slice q5 l5 j5].toArray 49)) [.string rn, .slice q1 l1 j1, .slice q2 l2 j2, .slice q3 l3 j3, .slice q4 l4 j4, .string ety, .slice q5 l5 j5] 49) := BlkT.start w _ _
  have XR : Hid ((w.alloc (.cells [.string rn, .slice q1 l1 j1, .slice q2 l2 j2, .slice q3 l3 j3, .slice q4 l4 j4, .string ety, .slice q5 l5 j5].toArray 49)).rangeAt w.heap.size 0 [.string rn, .slice q1 l1 j1, .slice q2 l2 j2, .slice q3 l3 j3, .slice q4 l4 j4, .string ety, .slice q5 l5 j5]) := range_blk HT.out.b1
  have c5 : (w.alloc (.cells #[.string rn, .slice q1 l1 j1, .slice q2 l2 j2, .slice q3 l3 j3, .slice q4 l4 j4, .string ety, .slice q5 l5 j5] 49)).cell? ⟨tb, 0, none⟩ = some (.slice tp tn tc) := HTC.out _ HT.out.bel
  by_cases hz : E0 = 0
  · have HZ := hid hz
    rw [if_neg (fun c => c hz)]
    subst hz
    go_enter Tryz.func61, Tryz.ntmps61
    go_wp2_with ((with_reducible show wpList _ _ _ (Oper.mk _ (.load _ _) _ _ _ _ :: _) _ _); refine wpList_load_mid (by rfl) 49 _ (by rfl) w.heap.size 0 (by rfl) [.string rn, .slice q1 l1 j1, .slice q2 l2 j2, .slice q3 l3 j3, .slice q4 l4 j4, .string ety, .slice q5 l5 j5] _ XR.out Tryz.underlying49 rfl (by kernel_rfl) ?_)
    refine (HCR.out _ HT.out.bel).mono ?_
    rintro e w1 ⟨rfl, hb1⟩
    have HT1 : Hid (BlkT w w1 [.string rn, .slice q1 l1 j1, .slice q2 l2 j2, .slice q3 l3 j3, .slice q4 l4 j4, .string ety, .slice q5 l5 j5] 49) := HT.out.next hb1
    clear hb1
    clear XR c5
    have c0 : w1.cell? ⟨w.heap.size, 0, none⟩ = some (.string rn) := HT1.out.c 0
    have c3 : w1.cell? ⟨cb, 0, none⟩ = some (.map (some mb)) := HCC.out _ HT1.out.bel
    go_wp2_with fail
    refine (HTA.out _ HT1.out.bel HZ.out).mono ?_
    rintro e w3 ⟨rfl, hf3, hk3⟩
    have HF3 := hid ((Fr.of_below HT1.out.bel).trans hf3)
    have HK3 := hid hk3
    clear hf3 hk3
    go_wp2_with fail
    go_ret
    exact ⟨rfl, HF3.out, HK3.out⟩
  · rw [if_pos hz]
    have d9 : (E0 != 0) = true := by simpa using hz
    have HZ := hid hz
    clear hz
    go_enter Tryz.func61, Tryz.ntmps61
    go_wp2_with ((with_reducible show wpList _ _ _ (Oper.mk _ (.load _ _) _ _ _ _ :: _) _ _); refine wpList_load_mid (by rfl) 49 _ (by rfl) w.heap.size 0 (by rfl) [.string rn, .slice q1 l1 j1, .slice q2 l2 j2, .slice q3 l3 j3, .slice q4 l4 j4, .string ety, .slice q5 l5 j5] _ XR.out Tryz.underlying49 rfl (by kernel_rfl) ?_)
    refine (HCR.out _ HT.out.bel).mono ?_
    rintro e w1 ⟨rfl, hb1⟩
    have HT1 : Hid (BlkT w w1 [.string rn, .slice q1 l1 j1, .slice q2 l2 j2, .slice q3 l3 j3, .slice q4 l4 j4, .string ety, .slice q5 l5 j5] 49) := HT.out.next hb1
    clear hb1
    go_wp2_with fail
    go_ret
    exact ⟨rfl, Fr.of_below HT1.out.bel, fun c => absurd c HZ.out⟩
set_option maxHeartbeats 32000000 in
theorem firstRule_any (ts : List Tp) (hty : ∀ i (hi : i < ts.length), tyk ts[i].n ts[i].f = 0) (rs : List Rl) (hzz : ∀ r, r ∈ rs → Szr r) (tv : Value) (tb cb mb n0 : Nat) (lv : Value) (w : World) (hs : Rsc w ts tv tb cb mb [] n0) (hR : Rd w (.row 49 7 (rs.map encR)) lv) (hn : n0 + rs.length ≤ 100) :
    Calls Tryz.prog 60 #[lv, .func (.func 61) #[] #[.pointer (some ⟨tb, 0, none⟩), .pointer (some ⟨cb, 0, none⟩)]] w fun e w' => e = .returned (.int .i64 (rks (rck ts) [] rs)) ∧ Fr (fun i => i = mb) w w' ∧ (rks (rck ts) [] rs = 0 → Rsc w' ts tv tb cb mb ((rs.take (rs.length)).map Rl.n) (n0 + (rs.length))) := by
  have HS := hid hs
  have HL := hid hR
  have HNN := hid hn
  obtain ⟨p, cap, rfl, hmx, _⟩ := rd_row lenR hR
  obtain ⟨n, hnl⟩ : ∃ n, rs.length = n := ⟨_, rfl⟩
  have HN := hid hnl
  obtain ⟨R, hRR⟩ : ∃ R, rks (rck ts) [] rs = R := ⟨_, rfl⟩
  have HR := hid hRR
  rw [hRR]
  rw [hnl] at hmx HL ⊢
  clear hR hs hn hnl hRR
  go_enter Tryz.func60, Tryz.ntmps60
  go_wp2_with fail
  go_loopg [10] (n + 1) (fun gg i wr => ∃ k : Nat, k ≤ n ∧ gg = n + 1 - k ∧ i = .int .i64 (k : Nat) ∧ rks (rck ts) (rs.take k) (rs.drop k) = R ∧ Fr (fun i => i = mb) w wr ∧ Rsc wr ts tv tb cb mb ((rs.take (k)).map Rl.n) (n0 + (k)))
  case atStart => exact ⟨0, by omega, by omega, rfl, by simpa using HR.out, Fr.refl _ _, by simpa using HS.out⟩
  case round =>
    obtain ⟨k, hk, rfl, rfl, hev, hF, hI⟩ := hrel
    have HF := hid hF
    have HI := hid hI
    by_cases hlt : k < n
    · have hkc : k < rs.length := by have := HN.out; omega
      obtain ⟨p', cap', e0, _, hat⟩ := rd_row lenR (HL.out.fr HS.out.nm.isMap hF)
      simp only [Value.slice.injEq] at e0
      obtain ⟨rfl, hx0, rfl⟩ := e0
      obtain ⟨g, off, rfl, hrd⟩ := hat (by omega)
      obtain ⟨A, r1, o1⟩ := hrd wr (Below.refl _ _) k hkc
      obtain ⟨v1, v2, v3, v4, v5, z1, o1', o2, o3, o4, o5⟩ := rdR o1
      obtain ⟨a1, a2, a3, hu1⟩ := rd_shape o1'
      obtain ⟨b1, b2, b3, hu2⟩ := rd_shape o2
      obtain ⟨d1, d2, d3, hu3⟩ := rd_shape o3
      obtain ⟨f1, f2, f3, hu4⟩ := rd_shape o4
      obtain ⟨g1, g2, g3, hu5⟩ := rd_shape o5
      have hAz : A.length = 7 := o1.1.symm
      rw [List.drop_eq_getElem_cons hkc, rks_step] at hev
      have htk : rs.take (k + 1) = rs.take k ++ [rs[k]] := List.take_succ_eq_append_getElem hkc
      have hcall := fun W (hW : Below wr.heap.size wr W) => checkRule1_any ts hty (rs.take k) rs[k] (hzz _ (List.getElem_mem hkc)) tv v1 v2 v3 v4 v5 tb cb mb (n0 + k) W (hI.later hW) (o1'.later hW) (o2.later hW) (o3.later hW) (o4.later hW) (o5.later hW) (by have := HNN.out; omega)
      rw [← htk] at hcall
      obtain ⟨e9, he9⟩ : ∃ e9, rk1 ts (rs.take k) rs[k] = e9 := ⟨_, rfl⟩
      rw [he9] at hcall hev
      have HCM : Hid (∀ W, Below wr.heap.size wr W → Calls Tryz.prog 61 #[.agg A.toArray, .pointer (some ⟨tb, 0, none⟩), .pointer (some ⟨cb, 0, none⟩)] W (fun e w' => e = .returned (.int .i64 e9) ∧ Fr (fun i => i = mb) W w' ∧ (e9 = 0 → Nm w' mb ((rs.take (k + 1)).map Rl.n) (n0 + k + 1)))) := fun W hW => by rw [z1]; exact hcall W hW
      have HAO : Hid (A.all (·.oneCell') = true) := by show _ = _; rw [z1, hu1, hu2, hu3, hu4, hu5]; rfl
      have ZA : Hid ((Tryz.prog.info? 49).map (·.size) = some A.length) := by show _ = _; rw [hAz]; kernel_rfl
      have HAL := hid hAz
      have X1_ := hid r1
      have HEV := hid hev
      have HTK := hid htk
      have i1 : (0 : Int) ≤ (k : Int) := by omega
      have i2 : (k : Int) < (n : Int) := by omega
      clear hF hI hat hrd r1 o1 hAz hev htk hx0 hcall he9 z1 hu1 hu2 hu3 hu4 hu5 o1' o2 o3 o4 o5
      go_wp2_with (first
        | ((with_reducible show wpList _ _ _ (Oper.mk _ (.load _ _) _ _ _ _ :: _) _ _); refine wpList_load_mid (by rfl) 49 _ (by rfl) g (off + k * 7) (by rfl) A _ X1_.out Tryz.underlying49 rfl ZA.out ?_)
        | ((with_reducible show wpList _ _ _ (Oper.mk _ (.store _ _ _) _ _ _ _ :: _) _ _); refine wp_st (by rfl) 49 _ _ (by rfl) wr.heap.size 0 _ 49 (.agg A.toArray) A (by rfl) (by rfl) (by rfl) (heap_alloc_new _ _) (by have := HAL.out; simp; omega) ZA.out HAO.out ?_; intro w1 hblk hfr; rw [ovr_all (by rw [HAL.out]; rfl)] at hblk; have XB : Hid (w1.rangeAt wr.heap.size 0 A) := range_blk hblk; have HBW : Hid (Below wr.heap.size wr w1) := new_store hfr; clear hblk hfr)
        | ((with_reducible show wpList _ _ _ (Oper.mk _ (.load _ _) _ _ _ _ :: _) _ _); refine wpList_load_mid (by rfl) 49 _ (by rfl) wr.heap.size 0 (by rfl) A _ XB.out Tryz.underlying49 rfl ZA.out ?_))
      refine (HCM.out _ HBW.out).mono ?_
      rintro e w2 ⟨rfl, hf2, hk2⟩
      have HF2 : Hid (Fr (fun i => i = mb) w w2) := HF.out.trans ((Fr.of_below HBW.out).trans hf2)
      have HK2 := hid hk2
      have HS1 := hid ((HI.out.later HBW.out))
      have HFR := hid hf2
      clear hk2 hf2
      by_cases hz : e9 = 0
      · have HE2 := HEV.out
        rw [if_neg (fun c => c hz)] at HE2
        have HE3 := hid HE2
        have HI2 := hid (show Rsc w2 ts tv tb cb mb ((rs.take (k + 1)).map Rl.n) (n0 + (k + 1)) from HS1.out.fr HFR.out (HK2.out hz))
        subst hz
        clear HE2 HK2 HS1 HFR
        go_wp2_with fail
        go_roundg (n + 1 - (k + 1))
        case rel => exact ⟨k + 1, by omega, rfl, by go_num, by rw [HTK.out]; exact HE3.out, HF2.out, HI2.out⟩
        case measure => omega
      · have HE2 : Hid (R = e9) := by have h := HEV.out; rw [if_pos hz] at h; exact h.symm
        have d9 : (e9 != 0) = true := by simpa using hz
        have HZ := hid hz
        clear hz HK2 HS1 HFR
        go_wp2_with fail
        go_ret
        exact ⟨ret_int HE2.out.symm, HF2.out, fun c => absurd (HE2.out.symm.trans c) HZ.out⟩
    · obtain rfl : k = n := by omega
      have hw : rs.take k = rs := List.take_of_length_le (by have := HN.out; omega)
      have hd : rs.drop k = [] := List.drop_of_length_le (by have := HN.out; omega)
      rw [hd, rks] at hev
      have HE2 : Hid (R = 0) := hev.symm
      have HI2 := hid hI
      clear hev hd hF hI hw
      go_wp2_with fail
      go_ret
      exact ⟨ret_int HE2.out.symm, HF.out, fun _ => HI2.out⟩
theorem heap_3 (w : World) (a b c : Obj) : (((w.alloc a).alloc b).alloc c).heap[w.heap.size + 2]? = some c := by
  have := heap_alloc_new ((w.alloc a).alloc b) c
  simpa using this
set_option maxHeartbeats 8000000 in
theorem checkRules_any (ts : List Tp) (hty : ∀ i (hi : i < ts.length), tyk ts[i].n ts[i].f = 0) (rs : List Rl) (hzz : ∀ r, r ∈ rs → Szr r) (tv rv : Value) (w : World) (hT : Rd w (.row 72 2 (ts.map encY)) tv) (hR : Rd w (.row 49 7 (rs.map encR)) rv) (htk : Tab w 0 kpl) (htr : Tab w 1 rll) (hn : rs.length ≤ 90) :
    Calls Tryz.prog 28 #[rv, tv] w fun e w' => e = .returned (.int .i64 (rks (rck ts) [] rs)) ∧ Below w.heap.size w w' := by
  have HC := hid (fun W tb cb mb (hs : Rsc W ts tv tb cb mb [] 0) hR => firstRule_any ts hty rs hzz tv tb cb mb 0 rv W hs hR (by omega))
  obtain ⟨tp, tn, tc, rfl⟩ := rd_shape hT
  obtain ⟨rp, rn, rc, rfl⟩ := rd_shape hR
  have hmm := @run_makeMap Tryz.prog
  have hb0 : Below w.heap.size w (w.alloc (.cells #[.slice tp tn tc] 22)) := (Below.refl _ _).alloc (Nat.le_refl _) _
  have hb1 : Below w.heap.size w ((w.alloc (.cells #[.slice tp tn tc] 22)).alloc (.map #[] 0)) := hb0.alloc (by simp) _
  have hb2 : Below ((w.alloc (.cells #[.slice tp tn tc] 22)).alloc (.map #[] 0)).heap.size ((w.alloc (.cells #[.slice tp tn tc] 22)).alloc (.map #[] 0)) (((w.alloc (.cells #[.slice tp tn tc] 22)).alloc (.map #[] 0)).alloc (.cells #[.map (some (w.heap.size + 1))] 121)) := (Below.refl _ _).alloc (Nat.le_refl _) _
  have hb3 : Below w.heap.size w (((w.alloc (.cells #[.slice tp tn tc] 22)).alloc (.map #[] 0)).alloc (.cells #[.map (some (w.heap.size + 1))] 121)) := hb1.alloc hb1.size _
  have hnm : Nm ((w.alloc (.cells #[.slice tp tn tc] 22)).alloc (.map #[] 0)) (w.heap.size + 1) [] 0 := by have := nm_made (w.alloc (.cells #[.slice tp tn tc] 22)); simpa using this
  have ht0 : (((w.alloc (.cells #[.slice tp tn tc] 22)).alloc (.map #[] 0)).alloc (.cells #[.map (some (w.heap.size + 1))] 121)).cell? ⟨w.heap.size, 0, none⟩ = some (.slice tp tn tc) := by
    refine cell_of_blk (cs := #[.slice tp tn tc]) (T := 22) ?_ 0
    rw [Below.heap_alloc _ _ _ (by simp; omega), Below.heap_alloc _ _ _ (by simp)]
    exact heap_alloc_new _ _
  have HTS : Hid (Rsc (((w.alloc (.cells #[.slice tp tn tc] 22)).alloc (.map #[] 0)).alloc (.cells #[.map (some (w.heap.size + 1))] 121)) ts (.slice tp tn tc) w.heap.size (w.heap.size + 2) (w.heap.size + 1) [] 0) := ⟨cell_of_blk (heap_3 _ _ _ _) 0, hnm.later hb2, tab_later htk hb3, tab_later htr hb3, ht0, hT.later hb3⟩
  have HRD := hid (hR.later hb3)
  have HB3 := hid hb3
  clear hb0 hb1 hb2 hb3 hT htk htr hn hR hnm ht0
  go_enter Tryz.func28, Tryz.ntmps28
  go_wp2_with fail
  refine (HC.out _ _ _ _ HTS.out HRD.out).mono ?_
  rintro e w3 ⟨rfl, hf3, _⟩
  have HB4 : Hid (Below w.heap.size w w3) := below_fr HB3.out hf3 (by omega)
  clear hf3
  go_wp2_with fail
  go_ret
  exact ⟨rfl, HB4.out⟩
end Go.Proofs.YthndlfdbmljkhaaGreatDoor.Chk
