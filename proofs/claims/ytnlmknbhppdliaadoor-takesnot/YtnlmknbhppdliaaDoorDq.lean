/-
  Rules, one by one, by the program. Does an event come of one of its own type, by the program.
-/
import Derived.Test.YtnlmknbhppdliaaDoorDo
import Derived.Test.YtnlmknbhppdliaaDoorXc
set_option maxHeartbeats 64000000
namespace Go.Proofs.YtnlmknbhppdliaaDoor.Chk
open Go.ChangeShapes Go.WideShapes Go.ChangeAt Go.RowKit Go.Maps
set_option linter.unusedVariables false
set_option linter.unusedSimpArgs false
set_option maxRecDepth 20000
structure Rsc (w : World) (ts : List Tp) (tv : Value) (tb cb mb : Nat) (L : List ByteArray) (n : Nat) : Prop where
  cc : w.cell? ⟨cb, 0, none⟩ = some (.map (some mb))
  nm : Nm w mb L n
  tk : Tab w 0 kpl
  tr : Tab w 1 rll
  tc : w.cell? ⟨tb, 0, none⟩ = some tv
  rt : Rd w (.row 72 2 (ts.map encY)) tv
theorem Rsc.later {w w' : World} {ts : List Tp} {tv : Value} {tb cb mb n : Nat} {L : List ByteArray} (h : Rsc w ts tv tb cb mb L n) (hb : Below w.heap.size w w') : Rsc w' ts tv tb cb mb L n :=
  ⟨(hb.cell (p := ⟨cb, 0, none⟩) (World.block_lt_of_cell? _ _ h.cc)).trans h.cc, h.nm.later hb, zAI h.tk hb, zAI h.tr hb, (hb.cell (p := ⟨tb, 0, none⟩) (World.block_lt_of_cell? _ _ h.tc)).trans h.tc, h.rt.later hb⟩
theorem Rsc.fr {w w' : World} {ts : List Tp} {tv : Value} {tb cb mb n n' : Nat} {L L' : List ByteArray} (h : Rsc w ts tv tb cb mb L n) (hf : Fr (fun i => i = mb) w w') (hk : Nm w' mb L' n') : Rsc w' ts tv tb cb mb L' n' :=
  ⟨zA9 h.nm.isMap hf h.cc, hk, zDH h.nm.isMap hf h.tk (by decide), zDH h.nm.isMap hf h.tr (by decide), zA9 h.nm.isMap hf h.tc, h.rt.fr h.nm.isMap hf⟩
def rk1 (ts : List Tp) (done : List Rl) (x : Rl) : Int := if rck ts x ≠ 0 then rck ts x else tkn (done.map Rl.n) x.n
theorem zGF (ts : List Tp) (done : List Rl) (x : Rl) (r : List Rl) : rks (rck ts) done (x :: r) = if rk1 ts done x ≠ 0 then rk1 ts done x else rks (rck ts) (done ++ [x]) r := by
 rw [rks]
 have e : (done.map Rl.n).any (fun r => seq r x.n) = done.any (fun d => seq d.n x.n) := by rw [List.any_map]; rfl
 unfold rk1 tkn
 rw [e]
 by_cases h1 : rck ts x = 0
 . by_cases h4 : done.any (fun d => seq d.n x.n) = true
   . have e : (if rck ts x ≠ 0 then rck ts x else if done.any (fun d => seq d.n x.n) = true then 7 else 0) = 7 := by rw [if_neg (fun c => c h1), if_pos h4]
     rw [e, if_neg (fun c => c h1), if_pos h4]
     rfl
   . have e : (if rck ts x ≠ 0 then rck ts x else if done.any (fun d => seq d.n x.n) = true then 7 else 0) = 0 := by rw [if_neg (fun c => c h1), if_neg h4]
     rw [e, if_neg (fun c => c h1), if_neg h4]
     rfl
 . simp [h1]
theorem rck_size {ts : List Tp} {x : Rl} (h : rck ts x = 0) : x.n.size ≤ maxLen := by
  unfold rck at h
  split at h
  . rename_i c; exact absurd h c
  . rename_i c; exact zF6 (Classical.byContradiction c)
theorem zDE (ts : List Tp) (hty : ∀ i (hi : i < ts.length), tyk ts[i].n ts[i].f = 0) (done : List Rl) (r : Rl) (hzr : Szr r) (tv u1 u2 u3 u4 u5 : Value) (tb cb mb n : Nat) (w : World) (hs : Rsc w ts tv tb cb mb (done.map Rl.n) n) (h1 : Rd w (.row 47 18 (r.w.map encP)) u1) (h2 : Rd w (.row 47 18 (r.t.map encP)) u2) (h3 : Rd w (.row 87 20 (r.m.map encM)) u3) (h4 : Rd w (.row 127 3 (r.k.map encK)) u4) (h5 : Rd w (.row 31 6 (r.e.v.map encO)) u5) (hn : n ≤ 100) :
   Calls Tryd.prog 35 #[.agg #[.string r.n, u1, u2, u3, u4, .string r.e.ty, u5], .pointer (some ⟨tb, 0, none⟩), .pointer (some ⟨cb, 0, none⟩)] w fun e w' => e = .returned (.int .i64 (rk1 ts done r)) ∧ Fr (fun i => i = mb) w w' ∧ (rk1 ts done r = 0 → Nm w' mb ((done ++ [r]).map Rl.n) (n + 1)) := by
 have HCR := hid (fun W (hW : Below w.heap.size w W) => zD8 ts hty r hzr tv u1 u2 u3 u4 u5 W (hs.rt.later hW) (zAI hs.tk hW) (zAI hs.tr hW) (h1.later hW) (h2.later hW) (h3.later hW) (h4.later hW) (h5.later hW))
 have HTA := hid (fun W (hW : Below w.heap.size w W) (hz : rck ts r = 0) => zF7 mb (done.map Rl.n) n r.n (rck_size hz) hn W (hs.nm.later hW))
 have HCC := hid (fun W (hW : Below w.heap.size w W) => (hs.later hW).cc)
 have HTC := hid (fun W (hW : Below w.heap.size w W) => (hs.later hW).tc)
 have hmp : (done ++ [r]).map Rl.n = done.map Rl.n ++ [r.n] := by rw [List.map_append]; rfl
 rw [hmp]
 unfold rk1
 obtain ⟨E0, hE0⟩ : ∃ E, rck ts r = E := ⟨_, rfl⟩
 rw [hE0] at HCR HTA
 rw [hE0]
 obtain ⟨E3, hE3⟩ : ∃ E, tkn (done.map Rl.n) r.n = E := ⟨_, rfl⟩
 rw [hE3] at HTA
 rw [hE3]
 obtain ⟨tp, tn, tc, rfl⟩ := zAB hs.rt
 obtain ⟨q1, l1, j1, rfl⟩ := zAB h1
 obtain ⟨q2, l2, j2, rfl⟩ := zAB h2
 obtain ⟨q3, l3, j3, rfl⟩ := zAB h3
 obtain ⟨q4, l4, j4, rfl⟩ := zAB h4
 obtain ⟨q5, l5, j5, rfl⟩ := zAB h5
 clear hs h1 h2 h3 h4 h5 hn hmp hE0 hE3 hzr
 obtain ⟨rn, ws, ns, ms, ks, ⟨ety, vs⟩⟩ := r
 simp only at HCR HTA ⊢
 have HT : Hid (BlkT w (w.alloc (.cells [.string rn, .slice q1 l1 j1, .slice q2 l2 j2, .slice q3 l3 j3, .slice q4 l4 j4, .string ety, .slice q5 l5 j5].toArray 55)) [.string rn, .slice q1 l1 j1, .slice q2 l2 j2, .slice q3 l3 j3, .slice q4 l4 j4, .string ety, .slice q5 l5 j5] 55) := BlkT.start w _ _
 have XR : Hid ((w.alloc (.cells [.string rn, .slice q1 l1 j1, .slice q2 l2 j2, .slice q3 l3 j3, .slice q4 l4 j4, .string ety, .slice q5 l5 j5].toArray 55)).rangeAt w.heap.size 0 [.string rn, .slice q1 l1 j1, .slice q2 l2 j2, .slice q3 l3 j3, .slice q4 l4 j4, .string ety, .slice q5 l5 j5]) := zAJ HT.out.b1
 have c5 : (w.alloc (.cells #[.string rn, .slice q1 l1 j1, .slice q2 l2 j2, .slice q3 l3 j3, .slice q4 l4 j4, .string ety, .slice q5 l5 j5] 55)).cell? ⟨tb, 0, none⟩ = some (.slice tp tn tc) := HTC.out _ HT.out.bel
 by_cases hz : E0 = 0
 . have HZ := hid hz
   rw [if_neg (fun c => c hz)]
   subst hz
   go_enter Tryd.func35, Tryd.ntmps35
   go_wp2_with ((with_reducible refine gLq ?_); refine wpList_load_mid (by rfl) 55 _ (by rfl) w.heap.size 0 (by rfl) [.string rn, .slice q1 l1 j1, .slice q2 l2 j2, .slice q3 l3 j3, .slice q4 l4 j4, .string ety, .slice q5 l5 j5] _ XR.out Tryd.underlying55 rfl (by kernel_rfl) ?_)
   refine (HCR.out _ HT.out.bel).mono ?_
   rintro e w1 ⟨rfl, hb1⟩
   have HT1 : Hid _ := HT.out.next hb1
   clear hb1
   clear XR c5
   have c0 : w1.cell? ⟨w.heap.size, 0, none⟩ = some (.string rn) := HT1.out.c 0
   have c3 : w1.cell? ⟨cb, 0, none⟩ = some (.map (some mb)) := HCC.out _ HT1.out.bel
   go_wp2_with fail
   refine (HTA.out _ HT1.out.bel HZ.out).mono ?_
   rintro e w3 ⟨rfl, hf3, hk3⟩
   have HF3 := hid ((Fr.of_below HT1.out.bel).trans hf3)
   have HK3 := hid hk3
   clear hf3 hk3
   go_wp2_with fail
   go_ret
   exact ⟨rfl, HF3.out, HK3.out⟩
 . rw [if_pos hz]
   have d9 : (E0 != 0) = true := by simpa using hz
   have HZ := hid hz
   clear hz
   go_enter Tryd.func35, Tryd.ntmps35
   go_wp2_with ((with_reducible refine gLq ?_); refine wpList_load_mid (by rfl) 55 _ (by rfl) w.heap.size 0 (by rfl) [.string rn, .slice q1 l1 j1, .slice q2 l2 j2, .slice q3 l3 j3, .slice q4 l4 j4, .string ety, .slice q5 l5 j5] _ XR.out Tryd.underlying55 rfl (by kernel_rfl) ?_)
   refine (HCR.out _ HT.out.bel).mono ?_
   rintro e w1 ⟨rfl, hb1⟩
   have HT1 : Hid _ := HT.out.next hb1
   clear hb1
   go_wp2_with fail
   go_ret
   exact ⟨rfl, Fr.of_below HT1.out.bel, fun c => absurd c HZ.out⟩
theorem zDV (ts : List Tp) (hty : ∀ i (hi : i < ts.length), tyk ts[i].n ts[i].f = 0) (rs : List Rl) (hzz : ∀ r, r ∈ rs → Szr r) (tv : Value) (tb cb mb n0 : Nat) (lv : Value) (w : World) (hs : Rsc w ts tv tb cb mb [] n0) (hR : Rd w (.row 55 7 (rs.map encR)) lv) (hn : n0 + rs.length ≤ 100) :
  Calls Tryd.prog 34 #[lv, .func (.func 35) #[] #[.pointer (some ⟨tb, 0, none⟩), .pointer (some ⟨cb, 0, none⟩)]] w fun e w' => e = .returned (.int .i64 (rks (rck ts) [] rs)) ∧ Fr (fun i => i = mb) w w' ∧ (rks (rck ts) [] rs = 0 → Rsc w' ts tv tb cb mb ((rs.take (rs.length)).map Rl.n) (n0 + (rs.length))) := by
 have HS := hid hs
 have HL := hid hR
 have HNN := hid hn
 obtain ⟨p, cap, rfl, hmx, _⟩ := zAG lenR hR
 obtain ⟨n, hnl⟩ : ∃ n, rs.length = n := ⟨_, rfl⟩
 have HN := hid hnl
 obtain ⟨R, hRR⟩ : ∃ R, rks (rck ts) [] rs = R := ⟨_, rfl⟩
 have HR := hid hRR
 rw [hRR]
 rw [hnl] at hmx HL ⊢
 clear hR hs hn hnl hRR
 go_enter Tryd.func34, Tryd.ntmps34
 go_wp2_with fail
 go_loopg [10] (n + 1) (fun gg i wr => ∃ k : Nat, k ≤ n ∧ gg = n + 1 - k ∧ i = .int .i64 (k : Nat) ∧ rks (rck ts) (rs.take k) (rs.drop k) = R ∧ Fr (fun i => i = mb) w wr ∧ Rsc wr ts tv tb cb mb ((rs.take (k)).map Rl.n) (n0 + (k)))
 case atStart => exact ⟨0, by omega, by omega, rfl, by simpa using HR.out, Fr.refl _ _, by simpa using HS.out⟩
 case round =>
  obtain ⟨k, hk, rfl, rfl, hev, hF, hI⟩ := hrel
  have HF := hid hF
  have HI := hid hI
  by_cases hlt : k < n
  . have hkc : k < rs.length := by have := HN.out; omega
    obtain ⟨p', cap', e0, _, hat⟩ := zAG lenR (HL.out.fr HS.out.nm.isMap hF)
    simp only [Value.slice.injEq] at e0
    obtain ⟨rfl, hx0, rfl⟩ := e0
    obtain ⟨g, off, rfl, hrd⟩ := hat (by omega)
    obtain ⟨A, r1, o1⟩ := hrd wr (Below.refl _ _) k hkc
    obtain ⟨v1, v2, v3, v4, v5, z1, o1', o2, o3, o4, o5⟩ := rdR o1
    obtain ⟨a1, a2, a3, hu1⟩ := zAB o1'
    obtain ⟨b1, b2, b3, hu2⟩ := zAB o2
    obtain ⟨d1, d2, d3, hu3⟩ := zAB o3
    obtain ⟨f1, f2, f3, hu4⟩ := zAB o4
    obtain ⟨g1, g2, g3, hu5⟩ := zAB o5
    have hAz : A.length = 7 := o1.1.symm
    rw [List.drop_eq_getElem_cons hkc, zGF] at hev
    have htk : rs.take (k + 1) = rs.take k ++ [rs[k]] := List.take_succ_eq_append_getElem hkc
    have hcall := fun W (hW : Below wr.heap.size wr W) => zDE ts hty (rs.take k) rs[k] (hzz _ (List.getElem_mem hkc)) tv v1 v2 v3 v4 v5 tb cb mb (n0 + k) W (hI.later hW) (o1'.later hW) (o2.later hW) (o3.later hW) (o4.later hW) (o5.later hW) (by have := HNN.out; omega)
    rw [← htk] at hcall
    obtain ⟨e9, he9⟩ : ∃ e9, rk1 ts (rs.take k) rs[k] = e9 := ⟨_, rfl⟩
    rw [he9] at hcall hev
    have HCM : Hid (∀ W, Below wr.heap.size wr W → Calls Tryd.prog 35 #[.agg A.toArray, .pointer (some ⟨tb, 0, none⟩), .pointer (some ⟨cb, 0, none⟩)] W (fun e w' => e = .returned (.int .i64 e9) ∧ Fr (fun i => i = mb) W w' ∧ (e9 = 0 → Nm w' mb ((rs.take (k + 1)).map Rl.n) (n0 + k + 1)))) := fun W hW => by rw [z1]; exact hcall W hW
    have HAO : Hid (A.all (·.oneCell') = true) := by show _ = _; rw [z1, hu1, hu2, hu3, hu4, hu5]; rfl
    have ZA : Hid ((Tryd.prog.info? 55).map (·.size) = some A.length) := by show _ = _; rw [hAz]; kernel_rfl
    have HAL := hid hAz
    have X1_ := hid r1
    have HEV := hid hev
    have HTK := hid htk
    have i1 : (0 : Int) ≤ (k : Int) := by omega
    have i2 : (k : Int) < (n : Int) := by omega
    clear hF hI hat hrd r1 o1 hAz hev htk hx0 hcall he9 z1 hu1 hu2 hu3 hu4 hu5 o1' o2 o3 o4 o5
    go_wp2_with (first
      | ((with_reducible refine gLq ?_); refine wpList_load_mid (by rfl) 55 _ (by rfl) g (off + k * 7) (by rfl) A _ X1_.out Tryd.underlying55 rfl ZA.out ?_)
      | ((with_reducible refine gSq ?_); refine zBA (by rfl) 55 _ _ (by rfl) wr.heap.size 0 _ 55 (.agg A.toArray) A (by rfl) (by rfl) (by rfl) (heap_alloc_new _ _) (by have := HAL.out; simp; omega) ZA.out HAO.out ?_; intro w1 hblk hfr; rw [zAY (by rw [HAL.out]; rfl)] at hblk; have XB : Hid (w1.rangeAt wr.heap.size 0 A) := zAJ hblk; have HBW : Hid (Below wr.heap.size wr w1) := zAH hfr; clear hblk hfr)
      | ((with_reducible refine gLq ?_); refine wpList_load_mid (by rfl) 55 _ (by rfl) wr.heap.size 0 (by rfl) A _ XB.out Tryd.underlying55 rfl ZA.out ?_))
    refine (HCM.out _ HBW.out).mono ?_
    rintro e w2 ⟨rfl, hf2, hk2⟩
    have HF2 : Hid (Fr (fun i => i = mb) w w2) := HF.out.trans ((Fr.of_below HBW.out).trans hf2)
    have HK2 := hid hk2
    have HS1 := hid ((HI.out.later HBW.out))
    have HFR := hid hf2
    clear hk2 hf2
    by_cases hz : e9 = 0
    . have HE2 := HEV.out
      rw [if_neg (fun c => c hz)] at HE2
      have HE3 := hid HE2
      have HI2 := hid (show Rsc w2 ts tv tb cb mb ((rs.take (k + 1)).map Rl.n) (n0 + (k + 1)) from HS1.out.fr HFR.out (HK2.out hz))
      subst hz
      clear HE2 HK2 HS1 HFR
      go_wp2_with fail
      go_roundg (n + 1 - (k + 1))
      case rel => exact ⟨k + 1, by omega, rfl, by go_num, by rw [HTK.out]; exact HE3.out, HF2.out, HI2.out⟩
      case measure => omega
    . have HE2 : Hid (R = e9) := by have h := HEV.out; rw [if_pos hz] at h; exact h.symm
      have d9 : (e9 != 0) = true := by simpa using hz
      have HZ := hid hz
      clear hz HK2 HS1 HFR
      go_wp2_with fail
      go_ret
      exact ⟨zAC HE2.out.symm, HF2.out, fun c => absurd (HE2.out.symm.trans c) HZ.out⟩
  . obtain rfl : k = n := by omega
    have hw : rs.take k = rs := List.take_of_length_le (by have := HN.out; omega)
    have hd : rs.drop k = [] := List.drop_of_length_le (by have := HN.out; omega)
    rw [hd, rks] at hev
    have HE2 : Hid (R = 0) := hev.symm
    have HI2 := hid hI
    clear hev hd hF hI hw
    go_wp2_with fail
    go_ret
    exact ⟨zAC HE2.out.symm, HF.out, fun _ => HI2.out⟩
theorem heap_3 (w : World) (a b c : Obj) : (((w.alloc a).alloc b).alloc c).heap[w.heap.size + 2]? = some c := by
  have := heap_alloc_new ((w.alloc a).alloc b) c
  simpa using this
theorem zDB (ts : List Tp) (hty : ∀ i (hi : i < ts.length), tyk ts[i].n ts[i].f = 0) (rs : List Rl) (hzz : ∀ r, r ∈ rs → Szr r) (tv rv : Value) (w : World) (hT : Rd w (.row 72 2 (ts.map encY)) tv) (hR : Rd w (.row 55 7 (rs.map encR)) rv) (htk : Tab w 0 kpl) (htr : Tab w 1 rll) (hn : rs.length ≤ 90) :
  Calls Tryd.prog 21 #[rv, tv] w fun e w' => e = .returned (.int .i64 (rks (rck ts) [] rs)) ∧ Below w.heap.size w w' := by
 have HC := hid (fun W tb cb mb (hs : Rsc W ts tv tb cb mb [] 0) hR => zDV ts hty rs hzz tv tb cb mb 0 rv W hs hR (by omega))
 obtain ⟨tp, tn, tc, rfl⟩ := zAB hT
 obtain ⟨rp, rn, rc, rfl⟩ := zAB hR
 have hmm := @run_makeMap Tryd.prog
 have hb0 : Below w.heap.size w (w.alloc (.cells #[.slice tp tn tc] 43)) := (Below.refl _ _).alloc (Nat.le_refl _) _
 have hb1 : Below w.heap.size w ((w.alloc (.cells #[.slice tp tn tc] 43)).alloc (.map #[] 0)) := hb0.alloc (by simp) _
 have hb2 : Below ((w.alloc (.cells #[.slice tp tn tc] 43)).alloc (.map #[] 0)).heap.size ((w.alloc (.cells #[.slice tp tn tc] 43)).alloc (.map #[] 0)) (((w.alloc (.cells #[.slice tp tn tc] 43)).alloc (.map #[] 0)).alloc (.cells #[.map (some (w.heap.size + 1))] 93)) := (Below.refl _ _).alloc (Nat.le_refl _) _
 have hb3 : Below w.heap.size w (((w.alloc (.cells #[.slice tp tn tc] 43)).alloc (.map #[] 0)).alloc (.cells #[.map (some (w.heap.size + 1))] 93)) := hb1.alloc hb1.size _
 have hnm : Nm ((w.alloc (.cells #[.slice tp tn tc] 43)).alloc (.map #[] 0)) (w.heap.size + 1) [] 0 := by have := zIG (w.alloc (.cells #[.slice tp tn tc] 43)); simpa using this
 have ht0 : (((w.alloc (.cells #[.slice tp tn tc] 43)).alloc (.map #[] 0)).alloc (.cells #[.map (some (w.heap.size + 1))] 93)).cell? ⟨w.heap.size, 0, none⟩ = some (.slice tp tn tc) := by
  refine zAD (cs := #[.slice tp tn tc]) (T := 43) ?_ 0
  rw [Below.heap_alloc _ _ _ (by simp; omega), Below.heap_alloc _ _ _ (by simp)]
  exact heap_alloc_new _ _
 have HTS : Hid (Rsc (((w.alloc (.cells #[.slice tp tn tc] 43)).alloc (.map #[] 0)).alloc (.cells #[.map (some (w.heap.size + 1))] 93)) ts (.slice tp tn tc) w.heap.size (w.heap.size + 2) (w.heap.size + 1) [] 0) := ⟨zAD (heap_3 _ _ _ _) 0, hnm.later hb2, zAI htk hb3, zAI htr hb3, ht0, hT.later hb3⟩
 have HRD := hid (hR.later hb3)
 have HB3 := hid hb3
 clear hb0 hb1 hb2 hb3 hT htk htr hn hR hnm ht0
 go_enter Tryd.func21, Tryd.ntmps21
 go_wp2_with fail
 refine (HC.out _ _ _ _ HTS.out HRD.out).mono ?_
 rintro e w3 ⟨rfl, hf3, _⟩
 have HB4 : Hid (Below w.heap.size w w3) := zAO HB3.out hf3 (by omega)
 clear hf3
 go_wp2_with fail
 go_ret
 exact ⟨rfl, HB4.out⟩
theorem step_st {P : Program} {ops : Array Oper} {o : Oper} {a : Act} {w : World} {K : Act → World → Prop} {Q : Exit → Act → World → Prop} {E : Prop} (hw : Region.wanted o (yielded ops a.tmps) = true) (ty : TypeId) (x y : Operand) (ho : o.op = .store ty x y)
  (b f : Nat) (cs : List Value) (T : TypeId) (v : Value) (vs : List Value) (hx : a.eval x = .pointer (some ⟨b, f, none⟩)) (hy : a.eval y = v) (hv : v.cells = vs.toArray) (hb : w.heap[b]? = some (.cells cs.toArray T (0, 0)))
  (hl : f + vs.length ≤ cs.length) (hi : (P.info? ty).map (·.size) = some vs.length) (h1 : vs.all (·.oneCell') = true)
  (h : ∀ w', w'.heap[b]? = some (.cells (ovr cs f vs).toArray T (0, 0)) → Fr (fun i => i = b) w w' → K (a.put o.dst undef) w') :
  if Region.wanted o (yielded ops a.tmps) = true then Oper.wp P o a w K Q else E := by
 rw [if_pos hw]
 unfold Oper.wp execOp
 simp only [ho, hx, hy, Instr.storeAt, Instr.sureAddr, Sem.run_bind, Sem.run_pure, Result.andThen_ok, zFU w b f ty v vs.toArray hv (zB8 hb f _ (by simpa using hl)) (by simpa using hi) (all_oneCell_toArray (List.all_eq_true.1 h1))]
 exact h _ (zB6 vs f cs w hb hl) ((Fr.refl (fun i => i = b) w).setCells (.inl rfl))
/-! The matrix in memory. -/
def mkM (M : Nat → Nat → Bool) : List Value := (List.range 36).map fun q => .bool (M (q / 6) (q % 6))
theorem zCC (M : Nat → Nat → Bool) : (mkM M).length = 36 := by simp [mkM]
theorem zFJ (M : Nat → Nat → Bool) {i j : Nat} (hi : i < 6) (hj : j < 6) : (mkM M)[i * 6 + j]? = some (.bool (M i j)) := by
  unfold mkM
  rw [List.getElem?_map, List.getElem?_range (by omega)]
  simp only [Option.map_some]
  rw [show (i * 6 + j) / 6 = i by omega, show (i * 6 + j) % 6 = j by omega]
theorem zHV {M N : Nat → Nat → Bool} (h : ∀ i j, i < 6 → j < 6 → M i j = N i j) : mkM M = mkM N := by
  unfold mkM
  refine List.map_congr_left fun q hq => ?_
  have := List.mem_range.1 hq
  rw [h _ _ (by omega) (by omega)]
theorem ovr_set (cs : List Value) (o : Nat) (v : Value) (h : o < cs.length) : ovr cs o [v] = cs.set o v := by
  rw [List.set_eq_take_append_cons_drop, if_pos h]
  rfl
def setM (M : Nat → Nat → Bool) (i j : Nat) : Nat → Nat → Bool := fun a b => if a = i ∧ b = j then true else M a b
theorem zH4 (M : Nat → Nat → Bool) {i j : Nat} (hi : i < 6) (hj : j < 6) : ovr (mkM M) (i * 6 + j) [.bool true] = mkM (setM M i j) := by
 rw [ovr_set _ _ _ (by rw [zCC]; omega)]
 refine List.ext_getElem? fun q => ?_
 by_cases hq : q < 36
 . have hq1 : q / 6 < 6 := by omega
   have hq2 : q % 6 < 6 := by omega
   have e : q = q / 6 * 6 + q % 6 := by omega
   have g1 := zFJ M hq1 hq2
   have g2 := zFJ (setM M i j) hq1 hq2
   rw [← e] at g1 g2
   rw [g2, List.getElem?_set]
   by_cases c : i * 6 + j = q
   . rw [if_pos c, if_pos (by rw [zCC]; omega)]
     have : q / 6 = i ∧ q % 6 = j := by omega
     simp [setM, this]
   . rw [if_neg c, g1]
     have : ¬ (q / 6 = i ∧ q % 6 = j) := by omega
     simp [setM, this]
 . rw [List.getElem?_eq_none (by rw [List.length_set, zCC]; omega), List.getElem?_eq_none (by rw [zCC]; omega)]
structure Esc (w wr : World) (fb mb : Nat) (tv : Value) (M : Nat → Nat → Bool) : Prop where
  bel : Below w.heap.size w wr
  fc : wr.heap[fb]? = some (.cells [tv].toArray 43 (0, 0))
  mt : wr.heap[mb]? = some (.cells (mkM M).toArray 106 (0, 0))
  ne : fb ≠ mb
  lo : w.heap.size ≤ mb
theorem Esc.later {w wr W : World} {fb mb : Nat} {tv : Value} {M : Nat → Nat → Bool} (h : Esc w wr fb mb tv M) (hb : Below wr.heap.size wr W) : Esc w W fb mb tv M :=
  ⟨zAA h.bel hb h.bel.size, (hb.block _ (zAE h.fc)).trans h.fc, (hb.block _ (zAE h.mt)).trans h.mt, h.ne, h.lo⟩
theorem Esc.store {w wr W : World} {fb mb : Nat} {tv : Value} {M N : Nat → Nat → Bool} (h : Esc w wr fb mb tv M) (hf : Fr (fun i => i = mb) wr W) (hm : W.heap[mb]? = some (.cells (mkM N).toArray 106 (0, 0))) : Esc w W fb mb tv N :=
  ⟨zAO h.bel hf h.lo, (hf.block _ (zAE h.fc) h.ne).trans h.fc, hm, h.ne, h.lo⟩
theorem Esc.congr {w wr : World} {fb mb : Nat} {tv : Value} {M N : Nat → Nat → Bool} (h : Esc w wr fb mb tv M) (hc : ∀ i j, i < 6 → j < 6 → M i j = N i j) : Esc w wr fb mb tv N :=
  ⟨h.bel, h.fc, by rw [← zHV hc]; exact h.mt, h.ne, h.lo⟩
theorem Esc.cell {w wr : World} {fb mb : Nat} {tv : Value} {M : Nat → Nat → Bool} (h : Esc w wr fb mb tv M) {i j : Nat} (hi : i < 6) (hj : j < 6) : wr.cell? ⟨mb, i * 6 + j, none⟩ = some (.bool (M i j)) := by
  rw [zAD h.mt, List.getElem?_toArray]
  exact zFJ M hi hj
/-! Ways by one type more, cell by cell. -/
def stW (M : Nat → Nat → Bool) (b f t : Nat) : Nat → Nat → Bool := fun i j => if i < f ∨ (i = f ∧ j < t) then byy M b i j else M i j
theorem byy_col (M : Nat → Nat → Bool) (b i : Nat) : byy M b i b = M i b := by unfold byy; cases M i b <;> simp
theorem byy_row (M : Nat → Nat → Bool) (b j : Nat) : byy M b b j = M b j := by unfold byy; cases M b j <;> simp
theorem stW_fb (M : Nat → Nat → Bool) (b f t : Nat) : stW M b f t f b = M f b := by unfold stW; rw [byy_col]; simp
theorem stW_bt (M : Nat → Nat → Bool) (b f t : Nat) : stW M b f t b t = M b t := by unfold stW; rw [byy_row]; simp
theorem stW_ft (M : Nat → Nat → Bool) (b f t : Nat) : stW M b f t f t = M f t := by unfold stW; rw [if_neg (by omega)]
theorem stW_next (M : Nat → Nat → Bool) (b f t : Nat) (h : (M f b && M b t) = true) : ∀ i j, i < 6 → j < 6 → setM (stW M b f t) f t i j = stW M b f (t + 1) i j := fun i j _ _ => by
 unfold setM
 by_cases c : i = f ∧ j = t
 . obtain ⟨rfl, rfl⟩ := c
   rw [if_pos ⟨rfl, rfl⟩]
   unfold stW
   rw [if_pos (by omega)]
   unfold byy
   rw [h, Bool.or_true]
 . rw [if_neg c]
   unfold stW
   by_cases d : i < f ∨ (i = f ∧ j < t)
   . rw [if_pos d, if_pos (by omega)]
   . rw [if_neg d, if_neg (by omega)]
theorem zEG (M : Nat → Nat → Bool) (b f t : Nat) (h : (M f b && M b t) = false) : ∀ i j, i < 6 → j < 6 → stW M b f t i j = stW M b f (t + 1) i j := fun i j _ _ => by
 by_cases c : i = f ∧ j = t
 . obtain ⟨rfl, rfl⟩ := c
   rw [stW_ft]
   unfold stW
   rw [if_pos (by omega)]
   unfold byy
   rw [h, Bool.or_false]
 . unfold stW
   by_cases d : i < f ∨ (i = f ∧ j < t)
   . rw [if_pos d, if_pos (by omega)]
   . rw [if_neg d, if_neg (by omega)]
theorem stW_row (M : Nat → Nat → Bool) (b f : Nat) : ∀ i j, i < 6 → j < 6 → stW M b f 6 i j = stW M b (f + 1) 0 i j := fun i j _ hj => by
  unfold stW
  by_cases d : i < f ∨ (i = f ∧ j < 6)
  . rw [if_pos d, if_pos (by omega)]
  . rw [if_neg d, if_neg (by omega)]
theorem stW_end (M : Nat → Nat → Bool) (b : Nat) : ∀ i j, i < 6 → j < 6 → stW (wsh M b) b 6 0 i j = wsh M (b + 1) i j := fun i j hi _ => by
  unfold stW
  rw [if_pos (by omega), wsh]
theorem stW_zero (M : Nat → Nat → Bool) (b : Nat) : ∀ i j, i < 6 → j < 6 → M i j = stW M b 0 0 i j := fun i j _ _ => by
  unfold stW
  rw [if_neg (by omega)]
def edb (ts : List Tp) (x : Rl) (i j : Nat) : Bool := !(emp x.e.ty) && ((x.w ++ x.t ++ x.m.map Mn.p).any (fun p => tyq ts p.ty == (i : Int)) && tyq ts x.e.ty == (j : Int))
theorem edb_iff (ts : List Tp) (rs : List Rl) (i j : Nat) : (rs.any fun x => edb ts x i j) = true ↔ Edg ts rs i j := by
 rw [List.any_eq_true]
 constructor
 . rintro ⟨x, hx, h⟩
   unfold edb at h
   rw [Bool.and_eq_true, Bool.and_eq_true, List.any_eq_true] at h
   obtain ⟨h1, ⟨p, hp, h2⟩, h3⟩ := h
   exact ⟨x, hx, by simpa using h1, ⟨p, hp, by simpa using h2⟩, by simpa using h3⟩
 . rintro ⟨x, hx, h1, ⟨p, hp, h2⟩, h3⟩
   refine ⟨x, hx, ?_⟩
   unfold edb
   rw [Bool.and_eq_true, Bool.and_eq_true, List.any_eq_true]
   exact ⟨by simpa using h1, ⟨p, hp, by simpa using h2⟩, by simpa using h3⟩
theorem zGK {w w' : World} {g o : Nat} {l : List Value} (h : w.rangeAt g o l) (hb : w'.heap[g]? = w.heap[g]?) : w'.rangeAt g o l := fun j x hx => (World.cell?_of_block (a := ⟨g, o + j, none⟩) hb).trans (h j x hx)
def mq (M : Nat → Nat → Bool) (ts : List Tp) (ps : List Pt) (e : ByteArray) (q : Nat) : Nat → Nat → Bool := fun i j => M i j || ((ps.take q).any (fun p => tyq ts p.ty == (i : Int)) && tyq ts e == (j : Int))
theorem mq_step (M : Nat → Nat → Bool) (ts : List Tp) (ps : List Pt) (e : ByteArray) (q : Nat) (hq : q < ps.length) {i0 j0 : Nat} (h1 : tyq ts ps[q].ty = (i0 : Int)) (h2 : tyq ts e = (j0 : Int)) (i j : Nat) : setM (mq M ts ps e q) i0 j0 i j = mq M ts ps e (q + 1) i j := by
 unfold setM mq
 rw [List.take_succ_eq_append_getElem hq, List.any_append, h2]
 simp only [List.any_cons, List.any_nil, h1, Bool.or_false]
 by_cases c : i = i0
 . by_cases d : j = j0
   . subst c; subst d
     simp
   . have d' : ((j0 : Int) == (j : Int)) = false := by simp; omega
     rw [if_neg (fun x => d x.2), d']
     simp
 . have c' : ((i0 : Int) == (i : Int)) = false := by simp; omega
   rw [if_neg (fun x => c x.1), c', Bool.or_false]
theorem mq_zero (M : Nat → Nat → Bool) (ts : List Tp) (ps : List Pt) (e : ByteArray) (i j : Nat) : M i j = mq M ts ps e 0 i j := by simp [mq]
def mk (ts : List Tp) (rs : List Rl) (k : Nat) : Nat → Nat → Bool := fun i j => (rs.take k).any fun x => edb ts x i j
theorem mk_step (ts : List Tp) (rs : List Rl) (k : Nat) (hk : k < rs.length) (he : emp rs[k].e.ty = false) (i j : Nat) : mq (mk ts rs k) ts (rs[k].w ++ rs[k].t ++ rs[k].m.map Mn.p) rs[k].e.ty (rs[k].w ++ rs[k].t ++ rs[k].m.map Mn.p).length i j = mk ts rs (k + 1) i j := by
 have e2 : edb ts rs[k] i j = ((rs[k].w ++ rs[k].t ++ rs[k].m.map Mn.p).any (fun p => tyq ts p.ty == (i : Int)) && tyq ts rs[k].e.ty == (j : Int)) := by unfold edb; rw [he]; rfl
 have e : ((rs.take (k + 1)).any fun x => edb ts x i j) = ((rs.take k).any (fun x => edb ts x i j) || edb ts rs[k] i j) := by
  rw [List.take_succ_eq_append_getElem hk, List.any_append]
  simp only [List.any_cons, List.any_nil, Bool.or_false]
 unfold mq mk
 rw [List.take_length, e, e2]
theorem mk_skip (ts : List Tp) (rs : List Rl) (k : Nat) (hk : k < rs.length) (he : emp rs[k].e.ty = true) (i j : Nat) : mk ts rs k i j = mk ts rs (k + 1) i j := by
  unfold mk
  rw [List.take_succ_eq_append_getElem hk, List.any_append]
  simp [edb, he]
structure Bk2 (W : World) (c b : Nat) (A2 A : List Value) : Prop where
  p : W.heap[c]? = some (.cells A2.toArray 47 (0, 0))
  r : W.heap[b]? = some (.cells A.toArray 55 (0, 0))
theorem Bk2.later {w W : World} {c b : Nat} {A2 A : List Value} (h : Bk2 w c b A2 A) (hb : Below w.heap.size w W) : Bk2 W c b A2 A := ⟨(hb.block _ (zAE h.p)).trans h.p, (hb.block _ (zAE h.r)).trans h.r⟩
theorem Bk2.fr {w W : World} {c b mb : Nat} {A2 A : List Value} (h : Bk2 w c b A2 A) (hf : Fr (fun i => i = mb) w W) (h1 : c ≠ mb) (h2 : b ≠ mb) : Bk2 W c b A2 A := ⟨(hf.block _ (zAE h.p) h1).trans h.p, (hf.block _ (zAE h.r) h2).trans h.r⟩
theorem Bk2.cells {W : World} {c b : Nat} {A2 A : List Value} {pt et : ByteArray} (h : Bk2 W c b A2 A) (a1 : A2[1]? = some (.string pt)) (a5 : A[5]? = some (.string et)) : W.cell? ⟨c, 1, none⟩ = some (.string pt) ∧ W.cell? ⟨b, 5, none⟩ = some (.string et) := by
  rw [zAD h.p, zAD h.r, List.getElem?_toArray, List.getElem?_toArray]
  exact ⟨a1, a5⟩
theorem zD0 (ts : List Tp) (rs : List Rl) (hok : ∀ x, x ∈ rs → Rok ts x) (hl : ts.length ≤ 6) (hz : ∀ x, x ∈ rs → x.w.length ≤ 100 ∧ x.t.length ≤ 100 ∧ x.m.length ≤ 100) (tv rv : Value) (w : World) (hT : Rd w (.row 72 2 (ts.map encY)) tv) (hR : Rd w (.row 55 7 (rs.map encR)) rv) (R : Bool) (hRR : edl (fun i j => rs.any fun x => edb ts x i j) = R) :
  Calls Tryd.prog 22 #[.agg #[tv, rv]] w fun e w' => e = .returned (.bool R) ∧ Below w.heap.size w w' := by
 obtain ⟨tp, tn, tc, rfl⟩ := zAB hT
 obtain ⟨rp, rc, rfl, hmx, _⟩ := zAG lenR hR
 have HTT := hid hT
 have HRD := hid hR
 have HOK := hid hok
 have HZ := hid hz
 have HLT := hid hl
 have HRR := hid hRR
 obtain ⟨n, hn⟩ : ∃ n, rs.length = n := ⟨_, rfl⟩
 have HN := hid hn
 rw [hn] at HRD hmx ⊢
 have HFD := hid (fun W => zDI tp tn tc W)
 have HFN := hid (fun (nm : ByteArray) (i : Nat) (hi : tyq ts nm = (i : Int)) W (hW : Below w.heap.size w W) (hc : W.cell? ⟨w.heap.size + 1, 0, none⟩ = some (.slice tp tn tc)) => (zBH ts (.slice tp tn tc) nm (w.heap.size + 1) W (hT.later hW) hc).mono (fun e w' h => (⟨by rw [← hi]; exact h.1, h.2⟩ : e = .returned (.int .i64 (i : Int)) ∧ Below W.heap.size W w')))
 clear hT hR hok hz hl hRR hn
 go_enter Tryd.func22, Tryd.ntmps22
 go_wp2_with fail
 refine (HFD.out _).mono ?_
 rintro e w2 ⟨rfl, hw2⟩
 subst hw2
 go_wp2_with fail
 go_loopg [19] (n + 1) (fun gg i wr => ∃ k : Nat, k ≤ n ∧ gg = n + 1 - k ∧ i = .int .i64 (k : Nat) ∧ Esc w wr (w.heap.size + 1) (w.heap.size + 1 + 1) (.slice tp tn tc) (mk ts rs k))
 case atStart =>
  refine ⟨0, by omega, by omega, rfl, ?_⟩
  have hb0 : Below w.heap.size w (w.alloc (.cells #[.slice tp tn tc, .slice rp n rc] 58)) := (Below.refl _ _).alloc (Nat.le_refl _) _
  have hb1 := hb0.alloc hb0.size (.cells #[.slice tp tn tc] 43)
  have hb2 := hb1.alloc hb1.size (.cells (mkM (mk ts rs 0)).toArray 106)
  have hm : (mkM (mk ts rs 0)).toArray = Array.replicate 36 (.bool false) := by rw [show mk ts rs 0 = fun _ _ => false by funext i j; simp [mk]]; rfl
  refine ⟨hb2, ?_, ?_, by omega, by omega⟩
  . rw [Below.heap_alloc _ _ _ (by simp)]
    exact zC0 _ _ _
  . exact heap_3 _ _ _ _
 case round =>
  obtain ⟨k, hk, rfl, rfl, hE⟩ := hrel
  have HE := hid hE
  by_cases hlt : k < n
  . have hkc : k < rs.length := by have := HN.out; omega
    obtain ⟨p', cap', e0, _, hat⟩ := zAG lenR (HRD.out.later hE.bel)
    simp only [Value.slice.injEq] at e0
    obtain ⟨e01, hx0, e02⟩ := e0
    obtain ⟨g, off, e03, hrd⟩ := hat (by omega)
    obtain ⟨A, r1, o1⟩ := hrd wr (Below.refl _ _) k hkc
    obtain ⟨v1, v2, v3, v4, v5, z1, o1', o2, o3, o4, o5⟩ := rdR o1
    obtain ⟨a1, a2, a3, hu1⟩ := zAB o1'
    obtain ⟨b1, b2, b3, hu2⟩ := zAB o2
    obtain ⟨d1, d2, d3, hu3⟩ := zAB o3
    obtain ⟨f1, f2, f3, hu4⟩ := zAB o4
    obtain ⟨g1, g2, g3, hu5⟩ := zAB o5
    obtain rfl : rp = some ⟨g, off, none⟩ := e01.trans e03
    have hAz : A.length = 7 := o1.1.symm
    have hzk := HZ.out _ (List.getElem_mem hkc)
    have HPT : Hid (∀ W, Below wr.heap.size wr W → Calls Tryd.prog 38 #[.agg A.toArray] W (fun e w' => ∃ v, e = .returned v ∧ Rd w' (.row 47 18 ((rs[k].w ++ rs[k].t ++ rs[k].m.map Mn.p).map encP)) v ∧ Below W.heap.size W w' ∧ ∀ i, v.ownBlock = some i → W.heap.size ≤ i)) := fun W hW => by
     rw [z1]
     exact zEP rs[k] v1 v2 v3 v4 v5 W (o1'.later hW) (o2.later hW) (o3.later hW) (o4.later hW) (o5.later hW) hzk.1 hzk.2.1 hzk.2.2
    have HAO : Hid (A.all (·.oneCell') = true) := by show _ = _; rw [z1, hu1, hu2, hu3, hu4, hu5]; rfl
    have ZA : Hid ((Tryd.prog.info? 55).map (·.size) = some A.length) := by show _ = _; rw [hAz]; kernel_rfl
    obtain ⟨ety, hety⟩ : ∃ x, rs[k].e.ty = x := ⟨_, rfl⟩
    have HET := hid hety
    have HA5 : Hid (A[5]? = some (.string ety)) := by show _ = _; rw [z1, ← hety]; rfl
    have HAL := hid hAz
    have X1_ := hid r1
    have i1 : (0 : Int) ≤ (k : Int) := by omega
    have i2 : (k : Int) < (n : Int) := by omega
    clear hE hat hrd r1 o1 hAz hx0 z1 hu1 hu2 hu3 hu4 hu5 o1' o2 o3 o4 o5 e01 e02 e03 hety hzk
    cases hem : emp ety with
    | true =>
     have q0 := zC4 hem
     have HSK := hid (fun i j => mk_skip ts rs k hkc (by rw [HET.out]; exact hem) i j)
     clear hem
     go_wp2_with (first
       | ((with_reducible refine gLq ?_); refine wpList_load_mid (by rfl) 55 _ (by rfl) g (off + k * 7) (by rfl) A _ X1_.out Tryd.underlying55 rfl ZA.out ?_)
       | ((with_reducible refine gSq ?_); refine zBA (by rfl) 55 _ _ (by rfl) wr.heap.size 0 _ 55 (.agg A.toArray) A (by rfl) (by rfl) (by rfl) (heap_alloc_new _ _) (by have := HAL.out; simp; omega) ZA.out HAO.out ?_; intro w1 hblk hfr; rw [zAY (by rw [HAL.out]; rfl)] at hblk; have XB : Hid (w1.rangeAt wr.heap.size 0 A) := zAJ hblk; have HBK := hid hblk; have c5 : w1.cell? ⟨wr.heap.size, 5, none⟩ = some (.string ety) := by { rw [zAD hblk, List.getElem?_toArray]; exact HA5.out }; have HBW : Hid (Below wr.heap.size wr w1) := zAH hfr; clear hblk hfr))
     go_roundg (n + 1 - (k + 1))
     case rel => exact ⟨k + 1, by omega, rfl, by go_num, (HE.out.later HBW.out).congr (fun i j _ _ => HSK.out i j)⟩
     case measure => omega
    | false =>
     obtain ⟨q0, q1⟩ := zEL hem
     have HST := hid (fun i j => mk_step ts rs k hkc (by rw [HET.out]; exact hem) i j)
     obtain ⟨j0, hj0, hj1⟩ := (HOK.out _ (List.getElem_mem hkc)).2 (by rw [HET.out]; exact hem)
     rw [HET.out] at hj1
     have hps := (HOK.out _ (List.getElem_mem hkc)).1
     rw [HET.out] at HST
     obtain ⟨ps, hpq⟩ : ∃ ps, rs[k].w ++ rs[k].t ++ rs[k].m.map Mn.p = ps := ⟨_, rfl⟩
     rw [hpq] at HPT HST hps
     have HPS := hid hps
     have HJ0 : Hid (j0 < 6) := by have := HLT.out; show _ < _; omega
     have HJ1 := hid hj1
     clear hem hj0 hj1 hps hpq
     go_wp2_with (first
       | ((with_reducible refine gLq ?_); refine wpList_load_mid (by rfl) 55 _ (by rfl) g (off + k * 7) (by rfl) A _ X1_.out Tryd.underlying55 rfl ZA.out ?_)
       | ((with_reducible refine gSq ?_); refine zBA (by rfl) 55 _ _ (by rfl) wr.heap.size 0 _ 55 (.agg A.toArray) A (by rfl) (by rfl) (by rfl) (heap_alloc_new _ _) (by have := HAL.out; simp; omega) ZA.out HAO.out ?_; intro w1 hblk hfr; rw [zAY (by rw [HAL.out]; rfl)] at hblk; have XB : Hid (w1.rangeAt wr.heap.size 0 A) := zAJ hblk; have HBK := hid hblk; have c5 : w1.cell? ⟨wr.heap.size, 5, none⟩ = some (.string ety) := by { rw [zAD hblk, List.getElem?_toArray]; exact HA5.out }; have HBW : Hid (Below wr.heap.size wr w1) := zAH hfr; clear hblk hfr)
       | ((with_reducible refine gLq ?_); refine wpList_load_mid (by rfl) 55 _ (by rfl) wr.heap.size 0 (by rfl) A _ XB.out Tryd.underlying55 rfl ZA.out ?_))
     refine (HPT.out _ HBW.out).mono ?_
     rintro e w3 ⟨pv, rfl, hrd3, hb3, hown⟩
     obtain ⟨pp, pc, rfl, hpx, hat3⟩ := zAG lenP hrd3
     obtain ⟨np, hnp⟩ : ∃ np, ps.length = np := ⟨_, rfl⟩
     have HNP := hid hnp
     have HAT3 := hid hat3
     have HOWN := hid hown
     have HE3 := hid ((HE.out.later HBW.out).later hb3)
     have HBK3 : Hid (w3.heap[wr.heap.size]? = some (.cells A.toArray 55 (0, 0))) := (hb3.block _ (zAE HBK.out)).trans HBK.out
     have HS1 := hid HBW.out.size
     have HS3 := hid hb3.size
     rw [hnp] at hpx HST HOWN ⊢
     clear hrd3 hb3 hat3 hown hnp c5
     go_wp2_with fail
     obtain ⟨wo, hwo⟩ : ∃ wo, wo = wr := ⟨_, rfl⟩
     subst hwo
     go_loopg [30] (np + 1) (fun gg i wr => ∃ q : Nat, q ≤ np ∧ gg = np + 1 - q ∧ i = .int .i64 (q : Nat) ∧ Fr (fun i => i = (w.heap.size + 1 + 1)) w3 wr ∧ Esc w wr (w.heap.size + 1) (w.heap.size + 1 + 1) (.slice tp tn tc) (mq (mk ts rs k) ts ps ety q))
     case atStart => exact ⟨0, by omega, by omega, rfl, Fr.refl _ _, HE3.out.congr (fun i j _ _ => mq_zero _ _ _ _ i j)⟩
     case round =>
       obtain ⟨q, hq, rfl, rfl, hFr, hEq⟩ := hrel
       have HFR := hid hFr
       have HEQ := hid hEq
       by_cases hlq : q < np
       . have hqc : q < ps.length := by have := HNP.out; omega
         obtain ⟨g2, off2, e13, hrd2⟩ := HAT3.out (by omega)
         obtain ⟨A2, r2, o2⟩ := hrd2 w3 (Below.refl _ _) q hqc
         subst e13
         have hlo := HE.out.bel.size
         have hmbl : (w.heap.size + 1 + 1) < wo.heap.size := zAE HE.out.mt
         have hg2 : g2 ≠ (w.heap.size + 1 + 1) := by
           have := HOWN.out g2 rfl
           have := HS1.out
           omega
         have hb1n : wo.heap.size ≠ (w.heap.size + 1 + 1) := by omega
         obtain ⟨vc, z2, o3⟩ := rdP o2
         obtain ⟨up, un, uc, hu⟩ := zAB o3
         have hAz2 : A2.length = 18 := o2.1.symm
         have hg2l : g2 < w3.heap.size := World.block_lt_of_cell? _ ⟨g2, off2 + q * 18 + 0, none⟩ (r2 0 _ (by rw [z2]; rfl))
         have X2_ := hid (zGK r2 (hFr.block g2 hg2l hg2))
         have HRB : Hid (wr.heap[wo.heap.size]? = some (.cells A.toArray 55 (0, 0))) := (hFr.block _ (zAE HBK3.out) hb1n).trans HBK3.out
         have HAO2 : Hid (A2.all (·.oneCell') = true) := by show _ = _; rw [z2, hu]; rfl
         have ZA2 : Hid ((Tryd.prog.info? 47).map (·.size) = some A2.length) := by show _ = _; rw [hAz2]; kernel_rfl
         have HAL2 := hid hAz2
         obtain ⟨pty, hpty⟩ : ∃ x, ps[q].ty = x := ⟨_, rfl⟩
         have HA1 : Hid (A2[1]? = some (.string pty)) := by show _ = _; rw [z2, ← hpty]; rfl
         obtain ⟨i0, hi0, hi1⟩ := HPS.out _ (List.getElem_mem hqc)
         have HMS := hid (fun i j => mq_step (mk ts rs k) ts ps ety q hqc hi1 HJ1.out i j)
         rw [hpty] at hi1
         have hi6 : i0 < 6 := by have := HLT.out; omega
         have HIJ : Hid (i0 < 6 ∧ j0 < 6) := ⟨hi6, HJ0.out⟩
         have hmw : (w.heap.size + 1 + 1) < wr.heap.size := zAE hEq.mt
         have HN1 : Hid (wr.heap.size ≠ (w.heap.size + 1 + 1)) := by show _ ≠ _; omega
         have HN2 : Hid (wo.heap.size ≠ (w.heap.size + 1 + 1)) := hb1n
         have y1 : (0 : Int) ≤ (i0 : Int) := by omega
         have y2 : (i0 : Int) < 6 := by omega
         have y3 : (0 : Int) ≤ (j0 : Int) := by omega
         have y4 : (j0 : Int) < 6 := by have := HJ0.out; omega
         have i3 : (0 : Int) ≤ (q : Int) := by omega
         have i4 : (q : Int) < (np : Int) := by omega
         have HI1 := hid hi1
         clear hFr hEq hrd2 r2 o2 hlo hmbl hg2 hb1n z2 o3 hu hAz2 hg2l hpty hi0 hi1 hi6 hmw
         go_wp2_with (first
           | ((with_reducible refine gLq ?_); refine wpList_load_mid (by rfl) 47 _ (by rfl) g2 (off2 + q * 18) (by rfl) A2 _ X2_.out Tryd.underlying47 rfl ZA2.out ?_)
           | ((with_reducible refine gSq ?_); refine zBA (by rfl) 47 _ _ (by rfl) wr.heap.size 0 _ 47 (.agg A2.toArray) A2 (by rfl) (by rfl) (by rfl) (heap_alloc_new _ _) (by have := HAL2.out; simp; omega) ZA2.out HAO2.out ?_; intro w4 hblk hfr; rw [zAY (by rw [HAL2.out]; rfl)] at hblk; have HBW4 : Hid (Below wr.heap.size wr w4) := zAH hfr; have HBB : Hid (Bk2 w4 wr.heap.size wo.heap.size A2 A) := ⟨hblk, (HBW4.out.block _ (zAE HRB.out)).trans HRB.out⟩; clear hblk hfr))
         have HE4 := hid (fun W (hW : Below w4.heap.size w4 W) => (HEQ.out.later HBW4.out).later hW)
         have HF1 := hid (fun W (hW : Below w4.heap.size w4 W) => HFN.out pty i0 HI1.out W (HE4.out W hW).bel (zAD (HE4.out W hW).fc 0))
         have HF2 := hid (fun W (hW : Below w4.heap.size w4 W) => HFN.out ety j0 HJ1.out W (HE4.out W hW).bel (zAD (HE4.out W hW).fc 0))
         refine zBG (S := (fun w' => w'.cell? ⟨wr.heap.size, 1, none⟩ = some (.string pty) ∧ w'.cell? ⟨wo.heap.size, 5, none⟩ = some (.string ety))) 12 #[false, false, false, false, false, false, false, false, false, false, false, false] rfl rfl (by kernel_rfl) ((HBB.out.later (Below.drew (Below.refl _ _))).cells HA1.out HA5.out) (fun hHeld => ?_)
         refine tkq (i := 0) (v := ?v1) rfl ?hy1 ?rest1; (case hy1 => intro w0 hSw; (try dsimp only at hSw); go_simp <;> (try (with_reducible rfl))); (try simp only [puts])
         refine tkq (i := 1) (v := ?v2) rfl ?hy2 ?rest2; (case hy2 => intro w0 hSw; (try dsimp only at hSw); go_simp <;> (try (with_reducible rfl))); (try simp only [puts])
         refine tkq (i := 2) (v := ?v3) rfl ?hy3 ?rest3; (case hy3 => intro w0 hSw; (try dsimp only at hSw); go_simp <;> (try (with_reducible rfl))); (try simp only [puts])
         refine tkq (i := 4) (v := ?v4) rfl ?hy4 ?rest4; (case hy4 => intro w0 hSw; (try dsimp only at hSw); go_simp <;> (try (with_reducible rfl))); (try simp only [puts])
         refine tkq (i := 5) (v := ?v5) rfl ?hy5 ?rest5; (case hy5 => intro w0 hSw; (try dsimp only at hSw); go_simp <;> (try (with_reducible rfl))); (try simp only [puts])
         refine tkq (i := 6) (v := ?v6) rfl ?hy6 ?rest6; (case hy6 => intro w0 hSw; (try dsimp only at hSw); go_simp <;> (try (with_reducible rfl))); (try simp only [puts])
         refine tkq (i := 7) (v := ?v7) rfl ?hy7 ?rest7; (case hy7 => intro w0 hSw; (try dsimp only at hSw); go_simp <;> (try (with_reducible rfl))); (try simp only [puts])
         refine wpAnyH_ready (rs := [3]) (by kernel_rfl) (by simp) ?_
         refine zAQ rfl (fun K hK => ?_) AllReadyH.nil
         refine zBJ 58 zDM (by rfl) _ _ _ (by rfl) (.pointer (some ⟨w.heap.size + 1, 0, none⟩)) (.string pty) (by rfl) (by rfl) _ (HF1.out _ (Below.drew (Below.refl _ _))) ?_
         rintro e w5 ⟨rfl, hb9⟩
         refine ⟨_, rfl, ?_⟩
         have HB5 : Hid (Below w4.heap.size w4 w5) := zAA (Below.drew (Below.refl _ _)) hb9 (Nat.le_refl _)
         clear hb9
         refine hK.out _ _ ((HBB.out.later HB5.out).cells HA1.out HA5.out) (fun hHeld => ?_)
         clear hK K
         (try simp only [puts])
         refine tkq (i := 9) (v := ?v8) rfl ?hy8 ?rest8; (case hy8 => intro w0 hSw; (try dsimp only at hSw); go_simp <;> (try (with_reducible rfl))); (try simp only [puts])
         refine wpAnyH_ready (rs := [8]) (by kernel_rfl) (by simp) ?_
         refine zAQ rfl (fun K hK => ?_) AllReadyH.nil
         refine zBJ 58 zDM (by rfl) _ _ _ (by rfl) (.pointer (some ⟨w.heap.size + 1, 0, none⟩)) (.string ety) (by rfl) (by rfl) _ (HF2.out _ (HB5.out)) ?_
         rintro e w6 ⟨rfl, hb9⟩
         refine ⟨_, rfl, ?_⟩
         have HB6 : Hid (Below w4.heap.size w4 w6) := zAA (HB5.out) hb9 HB5.out.size
         clear hb9
         refine hK.out _ _ ((HBB.out.later HB6.out).cells HA1.out HA5.out) (fun hHeld => ?_)
         clear hK K
         (try simp only [puts])
         refine tkq (i := 10) (v := ?v9) rfl ?hy9 ?rest9; (case hy9 => intro w0 hSw; (try dsimp only at hSw); go_simp <;> (try (with_reducible rfl))); (try simp only [puts])
         refine wpAnyH_ready (rs := [11]) (by kernel_rfl) (by simp) ?_
         refine zAQ rfl (fun K hK => ?_) AllReadyH.nil
         refine step_st (by rfl) 4 _ _ (by rfl) (w.heap.size + 1 + 1) (i0 * 6 + j0) _ 106 (.bool true) [.bool true] (by rfl) (by rfl) (by rfl) (HE4.out _ HB6.out).mt (by rw [zCC]; have := HIJ.out; simp; omega) (by kernel_rfl) (by rfl) ?_
         intro w7 hm7 hf7
         have HB7 := hid ((HBB.out.later HB6.out).fr hf7 HN1.out HN2.out)
         rw [zH4 _ HIJ.out.1 HIJ.out.2] at hm7
         have HE7 := hid (((HE4.out _ HB6.out).store hf7 hm7).congr (fun i j _ _ => HMS.out i j))
         have HF7 : Hid (Fr (fun i => i = (w.heap.size + 1 + 1)) w3 w7) := HFR.out.trans ((Fr.of_below HBW4.out).trans ((Fr.of_below HB6.out).trans hf7))
         clear hm7 hf7
         refine hK.out _ _ (HB7.out.cells HA1.out HA5.out) (fun hHeld => ?_)
         clear hK K
         (try simp only [puts])
         refine wpAnyH_done (by kernel_rfl) ?_ _
         go_wp2_with fail
         go_roundg (np + 1 - (q + 1))
         case rel => exact ⟨q + 1, by omega, rfl, by go_num, HF7.out, HE7.out⟩
         case measure => omega
       . obtain rfl : q = np := by omega
         clear hFr hEq
         go_wp2_with fail
         go_roundg (n + 1 - (k + 1))
         case rel => exact ⟨k + 1, by omega, rfl, by go_num, HEQ.out.congr (fun i j _ _ => HST.out i j)⟩
         case measure => omega
  . obtain rfl : k = n := by omega
    have hM0 : mk ts rs k = fun i j => rs.any fun x => edb ts x i j := by unfold mk; rw [List.take_of_length_le (by have := HN.out; omega)]
    rw [hM0] at hE
    clear HE
    obtain ⟨M0, hM0'⟩ : ∃ M0, (fun i j => rs.any fun x => edb ts x i j) = M0 := ⟨_, rfl⟩
    rw [hM0'] at hE HRR
    have HE := hid hE
    clear hE hM0 hM0'
    go_wp2_with fail
    go_loopg [47] 7 (fun gg i wr => ∃ b : Nat, b ≤ 6 ∧ gg = 7 - b ∧ i = .int .i64 (b : Nat) ∧ Esc w wr (w.heap.size + 1) (w.heap.size + 1 + 1) (.slice tp tn tc) (wsh M0 b))
    case atStart => exact ⟨0, by omega, by omega, rfl, HE.out⟩
    case round =>
     obtain ⟨b, hb, rfl, rfl, hE3⟩ := hrel
     have HE3 := hid hE3
     clear hE3
     by_cases hlb : b < 6
     . have n1b : (0 : Int) ≤ (b : Int) := by omega
       have n2b : (b : Int) < 6 := by omega
       go_wp2_with fail
       go_loopg [50] 7 (fun gg i wr => ∃ f : Nat, f ≤ 6 ∧ gg = 7 - f ∧ i = .int .i64 (f : Nat) ∧ Esc w wr (w.heap.size + 1) (w.heap.size + 1 + 1) (.slice tp tn tc) (stW (wsh M0 b) b f 0))
       case atStart => exact ⟨0, by omega, by omega, rfl, HE3.out.congr (stW_zero _ _)⟩
       case round =>
         obtain ⟨f, hf, rfl, rfl, hE4⟩ := hrel
         have HE4 := hid hE4
         by_cases hlf : f < 6
         . clear hE4
           have n1f : (0 : Int) ≤ (f : Int) := by omega
           have n2f : (f : Int) < 6 := by omega
           go_wp2_with fail
           go_loopg [53] 7 (fun gg i wr => ∃ t : Nat, t ≤ 6 ∧ gg = 7 - t ∧ i = .int .i64 (t : Nat) ∧ Esc w wr (w.heap.size + 1) (w.heap.size + 1 + 1) (.slice tp tn tc) (stW (wsh M0 b) b f t))
           case atStart => exact ⟨0, by omega, by omega, rfl, HE4.out⟩
           case round =>
            obtain ⟨t, ht, rfl, rfl, hE5⟩ := hrel
            have HE5 := hid hE5
            by_cases hlt : t < 6
            . have hc1 := hE5.cell hlf hlb
              have hc2 := hE5.cell hlb hlt
              rw [stW_fb] at hc1
              rw [stW_bt] at hc2
              have HFT : Hid (f < 6 ∧ t < 6) := ⟨hlf, hlt⟩
              obtain ⟨x1, hx1⟩ : ∃ x, wsh M0 b f b = x := ⟨_, rfl⟩
              obtain ⟨x2, hx2⟩ : ∃ x, wsh M0 b b t = x := ⟨_, rfl⟩
              have HX1 := hid hx1
              have HX2 := hid hx2
              rw [hx1] at hc1
              rw [hx2] at hc2
              have n1t : (0 : Int) ≤ (t : Int) := by omega
              have n2t : (t : Int) < 6 := by omega
              clear hE5 hx1 hx2
              cases x1 with
              | true =>
                cases x2 with
                | true =>
                 have HX : Hid ((wsh M0 b f b && wsh M0 b b t) = true) := by show _ = _; rw [HX1.out, HX2.out]; rfl
                 go_wp2_with ((with_reducible refine gSq ?_); refine zBN 4 (w.heap.size + 1 + 1) (f * 6 + t) _ 106 (.bool true) [.bool true] HE5.out.mt ?_ (hl := by rw [zCC]; have := HFT.out; simp; omega); intro w8 hm8 hf8; rw [zH4 _ HFT.out.1 HFT.out.2] at hm8; have HE8 := hid (HE5.out.store hf8 hm8); clear hm8 hf8)
                 go_roundg (7 - (t + 1))
                 case rel => exact ⟨t + 1, by omega, rfl, by go_num, HE8.out.congr (stW_next _ _ _ _ HX.out)⟩
                 case measure => omega
                | false =>
                 have HX : Hid ((wsh M0 b f b && wsh M0 b b t) = false) := by show _ = _; rw [HX1.out, HX2.out]; rfl
                 go_wp2_with fail
                 go_roundg (7 - (t + 1))
                 case rel => exact ⟨t + 1, by omega, rfl, by go_num, HE5.out.congr (zEG _ _ _ _ HX.out)⟩
                 case measure => omega
              | false =>
                cases x2 with
                | true =>
                 have HX : Hid ((wsh M0 b f b && wsh M0 b b t) = false) := by show _ = _; rw [HX1.out, HX2.out]; rfl
                 go_wp2_with fail
                 go_roundg (7 - (t + 1))
                 case rel => exact ⟨t + 1, by omega, rfl, by go_num, HE5.out.congr (zEG _ _ _ _ HX.out)⟩
                 case measure => omega
                | false =>
                 have HX : Hid ((wsh M0 b f b && wsh M0 b b t) = false) := by show _ = _; rw [HX1.out, HX2.out]; rfl
                 go_wp2_with fail
                 go_roundg (7 - (t + 1))
                 case rel => exact ⟨t + 1, by omega, rfl, by go_num, HE5.out.congr (zEG _ _ _ _ HX.out)⟩
                 case measure => omega
            . obtain rfl : t = 6 := by omega
              have HE6 := hid (hE5.congr (stW_row _ _ _))
              clear hE5
              go_wp2_with fail
              go_roundg (7 - (f + 1))
              case rel => exact ⟨f + 1, by omega, rfl, by go_num, HE6.out⟩
              case measure => omega
         . obtain rfl : f = 6 := by omega
           have HE6 := hid (hE4.congr (stW_end _ _))
           clear hE4
           go_wp2_with fail
           go_roundg (7 - (b + 1))
           case rel => exact ⟨b + 1, by omega, rfl, by go_num, HE6.out⟩
           case measure => omega
     . obtain rfl : b = 6 := by omega
       go_wp2_with fail
       go_loopg [75] 7 (fun gg i wr => ∃ t : Nat, t ≤ 6 ∧ gg = 7 - t ∧ i = .int .i64 (t : Nat) ∧ Esc w wr (w.heap.size + 1) (w.heap.size + 1 + 1) (.slice tp tn tc) (wsh M0 6) ∧ ∀ s, s < t → wsh M0 6 s s = false)
       case atStart => exact ⟨0, by omega, by omega, rfl, HE3.out, fun s hs => by omega⟩
       case round =>
         obtain ⟨t, ht, rfl, rfl, hE5, hno⟩ := hrel
         have HE5 := hid hE5
         have HNO := hid hno
         by_cases hlt : t < 6
         . have hc1 := hE5.cell hlt hlt
           obtain ⟨x1, hx1⟩ : ∃ x, wsh M0 6 t t = x := ⟨_, rfl⟩
           have HX1 := hid hx1
           rw [hx1] at hc1
           have n1t : (0 : Int) ≤ (t : Int) := by omega
           have n2t : (t : Int) < 6 := by omega
           clear hE5 hno hx1
           cases x1 with
           | true =>
            have HRT : Hid (R = true) := by
              show _ = _
              rw [← HRR.out]
              unfold edl
              exact List.any_eq_true.2 ⟨t, List.mem_range.2 hlt, HX1.out⟩
            go_wp2_with fail
            go_ret
            exact ⟨by rw [HRT.out]; rfl, HE5.out.bel⟩
           | false =>
            go_wp2_with fail
            go_roundg (7 - (t + 1))
            case rel =>
              refine ⟨t + 1, by omega, rfl, by go_num, HE5.out, fun s hs => ?_⟩
              by_cases c : s < t
              . exact HNO.out s c
              . obtain rfl : s = t := by omega
                exact HX1.out
            case measure => omega
         . obtain rfl : t = 6 := by omega
           have HRT : Hid (R = false) := by
            show _ = _
            rw [← HRR.out]
            unfold edl
            rw [List.any_eq_false]
            intro s hs
            rw [HNO.out s (List.mem_range.1 hs)]
            decide
           clear hE5 hno
           go_wp2_with fail
           go_ret
           exact ⟨by rw [HRT.out]; rfl, HE5.out.bel⟩
end Go.Proofs.YtnlmknbhppdliaaDoor.Chk
