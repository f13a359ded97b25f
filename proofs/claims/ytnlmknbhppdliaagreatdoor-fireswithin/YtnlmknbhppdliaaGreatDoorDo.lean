/-
  A rule, by the program. The patterns of a rule, all in one row, by the program.
-/
import Derived.Lib.AppendZeros
import Derived.Deep.Upon
import Derived.Test.YtnlmknbhppdliaaGreatDoorDk
import Derived.Test.YtnlmknbhppdliaaGreatDoorDg
set_option maxHeartbeats 64000000
namespace Go.Proofs.YtnlmknbhppdliaaGreatDoor.Chk
open Go.ChangeShapes Go.WideShapes Go.ChangeAt Go.RowKit Go.Maps
set_option linter.unusedVariables false
set_option linter.unusedSimpArgs false
set_option maxRecDepth 20000
structure Cs2 (w W : World) (us ss : List Value) (sb mb : Nat) : Prop where
  bel : Below w.heap.size w W
  b1 : W.heap[w.heap.size]? = some (.cells us.toArray 56 (0, 0))
  b2 : W.heap[sb]? = some (.cells ss.toArray 174 (0, 0))
  lo : w.heap.size < mb
  ne : sb ≠ mb
theorem Cs2.fr {w W W' : World} {us ss : List Value} {sb mb : Nat} (h : Cs2 w W us ss sb mb) (hf : Fr (fun i => i = mb) W W') : Cs2 w W' us ss sb mb :=
  ⟨zAP h.bel hf (Nat.le_of_lt h.lo), (hf.block _ (zAH h.b1) (by have := h.lo; omega)).trans h.b1, (hf.block _ (zAH h.b2) h.ne).trans h.b2, h.lo, h.ne⟩
theorem Cs2.c1 {w W : World} {us ss : List Value} {sb mb : Nat} (h : Cs2 w W us ss sb mb) (j : Nat) : W.cell? ⟨w.heap.size, j, none⟩ = us[j]? := by rw [zAC h.b1]; simp
theorem Cs2.c2 {w W : World} {us ss : List Value} {sb mb : Nat} (h : Cs2 w W us ss sb mb) (j : Nat) : W.cell? ⟨sb, j, none⟩ = ss[j]? := by rw [zAC h.b2]; simp
theorem zGQ {w w3 w4 : World} {us ss zs : List Value} (h : BlkT w w3 us 56) (hb : w4.heap[w3.heap.size + 1]? = some (.cells (ovr zs 0 ss).toArray 174 (0, 0))) (hz : ss.length = zs.length) (hf : Fr (fun i => i = w3.heap.size + 1) ((w3.alloc (.map #[] 0)).alloc (.cells zs.toArray 174)) w4) : Cs2 w w4 us ss (w3.heap.size + 1) w3.heap.size := by
  have hlt := zAH h.b1
  have hsz := h.bel.size
  have e2 : ((w3.alloc (.map #[] 0)).alloc (.cells zs.toArray 174)).heap.size = w3.heap.size + 2 := by simp
  have hb3 : Below w.heap.size w ((w3.alloc (.map #[] 0)).alloc (.cells zs.toArray 174)) := (h.bel.alloc hsz _).alloc (by simp; omega) _
  rw [zAT hz] at hb
  refine ⟨zAP hb3 hf (by omega), (hf.block _ (by omega) (by omega)).trans ?_, hb, hlt, by omega⟩
  rw [Below.heap_alloc _ _ _ (by simp; omega), Below.heap_alloc _ _ _ hlt]
  exact h.b1
theorem zGB {w w3 w4 : World} {us ss zs : List Value} {ts : List Tp} {tv : Value} {b : Nat} (hT : Rd w (.row 59 2 (ts.map encY)) tv) (htk : Tab w 0 kpl) (htr : Tab w 1 rll) (hc : Cs2 w w4 us ss (w3.heap.size + 1) w3.heap.size) (hfc : w3.cell? ⟨b, 0, none⟩ = some tv) (hf : Fr (fun i => i = w3.heap.size + 1) ((w3.alloc (.map #[] 0)).alloc (.cells zs.toArray 174)) w4) : Scp w4 ts tv b w3.heap.size [] 0 := by
  have hb1 : Below (w3.alloc (.map #[] 0)).heap.size (w3.alloc (.map #[] 0)) w4 := zAM (by simpa using hf)
  have hb2 : Below w3.heap.size w3 w4 := zAA ((Below.refl _ _).alloc (Nat.le_refl _) _) hb1 (by simp)
  exact ⟨hT.later hc.bel, (hb2.cell (p := ⟨b, 0, none⟩) (World.block_lt_of_cell? _ _ hfc)).trans hfc, (km_made w3).later hb1, zAF htk hc.bel, zAF htr hc.bel⟩
structure Szr (r : Rl) : Prop where
  w : ∀ t, t ∈ r.w → Wsz t.c
  t : ∀ t, t ∈ r.t → Wsz t.c
  m : ∀ x, x ∈ r.m → Wsz x.p.c
  k : ∀ x, x ∈ r.k → x.l.size ≤ maxLen ∧ x.r.size ≤ maxLen
  e : ∀ o, o ∈ r.e.v → o.va.size ≤ maxLen
theorem zCB (ts : List Tp) (r : Rl) (h1 : frn r.n = 0) (h2 : szs r) : rck ts r = if wfs 0 ts [] r.w ≠ 0 then wfs 0 ts [] r.w else if nfs 0 ts r.w (r.w.map Pt.va) r.t ≠ 0 then nfs 0 ts r.w (r.w.map Pt.va) r.t else if mfs 0 ts r.w (r.w.map Pt.va ++ r.t.map Pt.va) r.m ≠ 0 then mfs 0 ts r.w (r.w.map Pt.va ++ r.t.map Pt.va) r.m else if lfs 0 r.w r.t r.k ≠ 0 then lfs 0 r.w r.t r.k else eck ts r.w r.e.ty r.e.v := by
  unfold rck
  rw [if_neg (fun c => c h1), if_neg (fun c => c h2), zE8, zE2, zFH, zE6]
theorem zCK (ts : List Tp) (hty : ∀ i (hi : i < ts.length), tyk ts[i].n ts[i].f = 0) (r : Rl) (hzr : Szr r) (tv u1 u2 u3 u4 u5 : Value) (w : World) (hT : Rd w (.row 59 2 (ts.map encY)) tv) (htk : Tab w 0 kpl) (htr : Tab w 1 rll) (h1 : Rd w (.row 48 18 (r.w.map encP)) u1) (h2 : Rd w (.row 48 18 (r.t.map encP)) u2) (h3 : Rd w (.row 78 20 (r.m.map encM)) u3) (h4 : Rd w (.row 66 3 (r.k.map encK)) u4) (h5 : Rd w (.row 44 6 (r.e.v.map encO)) u5) (hf : frn r.n ≠ 0) :
  Calls Tryz.prog 60 #[.agg #[.string r.n, u1, u2, u3, u4, .string r.e.ty, u5], tv] w fun e w' => e = .returned (.int .i64 (rck ts r)) ∧ Below w.heap.size w w' := by
 have HCN := hid (fun W (hW : Below w.heap.size w W) => zAW r.n W (zAF htk hW) (zAF htr hW))
 have hR : rck ts r = frn r.n := by unfold rck; rw [if_pos hf]
 rw [hR]
 clear hR
 obtain ⟨tp, tn, tc, rfl⟩ := zAB hT
 obtain ⟨q1, j1, e1, _, _⟩ := zAG lenP h1
 obtain ⟨q2, j2, e2, _, _⟩ := zAG lenP h2
 obtain ⟨q3, j3, e3, _, _⟩ := zAG lenM h3
 obtain ⟨q4, j4, e4, _, _⟩ := zAG lenK h4
 obtain ⟨q5, j5, e5, _, _⟩ := zAG lenO h5
 subst e1 e2 e3 e4 e5
 obtain ⟨rn, ws, ns, ms, ks, ⟨ety, vs⟩⟩ := r
 simp only at HCN hf ⊢
 obtain ⟨E, hE⟩ : ∃ E, frn rn = E := ⟨_, rfl⟩
 rw [hE] at HCN hf ⊢
 generalize ws.length = l1
 generalize ns.length = l2
 generalize ms.length = l3
 generalize ks.length = l4
 generalize vs.length = l5
 have HT : Hid (BlkT w (w.alloc (.cells [.string rn, .slice q1 l1 j1, .slice q2 l2 j2, .slice q3 l3 j3, .slice q4 l4 j4, .string ety, .slice q5 l5 j5].toArray 56)) [.string rn, .slice q1 l1 j1, .slice q2 l2 j2, .slice q3 l3 j3, .slice q4 l4 j4, .string ety, .slice q5 l5 j5] 56) := BlkT.start w _ _
 have d9 : (E != 0) = true := by simpa using hf
 clear h1 h2 h3 h4 h5 hf hE hzr
 go_enter Tryz.func60, Tryz.ntmps60
 go_wp2_with fail
 refine (HCN.out _ HT.out.bel).mono ?_
 rintro e w1 ⟨rfl, rfl⟩
 go_wp2_with fail
 go_ret
 exact ⟨zAD rfl, HT.out.bel⟩
theorem zCS (ts : List Tp) (hty : ∀ i (hi : i < ts.length), tyk ts[i].n ts[i].f = 0) (r : Rl) (hzr : Szr r) (tv u1 u2 u3 u4 u5 : Value) (w : World) (hT : Rd w (.row 59 2 (ts.map encY)) tv) (htk : Tab w 0 kpl) (htr : Tab w 1 rll) (h1 : Rd w (.row 48 18 (r.w.map encP)) u1) (h2 : Rd w (.row 48 18 (r.t.map encP)) u2) (h3 : Rd w (.row 78 20 (r.m.map encM)) u3) (h4 : Rd w (.row 66 3 (r.k.map encK)) u4) (h5 : Rd w (.row 44 6 (r.e.v.map encO)) u5) (hf : frn r.n = 0) (hsz : ¬ szs r) :
  Calls Tryz.prog 60 #[.agg #[.string r.n, u1, u2, u3, u4, .string r.e.ty, u5], tv] w fun e w' => e = .returned (.int .i64 (rck ts r)) ∧ Below w.heap.size w w' := by
 have HCN := hid (fun W (hW : Below w.heap.size w W) => zAW r.n W (zAF htk hW) (zAF htr hW))
 rw [hf] at HCN
 have hR : rck ts r = 1 := by unfold rck; rw [if_neg (fun c => c hf), if_pos hsz]
 rw [hR]
 clear hR
 obtain ⟨tp, tn, tc, rfl⟩ := zAB hT
 obtain ⟨q1, j1, e1, _, _⟩ := zAG lenP h1
 obtain ⟨q2, j2, e2, _, _⟩ := zAG lenP h2
 obtain ⟨q3, j3, e3, _, _⟩ := zAG lenM h3
 obtain ⟨q4, j4, e4, _, _⟩ := zAG lenK h4
 obtain ⟨q5, j5, e5, _, _⟩ := zAG lenO h5
 have HIS := hid (fun W => zCD r q1 q2 q3 q4 q5 j1 j2 j3 j4 j5 r.e.v.length W false (by simpa using hsz))
 subst e1 e2 e3 e4 e5
 obtain ⟨rn, ws, ns, ms, ks, ⟨ety, vs⟩⟩ := r
 simp only at HCN HIS ⊢
 generalize ws.length = l1 at *
 generalize ns.length = l2 at *
 generalize ms.length = l3 at *
 generalize ks.length = l4 at *
 generalize vs.length = l5 at *
 have HT : Hid (BlkT w (w.alloc (.cells [.string rn, .slice q1 l1 j1, .slice q2 l2 j2, .slice q3 l3 j3, .slice q4 l4 j4, .string ety, .slice q5 l5 j5].toArray 56)) [.string rn, .slice q1 l1 j1, .slice q2 l2 j2, .slice q3 l3 j3, .slice q4 l4 j4, .string ety, .slice q5 l5 j5] 56) := BlkT.start w _ _
 have XR : Hid ((w.alloc (.cells [.string rn, .slice q1 l1 j1, .slice q2 l2 j2, .slice q3 l3 j3, .slice q4 l4 j4, .string ety, .slice q5 l5 j5].toArray 56)).rangeAt w.heap.size 0 [.string rn, .slice q1 l1 j1, .slice q2 l2 j2, .slice q3 l3 j3, .slice q4 l4 j4, .string ety, .slice q5 l5 j5]) := zAE HT.out.b1
 clear h1 h2 h3 h4 h5 hf hsz hzr
 go_enter Tryz.func60, Tryz.ntmps60
 go_wp2_with fail
 refine (HCN.out _ HT.out.bel).mono ?_
 rintro e w1 ⟨rfl, hw1⟩
 have HT1 : Hid (BlkT w w1 [.string rn, .slice q1 l1 j1, .slice q2 l2 j2, .slice q3 l3 j3, .slice q4 l4 j4, .string ety, .slice q5 l5 j5] 56) := by rw [hw1]; exact HT.out
 clear hw1 XR
 have XR : Hid (w1.rangeAt w.heap.size 0 [.string rn, .slice q1 l1 j1, .slice q2 l2 j2, .slice q3 l3 j3, .slice q4 l4 j4, .string ety, .slice q5 l5 j5]) := zAE HT1.out.b1
 go_wp2_with ((with_reducible refine gLq ?_); refine wpList_load_mid (by rfl) 56 _ (by rfl) w.heap.size 0 (by rfl) [.string rn, .slice q1 l1 j1, .slice q2 l2 j2, .slice q3 l3 j3, .slice q4 l4 j4, .string ety, .slice q5 l5 j5] _ XR.out Tryz.underlying56 rfl (by kernel_rfl) ?_)
 refine (HIS.out _).mono ?_
 rintro e w2 ⟨rfl, hb2⟩
 have HT2 : Hid _ := HT1.out.next hb2
 clear hb2 XR
 go_wp2_with fail
 go_ret
 exact ⟨rfl, HT2.out.bel⟩
theorem zCM (ts : List Tp) (hty : ∀ i (hi : i < ts.length), tyk ts[i].n ts[i].f = 0) (r : Rl) (hzr : Szr r) (tv u1 u2 u3 u4 u5 : Value) (w : World) (hT : Rd w (.row 59 2 (ts.map encY)) tv) (htk : Tab w 0 kpl) (htr : Tab w 1 rll) (h1 : Rd w (.row 48 18 (r.w.map encP)) u1) (h2 : Rd w (.row 48 18 (r.t.map encP)) u2) (h3 : Rd w (.row 78 20 (r.m.map encM)) u3) (h4 : Rd w (.row 66 3 (r.k.map encK)) u4) (h5 : Rd w (.row 44 6 (r.e.v.map encO)) u5) (hf : frn r.n = 0) (hsz : szs r) :
   Calls Tryz.prog 60 #[.agg #[.string r.n, u1, u2, u3, u4, .string r.e.ty, u5], tv] w fun e w' => e = .returned (.int .i64 (rck ts r)) ∧ Below w.heap.size w w' := by
 have HCN := hid (fun W (hW : Below w.heap.size w W) => zAW r.n W (zAF htk hW) (zAF htr hW))
 rw [hf] at HCN
 have hR := zCB ts r hf hsz
 obtain ⟨tp, tn, tc, rfl⟩ := zAB hT
 obtain ⟨q1, j1, e1, _, _⟩ := zAG lenP h1
 obtain ⟨q2, j2, e2, _, _⟩ := zAG lenP h2
 obtain ⟨q3, j3, e3, _, _⟩ := zAG lenM h3
 obtain ⟨q4, j4, e4, _, _⟩ := zAG lenK h4
 obtain ⟨q5, j5, e5, _, _⟩ := zAG lenO h5
 have HIS := hid (fun W => zCD r q1 q2 q3 q4 q5 j1 j2 j3 j4 j5 r.e.v.length W true (by simpa using hsz))
 subst e1 e2 e3 e4 e5
 have HSZ := hid hsz
 have HZR := hid hzr
 have HTK := hid htk
 have HTR := hid htr
 have HTY := hid hty
 have HTT := hid hT
 clear hf hsz hzr htk htr hty hT
 obtain ⟨rn, ws, ns, ms, ks, ⟨ety, vs⟩⟩ := r
 obtain ⟨R, hRR⟩ : ∃ R, rck ts ⟨rn, ws, ns, ms, ks, ⟨ety, vs⟩⟩ = R := ⟨_, rfl⟩
 rw [hRR] at hR ⊢
 simp only at HCN HIS hR h1 h2 h3 h4 h5 ⊢
 have HFW := hid (fun W b mb n0 lv hs hR hn => zD1 ts ws b mb n0 HTY.out (.slice tp tn tc) lv W hs hR HZR.out.w hn)
 have HFN := hid (fun W b mb n0 lv hkn hs hR hn => zEF ts ws ns b mb n0 hkn HTY.out (.slice tp tn tc) lv W hs hR HZR.out.t hn)
 have HFM := hid (fun W b mb n0 lv hkn hs hR hn => zDY ts ws ns ms b mb n0 hkn HTY.out (.slice tp tn tc) lv W hs hR HZR.out.m hn)
 have HFL := hid (fun W b mb n0 lv hs hR hn => zDV ts ws ns ks b mb (kw ts ws ++ (kn ts ns ++ km ts ms)) n0 (Knl_of ts ws ns ms) (.slice tp tn tc) lv W hs hR HZR.out.k hn)
 have hKW : Knw ts ws (kw ts ws ++ (kn ts ns ++ km ts ms)) := zE7 (ts := ts) (ws := ws) (B := kn ts ns ++ km ts ms) (fun e he => by
   rcases List.mem_append.1 he with h | h
   . obtain ⟨x, _, rfl⟩ := List.mem_map.1 h; show (2 : Int) ≠ 1; decide
   . obtain ⟨x, _, rfl⟩ := List.mem_map.1 h; show (3 : Int) ≠ 1; decide)
 have HFE := hid (fun W b mb n0 u5 hkn hs hV => emit_any ts ws b mb (kw ts ws ++ (kn ts ns ++ km ts ms)) n0 hkn hKW HTY.out ety vs HZR.out.e (.slice tp tn tc) u5 W hs hV)
 obtain ⟨E1, hE1⟩ : ∃ E, wfs 0 ts [] ws = E := ⟨_, rfl⟩
 obtain ⟨E2, hE2⟩ : ∃ E, nfs 0 ts ws (ws.map Pt.va) ns = E := ⟨_, rfl⟩
 obtain ⟨E3, hE3⟩ : ∃ E, mfs 0 ts ws (ws.map Pt.va ++ ns.map Pt.va) ms = E := ⟨_, rfl⟩
 obtain ⟨E4, hE4⟩ : ∃ E, lfs 0 ws ns ks = E := ⟨_, rfl⟩
 obtain ⟨E5, hE5⟩ : ∃ E, eck ts ws ety vs = E := ⟨_, rfl⟩
 rw [hE1, hE2, hE3, hE4, hE5] at hR
 rw [hE1] at HFW
 rw [hE2] at HFN
 rw [hE3] at HFM
 rw [hE4] at HFL
 rw [hE5] at HFE
 rw [List.take_length] at HFW HFN HFM
 have HFD := hid (fun W => zCV tp tn tc W)
 have hmm := @run_makeMap Tryz.prog
 obtain ⟨l1, hl1⟩ : ∃ l, ws.length = l := ⟨_, rfl⟩
 obtain ⟨l2, hl2⟩ : ∃ l, ns.length = l := ⟨_, rfl⟩
 obtain ⟨l3, hl3⟩ : ∃ l, ms.length = l := ⟨_, rfl⟩
 obtain ⟨l4, hl4⟩ : ∃ l, ks.length = l := ⟨_, rfl⟩
 obtain ⟨l5, hl5⟩ : ∃ l, vs.length = l := ⟨_, rfl⟩
 have HSL : Hid (l1 ≤ 3 ∧ l2 ≤ 2 ∧ l3 ≤ 2 ∧ l4 ≤ 6) := by
   have h := HSZ.out
   unfold szs at h
   simp only at h
   show _ ∧ _
   omega
 rw [hl1, hl2, hl3, hl4, hl5] at HIS
 rw [hl1] at h1 HFW
 rw [hl2] at h2 HFN
 rw [hl3] at h3 HFM
 rw [hl4] at h4 HFL
 rw [hl5] at h5
 rw [hl1, hl2, hl3, hl4, hl5]
 have HT : Hid (BlkT w (w.alloc (.cells [.string rn, .slice q1 l1 j1, .slice q2 l2 j2, .slice q3 l3 j3, .slice q4 l4 j4, .string ety, .slice q5 l5 j5].toArray 56)) [.string rn, .slice q1 l1 j1, .slice q2 l2 j2, .slice q3 l3 j3, .slice q4 l4 j4, .string ety, .slice q5 l5 j5] 56) := BlkT.start w _ _
 have H1 := hid h1
 have H2 := hid h2
 have H3 := hid h3
 have H4 := hid h4
 have H5 := hid h5
 have HR := hid hR
 clear hl1 hl2 hl3 hl4 hl5 hE1 hE2 hE3 hE4 hE5 hRR hR h1 h2 h3 h4 h5 hKW HSZ HZR HTY
 go_enter Tryz.func60, Tryz.ntmps60
 go_wp2_with fail
 refine (HCN.out _ HT.out.bel).mono ?_
 rintro e w1 ⟨rfl, hw1⟩
 have HT1 : Hid (BlkT w w1 [.string rn, .slice q1 l1 j1, .slice q2 l2 j2, .slice q3 l3 j3, .slice q4 l4 j4, .string ety, .slice q5 l5 j5] 56) := by rw [hw1]; exact HT.out
 clear hw1
 have XR : Hid (w1.rangeAt w.heap.size 0 [.string rn, .slice q1 l1 j1, .slice q2 l2 j2, .slice q3 l3 j3, .slice q4 l4 j4, .string ety, .slice q5 l5 j5]) := zAE HT1.out.b1
 go_wp2_with ((with_reducible refine gLq ?_); refine wpList_load_mid (by rfl) 56 _ (by rfl) w.heap.size 0 (by rfl) [.string rn, .slice q1 l1 j1, .slice q2 l2 j2, .slice q3 l3 j3, .slice q4 l4 j4, .string ety, .slice q5 l5 j5] _ XR.out Tryz.underlying56 rfl (by kernel_rfl) ?_)
 refine (HIS.out _).mono ?_
 rintro e w2 ⟨rfl, hb2⟩
 have HT2 : Hid _ := HT1.out.next hb2
 clear hb2 XR
 go_wp2_with fail
 refine (HFD.out _).mono ?_
 rintro e w3 ⟨rfl, hw3⟩
 have HT3 : Hid (BlkT w w3 [.string rn, .slice q1 l1 j1, .slice q2 l2 j2, .slice q3 l3 j3, .slice q4 l4 j4, .string ety, .slice q5 l5 j5] 56) := by rw [hw3]; exact HT2.out.next ((Below.refl _ _).alloc (Nat.le_refl _) _)
 have HFC : Hid (w3.cell? ⟨w2.heap.size, 0, none⟩ = some (.slice tp tn tc)) := by rw [hw3]; exact zAC (heap_alloc_new _ _) 0
 clear hw3
 have r1 : w3.cell? ⟨w.heap.size, 1, none⟩ = some (.slice q1 l1 j1) := HT3.out.c 1
 have HLT := hid (zAH HT3.out.b1)
 go_wp2_with ((with_reducible refine gSq ?_); refine zB9 174 (w3.heap.size + 1) 0 _ 174 [.slice tp tn tc, .func (.func 95) #[] #[.pointer (some ⟨w2.heap.size, 0, none⟩)], .map (some w3.heap.size)] (zC0 _ _ _) ?_; intro w4 hblk hfr; have HF4 := hid hfr; have HC4 : Hid (Cs2 w w4 [.string rn, .slice q1 l1 j1, .slice q2 l2 j2, .slice q3 l3 j3, .slice q4 l4 j4, .string ety, .slice q5 l5 j5] [.slice tp tn tc, .func (.func 95) #[] #[.pointer (some ⟨w2.heap.size, 0, none⟩)], .map (some w3.heap.size)] (w3.heap.size + 1) w3.heap.size) := zGQ HT3.out hblk (by rfl) hfr; have r4 : w4.cell? ⟨w.heap.size, 1, none⟩ = some (.slice q1 l1 j1) := HC4.out.c1 1; have s0 : w4.cell? ⟨w3.heap.size + 1, 0, none⟩ = some (.slice tp tn tc) := HC4.out.c2 0; have s1 : w4.cell? ⟨w3.heap.size + 1, 1, none⟩ = some (.func (.func 95) #[] #[.pointer (some ⟨w2.heap.size, 0, none⟩)]) := HC4.out.c2 1; have s2 : w4.cell? ⟨w3.heap.size + 1, 2, none⟩ = some (.map (some w3.heap.size)) := HC4.out.c2 2; clear hblk hfr)
 have HS4 : Hid (Scp w4 ts (.slice tp tn tc) w2.heap.size w3.heap.size [] 0) := zGB HTT.out HTK.out HTR.out HC4.out HFC.out HF4.out
 clear HF4 r1 r4 s0 s1 s2
 refine (HFW.out w4 _ _ 0 _ HS4.out (H1.out.later HC4.out.bel) (by have := HSL.out; omega)).mono ?_
 rintro e w5 ⟨rfl, hf9, hk9⟩
 have HC5 := hid (HC4.out.fr hf9)
 clear hf9
 by_cases hz : E1 = 0
 . have HS5 := hid (hk9 hz).1
   have HKN := hid (hk9 hz).2
   have HR2 := HR.out
   rw [if_neg (fun c => c hz)] at HR2
   clear HR
   have HR := hid HR2
   clear HR2 hk9
   subst hz
   have r4 : w5.cell? ⟨w.heap.size, 2, none⟩ = some (.slice q2 l2 j2) := HC5.out.c1 2
   have s0 : w5.cell? ⟨w3.heap.size + 1, 0, none⟩ = some (.slice tp tn tc) := HC5.out.c2 0
   have s1 : w5.cell? ⟨w3.heap.size + 1, 1, none⟩ = some (.func (.func 95) #[] #[.pointer (some ⟨w2.heap.size, 0, none⟩)]) := HC5.out.c2 1
   have s2 : w5.cell? ⟨w3.heap.size + 1, 2, none⟩ = some (.map (some w3.heap.size)) := HC5.out.c2 2
   go_wp2_with fail
   clear r4 s0 s1 s2
   refine (HFN.out w5 _ _ (0 + l1) _ HKN.out HS5.out (H2.out.later HC5.out.bel) (by have := HSL.out; omega)).mono ?_
   rintro e w6 ⟨rfl, hf9, hk9⟩
   have HC6 := hid (HC5.out.fr hf9)
   clear hf9
   by_cases hz : E2 = 0
   . have HS6 := hid (hk9 hz)
     have HR2 := HR.out
     rw [if_neg (fun c => c hz)] at HR2
     clear HR
     have HR := hid HR2
     clear HR2 hk9
     subst hz
     have r4 : w6.cell? ⟨w.heap.size, 3, none⟩ = some (.slice q3 l3 j3) := HC6.out.c1 3
     have s0 : w6.cell? ⟨w3.heap.size + 1, 0, none⟩ = some (.slice tp tn tc) := HC6.out.c2 0
     have s1 : w6.cell? ⟨w3.heap.size + 1, 1, none⟩ = some (.func (.func 95) #[] #[.pointer (some ⟨w2.heap.size, 0, none⟩)]) := HC6.out.c2 1
     have s2 : w6.cell? ⟨w3.heap.size + 1, 2, none⟩ = some (.map (some w3.heap.size)) := HC6.out.c2 2
     go_wp2_with fail
     clear r4 s0 s1 s2
     refine (HFM.out w6 _ _ (0 + l1 + l2) _ HKN.out HS6.out (H3.out.later HC6.out.bel) (by have := HSL.out; omega)).mono ?_
     rintro e w7 ⟨rfl, hf9, hk9⟩
     have HC7 := hid (HC6.out.fr hf9)
     clear hf9
     by_cases hz : E3 = 0
     . have HS7 := hid (hk9 hz)
       have HR2 := HR.out
       rw [if_neg (fun c => c hz)] at HR2
       clear HR
       have HR := hid HR2
       clear HR2 hk9
       subst hz
       have r4 : w7.cell? ⟨w.heap.size, 4, none⟩ = some (.slice q4 l4 j4) := HC7.out.c1 4
       have s0 : w7.cell? ⟨w3.heap.size + 1, 0, none⟩ = some (.slice tp tn tc) := HC7.out.c2 0
       have s1 : w7.cell? ⟨w3.heap.size + 1, 1, none⟩ = some (.func (.func 95) #[] #[.pointer (some ⟨w2.heap.size, 0, none⟩)]) := HC7.out.c2 1
       have s2 : w7.cell? ⟨w3.heap.size + 1, 2, none⟩ = some (.map (some w3.heap.size)) := HC7.out.c2 2
       go_wp2_with fail
       clear r4 s0 s1 s2
       refine (HFL.out w7 _ _ (0 + l1 + l2 + l3) _ HS7.out (H4.out.later HC7.out.bel) (by have := HSL.out; omega)).mono ?_
       rintro e w8 ⟨rfl, hf9, hk9⟩
       have HC8 := hid (HC7.out.fr hf9)
       clear hf9
       by_cases hz : E4 = 0
       . have HS8 := hid (hk9 hz)
         have HR2 := HR.out
         rw [if_neg (fun c => c hz)] at HR2
         clear HR
         have HR := hid HR2
         clear HR2 hk9
         subst hz
         have r4 : w8.cell? ⟨w.heap.size, 5, none⟩ = some (.string ety) := HC8.out.c1 5
         have r5 : w8.cell? ⟨w.heap.size, 6, none⟩ = some (.slice q5 l5 j5) := HC8.out.c1 6
         have s0 : w8.cell? ⟨w3.heap.size + 1, 0, none⟩ = some (.slice tp tn tc) := HC8.out.c2 0
         have s1 : w8.cell? ⟨w3.heap.size + 1, 1, none⟩ = some (.func (.func 95) #[] #[.pointer (some ⟨w2.heap.size, 0, none⟩)]) := HC8.out.c2 1
         have s2 : w8.cell? ⟨w3.heap.size + 1, 2, none⟩ = some (.map (some w3.heap.size)) := HC8.out.c2 2
         go_wp2_with fail
         clear r4 s0 s1 s2 r5
         refine (HFE.out w8 _ _ (0 + l1 + l2 + l3) _ HKN.out HS8.out (H5.out.later HC8.out.bel)).mono ?_
         rintro e w9 ⟨rfl, hb9⟩
         have HB9 := hid (zAA HC8.out.bel hb9 HC8.out.bel.size)
         clear hb9
         go_wp2_with fail
         go_ret
         exact ⟨zAD HR.out.symm, HB9.out⟩
       . have d9 : (E4 != 0) = true := by simpa using hz
         have HR2 : Hid (R = E4) := by have h := HR.out; rw [if_pos hz] at h; exact h
         clear hk9 hz HR
         go_wp2_with fail
         go_ret
         exact ⟨zAD HR2.out.symm, HC8.out.bel⟩
     . have d9 : (E3 != 0) = true := by simpa using hz
       have HR2 : Hid (R = E3) := by have h := HR.out; rw [if_pos hz] at h; exact h
       clear hk9 hz HR
       go_wp2_with fail
       go_ret
       exact ⟨zAD HR2.out.symm, HC7.out.bel⟩
   . have d9 : (E2 != 0) = true := by simpa using hz
     have HR2 : Hid (R = E2) := by have h := HR.out; rw [if_pos hz] at h; exact h
     clear hk9 hz HR
     go_wp2_with fail
     go_ret
     exact ⟨zAD HR2.out.symm, HC6.out.bel⟩
 . have d9 : (E1 != 0) = true := by simpa using hz
   have HR2 : Hid (R = E1) := by have h := HR.out; rw [if_pos hz] at h; exact h
   clear hk9 hz HR
   go_wp2_with fail
   go_ret
   exact ⟨zAD HR2.out.symm, HC5.out.bel⟩
theorem zDZ (ts : List Tp) (hty : ∀ i (hi : i < ts.length), tyk ts[i].n ts[i].f = 0) (r : Rl) (hzr : Szr r) (tv u1 u2 u3 u4 u5 : Value) (w : World) (hT : Rd w (.row 59 2 (ts.map encY)) tv) (htk : Tab w 0 kpl) (htr : Tab w 1 rll) (h1 : Rd w (.row 48 18 (r.w.map encP)) u1) (h2 : Rd w (.row 48 18 (r.t.map encP)) u2) (h3 : Rd w (.row 78 20 (r.m.map encM)) u3) (h4 : Rd w (.row 66 3 (r.k.map encK)) u4) (h5 : Rd w (.row 44 6 (r.e.v.map encO)) u5) :
   Calls Tryz.prog 60 #[.agg #[.string r.n, u1, u2, u3, u4, .string r.e.ty, u5], tv] w fun e w' => e = .returned (.int .i64 (rck ts r)) ∧ Below w.heap.size w w' := by
 by_cases hf : frn r.n = 0
 . by_cases hsz : szs r
   . exact zCM ts hty r hzr tv u1 u2 u3 u4 u5 w hT htk htr h1 h2 h3 h4 h5 hf hsz
   . exact zCS ts hty r hzr tv u1 u2 u3 u4 u5 w hT htk htr h1 h2 h3 h4 h5 hf hsz
 . exact zCK ts hty r hzr tv u1 u2 u3 u4 u5 w hT htk htr h1 h2 h3 h4 h5 hf
theorem zHH {w : World} : ∀ {ds : List Dat} {vs : List Value} {es : List Dat} {us : List Value}, RdL w ds vs → RdL w es us → RdL w (ds ++ es) (vs ++ us)
 | [], vs, es, us, h, k => by rw [RdL.none h]; exact k
 | d :: ds, vs, es, us, h, k => by
  obtain ⟨v, r, rfl, h1, h2⟩ := RdL.one h
  exact .cons h1 (zHH h2 k)
theorem zHI {w : World} : ∀ {L : List Pt} {xs : List Value}, RdL w (L.map encP).flatten xs → xs.length = L.length * 18 ∧ ∀ u, u ∈ xs → u.oneCell' = true
 | [], xs, h => by rw [RdL.none h]; exact ⟨rfl, fun u hu => by cases hu⟩
 | p :: L, xs, h => by
  obtain ⟨us, rs, rfl, h1, h2⟩ := RdL.split (ds := encP p) (es := (L.map encP).flatten) h
  obtain ⟨a, b⟩ := zHI h2
  obtain ⟨v, rfl, h3⟩ := rdP h1
  obtain ⟨x, y, z, rfl⟩ := zAB h3
  refine ⟨by rw [List.length_append, a]; simp [ptC, List.length_cons]; omega, fun u hu => ?_⟩
  rcases List.mem_append.1 hu with hu | hu
  . exact List.all_eq_true.1 (show (ptC p.va p.ty p.c.k (.slice x y z) p.c.l p.c.r p.w p.n).all (·.oneCell') = true from rfl) u hu
  . exact b u hu
def Prw (w0 w : World) (v : Value) (L : List Pt) : Prop := ∃ xs, w.ownsRow w0.heap.size 48 18 v L.length xs ∧ RdL w0 (L.map encP).flatten xs
theorem Prw.shape {w0 w : World} {v : Value} {L : List Pt} (h : Prw w0 w v L) : ∃ p cap, v = .slice p L.length cap := by
  obtain ⟨xs, h1, _⟩ := h
  rcases h1.2 with ⟨h2, h3⟩ | ⟨g, cap, cur, h2, _⟩
  . exact ⟨none, 0, by rw [h2, h3]⟩
  . exact ⟨_, cap, h2⟩
theorem Prw.later {w0 w w' : World} {v : Value} {L : List Pt} (h : Prw w0 w v L) (hb : Below w.heap.size w w') : Prw w0 w' v L := by
  obtain ⟨xs, h1, h2⟩ := h
  exact ⟨xs, zHO h1 fun i hi => hb.block _ (zA0 h1 hi).2, h2⟩
theorem Prw.rd {w0 w : World} {v : Value} {L : List Pt} (h : Prw w0 w v L) (hb : Below w0.heap.size w0 w) : Rd w (.row 48 18 (L.map encP)) v := by
 obtain ⟨xs, h1, h2⟩ := h
 have hc := h1
 rcases h1.2 with ⟨rfl, h5⟩ | ⟨ga, cap, cur, rfl, _, _, hn, hx, _⟩
 . obtain rfl : L = [] := List.eq_nil_of_length_eq_zero h5
   exact .nil _ _ none 0 (Nat.zero_le _)
 . by_cases h0 : 0 < L.length
   . have h3 := h2.below hb
     have := Rd.row (w := w) 48 18 (L.map encP) ga 0 cap xs (by simpa using h0) (by simpa using hn) hx (fun j u hu => by
      have := hc.cells (g := ga) rfl j u hu
      rw [Addr.add_mid] at this
      simpa using this) h3.1 h3.2
     simpa using this
   . obtain rfl : L = [] := List.eq_nil_of_length_eq_zero (by omega)
     exact .nil _ _ _ cap hx
theorem bs_pt' (a b : ByteArray) (k : Int) (v : Value) (l r : Opd) (x n : Int) (w : World) : (Instr.buildSlice 49 1 #[(0, ptV a b k v l r x n)]).run Tryz.prog w = .ok (.slice (some ⟨w.heap.size, 0, none⟩) 1 1) (w.alloc (.cells (ptC a b k v l r x n).toArray 48)) := by kernel_rfl
theorem srcNil {P : Program} {t e : TypeId} (p : Option Addr) (cap : Nat) (ht : P.underlying t = some (.slice e)) (z : Nat) (w : World) : Src P z t (.slice p 0 cap) 0 [] w := by
  refine ⟨.inl ⟨e, ht⟩, fun w' => by simp [Builtin.lenOf], ?_, ?_, by simp, fun u hu => by cases hu⟩
  . cases p <;> simp [Builtin.firstCells, loadCells, loadCellsFrom]
  . cases p <;> simp [Builtin.firstCells, loadCells, loadCellsFrom]
section
variable {ops : Array Oper} {rest : List Oper} {o : Oper} {a : Act} {w : World} {Q : Exit → Act → World → Prop}
theorem zE9 (hgd : o.guard = none) (s x : Operand) (ho : o.op = .call { callee := .builtin .append, args := #[s, x], argTypes := #[49, 49] }) (w0 : World) (v : Value) (L M : List Pt) (hs : a.eval s = v) (hp : Prw w0 w v L) (hb : Below w0.heap.size w0 w)
  (ad : Addr) (c : Nat) (us : List Value) (hx : a.eval x = .slice (some ad) M.length c) (hu : RdL w0 (M.map encP).flatten us) (hc : ∀ j u, us[j]? = some u → w.cell? (ad.add j) = some u) (hl : L.length + M.length ≤ 1000)
  (h : ∀ v' w', Prw w0 w' v' (L ++ M) → Below w0.heap.size w0 w' → wpList Tryz.prog ops Q rest (a.put o.dst v') w') : wpList Tryz.prog ops Q (o :: rest) a w := by
 obtain ⟨i0, b1, b2, b3, b4⟩ := info_parts infoP
 obtain ⟨xs, h1, h2⟩ := hp
 obtain ⟨c1, c2⟩ := zHI hu
 refine wpList_append_own_at _ hgd s x 49 ho w0.heap.size 48 i0 zP 18 224 Tryz.underlying49 b1 b2 b3 b4 rfl (by omega) v L.length xs hs h1 ad M.length c us hx c1 hc c2 (by unfold maxLen; omega) (by omega) hb.size ?_
 intro v' w' q1 q2 q3 q4
 refine h v' w' ⟨xs ++ us, by rw [List.length_append]; exact q1, by rw [List.map_append, List.flatten_append]; exact zHH h2 hu⟩ ?_
 exact ⟨q2.os.trans hb.os, q2.tape.trans hb.tape, q2.output.trans hb.output, Nat.le_trans hb.size q2.size, fun k hk => (q2.block k (Nat.lt_of_lt_of_le hk hb.size) fun e => by have := (zA0 h1 e.symm).1; omega).trans (hb.block k hk)⟩
theorem zGL (hgd : o.guard = none) (s x : Operand) (ho : o.op = .call { callee := .builtin .append, args := #[s, x], argTypes := #[49, 49] }) (w0 : World) (v u : Value) (L M : List Pt) (hs : a.eval s = v) (hp : Prw w0 w v L) (hb : Below w0.heap.size w0 w)
  (hx : a.eval x = u) (hu : Rd w0 (.row 48 18 (M.map encP)) u) (hl : L.length + M.length ≤ 1000)
  (h : ∀ v' w', Prw w0 w' v' (L ++ M) → Below w0.heap.size w0 w' → wpList Tryz.prog ops Q rest (a.put o.dst v') w') : wpList Tryz.prog ops Q (o :: rest) a w := by
 generalize hd : Dat.row 48 18 (M.map encP) = d at hu
 cases hu with
 | lit v => cases hd
 | nil e z p cap h1 =>
  simp only [Dat.row.injEq] at hd
  obtain rfl : M = [] := List.eq_nil_of_length_eq_zero (by have := congrArg List.length hd.2.2; simpa using this)
  obtain ⟨i0, b1, b2, b3, b4⟩ := info_parts infoP
  obtain ⟨q, c, hv⟩ := hp.shape
  have hcap : L.length ≤ c := by
   obtain ⟨xs, h1, _⟩ := hp
   rcases h1.2 with ⟨h2, h3⟩ | ⟨g, cap, cur, h2, _, _, h4, _⟩
   . omega
   . rw [h2] at hv; simp only [Value.slice.injEq] at hv; omega
  have hsrc : Src Tryz.prog i0.size 49 (.slice p 0 cap) 0 [] w := srcNil p cap Tryz.underlying49 i0.size w
  refine Lib.wpList_append_run _ hgd s x 49 49 ho v (.slice p 0 cap) hs hx v w ?_ (h v w (by simpa using hp) hb)
  rw [hv]
  exact run_append_nothing w _ _ _ 48 i0 Tryz.underlying49 b1 q L.length c hcap _ hsrc
 | row e' z' l g off cap xs h1 h2 h3 h4 h5 h6 =>
  simp only [Dat.row.injEq] at hd
  obtain ⟨rfl, rfl, rfl⟩ := hd
  rw [List.length_map] at hx
  refine zE9 hgd s x ho w0 v L M hs hp hb ⟨g, off, none⟩ cap xs hx ⟨h5, h6⟩ (fun j u hu => ?_) hl h
  rw [Addr.add_mid]
  exact zAK h4 hb j u hu
theorem wp_bsP (hgd : o.guard = none) (x : Operand) (ho : o.op = .buildSlice 49 1 #[(0, x)]) (A : List Value) (hA : ∃ a b k v l r y n, A = ptC a b k v l r y n) (hx : a.eval x = .agg A.toArray)
  (h : wpList Tryz.prog ops Q rest (a.put o.dst (.slice (some ⟨w.heap.size, 0, none⟩) 1 1)) (w.alloc (.cells A.toArray 48))) : wpList Tryz.prog ops Q (o :: rest) a w := by
 obtain ⟨a', b, k, v, l, r, y, n, rfl⟩ := hA
 refine wpList_plain hgd fun K hK => ?_
 have e := bs_pt' a' b k v l r y n w
 have hx' : a.eval x = ptV a' b k v l r y n := hx
 unfold Oper.wp
 simp [execOp, ho, hx', e, Result.andThen]
 exact hK _ _ h
end
theorem grow_any (n : Nat) (hn : n ≤ 1000) (w : World) : Calls Tryz.prog 113 #[.slice none 0 0, .int .i64 (n : Nat)] w fun e w' => ∃ v, e = .returned v ∧ Prw w w' v [] ∧ Below w.heap.size w w' := by
 have d1 : decide ((n : Int) < 0) = false := by simp
 have d2 : ¬ (n : Int) < 0 := by omega
 have d3 : wrap64 (n : Int) = n := by unfold wrap64; omega
 by_cases h0 : n = 0
 . subst h0
   go_enter Tryz.func113, Tryz.ntmps113
   go_wp2_with fail
   go_ret
   exact ⟨_, rfl, ⟨[], World.ownsRow_nil _ _ _ _, RdL.nil _⟩, Below.refl _ _⟩
 . obtain ⟨i0, b1, b2, b3, b4⟩ := info_parts infoP
   have d4 : decide ((n : Int) > 0) = true := by simp; omega
   have d5 : (0 : Int) < (n : Int) := by omega
   have d6 : (0 < n) = True := by simp; omega
   have HAP := hid (fun ty => Lib.run_append_nil_zeros (P := Tryz.prog) w 49 3 ty 48 i0 zP .i64 .i64 Tryz.underlying49 Tryz.underlying3 b1 b2 n (by omega) (by rw [b3]; omega) (by omega) (by rw [b4]; omega))
   have HC := hid (grownCap_ge w n 0 48)
   have HOW : Hid (∀ c, c = grownCap w n 0 48 → (w.drew.alloc (.cells (Builtin.zeroCells zP.cells n ++ Builtin.zeroCells zP.cells (grownCap w n 0 48 - n)) 48)).ownsRow w.heap.size 48 18 (.slice (some ⟨w.heap.size, 0, none⟩) 0 c) 0 []) := fun c hc => by
    have hge := grownCap_ge w n 0 48
    refine ⟨rfl, .inr ⟨w.heap.size, _, _, rfl, Nat.le_refl _, heap_alloc_new w.drew _, Nat.zero_le _, ?_, ?_, rfl⟩⟩
    . rw [hc]; exact grownCap_le_maxLen w n 0 48 (by unfold maxLen; omega)
    . simp only [Array.size_append, size_zeroCells]
      rw [hc, show zP.cells.size = 18 from rfl, ← Nat.add_mul]
      congr 1
      omega
   obtain ⟨C, hC⟩ : ∃ C, grownCap w n 0 48 = C := ⟨_, rfl⟩
   rw [hC] at HAP HC HOW
   have hCC := HOW.out C rfl
   have HO2 := hid hCC
   have HB : Hid (∀ o, Below w.heap.size w (w.drew.alloc o)) := fun o => ((Below.refl w.heap.size w).trans ⟨rfl, rfl, rfl, Nat.le_refl _, fun _ _ => rfl⟩ : Below w.heap.size w w.drew).alloc (Nat.le_refl _) _
   clear hC HOW hCC hn b1 b2 b3 b4
   go_enter Tryz.func113, Tryz.ntmps113
   go_wp2_with ((with_reducible show wpList _ _ _ (Oper.mk (some 22) _ _ _ _ _ :: _) _ _); refine Lib.wpList_append_run _ (by rfl) (.tmp 20) (.tmp 21) 49 3 (by rfl) (.slice none 0 0) (.int .i64 n) (by rfl) (by { show Value.int .i64 (wrap64 (n : Int)) = _; rw [d3] }) _ _ (HAP.out _) ?_)
   go_ret
   exact ⟨_, rfl, ⟨[], HO2.out, RdL.nil _⟩, HB.out _⟩
theorem zF2 (ws ns : List Pt) (u1 u2 : Value) (g c : Nat) (w : World) (hg0 : w.cell? ⟨g, 0, none⟩ = some u1) (hg1 : w.cell? ⟨g, 1, none⟩ = some u2) (h1 : Rd w (.row 48 18 (ws.map encP)) u1) (h2 : Rd w (.row 48 18 (ns.map encP)) u2) (hl : ws.length + ns.length ≤ 500) :
  Calls Tryz.prog 72 #[.slice (some ⟨g, 0, none⟩) 2 c] w fun e w' => ∃ v, e = .returned v ∧ Prw w w' v (ws ++ ns) ∧ Below w.heap.size w w' := by
 obtain ⟨q1, j1, e1, _, _⟩ := zAG lenP h1
 obtain ⟨q2, j2, e2, _, _⟩ := zAG lenP h2
 subst e1 e2
 have HL := hid hl
 have HGR := hid (grow_any (ws.length + ns.length) (by omega) w)
 have H1 := hid h1
 have H2 := hid h2
 have G0 := hid hg0
 have G1 := hid hg1
 obtain ⟨l1, hl1⟩ : ∃ l, ws.length = l := ⟨_, rfl⟩
 obtain ⟨l2, hl2⟩ : ∃ l, ns.length = l := ⟨_, rfl⟩
 rw [hl1] at H1 HGR HL G0 hl hg0
 rw [hl2] at H2 HGR HL G1 hl hg1
 have HL1 := hid hl1
 have HL2 := hid hl2
 obtain ⟨m, hm⟩ : ∃ m, l1 + l2 = m := ⟨_, rfl⟩
 rw [hm] at HGR
 have a1 : wrap64 (l1 : Int) = l1 := by unfold wrap64; omega
 have a2 : wrap64 ((l1 : Int) + (l2 : Int)) = (m : Nat) := by unfold wrap64; omega
 have a3 : decide ((l1 : Int) < 0) = false := by simp
 have a4 : decide ((m : Int) < 0) = false := by simp
 clear hl h1 h2 hl1 hl2 hm
 go_enter Tryz.func72, Tryz.ntmps72
 go_wp2_with fail
 go_loopg [3, 11] 3 (fun gg s i wr => ∃ k : Nat, k ≤ 2 ∧ gg = 3 - k ∧ s = .int .i64 (if k = 0 then (0 : Int) else if k = 1 then (l1 : Int) else (m : Int)) ∧ i = .int .i64 (k : Nat) ∧ w = wr)
 case atStart => exact ⟨0, by omega, by omega, rfl, rfl, rfl⟩
 case round =>
  obtain ⟨k, hk, rfl, rfl, rfl, rfl⟩ := hrel
  rcases (by omega : k = 0 ∨ k = 1 ∨ k = 2) with rfl | rfl | rfl
  . go_wp2_with fail
    go_roundg (3 - 1)
    case rel => exact ⟨1, by omega, rfl, by rw [a1]; rfl, rfl, rfl⟩
    case measure => omega
  . go_wp2_with fail
    go_roundg (3 - 2)
    case rel => exact ⟨2, by omega, rfl, by rw [a2]; rfl, rfl, rfl⟩
    case measure => omega
  . go_wp2_with fail
    refine HGR.out.mono ?_
    rintro e w1 ⟨v1, rfl, hp1, hb1⟩
    have HP1 := hid hp1
    have HB1 := hid hb1
    clear hp1 hb1
    go_wp2_with fail
    go_loopg [6, 27] 3 (fun gg s i wr => ∃ (k : Nat) (v : Value), k ≤ 2 ∧ gg = 3 - k ∧ s = v ∧ i = .int .i64 (k : Nat) ∧ Prw w wr v (if k = 0 then [] else if k = 1 then ws else ws ++ ns) ∧ Below w.heap.size w wr)
    case atStart => exact ⟨0, v1, by omega, by omega, rfl, rfl, HP1.out, HB1.out⟩
    case round =>
     obtain ⟨k, v, hk, rfl, rfl, rfl, hP, hB⟩ := hrel
     rcases (by omega : k = 0 ∨ k = 1 ∨ k = 2) with rfl | rfl | rfl
     . simp only [if_true] at hP
       have c0 : wr.cell? ⟨g, 0, none⟩ = some (.slice q1 l1 j1) := (hB.cell (p := ⟨g, 0, none⟩) (World.block_lt_of_cell? _ _ G0.out)).trans G0.out
       have HP := hid hP
       have HB := hid hB
       obtain ⟨pv, cv, rfl⟩ := hP.shape
       simp only [List.length_nil] at HP ⊢
       clear hP hB
       go_wp2_with ((with_reducible show wpList _ _ _ (Oper.mk (some 33) _ _ _ _ _ :: _) _ _); refine zGL (by rfl) (.tmp 31) (.tmp 32) (by rfl) w (.slice pv 0 cv) (.slice q1 l1 j1) [] ws (by rfl) HP.out HB.out (by rfl) H1.out (by have := HL.out; have := HL1.out; simp; omega) ?_; intro v9 w9 hp9 hb9; have HP9 := hid hp9; have HB9 := hid hb9; clear hp9 hb9)
       go_roundg (3 - 1)
       case rel => exact ⟨1, v9, by omega, rfl, rfl, rfl, HP9.out, HB9.out⟩
       case measure => omega
     . have c0 : wr.cell? ⟨g, 1, none⟩ = some (.slice q2 l2 j2) := (hB.cell (p := ⟨g, 1, none⟩) (World.block_lt_of_cell? _ _ G1.out)).trans G1.out
       simp only [if_neg (show ¬ (1 : Nat) = 0 by decide), if_true] at hP
       have HP := hid hP
       have HB := hid hB
       obtain ⟨pv, cv, rfl⟩ := hP.shape
       rw [HL1.out] at HP ⊢
       clear hP hB
       go_wp2_with ((with_reducible show wpList _ _ _ (Oper.mk (some 33) _ _ _ _ _ :: _) _ _); refine zGL (by rfl) (.tmp 31) (.tmp 32) (by rfl) w (.slice pv l1 cv) (.slice q2 l2 j2) ws ns (by rfl) HP.out HB.out (by rfl) H2.out (by have := HL.out; have := HL1.out; have := HL2.out; omega) ?_; intro v9 w9 hp9 hb9; have HP9 := hid hp9; have HB9 := hid hb9; clear hp9 hb9)
       go_roundg (3 - 2)
       case rel => exact ⟨2, v9, by omega, rfl, rfl, rfl, HP9.out, HB9.out⟩
       case measure => omega
     . simp only [if_neg (show ¬ (2 : Nat) = 0 by decide), if_neg (show ¬ (2 : Nat) = 1 by decide)] at hP
       have HP := hid hP
       have HB := hid hB
       obtain ⟨pv, cv, rfl⟩ := hP.shape
       obtain ⟨n9, hn9⟩ : ∃ n9, (ws ++ ns).length = n9 := ⟨_, rfl⟩
       rw [hn9] at HP ⊢
       clear hP hB hn9
       go_wp2_with fail
       go_ret
       exact ⟨_, rfl, HP.out, HB.out⟩
theorem zD4 (r : Rl) (u1 u2 u3 u4 u5 : Value) (w : World) (h1 : Rd w (.row 48 18 (r.w.map encP)) u1) (h2 : Rd w (.row 48 18 (r.t.map encP)) u2) (h3 : Rd w (.row 78 20 (r.m.map encM)) u3) (h4 : Rd w (.row 66 3 (r.k.map encK)) u4) (h5 : Rd w (.row 44 6 (r.e.v.map encO)) u5) (hz1 : r.w.length ≤ 100) (hz2 : r.t.length ≤ 100) (hz3 : r.m.length ≤ 100) :
  Calls Tryz.prog 62 #[.agg #[.string r.n, u1, u2, u3, u4, .string r.e.ty, u5]] w fun e w' => ∃ v, e = .returned v ∧ Rd w' (.row 48 18 ((r.w ++ r.t ++ r.m.map Mn.p).map encP)) v ∧ Below w.heap.size w w' ∧ ∀ i, v.ownBlock = some i → w.heap.size ≤ i := by
 obtain ⟨q1, j1, e1, _, _⟩ := zAG lenP h1
 obtain ⟨q2, j2, e2, _, _⟩ := zAG lenP h2
 obtain ⟨q3, j3, e3, hm3, _⟩ := zAG lenM h3
 obtain ⟨q4, l4, j4, e4⟩ := zAB h4
 obtain ⟨q5, l5, j5, e5⟩ := zAB h5
 subst e1 e2 e3 e4 e5
 obtain ⟨rn, ws, ns, ms, ks, ⟨ety, vs⟩⟩ := r
 simp only at h1 h2 h3 hz1 hz2 hz3 hm3 ⊢
 clear h4 h5
 obtain ⟨l1, hl1⟩ : ∃ l, ws.length = l := ⟨_, rfl⟩
 obtain ⟨l2, hl2⟩ : ∃ l, ns.length = l := ⟨_, rfl⟩
 obtain ⟨l3, hl3⟩ : ∃ l, ms.length = l := ⟨_, rfl⟩
 have HZ : Hid (ws.length ≤ 100 ∧ ns.length ≤ 100 ∧ ms.length ≤ 100) := ⟨hz1, hz2, hz3⟩
 rw [hl1] at h1
 rw [hl2] at h2
 rw [hl3] at h3 hm3
 rw [hl1, hl2, hl3]
 have HN := hid hl3
 have HT : Hid (BlkT w ((w.alloc (.cells [.string rn, .slice q1 l1 j1, .slice q2 l2 j2, .slice q3 l3 j3, .slice q4 l4 j4, .string ety, .slice q5 l5 j5].toArray 56)).alloc (.cells #[.slice q1 l1 j1, .slice q2 l2 j2] 49)) [.string rn, .slice q1 l1 j1, .slice q2 l2 j2, .slice q3 l3 j3, .slice q4 l4 j4, .string ety, .slice q5 l5 j5] 56) := (BlkT.start w _ _).next ((Below.refl _ _).alloc (Nat.le_refl _) _)
 have b2 : ((w.alloc (.cells [.string rn, .slice q1 l1 j1, .slice q2 l2 j2, .slice q3 l3 j3, .slice q4 l4 j4, .string ety, .slice q5 l5 j5].toArray 56)).alloc (.cells #[.slice q1 l1 j1, .slice q2 l2 j2] 49)).heap[w.heap.size + 1]? = some (.cells #[.slice q1 l1 j1, .slice q2 l2 j2] 49) := zC0 _ _ _
 have HCO := hid (zF2 ws ns _ _ (w.heap.size + 1) 2 ((w.alloc (.cells [.string rn, .slice q1 l1 j1, .slice q2 l2 j2, .slice q3 l3 j3, .slice q4 l4 j4, .string ety, .slice q5 l5 j5].toArray 56)).alloc (.cells #[.slice q1 l1 j1, .slice q2 l2 j2] 49)) (zAC b2 0) (zAC b2 1) (h1.later HT.out.bel) (h2.later HT.out.bel) (by omega))
 have HM := hid (h3.later HT.out.bel)
 clear h1 h2 h3 hz1 hz2 hz3 hl1 hl2 hl3 b2
 go_enter Tryz.func62, Tryz.ntmps62
 go_wp2_with fail
 refine HCO.out.mono ?_
 obtain ⟨w0, hw0⟩ : ∃ w0, ((w.alloc (.cells [.string rn, .slice q1 l1 j1, .slice q2 l2 j2, .slice q3 l3 j3, .slice q4 l4 j4, .string ety, .slice q5 l5 j5].toArray 56)).alloc (.cells #[.slice q1 l1 j1, .slice q2 l2 j2] 49)) = w0 := ⟨_, rfl⟩
 have hsz0 : w0.heap.size = w.heap.size + 2 := by rw [← hw0]; simp
 rw [hw0] at HT HM ⊢
 clear HCO
 rintro e w1 ⟨v1, rfl, hp1, hb1⟩
 have HP1 := hid hp1
 have HB1 := hid hb1
 have c3 : w1.cell? ⟨w.heap.size, 3, none⟩ = some (.slice q3 l3 j3) := (HT.out.next hb1).c 3
 have HSZ := hid hsz0
 clear hp1 hb1 hw0 hsz0
 go_wp2_with fail
 go_loopg [3, 15] (l3 + 1) (fun gg s i wr => ∃ (k : Nat) (v : Value), k ≤ l3 ∧ gg = l3 + 1 - k ∧ s = v ∧ i = .int .i64 (k : Nat) ∧ Prw w0 wr v (ws ++ ns ++ (ms.take k).map Mn.p) ∧ Below w0.heap.size w0 wr)
 case atStart => exact ⟨0, v1, by omega, by omega, rfl, rfl, by simpa using HP1.out, HB1.out⟩
 case round =>
  obtain ⟨k, v, hk, rfl, rfl, rfl, hP, hB⟩ := hrel
  have HP := hid hP
  have HB := hid hB
  obtain ⟨pv, cv, rfl⟩ := hP.shape
  obtain ⟨nv, hnv⟩ : ∃ nv, (ws ++ ns ++ (ms.take k).map Mn.p).length = nv := ⟨_, rfl⟩
  have HNV := hid hnv
  rw [hnv] at HP ⊢
  clear hP hnv
  by_cases hlt : k < l3
  . have hkc : k < ms.length := by have := HN.out; omega
    obtain ⟨p', cap', e0, _, hat⟩ := zAG lenM HM.out
    simp only [Value.slice.injEq] at e0
    obtain ⟨e01, hx0, e02⟩ := e0
    obtain ⟨g, off, e03, hrd⟩ := hat (by omega)
    obtain ⟨A, r1, o1⟩ := hrd w0 (Below.refl _ _) k hkc
    obtain ⟨B, z0, o0⟩ := rdM o1
    obtain ⟨vc, z1, o2⟩ := rdP o0
    obtain ⟨up, un, uc, hu⟩ := zAB o2
    obtain rfl : q3 = some ⟨g, off, none⟩ := e01.trans e03
    have hAz : A.length = 20 := o1.1.symm
    have HAO : Hid (A.all (·.oneCell') = true) := by show _ = _; rw [z0, z1, hu]; rfl
    have HBF : Hid (∃ a b k v l r y n, B = ptC a b k v l r y n) := ⟨_, _, _, _, _, _, _, _, z1⟩
    have ZA : Hid ((Tryz.prog.info? 78).map (·.size) = some A.length) := by show _ = _; rw [hAz]; kernel_rfl
    have ZB : Hid ((Tryz.prog.info? 48).map (·.size) = some B.length) := by show _ = _; rw [z1]; kernel_rfl
    have HRB : Hid (RdL w0 ([ms[k].p].map encP).flatten B) := by show RdL _ _ _; simpa using o0
    have HAL := hid hAz
    have HZ0 := hid z0
    have X1_ := hid (zAK r1 hB)
    have htk : ws ++ ns ++ (ms.take k).map Mn.p ++ [ms[k].p] = ws ++ ns ++ (ms.take (k + 1)).map Mn.p := by rw [List.take_succ_eq_append_getElem hkc, List.map_append, ← List.append_assoc]; rfl
    have HTK := hid htk
    have i1 : (0 : Int) ≤ (k : Int) := by omega
    have i2 : (k : Int) < (l3 : Int) := by omega
    clear hB hat hrd r1 o1 hAz hx0 z0 z1 hu o2 o0 e01 e02 e03 htk
    go_wp2_with (first
     | ((with_reducible refine gLq ?_); refine wpList_load_mid (by rfl) 78 _ (by rfl) g (off + k * 20) (by rfl) A _ X1_.out Tryz.underlying78 rfl ZA.out ?_)
     | ((with_reducible refine gSq ?_); refine zA7 (by rfl) 78 _ _ (by rfl) wr.heap.size 0 _ 78 (.agg A.toArray) A (by rfl) (by rfl) (by rfl) (heap_alloc_new _ _) (by have := HAL.out; simp; omega) ZA.out HAO.out ?_; intro w2 hblk hfr; rw [zAT (by rw [HAL.out]; rfl)] at hblk; have XB : Hid (w2.rangeAt wr.heap.size 2 B) := zCZ hblk HZ0.out; have HBW : Hid (Below wr.heap.size wr w2) := zAM hfr; clear hblk hfr)
     | ((with_reducible refine gLq ?_); refine wpList_load_mid (by rfl) 48 _ (by rfl) wr.heap.size 2 (by rfl) B _ XB.out Tryz.underlying48 rfl ZB.out ?_)
     | ((with_reducible show wpList _ _ _ (Oper.mk _ (.buildSlice _ _ _) _ _ _ _ :: _) _ _); refine wp_bsP (by rfl) _ (by rfl) B HBF.out (by rfl) ?_; have HB2 : Hid (Below wr.heap.size wr (w2.alloc (.cells B.toArray 48))) := HBW.out.alloc HBW.out.size _; have HCB : Hid (∀ j u, B[j]? = some u → (w2.alloc (.cells B.toArray 48)).cell? ((⟨w2.heap.size, 0, none⟩ : Addr).add j) = some u) := World.news_of_block (heap_alloc_new _ _))
     | ((with_reducible show wpList _ _ _ (Oper.mk (some 23) _ _ _ _ _ :: _) _ _); refine zE9 (by rfl) (.tmp 19) (.tmp 22) (by rfl) w0 (.slice pv nv cv) (ws ++ ns ++ (ms.take k).map Mn.p) [ms[k].p] (by rfl) (HP.out.later HB2.out) (zAA HB.out HB2.out HB.out.size) ⟨w2.heap.size, 0, none⟩ 1 B (by rfl) HRB.out HCB.out (by have := HZ.out; simp; omega) ?_; intro v9 w9 hp9 hb9; have HP9 := hid hp9; have HB9 := hid hb9; clear hp9 hb9))
    go_roundg (l3 + 1 - (k + 1))
    case rel => exact ⟨k + 1, v9, by omega, rfl, rfl, by go_num, by rw [← HTK.out]; exact HP9.out, HB9.out⟩
    case measure => omega
  . obtain rfl : k = l3 := by omega
    have hw : ms.take k = ms := List.take_of_length_le (by have := HN.out; omega)
    have HRD := hid (HP.out.rd hB)
    have HOW : Hid (∀ i, (Value.slice pv nv cv).ownBlock = some i → w.heap.size ≤ i) := fun i hi => by
     obtain ⟨xs, h1, _⟩ := HP.out
     have h2 := (zA0 h1 hi).1
     have h3 := HSZ.out
     omega
    rw [hw] at HRD
    have HBB := hid (zAA HT.out.bel hB HT.out.bel.size)
    clear hw hB
    go_wp2_with fail
    go_ret
    exact ⟨_, rfl, HRD.out, HBB.out, HOW.out⟩
end Go.Proofs.YtnlmknbhppdliaaGreatDoor.Chk
