/-
  A rule, by the program.
-/
import Derived.Test.YtnajcoikcoegoaaDoorDl
import Derived.Test.YtnajcoikcoegoaaDoorDh
namespace Go.Proofs.YtnajcoikcoegoaaDoor.Chk
open Go.ChangeShapes Go.WideShapes Go.ChangeAt Go.RowKit Go.Maps
set_option linter.unusedVariables false
set_option linter.unusedSimpArgs false
set_option maxRecDepth 20000
/-- A rule's box and its scope's, while its parts are checked. -/
structure Cs2 (w W : World) (us ss : List Value) (sb mb : Nat) : Prop where
  bel : Below w.heap.size w W
  b1 : W.heap[w.heap.size]? = some (.cells us.toArray 55 (0, 0))
  b2 : W.heap[sb]? = some (.cells ss.toArray 118 (0, 0))
  lo : w.heap.size < mb
  ne : sb ≠ mb
theorem Cs2.fr {w W W' : World} {us ss : List Value} {sb mb : Nat} (h : Cs2 w W us ss sb mb) (hf : Fr (fun i => i = mb) W W') : Cs2 w W' us ss sb mb :=
  ⟨below_fr h.bel hf (Nat.le_of_lt h.lo), (hf.block _ (blk_lt h.b1) (by have := h.lo; omega)).trans h.b1, (hf.block _ (blk_lt h.b2) h.ne).trans h.b2, h.lo, h.ne⟩
theorem Cs2.c1 {w W : World} {us ss : List Value} {sb mb : Nat} (h : Cs2 w W us ss sb mb) (j : Nat) : W.cell? ⟨w.heap.size, j, none⟩ = us[j]? := by rw [cell_of_blk h.b1]; simp
theorem Cs2.c2 {w W : World} {us ss : List Value} {sb mb : Nat} (h : Cs2 w W us ss sb mb) (j : Nat) : W.cell? ⟨sb, j, none⟩ = ss[j]? := by rw [cell_of_blk h.b2]; simp
theorem cs2_start {w w3 w4 : World} {us ss zs : List Value} (h : BlkT w w3 us 55) (hb : w4.heap[w3.heap.size + 1]? = some (.cells (ovr zs 0 ss).toArray 118 (0, 0))) (hz : ss.length = zs.length) (hf : Fr (fun i => i = w3.heap.size + 1) ((w3.alloc (.map #[] 0)).alloc (.cells zs.toArray 118)) w4) : Cs2 w w4 us ss (w3.heap.size + 1) w3.heap.size := by
  have hlt := blk_lt h.b1
  have hsz := h.bel.size
  have e2 : ((w3.alloc (.map #[] 0)).alloc (.cells zs.toArray 118)).heap.size = w3.heap.size + 2 := by simp
  have hb3 : Below w.heap.size w ((w3.alloc (.map #[] 0)).alloc (.cells zs.toArray 118)) := (h.bel.alloc hsz _).alloc (by simp; omega) _
  rw [ovr_all hz] at hb
  refine ⟨below_fr hb3 hf (by omega), (hf.block _ (by omega) (by omega)).trans ?_, hb, hlt, by omega⟩
  rw [Below.heap_alloc _ _ _ (by simp; omega), Below.heap_alloc _ _ _ hlt]
  exact h.b1
theorem scp_start {w w3 w4 : World} {us ss zs : List Value} {ts : List Tp} {tv : Value} {b : Nat} (hT : Rd w (.row 72 2 (ts.map encY)) tv) (htk : Tab w 0 kpl) (htr : Tab w 1 rll) (hc : Cs2 w w4 us ss (w3.heap.size + 1) w3.heap.size) (hfc : w3.cell? ⟨b, 0, none⟩ = some tv) (hf : Fr (fun i => i = w3.heap.size + 1) ((w3.alloc (.map #[] 0)).alloc (.cells zs.toArray 118)) w4) : Scp w4 ts tv b w3.heap.size [] 0 := by
  have hb1 : Below (w3.alloc (.map #[] 0)).heap.size (w3.alloc (.map #[] 0)) w4 := new_store (by simpa using hf)
  have hb2 : Below w3.heap.size w3 w4 := below_trans ((Below.refl _ _).alloc (Nat.le_refl _) _) hb1 (by simp)
  exact ⟨hT.later hc.bel, (hb2.cell (p := ⟨b, 0, none⟩) (World.block_lt_of_cell? _ _ hfc)).trans hfc, (km_made w3).later hb1, tab_later htk hc.bel, tab_later htr hc.bel⟩
/-- Sizes of what a rule names. -/
structure Szr (r : Rl) : Prop where
  w : ∀ t, t ∈ r.w → Wsz t.c
  t : ∀ t, t ∈ r.t → Wsz t.c
  m : ∀ x, x ∈ r.m → Wsz x.p.c
  k : ∀ x, x ∈ r.k → x.l.size ≤ maxLen ∧ x.r.size ≤ maxLen
  e : ∀ o, o ∈ r.e.v → o.va.size ≤ maxLen
theorem rck_parts (ts : List Tp) (r : Rl) (h1 : frn r.n = 0) (h2 : szs r) : rck ts r = if wfs 0 ts [] r.w ≠ 0 then wfs 0 ts [] r.w else if nfs 0 ts r.w (r.w.map Pt.va) r.t ≠ 0 then nfs 0 ts r.w (r.w.map Pt.va) r.t else if mfs 0 ts r.w (r.w.map Pt.va ++ r.t.map Pt.va) r.m ≠ 0 then mfs 0 ts r.w (r.w.map Pt.va ++ r.t.map Pt.va) r.m else if lfs 0 r.w r.t r.k ≠ 0 then lfs 0 r.w r.t r.k else eck ts r.w r.e.ty r.e.v := by
  unfold rck
  rw [if_neg (fun c => c h1), if_neg (fun c => c h2), wfs_cont, nfs_cont, mfs_cont, lfs_cont]
set_option maxHeartbeats 16000000 in
theorem checkRule_name (ts : List Tp) (hty : ∀ i (hi : i < ts.length), tyk ts[i].n ts[i].f = 0) (r : Rl) (hzr : Szr r) (tv u1 u2 u3 u4 u5 : Value) (w : World) (hT : Rd w (.row 72 2 (ts.map encY)) tv) (htk : Tab w 0 kpl) (htr : Tab w 1 rll) (h1 : Rd w (.row 47 18 (r.w.map encP)) u1) (h2 : Rd w (.row 47 18 (r.t.map encP)) u2) (h3 : Rd w (.row 87 20 (r.m.map encM)) u3) (h4 : Rd w (.row 126 3 (r.k.map encK)) u4) (h5 : Rd w (.row 31 6 (r.e.v.map encO)) u5) (hf : frn r.n ≠ 0) :
    Calls Tryd.prog 35 #[.agg #[.string r.n, u1, u2, u3, u4, .string r.e.ty, u5], tv] w fun e w' => e = .returned (.int .i64 (rck ts r)) ∧ Below w.heap.size w w' := by
  have HCN := hid (fun W (hW : Below w.heap.size w W) => checkName_any r.n W (tab_later htk hW) (tab_later htr hW))
  have hR : rck ts r = frn r.n := by unfold rck; rw [if_pos hf]
  rw [hR]
  clear hR
  obtain ⟨tp, tn, tc, rfl⟩ := rd_shape hT
  obtain ⟨q1, j1, e1, _, _⟩ := rd_row lenP h1
  obtain ⟨q2, j2, e2, _, _⟩ := rd_row lenP h2
  obtain ⟨q3, j3, e3, _, _⟩ := rd_row lenM h3
  obtain ⟨q4, j4, e4, _, _⟩ := rd_row lenK h4
  obtain ⟨q5, j5, e5, _, _⟩ := rd_row lenO h5
  subst e1 e2 e3 e4 e5
  obtain ⟨rn, ws, ns, ms, ks, ⟨ety, vs⟩⟩ := r
  simp only at HCN hf ⊢
  obtain ⟨E, hE⟩ : ∃ E, frn rn = E := ⟨_, rfl⟩
  rw [hE] at HCN hf ⊢
  generalize ws.length = l1
  generalize ns.length = l2
  generalize ms.length = l3
  generalize ks.length = l4
  generalize vs.length = l5
  have HT : Hid (BlkT w (w.alloc (.cells [.string rn, .slice q1 l1 j1, .slice q2 l2 j2, .slice q3 l3 j3, .slice q4 l4 j4, .string ety, .slice q5 l5 j5].toArray 55)) [.string rn, .slice q1 l1 j1, .slice q2 l2 j2, .slice q3 l3 j3, .slice q4 l4 j4, .string ety, .slice q5 l5 j5] 55) := BlkT.start w _ _
  have d9 : (E != 0) = true := by simpa using hf
  clear h1 h2 h3 h4 h5 hf hE hzr
  go_enter Tryd.func35, Tryd.ntmps35
  go_wp2_with fail
  refine (HCN.out _ HT.out.bel).mono ?_
  rintro e w1 ⟨rfl, rfl⟩
  go_wp2_with fail
  go_ret
  exact ⟨ret_int rfl, HT.out.bel⟩
set_option maxHeartbeats 16000000 in
theorem checkRule_size (ts : List Tp) (hty : ∀ i (hi : i < ts.length), tyk ts[i].n ts[i].f = 0) (r : Rl) (hzr : Szr r) (tv u1 u2 u3 u4 u5 : Value) (w : World) (hT : Rd w (.row 72 2 (ts.map encY)) tv) (htk : Tab w 0 kpl) (htr : Tab w 1 rll) (h1 : Rd w (.row 47 18 (r.w.map encP)) u1) (h2 : Rd w (.row 47 18 (r.t.map encP)) u2) (h3 : Rd w (.row 87 20 (r.m.map encM)) u3) (h4 : Rd w (.row 126 3 (r.k.map encK)) u4) (h5 : Rd w (.row 31 6 (r.e.v.map encO)) u5) (hf : frn r.n = 0) (hsz : ¬ szs r) :
    Calls Tryd.prog 35 #[.agg #[.string r.n, u1, u2, u3, u4, .string r.e.ty, u5], tv] w fun e w' => e = .returned (.int .i64 (rck ts r)) ∧ Below w.heap.size w w' := by
  have HCN := hid (fun W (hW : Below w.heap.size w W) => checkName_any r.n W (tab_later htk hW) (tab_later htr hW))
  rw [hf] at HCN
  have hR : rck ts r = 1 := by unfold rck; rw [if_neg (fun c => c hf), if_pos hsz]
  rw [hR]
  clear hR
  obtain ⟨tp, tn, tc, rfl⟩ := rd_shape hT
  obtain ⟨q1, j1, e1, _, _⟩ := rd_row lenP h1
  obtain ⟨q2, j2, e2, _, _⟩ := rd_row lenP h2
  obtain ⟨q3, j3, e3, _, _⟩ := rd_row lenM h3
  obtain ⟨q4, j4, e4, _, _⟩ := rd_row lenK h4
  obtain ⟨q5, j5, e5, _, _⟩ := rd_row lenO h5
  have HIS := hid (fun W => isSized_any r q1 q2 q3 q4 q5 j1 j2 j3 j4 j5 r.e.v.length W false (by simpa using hsz))
  subst e1 e2 e3 e4 e5
  obtain ⟨rn, ws, ns, ms, ks, ⟨ety, vs⟩⟩ := r
  simp only at HCN HIS ⊢
  generalize ws.length = l1 at *
  generalize ns.length = l2 at *
  generalize ms.length = l3 at *
  generalize ks.length = l4 at *
  generalize vs.length = l5 at *
  have HT : Hid (BlkT w (w.alloc (.cells [.string rn, .slice q1 l1 j1, .slice q2 l2 j2, .slice q3 l3 j3, .slice q4 l4 j4, .string ety, .slice q5 l5 j5].toArray 55)) [.string rn, .slice q1 l1 j1, .slice q2 l2 j2, .slice q3 l3 j3, .slice q4 l4 j4, .string ety, .slice q5 l5 j5] 55) := BlkT.start w _ _
  have XR : Hid ((w.alloc (.cells [.string rn, .slice q1 l1 j1, .slice q2 l2 j2, .slice q3 l3 j3, .slice q4 l4 j4, .string ety, .slice q5 l5 j5].toArray 55)).rangeAt w.heap.size 0 [.string rn, .slice q1 l1 j1, .slice q2 l2 j2, .slice q3 l3 j3, .slice q4 l4 j4, .string ety, .slice q5 l5 j5]) := range_blk HT.out.b1
  clear h1 h2 h3 h4 h5 hf hsz hzr
  go_enter Tryd.func35, Tryd.ntmps35
  go_wp2_with fail
  refine (HCN.out _ HT.out.bel).mono ?_
  rintro e w1 ⟨rfl, hw1⟩
  have HT1 : Hid (BlkT w w1 [.string rn, .slice q1 l1 j1, .slice q2 l2 j2, .slice q3 l3 j3, .slice q4 l4 j4, .string ety, .slice q5 l5 j5] 55) := by rw [hw1]; exact HT.out
  clear hw1 XR
  have XR : Hid (w1.rangeAt w.heap.size 0 [.string rn, .slice q1 l1 j1, .slice q2 l2 j2, .slice q3 l3 j3, .slice q4 l4 j4, .string ety, .slice q5 l5 j5]) := range_blk HT1.out.b1
  go_wp2_with ((with_reducible show wpList _ _ _ (Oper.mk _ (.load _ _) _ _ _ _ :: _) _ _); refine wpList_load_mid (by rfl) 55 _ (by rfl) w.heap.size 0 (by rfl) [.string rn, .slice q1 l1 j1, .slice q2 l2 j2, .slice q3 l3 j3, .slice q4 l4 j4, .string ety, .slice q5 l5 j5] _ XR.out Tryd.underlying55 rfl (by kernel_rfl) ?_)
  refine (HIS.out _).mono ?_
  rintro e w2 ⟨rfl, hb2⟩
  have HT2 : Hid (BlkT w w2 [.string rn, .slice q1 l1 j1, .slice q2 l2 j2, .slice q3 l3 j3, .slice q4 l4 j4, .string ety, .slice q5 l5 j5] 55) := HT1.out.next hb2
  clear hb2 XR
  go_wp2_with fail
  go_ret
  exact ⟨rfl, HT2.out.bel⟩
set_option maxHeartbeats 64000000 in
theorem checkRule_main (ts : List Tp) (hty : ∀ i (hi : i < ts.length), tyk ts[i].n ts[i].f = 0) (r : Rl) (hzr : Szr r) (tv u1 u2 u3 u4 u5 : Value) (w : World) (hT : Rd w (.row 72 2 (ts.map encY)) tv) (htk : Tab w 0 kpl) (htr : Tab w 1 rll) (h1 : Rd w (.row 47 18 (r.w.map encP)) u1) (h2 : Rd w (.row 47 18 (r.t.map encP)) u2) (h3 : Rd w (.row 87 20 (r.m.map encM)) u3) (h4 : Rd w (.row 126 3 (r.k.map encK)) u4) (h5 : Rd w (.row 31 6 (r.e.v.map encO)) u5) (hf : frn r.n = 0) (hsz : szs r) :
    Calls Tryd.prog 35 #[.agg #[.string r.n, u1, u2, u3, u4, .string r.e.ty, u5], tv] w fun e w' => e = .returned (.int .i64 (rck ts r)) ∧ Below w.heap.size w w' := by
  have HCN := hid (fun W (hW : Below w.heap.size w W) => checkName_any r.n W (tab_later htk hW) (tab_later htr hW))
  rw [hf] at HCN
  have hR := rck_parts ts r hf hsz
  obtain ⟨tp, tn, tc, rfl⟩ := rd_shape hT
  obtain ⟨q1, j1, e1, _, _⟩ := rd_row lenP h1
  obtain ⟨q2, j2, e2, _, _⟩ := rd_row lenP h2
  obtain ⟨q3, j3, e3, _, _⟩ := rd_row lenM h3
  obtain ⟨q4, j4, e4, _, _⟩ := rd_row lenK h4
  obtain ⟨q5, j5, e5, _, _⟩ := rd_row lenO h5
  have HIS := hid (fun W => isSized_any r q1 q2 q3 q4 q5 j1 j2 j3 j4 j5 r.e.v.length W true (by simpa using hsz))
  subst e1 e2 e3 e4 e5
  have HSZ := hid hsz
  have HZR := hid hzr
  have HTK := hid htk
  have HTR := hid htr
  have HTY := hid hty
  have HTT := hid hT
  clear hf hsz hzr htk htr hty hT
  obtain ⟨rn, ws, ns, ms, ks, ⟨ety, vs⟩⟩ := r
  obtain ⟨R, hRR⟩ : ∃ R, rck ts ⟨rn, ws, ns, ms, ks, ⟨ety, vs⟩⟩ = R := ⟨_, rfl⟩
  rw [hRR] at hR ⊢
  simp only at HCN HIS hR h1 h2 h3 h4 h5 ⊢
  have HFW := hid (fun W b mb n0 lv hs hR hn => firstWhen_any ts ws b mb n0 HTY.out (.slice tp tn tc) lv W hs hR HZR.out.w hn)
  have HFN := hid (fun W b mb n0 lv hkn hs hR hn => firstNot_any ts ws ns b mb n0 hkn HTY.out (.slice tp tn tc) lv W hs hR HZR.out.t hn)
  have HFM := hid (fun W b mb n0 lv hkn hs hR hn => firstMany_any ts ws ns ms b mb n0 hkn HTY.out (.slice tp tn tc) lv W hs hR HZR.out.m hn)
  have HFL := hid (fun W b mb n0 lv hs hR hn => firstLink_any ts ws ns ks b mb (kw ts ws ++ (kn ts ns ++ km ts ms)) n0 (Knl_of ts ws ns ms) (.slice tp tn tc) lv W hs hR HZR.out.k hn)
  have hKW : Knw ts ws (kw ts ws ++ (kn ts ns ++ km ts ms)) := Knw_of (ts := ts) (ws := ws) (B := kn ts ns ++ km ts ms) (fun e he => by
    rcases List.mem_append.1 he with h | h
    · obtain ⟨x, _, rfl⟩ := List.mem_map.1 h; show (2 : Int) ≠ 1; decide
    · obtain ⟨x, _, rfl⟩ := List.mem_map.1 h; show (3 : Int) ≠ 1; decide)
  have HFE := hid (fun W b mb n0 u5 hkn hs hV => emit_any ts ws b mb (kw ts ws ++ (kn ts ns ++ km ts ms)) n0 hkn hKW HTY.out ety vs HZR.out.e (.slice tp tn tc) u5 W hs hV)
  obtain ⟨E1, hE1⟩ : ∃ E, wfs 0 ts [] ws = E := ⟨_, rfl⟩
  obtain ⟨E2, hE2⟩ : ∃ E, nfs 0 ts ws (ws.map Pt.va) ns = E := ⟨_, rfl⟩
  obtain ⟨E3, hE3⟩ : ∃ E, mfs 0 ts ws (ws.map Pt.va ++ ns.map Pt.va) ms = E := ⟨_, rfl⟩
  obtain ⟨E4, hE4⟩ : ∃ E, lfs 0 ws ns ks = E := ⟨_, rfl⟩
  obtain ⟨E5, hE5⟩ : ∃ E, eck ts ws ety vs = E := ⟨_, rfl⟩
  rw [hE1, hE2, hE3, hE4, hE5] at hR
  rw [hE1] at HFW
  rw [hE2] at HFN
  rw [hE3] at HFM
  rw [hE4] at HFL
  rw [hE5] at HFE
  rw [List.take_length] at HFW HFN HFM
  have HFD := hid (fun W => finder_any tp tn tc W)
  have hmm := @run_makeMap Tryd.prog
  obtain ⟨l1, hl1⟩ : ∃ l, ws.length = l := ⟨_, rfl⟩
  obtain ⟨l2, hl2⟩ : ∃ l, ns.length = l := ⟨_, rfl⟩
  obtain ⟨l3, hl3⟩ : ∃ l, ms.length = l := ⟨_, rfl⟩
  obtain ⟨l4, hl4⟩ : ∃ l, ks.length = l := ⟨_, rfl⟩
  obtain ⟨l5, hl5⟩ : ∃ l, vs.length = l := ⟨_, rfl⟩
  have HSL : Hid (l1 ≤ 3 ∧ l2 ≤ 2 ∧ l3 ≤ 2 ∧ l4 ≤ 6) := by
    have h := HSZ.out
    unfold szs at h
    simp only at h
    show _ ∧ _
    omega
  rw [hl1, hl2, hl3, hl4, hl5] at HIS
  rw [hl1] at h1 HFW
  rw [hl2] at h2 HFN
  rw [hl3] at h3 HFM
  rw [hl4] at h4 HFL
  rw [hl5] at h5
  rw [hl1, hl2, hl3, hl4, hl5]
  have HT : Hid (BlkT w (w.alloc (.cells [.string rn, .slice q1 l1 j1, .slice q2 l2 j2, .slice q3 l3 j3, .slice q4 l4 j4, .string ety, .slice q5 l5 j5].toArray 55)) [.string rn, .slice q1 l1 j1, .slice q2 l2 j2, .slice q3 l3 j3, .slice q4 l4 j4, .string ety, .slice q5 l5 j5] 55) := BlkT.start w _ _
  have H1 := hid h1
  have H2 := hid h2
  have H3 := hid h3
  have H4 := hid h4
  have H5 := hid h5
  have HR := hid hR
  clear hl1 hl2 hl3 hl4 hl5 hE1 hE2 hE3 hE4 hE5 hRR hR h1 h2 h3 h4 h5 hKW HSZ HZR HTY
  go_enter Tryd.func35, Tryd.ntmps35
  go_wp2_with fail
  refine (HCN.out _ HT.out.bel).mono ?_
  rintro e w1 ⟨rfl, hw1⟩
  have HT1 : Hid (BlkT w w1 [.string rn, .slice q1 l1 j1, .slice q2 l2 j2, .slice q3 l3 j3, .slice q4 l4 j4, .string ety, .slice q5 l5 j5] 55) := by rw [hw1]; exact HT.out
  clear hw1
  have XR : Hid (w1.rangeAt w.heap.size 0 [.string rn, .slice q1 l1 j1, .slice q2 l2 j2, .slice q3 l3 j3, .slice q4 l4 j4, .string ety, .slice q5 l5 j5]) := range_blk HT1.out.b1
  go_wp2_with ((with_reducible show wpList _ _ _ (Oper.mk _ (.load _ _) _ _ _ _ :: _) _ _); refine wpList_load_mid (by rfl) 55 _ (by rfl) w.heap.size 0 (by rfl) [.string rn, .slice q1 l1 j1, .slice q2 l2 j2, .slice q3 l3 j3, .slice q4 l4 j4, .string ety, .slice q5 l5 j5] _ XR.out Tryd.underlying55 rfl (by kernel_rfl) ?_)
  refine (HIS.out _).mono ?_
  rintro e w2 ⟨rfl, hb2⟩
  have HT2 : Hid (BlkT w w2 [.string rn, .slice q1 l1 j1, .slice q2 l2 j2, .slice q3 l3 j3, .slice q4 l4 j4, .string ety, .slice q5 l5 j5] 55) := HT1.out.next hb2
  clear hb2 XR
  go_wp2_with fail
  refine (HFD.out _).mono ?_
  rintro e w3 ⟨rfl, hw3⟩
  have HT3 : Hid (BlkT w w3 [.string rn, .slice q1 l1 j1, .slice q2 l2 j2, .slice q3 l3 j3, .slice q4 l4 j4, .string ety, .slice q5 l5 j5] 55) := by rw [hw3]; exact HT2.out.next ((Below.refl _ _).alloc (Nat.le_refl _) _)
  have HFC : Hid (w3.cell? ⟨w2.heap.size, 0, none⟩ = some (.slice tp tn tc)) := by rw [hw3]; exact cell_of_blk (heap_alloc_new _ _) 0
  clear hw3
  have r1 : w3.cell? ⟨w.heap.size, 1, none⟩ = some (.slice q1 l1 j1) := HT3.out.c 1
  have HLT := hid (blk_lt HT3.out.b1)
  go_wp2_with ((with_reducible show wpList _ _ _ (Oper.mk _ (.store _ _ _) _ _ _ _ :: _) _ _); refine wp_st (by rfl) 118 _ _ (by rfl) (w3.heap.size + 1) 0 _ 118 (.agg [.slice tp tn tc, .func (.func 57) #[] #[.pointer (some ⟨w2.heap.size, 0, none⟩)], .map (some w3.heap.size)].toArray) [.slice tp tn tc, .func (.func 57) #[] #[.pointer (some ⟨w2.heap.size, 0, none⟩)], .map (some w3.heap.size)] (by rfl) (by rfl) (by rfl) (heap_2 _ _ _) (by simp) (by kernel_rfl) (by rfl) ?_; intro w4 hblk hfr; have HF4 := hid hfr; have HC4 : Hid (Cs2 w w4 [.string rn, .slice q1 l1 j1, .slice q2 l2 j2, .slice q3 l3 j3, .slice q4 l4 j4, .string ety, .slice q5 l5 j5] [.slice tp tn tc, .func (.func 57) #[] #[.pointer (some ⟨w2.heap.size, 0, none⟩)], .map (some w3.heap.size)] (w3.heap.size + 1) w3.heap.size) := cs2_start HT3.out hblk (by rfl) hfr; have r4 : w4.cell? ⟨w.heap.size, 1, none⟩ = some (.slice q1 l1 j1) := HC4.out.c1 1; have s0 : w4.cell? ⟨w3.heap.size + 1, 0, none⟩ = some (.slice tp tn tc) := HC4.out.c2 0; have s1 : w4.cell? ⟨w3.heap.size + 1, 1, none⟩ = some (.func (.func 57) #[] #[.pointer (some ⟨w2.heap.size, 0, none⟩)]) := HC4.out.c2 1; have s2 : w4.cell? ⟨w3.heap.size + 1, 2, none⟩ = some (.map (some w3.heap.size)) := HC4.out.c2 2; clear hblk hfr)
  have HS4 : Hid (Scp w4 ts (.slice tp tn tc) w2.heap.size w3.heap.size [] 0) := scp_start HTT.out HTK.out HTR.out HC4.out HFC.out HF4.out
  clear HF4 r1 r4 s0 s1 s2
  refine (HFW.out w4 _ _ 0 _ HS4.out (H1.out.later HC4.out.bel) (by have := HSL.out; omega)).mono ?_
  rintro e w5 ⟨rfl, hf9, hk9⟩
  have HC5 := hid (HC4.out.fr hf9)
  clear hf9
  by_cases hz : E1 = 0
  · have HS5 := hid (hk9 hz).1
    have HKN := hid (hk9 hz).2
    have HR2 := HR.out
    rw [if_neg (fun c => c hz)] at HR2
    clear HR
    have HR := hid HR2
    clear HR2 hk9
    subst hz
    have r4 : w5.cell? ⟨w.heap.size, 2, none⟩ = some (.slice q2 l2 j2) := HC5.out.c1 2
    have s0 : w5.cell? ⟨w3.heap.size + 1, 0, none⟩ = some (.slice tp tn tc) := HC5.out.c2 0
    have s1 : w5.cell? ⟨w3.heap.size + 1, 1, none⟩ = some (.func (.func 57) #[] #[.pointer (some ⟨w2.heap.size, 0, none⟩)]) := HC5.out.c2 1
    have s2 : w5.cell? ⟨w3.heap.size + 1, 2, none⟩ = some (.map (some w3.heap.size)) := HC5.out.c2 2
    go_wp2_with fail
    clear r4 s0 s1 s2
    refine (HFN.out w5 _ _ (0 + l1) _ HKN.out HS5.out (H2.out.later HC5.out.bel) (by have := HSL.out; omega)).mono ?_
    rintro e w6 ⟨rfl, hf9, hk9⟩
    have HC6 := hid (HC5.out.fr hf9)
    clear hf9
    by_cases hz : E2 = 0
    · have HS6 := hid (hk9 hz)
      have HR2 := HR.out
      rw [if_neg (fun c => c hz)] at HR2
      clear HR
      have HR := hid HR2
      clear HR2 hk9
      subst hz
      have r4 : w6.cell? ⟨w.heap.size, 3, none⟩ = some (.slice q3 l3 j3) := HC6.out.c1 3
      have s0 : w6.cell? ⟨w3.heap.size + 1, 0, none⟩ = some (.slice tp tn tc) := HC6.out.c2 0
      have s1 : w6.cell? ⟨w3.heap.size + 1, 1, none⟩ = some (.func (.func 57) #[] #[.pointer (some ⟨w2.heap.size, 0, none⟩)]) := HC6.out.c2 1
      have s2 : w6.cell? ⟨w3.heap.size + 1, 2, none⟩ = some (.map (some w3.heap.size)) := HC6.out.c2 2
      go_wp2_with fail
      clear r4 s0 s1 s2
      refine (HFM.out w6 _ _ (0 + l1 + l2) _ HKN.out HS6.out (H3.out.later HC6.out.bel) (by have := HSL.out; omega)).mono ?_
      rintro e w7 ⟨rfl, hf9, hk9⟩
      have HC7 := hid (HC6.out.fr hf9)
      clear hf9
      by_cases hz : E3 = 0
      · have HS7 := hid (hk9 hz)
        have HR2 := HR.out
        rw [if_neg (fun c => c hz)] at HR2
        clear HR
        have HR := hid HR2
        clear HR2 hk9
        subst hz
        have r4 : w7.cell? ⟨w.heap.size, 4, none⟩ = some (.slice q4 l4 j4) := HC7.out.c1 4
        have s0 : w7.cell? ⟨w3.heap.size + 1, 0, none⟩ = some (.slice tp tn tc) := HC7.out.c2 0
        have s1 : w7.cell? ⟨w3.heap.size + 1, 1, none⟩ = some (.func (.func 57) #[] #[.pointer (some ⟨w2.heap.size, 0, none⟩)]) := HC7.out.c2 1
        have s2 : w7.cell? ⟨w3.heap.size + 1, 2, none⟩ = some (.map (some w3.heap.size)) := HC7.out.c2 2
        go_wp2_with fail
        clear r4 s0 s1 s2
        refine (HFL.out w7 _ _ (0 + l1 + l2 + l3) _ HS7.out (H4.out.later HC7.out.bel) (by have := HSL.out; omega)).mono ?_
        rintro e w8 ⟨rfl, hf9, hk9⟩
        have HC8 := hid (HC7.out.fr hf9)
        clear hf9
        by_cases hz : E4 = 0
        · have HS8 := hid (hk9 hz)
          have HR2 := HR.out
          rw [if_neg (fun c => c hz)] at HR2
          clear HR
          have HR := hid HR2
          clear HR2 hk9
          subst hz
          have r4 : w8.cell? ⟨w.heap.size, 5, none⟩ = some (.string ety) := HC8.out.c1 5
          have r5 : w8.cell? ⟨w.heap.size, 6, none⟩ = some (.slice q5 l5 j5) := HC8.out.c1 6
          have s0 : w8.cell? ⟨w3.heap.size + 1, 0, none⟩ = some (.slice tp tn tc) := HC8.out.c2 0
          have s1 : w8.cell? ⟨w3.heap.size + 1, 1, none⟩ = some (.func (.func 57) #[] #[.pointer (some ⟨w2.heap.size, 0, none⟩)]) := HC8.out.c2 1
          have s2 : w8.cell? ⟨w3.heap.size + 1, 2, none⟩ = some (.map (some w3.heap.size)) := HC8.out.c2 2
          go_wp2_with fail
          clear r4 s0 s1 s2 r5
          refine (HFE.out w8 _ _ (0 + l1 + l2 + l3) _ HKN.out HS8.out (H5.out.later HC8.out.bel)).mono ?_
          rintro e w9 ⟨rfl, hb9⟩
          have HB9 := hid (below_trans HC8.out.bel hb9 HC8.out.bel.size)
          clear hb9
          go_wp2_with fail
          go_ret
          exact ⟨ret_int HR.out.symm, HB9.out⟩
        · have d9 : (E4 != 0) = true := by simpa using hz
          have HR2 : Hid (R = E4) := by have h := HR.out; rw [if_pos hz] at h; exact h
          clear hk9 hz HR
          go_wp2_with fail
          go_ret
          exact ⟨ret_int HR2.out.symm, HC8.out.bel⟩
      · have d9 : (E3 != 0) = true := by simpa using hz
        have HR2 : Hid (R = E3) := by have h := HR.out; rw [if_pos hz] at h; exact h
        clear hk9 hz HR
        go_wp2_with fail
        go_ret
        exact ⟨ret_int HR2.out.symm, HC7.out.bel⟩
    · have d9 : (E2 != 0) = true := by simpa using hz
      have HR2 : Hid (R = E2) := by have h := HR.out; rw [if_pos hz] at h; exact h
      clear hk9 hz HR
      go_wp2_with fail
      go_ret
      exact ⟨ret_int HR2.out.symm, HC6.out.bel⟩
  · have d9 : (E1 != 0) = true := by simpa using hz
    have HR2 : Hid (R = E1) := by have h := HR.out; rw [if_pos hz] at h; exact h
    clear hk9 hz HR
    go_wp2_with fail
    go_ret
    exact ⟨ret_int HR2.out.symm, HC5.out.bel⟩
theorem checkRule_any (ts : List Tp) (hty : ∀ i (hi : i < ts.length), tyk ts[i].n ts[i].f = 0) (r : Rl) (hzr : Szr r) (tv u1 u2 u3 u4 u5 : Value) (w : World) (hT : Rd w (.row 72 2 (ts.map encY)) tv) (htk : Tab w 0 kpl) (htr : Tab w 1 rll) (h1 : Rd w (.row 47 18 (r.w.map encP)) u1) (h2 : Rd w (.row 47 18 (r.t.map encP)) u2) (h3 : Rd w (.row 87 20 (r.m.map encM)) u3) (h4 : Rd w (.row 126 3 (r.k.map encK)) u4) (h5 : Rd w (.row 31 6 (r.e.v.map encO)) u5) :
    Calls Tryd.prog 35 #[.agg #[.string r.n, u1, u2, u3, u4, .string r.e.ty, u5], tv] w fun e w' => e = .returned (.int .i64 (rck ts r)) ∧ Below w.heap.size w w' := by
  by_cases hf : frn r.n = 0
  · by_cases hsz : szs r
    · exact checkRule_main ts hty r hzr tv u1 u2 u3 u4 u5 w hT htk htr h1 h2 h3 h4 h5 hf hsz
    · exact checkRule_size ts hty r hzr tv u1 u2 u3 u4 u5 w hT htk htr h1 h2 h3 h4 h5 hf hsz
  · exact checkRule_name ts hty r hzr tv u1 u2 u3 u4 u5 w hT htk htr h1 h2 h3 h4 h5 hf
end Go.Proofs.YtnajcoikcoegoaaDoor.Chk
