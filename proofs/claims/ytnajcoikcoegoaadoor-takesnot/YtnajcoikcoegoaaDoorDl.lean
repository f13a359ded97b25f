/-
  The parts of a rule, one by one, by the program. How many parts a rule has; what is known of whens and nots, by the program.
-/
import Derived.Test.YtnajcoikcoegoaaDoorDj
namespace Go.Proofs.YtnajcoikcoegoaaDoor.Chk
open Go.ChangeShapes Go.WideShapes Go.ChangeAt Go.RowKit Go.Maps
set_option linter.unusedVariables false
set_option linter.unusedSimpArgs false
set_option maxRecDepth 20000
theorem wfs_cont (X : Int) (ts : List Tp) : ∀ (l done : List Pt), wfs X ts done l = if wfs 0 ts done l ≠ 0 then wfs 0 ts done l else X
  | [], done => by simp [wfs]
  | p :: r, done => by
    rw [wfs, wfs, wfs_cont X ts r (done ++ [p])]
    by_cases h : pck ts done (done.map Pt.va) p 0 = 0
    · simp [h]
    · simp [h]
theorem nfs_cont (X : Int) (ts : List Tp) (ws : List Pt) : ∀ (l : List Pt) (ah : List ByteArray), nfs X ts ws ah l = if nfs 0 ts ws ah l ≠ 0 then nfs 0 ts ws ah l else X
  | [], ah => by simp [nfs]
  | p :: r, ah => by
    rw [nfs, nfs, nfs_cont X ts ws r (ah ++ [p.va])]
    by_cases h : pck ts ws ah p 1 = 0
    · simp [h]
    · simp [h]
theorem mfs_cont (X : Int) (ts : List Tp) (ws : List Pt) : ∀ (l : List Mn) (ah : List ByteArray), mfs X ts ws ah l = if mfs 0 ts ws ah l ≠ 0 then mfs 0 ts ws ah l else X
  | [], ah => by simp [mfs]
  | p :: r, ah => by
    rw [mfs, mfs, mfs_cont X ts ws r (ah ++ [p.p.va])]
    by_cases h : mck ts ws ah p = 0
    · simp [h]
    · simp [h]
theorem lfs_cont (X : Int) (ws ns : List Pt) : ∀ (l : List Lk), lfs X ws ns l = if lfs 0 ws ns l ≠ 0 then lfs 0 ws ns l else X
  | [] => by simp [lfs]
  | k :: r => by
    rw [lfs, lfs, lfs_cont X ws ns r]
    by_cases h : lck ws ns k.l k.r k.o = 0
    · simp [h]
    · simp [h]
set_option maxHeartbeats 32000000 in
theorem firstWhen_any (ts : List Tp) (ws : List Pt) (b mb n0 : Nat) (hty : ∀ i (hi : i < ts.length), tyk ts[i].n ts[i].f = 0) (tv lv : Value) (w : World) (hs : Scp w ts tv b mb [] n0) (hR : Rd w (.row 47 18 (ws.map encP)) lv) (hwz : ∀ t, t ∈ ws → Wsz t.c) (hn : n0 + ws.length ≤ 100) :
    Calls Tryd.prog 49 #[lv, .func (.func 50) #[scV tv b mb] #[]] w fun e w' => e = .returned (.int .i64 (wfs 0 ts [] ws)) ∧ Fr (fun i => i = mb) w w' ∧ (wfs 0 ts [] ws = 0 → (Scp w' ts tv b mb (kw ts (ws.take (ws.length))) (n0 + (ws.length)) ∧ Known ts (ws.take (ws.length)))) := by
  obtain ⟨tp, tn, tc, rfl⟩ := rd_shape hs.rt
  have HS := hid hs
  have HL := hid hR
  have HWZ := hid hwz
  have HNN := hid hn
  obtain ⟨p, cap, rfl, hmx, _⟩ := rd_row lenP hR
  obtain ⟨n, hnl⟩ : ∃ n, ws.length = n := ⟨_, rfl⟩
  have HN := hid hnl
  obtain ⟨R, hRR⟩ : ∃ R, wfs 0 ts [] ws = R := ⟨_, rfl⟩
  have HR := hid hRR
  rw [hRR]
  rw [hnl] at hmx HL ⊢
  clear hR hs hwz hn hnl hRR
  go_enter Tryd.func49, Tryd.ntmps49
  go_wp2_with fail
  go_loopg [10] (n + 1) (fun gg i wr => ∃ k : Nat, k ≤ n ∧ gg = n + 1 - k ∧ i = .int .i64 (k : Nat) ∧ wfs 0 ts (ws.take k) (ws.drop k) = R ∧ Fr (fun i => i = mb) w wr ∧ (Scp wr ts (.slice tp tn tc) b mb (kw ts (ws.take (k))) (n0 + (k)) ∧ Known ts (ws.take (k))))
  case atStart => exact ⟨0, by omega, by omega, rfl, by simpa using HR.out, Fr.refl _ _, by simpa using ⟨HS.out, fun j hj => by simp at hj⟩⟩
  case round =>
    obtain ⟨k, hk, rfl, rfl, hev, hF, hI⟩ := hrel
    have HF := hid hF
    have HI := hid hI
    by_cases hlt : k < n
    · have hkc : k < ws.length := by have := HN.out; omega
      obtain ⟨p', cap', e0, _, hat⟩ := rd_row lenP (HL.out.fr HS.out.km.isMap hF)
      simp only [Value.slice.injEq] at e0
      obtain ⟨rfl, hx0, rfl⟩ := e0
      obtain ⟨g, off, rfl, hrd⟩ := hat (by omega)
      obtain ⟨A, r1, o1⟩ := hrd wr (Below.refl _ _) k hkc
      obtain ⟨vc, z1, o2⟩ := rdP o1
      obtain ⟨up, un, uc, hu⟩ := rd_shape o2
      have hAz : A.length = 18 := o1.1.symm
      rw [List.drop_eq_getElem_cons hkc, wfs] at hev
      have htk : ws.take (k + 1) = ws.take k ++ [ws[k]] := List.take_succ_eq_append_getElem hkc
      have hwk : Wsz ws[k].c := HWZ.out _ (List.getElem_mem hkc)
      have hK1 : Knw ts (ws.take k) (kw ts (ws.take k)) := by simpa using Knw_of (ts := ts) (ws := ws.take k) (B := []) (fun e he => by cases he)
      have hK2 : Kna ((ws.take k).map Pt.va) (kw ts (ws.take k)) := by
        have h := Kna_of (Ks := kw ts (ws.take k)) (fun e he => by obtain ⟨x, _, rfl⟩ := List.mem_map.1 he; show (1 : Int) ≠ 0; decide)
        have e : (kw ts (ws.take k)).map (·.1) = (ws.take k).map Pt.va := by unfold kw; rw [List.map_map]; rfl
        rwa [e] at h
      have hcall := fun W (hW : Below wr.heap.size wr W) => when_any ts (ws.take k) ((ws.take k).map Pt.va) b mb (kw ts (ws.take k)) (n0 + k) hI.2 hK1 hK2 hty ws[k] (.slice tp tn tc) vc W (hI.1.later hW) (o2.later hW) hwk (by have := HNN.out; omega)
      have hkp : kw ts (ws.take k) ++ [(ws[k].va, ((1 : Int), tyq ts ws[k].ty))] = kw ts (ws.take (k + 1)) := by rw [htk]; unfold kw; rw [List.map_append]; rfl
      rw [hkp] at hcall
      have hpk := fun (h : pck ts (ws.take k) ((ws.take k).map Pt.va) ws[k] 0 = 0) => known_snoc hI.2 (pck_known h)
      rw [← htk] at hpk
      obtain ⟨e9, he9⟩ : ∃ e9, pck ts (ws.take k) ((ws.take k).map Pt.va) ws[k] 0 = e9 := ⟨_, rfl⟩
      rw [he9] at hcall hev hpk
      have HPK := hid hpk
      have HCM : Hid (∀ W, Below wr.heap.size wr W → Calls Tryd.prog 50 #[scV (.slice tp tn tc) b mb, .agg A.toArray] W (PQ W mb (kw ts (ws.take (k + 1))) (n0 + k + 1) e9)) := fun W hW => by rw [z1]; exact hcall W hW
      have HAO : Hid (A.all (·.oneCell') = true) := by show _ = _; rw [z1, hu]; rfl
      have ZA : Hid ((Tryd.prog.info? 47).map (·.size) = some A.length) := by show _ = _; rw [hAz]; kernel_rfl
      have HAL := hid hAz
      have X1_ := hid r1
      have HEV := hid hev
      have HTK := hid htk
      have i1 : (0 : Int) ≤ (k : Int) := by omega
      have i2 : (k : Int) < (n : Int) := by omega
      clear hF hI hat hrd r1 o1 hAz hev htk hx0 hwk hK1 hK2 hcall hkp hpk he9 z1 hu o2
      go_wp2_with (first
        | ((with_reducible show wpList _ _ _ (Oper.mk _ (.load _ _) _ _ _ _ :: _) _ _); refine wpList_load_mid (by rfl) 47 _ (by rfl) g (off + k * 18) (by rfl) A _ X1_.out Tryd.underlying47 rfl ZA.out ?_)
        | ((with_reducible show wpList _ _ _ (Oper.mk _ (.store _ _ _) _ _ _ _ :: _) _ _); refine wp_st (by rfl) 47 _ _ (by rfl) wr.heap.size 0 _ 47 (.agg A.toArray) A (by rfl) (by rfl) (by rfl) (heap_alloc_new _ _) (by have := HAL.out; simp; omega) ZA.out HAO.out ?_; intro w1 hblk hfr; rw [ovr_all (by rw [HAL.out]; rfl)] at hblk; have XB : Hid (w1.rangeAt wr.heap.size 0 A) := range_blk hblk; have HBW : Hid (Below wr.heap.size wr w1) := new_store hfr; clear hblk hfr)
        | ((with_reducible show wpList _ _ _ (Oper.mk _ (.load _ _) _ _ _ _ :: _) _ _); refine wpList_load_mid (by rfl) 47 _ (by rfl) wr.heap.size 0 (by rfl) A _ XB.out Tryd.underlying47 rfl ZA.out ?_))
      refine (HCM.out _ HBW.out).mono ?_
      rintro e w2 ⟨rfl, hf2, hk2⟩
      have HF2 : Hid (Fr (fun i => i = mb) w w2) := HF.out.trans ((Fr.of_below HBW.out).trans hf2)
      have HK2 := hid hk2
      have HS1 := hid ((HI.out.1.later HBW.out))
      have HFR := hid hf2
      clear hk2 hf2
      by_cases hz : e9 = 0
      · have HE2 := HEV.out
        rw [if_neg (fun c => c hz)] at HE2
        have HE3 := hid HE2
        have HI2 := hid (show Scp w2 ts (.slice tp tn tc) b mb (kw ts (ws.take (k + 1))) (n0 + (k + 1)) ∧ Known ts (ws.take (k + 1)) from ⟨HS1.out.fr HFR.out (HK2.out hz), HPK.out hz⟩)
        subst hz
        clear HE2 HK2 HS1 HFR HPK
        go_wp2_with fail
        go_roundg (n + 1 - (k + 1))
        case rel => exact ⟨k + 1, by omega, rfl, by go_num, by rw [HTK.out]; exact HE3.out, HF2.out, HI2.out⟩
        case measure => omega
      · have HE2 : Hid (R = e9) := by have h := HEV.out; rw [if_pos hz] at h; exact h.symm
        have d9 : (e9 != 0) = true := by simpa using hz
        have HZ := hid hz
        clear hz HK2 HS1 HFR HPK
        go_wp2_with fail
        go_ret
        exact ⟨ret_int HE2.out.symm, HF2.out, fun c => absurd (HE2.out.symm.trans c) HZ.out⟩
    · obtain rfl : k = n := by omega
      have hw : ws.take k = ws := List.take_of_length_le (by have := HN.out; omega)
      have hd : ws.drop k = [] := List.drop_of_length_le (by have := HN.out; omega)
      rw [hd, wfs] at hev
      have HE2 : Hid (R = 0) := hev.symm
      have HI2 := hid hI
      clear hev hd hF hI hw
      go_wp2_with fail
      go_ret
      exact ⟨ret_int HE2.out.symm, HF.out, fun _ => HI2.out⟩
set_option maxHeartbeats 32000000 in
theorem firstNot_any (ts : List Tp) (ws ns : List Pt) (b mb n0 : Nat) (hkn : Known ts ws) (hty : ∀ i (hi : i < ts.length), tyk ts[i].n ts[i].f = 0) (tv lv : Value) (w : World) (hs : Scp w ts tv b mb (kw ts ws) n0) (hR : Rd w (.row 47 18 (ns.map encP)) lv) (hwz : ∀ t, t ∈ ns → Wsz t.c) (hn : n0 + ns.length ≤ 100) :
    Calls Tryd.prog 49 #[lv, .func (.func 51) #[scV tv b mb] #[]] w fun e w' => e = .returned (.int .i64 (nfs 0 ts ws (ws.map Pt.va) ns)) ∧ Fr (fun i => i = mb) w w' ∧ (nfs 0 ts ws (ws.map Pt.va) ns = 0 → Scp w' ts tv b mb (kw ts ws ++ kn ts (ns.take (ns.length))) (n0 + (ns.length))) := by
  obtain ⟨tp, tn, tc, rfl⟩ := rd_shape hs.rt
  have HS := hid hs
  have HL := hid hR
  have HWZ := hid hwz
  have HNN := hid hn
  obtain ⟨p, cap, rfl, hmx, _⟩ := rd_row lenP hR
  obtain ⟨n, hnl⟩ : ∃ n, ns.length = n := ⟨_, rfl⟩
  have HN := hid hnl
  obtain ⟨R, hRR⟩ : ∃ R, nfs 0 ts ws (ws.map Pt.va) ns = R := ⟨_, rfl⟩
  have HR := hid hRR
  rw [hRR]
  rw [hnl] at hmx HL ⊢
  clear hR hs hwz hn hnl hRR
  go_enter Tryd.func49, Tryd.ntmps49
  go_wp2_with fail
  go_loopg [10] (n + 1) (fun gg i wr => ∃ k : Nat, k ≤ n ∧ gg = n + 1 - k ∧ i = .int .i64 (k : Nat) ∧ nfs 0 ts ws (ws.map Pt.va ++ (ns.take k).map Pt.va) (ns.drop k) = R ∧ Fr (fun i => i = mb) w wr ∧ Scp wr ts (.slice tp tn tc) b mb (kw ts ws ++ kn ts (ns.take (k))) (n0 + (k)))
  case atStart => exact ⟨0, by omega, by omega, rfl, by simpa using HR.out, Fr.refl _ _, by simpa [kn] using HS.out⟩
  case round =>
    obtain ⟨k, hk, rfl, rfl, hev, hF, hI⟩ := hrel
    have HF := hid hF
    have HI := hid hI
    by_cases hlt : k < n
    · have hkc : k < ns.length := by have := HN.out; omega
      obtain ⟨p', cap', e0, _, hat⟩ := rd_row lenP (HL.out.fr HS.out.km.isMap hF)
      simp only [Value.slice.injEq] at e0
      obtain ⟨rfl, hx0, rfl⟩ := e0
      obtain ⟨g, off, rfl, hrd⟩ := hat (by omega)
      obtain ⟨A, r1, o1⟩ := hrd wr (Below.refl _ _) k hkc
      obtain ⟨vc, z1, o2⟩ := rdP o1
      obtain ⟨up, un, uc, hu⟩ := rd_shape o2
      have hAz : A.length = 18 := o1.1.symm
      rw [List.drop_eq_getElem_cons hkc, nfs] at hev
      have htk : ns.take (k + 1) = ns.take k ++ [ns[k]] := List.take_succ_eq_append_getElem hkc
      have hwk : Wsz ns[k].c := HWZ.out _ (List.getElem_mem hkc)
      have hK1 : Knw ts ws (kw ts ws ++ kn ts (ns.take k)) := Knw_of (fun e he => by obtain ⟨x, _, rfl⟩ := List.mem_map.1 he; show (2 : Int) ≠ 1; decide)
      have hK2 : Kna (ws.map Pt.va ++ (ns.take k).map Pt.va) (kw ts ws ++ kn ts (ns.take k)) := by
        have h := Kna_of (Ks := kw ts ws ++ kn ts (ns.take k)) (fun e he => by
          rcases List.mem_append.1 he with he | he
          · obtain ⟨x, _, rfl⟩ := List.mem_map.1 he; show (1 : Int) ≠ 0; decide
          · obtain ⟨x, _, rfl⟩ := List.mem_map.1 he; show (2 : Int) ≠ 0; decide)
        have e : (kw ts ws ++ kn ts (ns.take k)).map (·.1) = ws.map Pt.va ++ (ns.take k).map Pt.va := by unfold kw kn; rw [List.map_append, List.map_map, List.map_map]; rfl
        rwa [e] at h
      have hcall := fun W (hW : Below wr.heap.size wr W) => not_any ts ws (ws.map Pt.va ++ (ns.take k).map Pt.va) b mb (kw ts ws ++ kn ts (ns.take k)) (n0 + k) hkn hK1 hK2 hty ns[k] (.slice tp tn tc) vc W (hI.later hW) (o2.later hW) hwk (by have := HNN.out; omega)
      have hkp : (kw ts ws ++ kn ts (ns.take k)) ++ [(ns[k].va, ((2 : Int), tyq ts ns[k].ty))] = kw ts ws ++ kn ts (ns.take (k + 1)) := by rw [htk, List.append_assoc]; unfold kn; rw [List.map_append]; rfl
      rw [hkp] at hcall
      obtain ⟨e9, he9⟩ : ∃ e9, pck ts ws (ws.map Pt.va ++ (ns.take k).map Pt.va) ns[k] 1 = e9 := ⟨_, rfl⟩
      rw [he9] at hcall hev
      have HCM : Hid (∀ W, Below wr.heap.size wr W → Calls Tryd.prog 51 #[scV (.slice tp tn tc) b mb, .agg A.toArray] W (PQ W mb (kw ts ws ++ kn ts (ns.take (k + 1))) (n0 + k + 1) e9)) := fun W hW => by rw [z1]; exact hcall W hW
      have HAO : Hid (A.all (·.oneCell') = true) := by show _ = _; rw [z1, hu]; rfl
      have ZA : Hid ((Tryd.prog.info? 47).map (·.size) = some A.length) := by show _ = _; rw [hAz]; kernel_rfl
      have HAL := hid hAz
      have X1_ := hid r1
      have HEV := hid hev
      have HTK := hid htk
      have i1 : (0 : Int) ≤ (k : Int) := by omega
      have i2 : (k : Int) < (n : Int) := by omega
      clear hF hI hat hrd r1 o1 hAz hev htk hx0 hwk hK1 hK2 hcall hkp he9 z1 hu o2
      go_wp2_with (first
        | ((with_reducible show wpList _ _ _ (Oper.mk _ (.load _ _) _ _ _ _ :: _) _ _); refine wpList_load_mid (by rfl) 47 _ (by rfl) g (off + k * 18) (by rfl) A _ X1_.out Tryd.underlying47 rfl ZA.out ?_)
        | ((with_reducible show wpList _ _ _ (Oper.mk _ (.store _ _ _) _ _ _ _ :: _) _ _); refine wp_st (by rfl) 47 _ _ (by rfl) wr.heap.size 0 _ 47 (.agg A.toArray) A (by rfl) (by rfl) (by rfl) (heap_alloc_new _ _) (by have := HAL.out; simp; omega) ZA.out HAO.out ?_; intro w1 hblk hfr; rw [ovr_all (by rw [HAL.out]; rfl)] at hblk; have XB : Hid (w1.rangeAt wr.heap.size 0 A) := range_blk hblk; have HBW : Hid (Below wr.heap.size wr w1) := new_store hfr; clear hblk hfr)
        | ((with_reducible show wpList _ _ _ (Oper.mk _ (.load _ _) _ _ _ _ :: _) _ _); refine wpList_load_mid (by rfl) 47 _ (by rfl) wr.heap.size 0 (by rfl) A _ XB.out Tryd.underlying47 rfl ZA.out ?_))
      refine (HCM.out _ HBW.out).mono ?_
      rintro e w2 ⟨rfl, hf2, hk2⟩
      have HF2 : Hid (Fr (fun i => i = mb) w w2) := HF.out.trans ((Fr.of_below HBW.out).trans hf2)
      have HK2 := hid hk2
      have HS1 := hid ((HI.out.later HBW.out))
      have HFR := hid hf2
      clear hk2 hf2
      by_cases hz : e9 = 0
      · have HE2 := HEV.out
        rw [if_neg (fun c => c hz)] at HE2
        have HE3 := hid HE2
        have HI2 := hid (show Scp w2 ts (.slice tp tn tc) b mb (kw ts ws ++ kn ts (ns.take (k + 1))) (n0 + (k + 1)) from HS1.out.fr HFR.out (HK2.out hz))
        subst hz
        clear HE2 HK2 HS1 HFR
        go_wp2_with fail
        go_roundg (n + 1 - (k + 1))
        case rel => exact ⟨k + 1, by omega, rfl, by go_num, by rw [HTK.out, List.map_append, ← List.append_assoc]; exact HE3.out, HF2.out, HI2.out⟩
        case measure => omega
      · have HE2 : Hid (R = e9) := by have h := HEV.out; rw [if_pos hz] at h; exact h.symm
        have d9 : (e9 != 0) = true := by simpa using hz
        have HZ := hid hz
        clear hz HK2 HS1 HFR
        go_wp2_with fail
        go_ret
        exact ⟨ret_int HE2.out.symm, HF2.out, fun c => absurd (HE2.out.symm.trans c) HZ.out⟩
    · obtain rfl : k = n := by omega
      have hw : ns.take k = ns := List.take_of_length_le (by have := HN.out; omega)
      have hd : ns.drop k = [] := List.drop_of_length_le (by have := HN.out; omega)
      rw [hd, nfs] at hev
      have HE2 : Hid (R = 0) := hev.symm
      have HI2 := hid hI
      clear hev hd hF hI hw
      go_wp2_with fail
      go_ret
      exact ⟨ret_int HE2.out.symm, HF.out, fun _ => HI2.out⟩
set_option maxHeartbeats 32000000 in
theorem firstMany_any (ts : List Tp) (ws ns : List Pt) (ms : List Mn) (b mb n0 : Nat) (hkn : Known ts ws) (hty : ∀ i (hi : i < ts.length), tyk ts[i].n ts[i].f = 0) (tv lv : Value) (w : World) (hs : Scp w ts tv b mb (kw ts ws ++ kn ts ns) n0) (hR : Rd w (.row 87 20 (ms.map encM)) lv) (hwz : ∀ x, x ∈ ms → Wsz x.p.c) (hn : n0 + ms.length ≤ 100) :
    Calls Tryd.prog 52 #[lv, .func (.func 53) #[scV tv b mb] #[]] w fun e w' => e = .returned (.int .i64 (mfs 0 ts ws (ws.map Pt.va ++ ns.map Pt.va) ms)) ∧ Fr (fun i => i = mb) w w' ∧ (mfs 0 ts ws (ws.map Pt.va ++ ns.map Pt.va) ms = 0 → Scp w' ts tv b mb (kw ts ws ++ (kn ts ns ++ km ts (ms.take (ms.length)))) (n0 + (ms.length))) := by
  obtain ⟨tp, tn, tc, rfl⟩ := rd_shape hs.rt
  have HS := hid hs
  have HL := hid hR
  have HWZ := hid hwz
  have HNN := hid hn
  obtain ⟨p, cap, rfl, hmx, _⟩ := rd_row lenM hR
  obtain ⟨n, hnl⟩ : ∃ n, ms.length = n := ⟨_, rfl⟩
  have HN := hid hnl
  obtain ⟨R, hRR⟩ : ∃ R, mfs 0 ts ws (ws.map Pt.va ++ ns.map Pt.va) ms = R := ⟨_, rfl⟩
  have HR := hid hRR
  rw [hRR]
  rw [hnl] at hmx HL ⊢
  clear hR hs hwz hn hnl hRR
  go_enter Tryd.func52, Tryd.ntmps52
  go_wp2_with fail
  go_loopg [10] (n + 1) (fun gg i wr => ∃ k : Nat, k ≤ n ∧ gg = n + 1 - k ∧ i = .int .i64 (k : Nat) ∧ mfs 0 ts ws (ws.map Pt.va ++ ns.map Pt.va ++ (ms.take k).map (fun m => m.p.va)) (ms.drop k) = R ∧ Fr (fun i => i = mb) w wr ∧ Scp wr ts (.slice tp tn tc) b mb (kw ts ws ++ (kn ts ns ++ km ts (ms.take (k)))) (n0 + (k)))
  case atStart => exact ⟨0, by omega, by omega, rfl, by simpa using HR.out, Fr.refl _ _, by simpa [km] using HS.out⟩
  case round =>
    obtain ⟨k, hk, rfl, rfl, hev, hF, hI⟩ := hrel
    have HF := hid hF
    have HI := hid hI
    by_cases hlt : k < n
    · have hkc : k < ms.length := by have := HN.out; omega
      obtain ⟨p', cap', e0, _, hat⟩ := rd_row lenM (HL.out.fr HS.out.km.isMap hF)
      simp only [Value.slice.injEq] at e0
      obtain ⟨rfl, hx0, rfl⟩ := e0
      obtain ⟨g, off, rfl, hrd⟩ := hat (by omega)
      obtain ⟨A, r1, o1⟩ := hrd wr (Below.refl _ _) k hkc
      obtain ⟨B, z0, o0⟩ := rdM o1
      obtain ⟨vc, z1, o2⟩ := rdP o0
      obtain ⟨up, un, uc, hu⟩ := rd_shape o2
      have hAz : A.length = 20 := o1.1.symm
      rw [List.drop_eq_getElem_cons hkc, mfs] at hev
      have htk : ms.take (k + 1) = ms.take k ++ [ms[k]] := List.take_succ_eq_append_getElem hkc
      have hwk : Wsz ms[k].p.c := HWZ.out _ (List.getElem_mem hkc)
      have hK1 : Knw ts ws (kw ts ws ++ (kn ts ns ++ km ts (ms.take k))) := Knw_of (fun e he => by
        rcases List.mem_append.1 he with he | he
        · obtain ⟨x, _, rfl⟩ := List.mem_map.1 he; show (2 : Int) ≠ 1; decide
        · obtain ⟨x, _, rfl⟩ := List.mem_map.1 he; show (3 : Int) ≠ 1; decide)
      have hK2 : Kna (ws.map Pt.va ++ ns.map Pt.va ++ (ms.take k).map (fun m => m.p.va)) (kw ts ws ++ (kn ts ns ++ km ts (ms.take k))) := by
        have h := Kna_of (Ks := kw ts ws ++ (kn ts ns ++ km ts (ms.take k))) (fun e he => by
          rcases List.mem_append.1 he with he | he
          · obtain ⟨x, _, rfl⟩ := List.mem_map.1 he; show (1 : Int) ≠ 0; decide
          · rcases List.mem_append.1 he with he | he
            · obtain ⟨x, _, rfl⟩ := List.mem_map.1 he; show (2 : Int) ≠ 0; decide
            · obtain ⟨x, _, rfl⟩ := List.mem_map.1 he; show (3 : Int) ≠ 0; decide)
        have e : (kw ts ws ++ (kn ts ns ++ km ts (ms.take k))).map (·.1) = ws.map Pt.va ++ ns.map Pt.va ++ (ms.take k).map (fun m => m.p.va) := by unfold kw kn km; rw [List.map_append, List.map_append, List.map_map, List.map_map, List.map_map, List.append_assoc]; rfl
        rwa [e] at h
      have hcall := fun W (hW : Below wr.heap.size wr W) => many_any ts ws (ws.map Pt.va ++ ns.map Pt.va ++ (ms.take k).map (fun m => m.p.va)) b mb (kw ts ws ++ (kn ts ns ++ km ts (ms.take k))) (n0 + k) hkn hK1 hK2 hty ms[k] (.slice tp tn tc) vc W (hI.later hW) (o2.later hW) hwk (by have := HNN.out; omega)
      have hkp : (kw ts ws ++ (kn ts ns ++ km ts (ms.take k))) ++ [(ms[k].p.va, ((3 : Int), tyq ts ms[k].p.ty))] = kw ts ws ++ (kn ts ns ++ km ts (ms.take (k + 1))) := by rw [htk, List.append_assoc, List.append_assoc]; unfold km; rw [List.map_append]; rfl
      rw [hkp] at hcall
      obtain ⟨e9, he9⟩ : ∃ e9, mck ts ws (ws.map Pt.va ++ ns.map Pt.va ++ (ms.take k).map (fun m => m.p.va)) ms[k] = e9 := ⟨_, rfl⟩
      rw [he9] at hcall hev
      have HCM : Hid (∀ W, Below wr.heap.size wr W → Calls Tryd.prog 53 #[scV (.slice tp tn tc) b mb, .agg A.toArray] W (PQ W mb (kw ts ws ++ (kn ts ns ++ km ts (ms.take (k + 1)))) (n0 + k + 1) e9)) := fun W hW => by rw [z0, z1]; exact hcall W hW
      have HAO : Hid (A.all (·.oneCell') = true) := by show _ = _; rw [z0, z1, hu]; rfl
      have ZA : Hid ((Tryd.prog.info? 87).map (·.size) = some A.length) := by show _ = _; rw [hAz]; kernel_rfl
      have HAL := hid hAz
      have X1_ := hid r1
      have HEV := hid hev
      have HTK := hid htk
      have i1 : (0 : Int) ≤ (k : Int) := by omega
      have i2 : (k : Int) < (n : Int) := by omega
      clear hF hI hat hrd r1 o1 hAz hev htk hx0 hwk hK1 hK2 hcall hkp he9 z0 z1 hu o2 o0
      go_wp2_with (first
        | ((with_reducible show wpList _ _ _ (Oper.mk _ (.load _ _) _ _ _ _ :: _) _ _); refine wpList_load_mid (by rfl) 87 _ (by rfl) g (off + k * 20) (by rfl) A _ X1_.out Tryd.underlying87 rfl ZA.out ?_)
        | ((with_reducible show wpList _ _ _ (Oper.mk _ (.store _ _ _) _ _ _ _ :: _) _ _); refine wp_st (by rfl) 87 _ _ (by rfl) wr.heap.size 0 _ 87 (.agg A.toArray) A (by rfl) (by rfl) (by rfl) (heap_alloc_new _ _) (by have := HAL.out; simp; omega) ZA.out HAO.out ?_; intro w1 hblk hfr; rw [ovr_all (by rw [HAL.out]; rfl)] at hblk; have XB : Hid (w1.rangeAt wr.heap.size 0 A) := range_blk hblk; have HBW : Hid (Below wr.heap.size wr w1) := new_store hfr; clear hblk hfr)
        | ((with_reducible show wpList _ _ _ (Oper.mk _ (.load _ _) _ _ _ _ :: _) _ _); refine wpList_load_mid (by rfl) 87 _ (by rfl) wr.heap.size 0 (by rfl) A _ XB.out Tryd.underlying87 rfl ZA.out ?_))
      refine (HCM.out _ HBW.out).mono ?_
      rintro e w2 ⟨rfl, hf2, hk2⟩
      have HF2 : Hid (Fr (fun i => i = mb) w w2) := HF.out.trans ((Fr.of_below HBW.out).trans hf2)
      have HK2 := hid hk2
      have HS1 := hid ((HI.out.later HBW.out))
      have HFR := hid hf2
      clear hk2 hf2
      by_cases hz : e9 = 0
      · have HE2 := HEV.out
        rw [if_neg (fun c => c hz)] at HE2
        have HE3 := hid HE2
        have HI2 := hid (show Scp w2 ts (.slice tp tn tc) b mb (kw ts ws ++ (kn ts ns ++ km ts (ms.take (k + 1)))) (n0 + (k + 1)) from HS1.out.fr HFR.out (HK2.out hz))
        subst hz
        clear HE2 HK2 HS1 HFR
        go_wp2_with fail
        go_roundg (n + 1 - (k + 1))
        case rel => exact ⟨k + 1, by omega, rfl, by go_num, by rw [HTK.out, List.map_append, ← List.append_assoc]; exact HE3.out, HF2.out, HI2.out⟩
        case measure => omega
      · have HE2 : Hid (R = e9) := by have h := HEV.out; rw [if_pos hz] at h; exact h.symm
        have d9 : (e9 != 0) = true := by simpa using hz
        have HZ := hid hz
        clear hz HK2 HS1 HFR
        go_wp2_with fail
        go_ret
        exact ⟨ret_int HE2.out.symm, HF2.out, fun c => absurd (HE2.out.symm.trans c) HZ.out⟩
    · obtain rfl : k = n := by omega
      have hw : ms.take k = ms := List.take_of_length_le (by have := HN.out; omega)
      have hd : ms.drop k = [] := List.drop_of_length_le (by have := HN.out; omega)
      rw [hd, mfs] at hev
      have HE2 : Hid (R = 0) := hev.symm
      have HI2 := hid hI
      clear hev hd hF hI hw
      go_wp2_with fail
      go_ret
      exact ⟨ret_int HE2.out.symm, HF.out, fun _ => HI2.out⟩
set_option maxHeartbeats 32000000 in
theorem firstLink_any (ts : List Tp) (ws ns : List Pt) (ks : List Lk) (b mb : Nat) (Ks : Kns) (n0 : Nat) (hkl : Knl ws ns Ks) (tv lv : Value) (w : World) (hs : Scp w ts tv b mb Ks n0) (hR : Rd w (.row 126 3 (ks.map encK)) lv) (hwz : ∀ x, x ∈ ks → x.l.size ≤ maxLen ∧ x.r.size ≤ maxLen) (hn : n0 + ks.length ≤ 100) :
    Calls Tryd.prog 54 #[lv, .func (.func 55) #[scV tv b mb] #[]] w fun e w' => e = .returned (.int .i64 (lfs 0 ws ns ks)) ∧ Fr (fun i => i = mb) w w' ∧ (lfs 0 ws ns ks = 0 → Scp w' ts tv b mb Ks n0) := by
  obtain ⟨tp, tn, tc, rfl⟩ := rd_shape hs.rt
  have HS := hid hs
  have HL := hid hR
  have HWZ := hid hwz
  have HNN := hid hn
  obtain ⟨p, cap, rfl, hmx, _⟩ := rd_row lenK hR
  obtain ⟨n, hnl⟩ : ∃ n, ks.length = n := ⟨_, rfl⟩
  have HN := hid hnl
  obtain ⟨R, hRR⟩ : ∃ R, lfs 0 ws ns ks = R := ⟨_, rfl⟩
  have HR := hid hRR
  rw [hRR]
  rw [hnl] at hmx HL ⊢
  clear hR hs hwz hn hnl hRR
  go_enter Tryd.func54, Tryd.ntmps54
  go_wp2_with fail
  go_loopg [10] (n + 1) (fun gg i wr => ∃ k : Nat, k ≤ n ∧ gg = n + 1 - k ∧ i = .int .i64 (k : Nat) ∧ lfs 0 ws ns (ks.drop k) = R ∧ Fr (fun i => i = mb) w wr ∧ Scp wr ts (.slice tp tn tc) b mb Ks n0)
  case atStart => exact ⟨0, by omega, by omega, rfl, by simpa using HR.out, Fr.refl _ _, HS.out⟩
  case round =>
    obtain ⟨k, hk, rfl, rfl, hev, hF, hI⟩ := hrel
    have HF := hid hF
    have HI := hid hI
    by_cases hlt : k < n
    · have hkc : k < ks.length := by have := HN.out; omega
      obtain ⟨p', cap', e0, _, hat⟩ := rd_row lenK (HL.out.fr HS.out.km.isMap hF)
      simp only [Value.slice.injEq] at e0
      obtain ⟨rfl, hx0, rfl⟩ := e0
      obtain ⟨g, off, rfl, hrd⟩ := hat (by omega)
      obtain ⟨A, r1, o1⟩ := hrd wr (Below.refl _ _) k hkc
      obtain ⟨ov, z1, o2⟩ := rdK o1
      obtain ⟨up, un, uc, hu⟩ := rd_shape o2
      have hAz : A.length = 3 := o1.1.symm
      rw [List.drop_eq_getElem_cons hkc, lfs] at hev
      have htk : ks.take (k + 1) = ks.take k ++ [ks[k]] := List.take_succ_eq_append_getElem hkc
      have hwk := HWZ.out _ (List.getElem_mem hkc)
      have hcall := fun W (hW : Below wr.heap.size wr W) => link_any ts ws ns b mb Ks n0 hkl ks[k].l ks[k].r ks[k].o (.slice tp tn tc) ov W (hI.later hW) (o2.later hW) hwk.1 hwk.2
      obtain ⟨e9, he9⟩ : ∃ e9, lck ws ns ks[k].l ks[k].r ks[k].o = e9 := ⟨_, rfl⟩
      rw [he9] at hcall hev
      have HCM : Hid (∀ W, Below wr.heap.size wr W → Calls Tryd.prog 55 #[scV (.slice tp tn tc) b mb, .agg A.toArray] W (PQ W mb Ks n0 e9)) := fun W hW => by
        rw [z1]
        exact (hcall W hW).mono fun e w' h => ⟨h.1, Fr.of_below h.2, fun _ => ((hI.later hW).km).later h.2⟩
      have HAO : Hid (A.all (·.oneCell') = true) := by show _ = _; rw [z1, hu]; rfl
      have ZA : Hid ((Tryd.prog.info? 126).map (·.size) = some A.length) := by show _ = _; rw [hAz]; kernel_rfl
      have HAL := hid hAz
      have X1_ := hid r1
      have HEV := hid hev
      have HTK := hid htk
      have i1 : (0 : Int) ≤ (k : Int) := by omega
      have i2 : (k : Int) < (n : Int) := by omega
      clear hF hI hat hrd r1 o1 hAz hev htk hx0 hwk hcall he9 z1 hu o2
      go_wp2_with (first
        | ((with_reducible show wpList _ _ _ (Oper.mk _ (.load _ _) _ _ _ _ :: _) _ _); refine wpList_load_mid (by rfl) 126 _ (by rfl) g (off + k * 3) (by rfl) A _ X1_.out Tryd.underlying126 rfl ZA.out ?_)
        | ((with_reducible show wpList _ _ _ (Oper.mk _ (.store _ _ _) _ _ _ _ :: _) _ _); refine wp_st (by rfl) 126 _ _ (by rfl) wr.heap.size 0 _ 126 (.agg A.toArray) A (by rfl) (by rfl) (by rfl) (heap_alloc_new _ _) (by have := HAL.out; simp; omega) ZA.out HAO.out ?_; intro w1 hblk hfr; rw [ovr_all (by rw [HAL.out]; rfl)] at hblk; have XB : Hid (w1.rangeAt wr.heap.size 0 A) := range_blk hblk; have HBW : Hid (Below wr.heap.size wr w1) := new_store hfr; clear hblk hfr)
        | ((with_reducible show wpList _ _ _ (Oper.mk _ (.load _ _) _ _ _ _ :: _) _ _); refine wpList_load_mid (by rfl) 126 _ (by rfl) wr.heap.size 0 (by rfl) A _ XB.out Tryd.underlying126 rfl ZA.out ?_))
      refine (HCM.out _ HBW.out).mono ?_
      rintro e w2 ⟨rfl, hf2, hk2⟩
      have HF2 : Hid (Fr (fun i => i = mb) w w2) := HF.out.trans ((Fr.of_below HBW.out).trans hf2)
      have HK2 := hid hk2
      have HS1 := hid ((HI.out.later HBW.out))
      have HFR := hid hf2
      clear hk2 hf2
      by_cases hz : e9 = 0
      · have HE2 := HEV.out
        rw [if_neg (fun c => c hz)] at HE2
        have HE3 := hid HE2
        have HI2 := hid (show Scp w2 ts (.slice tp tn tc) b mb Ks n0 from HS1.out.fr HFR.out (HK2.out hz))
        subst hz
        clear HE2 HK2 HS1 HFR
        go_wp2_with fail
        go_roundg (n + 1 - (k + 1))
        case rel => exact ⟨k + 1, by omega, rfl, by go_num, HE3.out, HF2.out, HI2.out⟩
        case measure => omega
      · have HE2 : Hid (R = e9) := by have h := HEV.out; rw [if_pos hz] at h; exact h.symm
        have d9 : (e9 != 0) = true := by simpa using hz
        have HZ := hid hz
        clear hz HK2 HS1 HFR
        go_wp2_with fail
        go_ret
        exact ⟨ret_int HE2.out.symm, HF2.out, fun c => absurd (HE2.out.symm.trans c) HZ.out⟩
    · obtain rfl : k = n := by omega
      have hw : ks.take k = ks := List.take_of_length_le (by have := HN.out; omega)
      have hd : ks.drop k = [] := List.drop_of_length_le (by have := HN.out; omega)
      rw [hd, lfs] at hev
      have HE2 : Hid (R = 0) := hev.symm
      have HI2 := hid hI
      clear hev hd hF hI hw
      go_wp2_with fail
      go_ret
      exact ⟨ret_int HE2.out.symm, HF.out, fun _ => HI2.out⟩
theorem ixq_all {α : Type} {q : α → Bool} : ∀ (l : List α) (n : Nat), ixq q l n = -1 → ∀ x, x ∈ l → q x = false
  | [], _, _, x, hx => by cases hx
  | y :: r, n, h0, x, hx => by
    rw [ixq] at h0
    by_cases c : q y = true
    · rw [if_pos c] at h0; omega
    · rw [if_neg c] at h0
      rcases List.mem_cons.1 hx with rfl | hx
      · simpa using c
      · exact ixq_all r (n + 1) h0 x hx
theorem lkp_map (c : Int) (g : Pt → Int) (l : List Pt) (va : ByteArray) : (ptq l va < 0 → lkp (l.map fun p => (p.va, (c, g p))) va.data.toList = none) ∧ (0 ≤ ptq l va → ∃ q, lkp (l.map fun p => (p.va, (c, g p))) va.data.toList = some (c, q)) := by
  constructor
  · intro h
    rw [lkp_none]
    intro e he
    obtain ⟨p, hp, rfl⟩ := List.mem_map.1 he
    rcases ixq_lt (q := fun p : Pt => seq p.va va) l 0 with d | ⟨j, hj, d, _⟩
    · have h2 := ixq_all l 0 d p hp
      rw [seq_iff] at h2
      exact h2
    · exfalso
      have : ptq l va = (j : Int) := by show ixq _ _ _ = _; rw [d]; simp
      omega
  · intro h
    rcases ixq_lt (q := fun p : Pt => seq p.va va) l 0 with d | ⟨j, hj, d, _⟩
    · exfalso
      have : ptq l va = -1 := d
      omega
    · have hf := find_ixq (q := fun p : Pt => seq p.va va) l 0 j hj d
      refine ⟨g l[j], ?_⟩
      unfold lkp
      rw [List.find?_map]
      have e : ((fun p : ByteArray × (Int × Int) => p.1.data.toList == va.data.toList) ∘ fun p : Pt => (p.va, (c, g p))) = fun p : Pt => seq p.va va := by funext p; simp [seq_iff]
      rw [e, hf]
      rfl
theorem Knl_of (ts : List Tp) (ws ns : List Pt) (ms : List Mn) : Knl ws ns (kw ts ws ++ (kn ts ns ++ km ts ms)) := fun va => by
  obtain ⟨a1, a2⟩ := lkp_map 1 (fun p => tyq ts p.ty) ws va
  obtain ⟨b1, b2⟩ := lkp_map 2 (fun p => tyq ts p.ty) ns va
  rw [lkp_append]
  by_cases h1 : 0 ≤ ptq ws va
  · obtain ⟨q, hq⟩ := a2 h1
    have hq' : lkp (kw ts ws) va.data.toList = some (1, q) := hq
    rw [hq']
    simp
    omega
  · have hq' : lkp (kw ts ws) va.data.toList = none := a1 (by omega)
    rw [hq']
    simp only
    rw [lkp_append]
    by_cases h2 : 0 ≤ ptq ns va
    · obtain ⟨q, hq⟩ := b2 h2
      have hq2 : lkp (kn ts ns) va.data.toList = some (2, q) := hq
      rw [hq2]
      simp
      omega
    · have hq2 : lkp (kn ts ns) va.data.toList = none := b1 (by omega)
      rw [hq2]
      simp only
      cases hk : lkp (km ts ms) va.data.toList with
      | none => simp; omega
      | some q =>
        obtain ⟨e, he, rfl⟩ := lkp_some hk
        obtain ⟨x, _, rfl⟩ := List.mem_map.1 he
        simp
        omega
set_option maxHeartbeats 8000000 in
theorem isSized_any (r : Rl) (q1 q2 q3 q4 q5 : Option Addr) (j1 j2 j3 j4 j5 l5 : Nat) (w : World) (q : Bool) (hq : decide (szs r) = q) :
    Calls Tryd.prog 48 #[.agg #[.string r.n, .slice q1 r.w.length j1, .slice q2 r.t.length j2, .slice q3 r.m.length j3, .slice q4 r.k.length j4, .string r.e.ty, .slice q5 l5 j5]] w fun e w' => e = .returned (.bool q) ∧ Below w.heap.size w w' := by
  have hz : (szs r) ↔ q = true := by rw [← hq]; simp
  unfold szs at hz
  obtain ⟨rn, ws, ns, ms, ks, ⟨ety, vs⟩⟩ := r
  simp only at hz ⊢
  generalize ws.length = l1 at *
  generalize ns.length = l2 at *
  generalize ms.length = l3 at *
  generalize ks.length = l4 at *
  clear hq
  rcases (by omega : l1 < 1 ∨ (1 ≤ l1 ∧ 3 < l1) ∨ (1 ≤ l1 ∧ l1 ≤ 3 ∧ 2 < l2) ∨ (1 ≤ l1 ∧ l1 ≤ 3 ∧ l2 ≤ 2 ∧ 2 < l3) ∨ (1 ≤ l1 ∧ l1 ≤ 3 ∧ l2 ≤ 2 ∧ l3 ≤ 2 ∧ 6 < l4) ∨ (1 ≤ l1 ∧ l1 ≤ 3 ∧ l2 ≤ 2 ∧ l3 ≤ 2 ∧ l4 ≤ 6)) with c | c | c | c | c | c
  · have HQ : Hid (q = false) := by
      show _ = _
      cases q with
      | false => rfl
      | true => have := hz.2 rfl; omega
    have g0 : decide ((1 : Int) ≤ (l1 : Int)) = false := by simp; omega
    clear c hz
    go_enter Tryd.func48, Tryd.ntmps48
    go_wp2_with fail
    go_ret
    exact ⟨by rw [HQ.out]; rfl, by go_grown⟩
  · have HQ : Hid (q = false) := by
      show _ = _
      cases q with
      | false => rfl
      | true => have := hz.2 rfl; omega
    have g0 : decide ((1 : Int) ≤ (l1 : Int)) = true := by simp; omega
    have g1 : decide ((l1 : Int) ≤ 3) = false := by simp; omega
    clear c hz
    go_enter Tryd.func48, Tryd.ntmps48
    go_wp2_with fail
    go_ret
    exact ⟨by rw [HQ.out]; rfl, by go_grown⟩
  · have HQ : Hid (q = false) := by
      show _ = _
      cases q with
      | false => rfl
      | true => have := hz.2 rfl; omega
    have g0 : decide ((1 : Int) ≤ (l1 : Int)) = true := by simp; omega
    have g1 : decide ((l1 : Int) ≤ 3) = true := by simp; omega
    have g2 : decide ((l2 : Int) ≤ 2) = false := by simp; omega
    clear c hz
    go_enter Tryd.func48, Tryd.ntmps48
    go_wp2_with fail
    go_ret
    exact ⟨by rw [HQ.out]; rfl, by go_grown⟩
  · have HQ : Hid (q = false) := by
      show _ = _
      cases q with
      | false => rfl
      | true => have := hz.2 rfl; omega
    have g0 : decide ((1 : Int) ≤ (l1 : Int)) = true := by simp; omega
    have g1 : decide ((l1 : Int) ≤ 3) = true := by simp; omega
    have g2 : decide ((l2 : Int) ≤ 2) = true := by simp; omega
    have g3 : decide ((l3 : Int) ≤ 2) = false := by simp; omega
    clear c hz
    go_enter Tryd.func48, Tryd.ntmps48
    go_wp2_with fail
    go_ret
    exact ⟨by rw [HQ.out]; rfl, by go_grown⟩
  · have HQ : Hid (q = false) := by
      show _ = _
      cases q with
      | false => rfl
      | true => have := hz.2 rfl; omega
    have g0 : decide ((1 : Int) ≤ (l1 : Int)) = true := by simp; omega
    have g1 : decide ((l1 : Int) ≤ 3) = true := by simp; omega
    have g2 : decide ((l2 : Int) ≤ 2) = true := by simp; omega
    have g3 : decide ((l3 : Int) ≤ 2) = true := by simp; omega
    have g4 : decide ((l4 : Int) ≤ 6) = false := by simp; omega
    clear c hz
    go_enter Tryd.func48, Tryd.ntmps48
    go_wp2_with fail
    go_ret
    exact ⟨by rw [HQ.out]; rfl, by go_grown⟩
  · have HQ : Hid (q = true) := by
      show _ = _
      exact hz.1 (by omega)
    have g0 : decide ((1 : Int) ≤ (l1 : Int)) = true := by simp; omega
    have g1 : decide ((l1 : Int) ≤ 3) = true := by simp; omega
    have g2 : decide ((l2 : Int) ≤ 2) = true := by simp; omega
    have g3 : decide ((l3 : Int) ≤ 2) = true := by simp; omega
    have g4 : decide ((l4 : Int) ≤ 6) = true := by simp; omega
    clear c hz
    go_enter Tryd.func48, Tryd.ntmps48
    go_wp2_with fail
    go_ret
    exact ⟨by rw [HQ.out]; rfl, by go_grown⟩
end Go.Proofs.YtnajcoikcoegoaaDoor.Chk
