/-
  The parts of a rule, one by one, by the program. How many parts a rule has; what is known of whens and nots, by the program. A rule, by the program.
-/
import Derived.Test.YtdihklfaiiclgaaDoorDj
import Derived.Test.YtdihklfaiiclgaaDoorDp
namespace Go.Proofs.YtdihklfaiiclgaaDoor.Chk
open Go.ChangeShapes Go.WideShapes Go.ChangeAt Go.RowKit Go.Maps
set_option linter.unusedVariables false
set_option linter.unusedSimpArgs false
set_option maxRecDepth 20000
theorem wfs_cont (X : Int) (ts : List Tp) : ∀ (l done : List Pt), wfs X ts done l = if wfs 0 ts done l ≠ 0 then wfs 0 ts done l else X
  | [], done => by simp [wfs]
  | p :: r, done => by
    rw [wfs, wfs, wfs_cont X ts r (done ++ [p])]
    by_cases h : pck ts done (done.map Pt.va) p 0 = 0
    · simp [h]
    · simp [h]
theorem nfs_cont (X : Int) (ts : List Tp) (ws : List Pt) : ∀ (l : List Pt) (ah : List ByteArray), nfs X ts ws ah l = if nfs 0 ts ws ah l ≠ 0 then nfs 0 ts ws ah l else X
  | [], ah => by simp [nfs]
  | p :: r, ah => by
    rw [nfs, nfs, nfs_cont X ts ws r (ah ++ [p.va])]
    by_cases h : pck ts ws ah p 1 = 0
    · simp [h]
    · simp [h]
theorem mfs_cont (X : Int) (ts : List Tp) (ws : List Pt) : ∀ (l : List Mn) (ah : List ByteArray), mfs X ts ws ah l = if mfs 0 ts ws ah l ≠ 0 then mfs 0 ts ws ah l else X
  | [], ah => by simp [mfs]
  | p :: r, ah => by
    rw [mfs, mfs, mfs_cont X ts ws r (ah ++ [p.p.va])]
    by_cases h : mck ts ws ah p = 0
    · simp [h]
    · simp [h]
theorem lfs_cont (X : Int) (ws ns : List Pt) : ∀ (l : List Lk), lfs X ws ns l = if lfs 0 ws ns l ≠ 0 then lfs 0 ws ns l else X
  | [] => by simp [lfs]
  | k :: r => by
    rw [lfs, lfs, lfs_cont X ws ns r]
    by_cases h : lck ws ns k.l k.r k.o = 0
    · simp [h]
    · simp [h]
set_option maxHeartbeats 32000000 in
theorem firstWhen_any (ts : List Tp) (ws : List Pt) (b mb n0 : Nat) (hty : ∀ i (hi : i < ts.length), tyk ts[i].n ts[i].f = 0) (tv lv : Value) (w : World) (hs : Scp w ts tv b mb [] n0) (hR : Rd w (.row 46 18 (ws.map encP)) lv) (hwz : ∀ t, t ∈ ws → Wsz t.c) (hn : n0 + ws.length ≤ 100) :
    Calls Tryd.prog 38 #[lv, .func (.func 39) #[scV tv b mb] #[]] w fun e w' => e = .returned (.int .i64 (wfs 0 ts [] ws)) ∧ Fr (fun i => i = mb) w w' ∧ (wfs 0 ts [] ws = 0 → (Scp w' ts tv b mb (kw ts (ws.take (ws.length))) (n0 + (ws.length)) ∧ Known ts (ws.take (ws.length)))) := by
  obtain ⟨tp, tn, tc, rfl⟩ := rd_shape hs.rt
  have HS := hid hs
  have HL := hid hR
  have HWZ := hid hwz
  have HNN := hid hn
  obtain ⟨p, cap, rfl, hmx, _⟩ := rd_row lenP hR
  obtain ⟨n, hnl⟩ : ∃ n, ws.length = n := ⟨_, rfl⟩
  have HN := hid hnl
  obtain ⟨R, hRR⟩ : ∃ R, wfs 0 ts [] ws = R := ⟨_, rfl⟩
  have HR := hid hRR
  rw [hRR]
  rw [hnl] at hmx HL ⊢
  clear hR hs hwz hn hnl hRR
  go_enter Tryd.func38, Tryd.ntmps38
  go_wp2_with fail
  go_loopg [10] (n + 1) (fun gg i wr => ∃ k : Nat, k ≤ n ∧ gg = n + 1 - k ∧ i = .int .i64 (k : Nat) ∧ wfs 0 ts (ws.take k) (ws.drop k) = R ∧ Fr (fun i => i = mb) w wr ∧ (Scp wr ts (.slice tp tn tc) b mb (kw ts (ws.take (k))) (n0 + (k)) ∧ Known ts (ws.take (k))))
  case atStart => exact ⟨0, by omega, by omega, rfl, by simpa using HR.out, Fr.refl _ _, by simpa using ⟨HS.out, fun j hj => by simp at hj⟩⟩
  case round =>
    obtain ⟨k, hk, rfl, rfl, hev, hF, hI⟩ := hrel
    have HF := hid hF
    have HI := hid hI
    by_cases hlt : k < n
    · have hkc : k < ws.length := by have := HN.out; omega
      obtain ⟨p', cap', e0, _, hat⟩ := rd_row lenP (HL.out.fr HS.out.km.isMap hF)
      simp only [Value.slice.injEq] at e0
      obtain ⟨rfl, hx0, rfl⟩ := e0
      obtain ⟨g, off, rfl, hrd⟩ := hat (by omega)
      obtain ⟨A, r1, o1⟩ := hrd wr (Below.refl _ _) k hkc
      obtain ⟨vc, z1, o2⟩ := rdP o1
      obtain ⟨up, un, uc, hu⟩ := rd_shape o2
      have hAz : A.length = 18 := o1.1.symm
      rw [List.drop_eq_getElem_cons hkc, wfs] at hev
      have htk : ws.take (k + 1) = ws.take k ++ [ws[k]] := List.take_succ_eq_append_getElem hkc
      have hwk : Wsz ws[k].c := HWZ.out _ (List.getElem_mem hkc)
      have hK1 : Knw ts (ws.take k) (kw ts (ws.take k)) := by simpa using Knw_of (ts := ts) (ws := ws.take k) (B := []) (fun e he => by cases he)
      have hK2 : Kna ((ws.take k).map Pt.va) (kw ts (ws.take k)) := by
        have h := Kna_of (Ks := kw ts (ws.take k)) (fun e he => by obtain ⟨x, _, rfl⟩ := List.mem_map.1 he; show (1 : Int) ≠ 0; decide)
        have e : (kw ts (ws.take k)).map (·.1) = (ws.take k).map Pt.va := by unfold kw; rw [List.map_map]; rfl
        rwa [e] at h
      have hcall := fun W (hW : Below wr.heap.size wr W) => when_any ts (ws.take k) ((ws.take k).map Pt.va) b mb (kw ts (ws.take k)) (n0 + k) hI.2 hK1 hK2 hty ws[k] (.slice tp tn tc) vc W (hI.1.later hW) (o2.later hW) hwk (by have := HNN.out; omega)
      have hkp : kw ts (ws.take k) ++ [(ws[k].va, ((1 : Int), tyq ts ws[k].ty))] = kw ts (ws.take (k + 1)) := by rw [htk]; unfold kw; rw [List.map_append]; rfl
      rw [hkp] at hcall
      have hpk := fun (h : pck ts (ws.take k) ((ws.take k).map Pt.va) ws[k] 0 = 0) => known_snoc hI.2 (pck_known h)
      rw [← htk] at hpk
      obtain ⟨e9, he9⟩ : ∃ e9, pck ts (ws.take k) ((ws.take k).map Pt.va) ws[k] 0 = e9 := ⟨_, rfl⟩
      rw [he9] at hcall hev hpk
      have HPK := hid hpk
      have HCM : Hid (∀ W, Below wr.heap.size wr W → Calls Tryd.prog 39 #[scV (.slice tp tn tc) b mb, .agg A.toArray] W (PQ W mb (kw ts (ws.take (k + 1))) (n0 + k + 1) e9)) := fun W hW => by rw [z1]; exact hcall W hW
      have HAO : Hid (A.all (·.oneCell') = true) := by show _ = _; rw [z1, hu]; rfl
      have ZA : Hid ((Tryd.prog.info? 46).map (·.size) = some A.length) := by show _ = _; rw [hAz]; kernel_rfl
      have HAL := hid hAz
      have X1_ := hid r1
      have HEV := hid hev
      have HTK := hid htk
      have i1 : (0 : Int) ≤ (k : Int) := by omega
      have i2 : (k : Int) < (n : Int) := by omega
      clear hF hI hat hrd r1 o1 hAz hev htk hx0 hwk hK1 hK2 hcall hkp hpk he9 z1 hu o2
      go_wp2_with (first
        | ((with_reducible show wpList _ _ _ (Oper.mk _ (.load _ _) _ _ _ _ :: _) _ _); refine wpList_load_mid (by rfl) 46 _ (by rfl) g (off + k * 18) (by rfl) A _ X1_.out Tryd.underlying46 rfl ZA.out ?_)
        | ((with_reducible show wpList _ _ _ (Oper.mk _ (.store _ _ _) _ _ _ _ :: _) _ _); refine wp_st (by rfl) 46 _ _ (by rfl) wr.heap.size 0 _ 46 (.agg A.toArray) A (by rfl) (by rfl) (by rfl) (heap_alloc_new _ _) (by have := HAL.out; simp; omega) ZA.out HAO.out ?_; intro w1 hblk hfr; rw [ovr_all (by rw [HAL.out]; rfl)] at hblk; have XB : Hid (w1.rangeAt wr.heap.size 0 A) := range_blk hblk; have HBW : Hid (Below wr.heap.size wr w1) := new_store hfr; clear hblk hfr)
        | ((with_reducible show wpList _ _ _ (Oper.mk _ (.load _ _) _ _ _ _ :: _) _ _); refine wpList_load_mid (by rfl) 46 _ (by rfl) wr.heap.size 0 (by rfl) A _ XB.out Tryd.underlying46 rfl ZA.out ?_))
      refine (HCM.out _ HBW.out).mono ?_
      rintro e w2 ⟨rfl, hf2, hk2⟩
      have HF2 : Hid (Fr (fun i => i = mb) w w2) := HF.out.trans ((Fr.of_below HBW.out).trans hf2)
      have HK2 := hid hk2
      have HS1 := hid ((HI.out.1.later HBW.out))
      have HFR := hid hf2
      clear hk2 hf2
      by_cases hz : e9 = 0
      · have HE2 := HEV.out
        rw [if_neg (fun c => c hz)] at HE2
        have HE3 := hid HE2
        have HI2 := hid (show Scp w2 ts (.slice tp tn tc) b mb (kw ts (ws.take (k + 1))) (n0 + (k + 1)) ∧ Known ts (ws.take (k + 1)) from ⟨HS1.out.fr HFR.out (HK2.out hz), HPK.out hz⟩)
        subst hz
        clear HE2 HK2 HS1 HFR HPK
        go_wp2_with fail
        go_roundg (n + 1 - (k + 1))
        case rel => exact ⟨k + 1, by omega, rfl, by go_num, by rw [HTK.out]; exact HE3.out, HF2.out, HI2.out⟩
        case measure => omega
      · have HE2 : Hid (R = e9) := by have h := HEV.out; rw [if_pos hz] at h; exact h.symm
        have d9 : (e9 != 0) = true := by simpa using hz
        have HZ := hid hz
        clear hz HK2 HS1 HFR HPK
        go_wp2_with fail
        go_ret
        exact ⟨ret_int HE2.out.symm, HF2.out, fun c => absurd (HE2.out.symm.trans c) HZ.out⟩
    · obtain rfl : k = n := by omega
      have hw : ws.take k = ws := List.take_of_length_le (by have := HN.out; omega)
      have hd : ws.drop k = [] := List.drop_of_length_le (by have := HN.out; omega)
      rw [hd, wfs] at hev
      have HE2 : Hid (R = 0) := hev.symm
      have HI2 := hid hI
      clear hev hd hF hI hw
      go_wp2_with fail
      go_ret
      exact ⟨ret_int HE2.out.symm, HF.out, fun _ => HI2.out⟩
set_option maxHeartbeats 32000000 in
theorem firstNot_any (ts : List Tp) (ws ns : List Pt) (b mb n0 : Nat) (hkn : Known ts ws) (hty : ∀ i (hi : i < ts.length), tyk ts[i].n ts[i].f = 0) (tv lv : Value) (w : World) (hs : Scp w ts tv b mb (kw ts ws) n0) (hR : Rd w (.row 46 18 (ns.map encP)) lv) (hwz : ∀ t, t ∈ ns → Wsz t.c) (hn : n0 + ns.length ≤ 100) :
    Calls Tryd.prog 38 #[lv, .func (.func 40) #[scV tv b mb] #[]] w fun e w' => e = .returned (.int .i64 (nfs 0 ts ws (ws.map Pt.va) ns)) ∧ Fr (fun i => i = mb) w w' ∧ (nfs 0 ts ws (ws.map Pt.va) ns = 0 → Scp w' ts tv b mb (kw ts ws ++ kn ts (ns.take (ns.length))) (n0 + (ns.length))) := by
  obtain ⟨tp, tn, tc, rfl⟩ := rd_shape hs.rt
  have HS := hid hs
  have HL := hid hR
  have HWZ := hid hwz
  have HNN := hid hn
  obtain ⟨p, cap, rfl, hmx, _⟩ := rd_row lenP hR
  obtain ⟨n, hnl⟩ : ∃ n, ns.length = n := ⟨_, rfl⟩
  have HN := hid hnl
  obtain ⟨R, hRR⟩ : ∃ R, nfs 0 ts ws (ws.map Pt.va) ns = R := ⟨_, rfl⟩
  have HR := hid hRR
  rw [hRR]
  rw [hnl] at hmx HL ⊢
  clear hR hs hwz hn hnl hRR
  go_enter Tryd.func38, Tryd.ntmps38
  go_wp2_with fail
  go_loopg [10] (n + 1) (fun gg i wr => ∃ k : Nat, k ≤ n ∧ gg = n + 1 - k ∧ i = .int .i64 (k : Nat) ∧ nfs 0 ts ws (ws.map Pt.va ++ (ns.take k).map Pt.va) (ns.drop k) = R ∧ Fr (fun i => i = mb) w wr ∧ Scp wr ts (.slice tp tn tc) b mb (kw ts ws ++ kn ts (ns.take (k))) (n0 + (k)))
  case atStart => exact ⟨0, by omega, by omega, rfl, by simpa using HR.out, Fr.refl _ _, by simpa [kn] using HS.out⟩
  case round =>
    obtain ⟨k, hk, rfl, rfl, hev, hF, hI⟩ := hrel
    have HF := hid hF
    have HI := hid hI
    by_cases hlt : k < n
    · have hkc : k < ns.length := by have := HN.out; omega
      obtain ⟨p', cap', e0, _, hat⟩ := rd_row lenP (HL.out.fr HS.out.km.isMap hF)
      simp only [Value.slice.injEq] at e0
      obtain ⟨rfl, hx0, rfl⟩ := e0
      obtain ⟨g, off, rfl, hrd⟩ := hat (by omega)
      obtain ⟨A, r1, o1⟩ := hrd wr (Below.refl _ _) k hkc
      obtain ⟨vc, z1, o2⟩ := rdP o1
      obtain ⟨up, un, uc, hu⟩ := rd_shape o2
      have hAz : A.length = 18 := o1.1.symm
      rw [List.drop_eq_getElem_cons hkc, nfs] at hev
      have htk : ns.take (k + 1) = ns.take k ++ [ns[k]] := List.take_succ_eq_append_getElem hkc
      have hwk : Wsz ns[k].c := HWZ.out _ (List.getElem_mem hkc)
      have hK1 : Knw ts ws (kw ts ws ++ kn ts (ns.take k)) := Knw_of (fun e he => by obtain ⟨x, _, rfl⟩ := List.mem_map.1 he; show (2 : Int) ≠ 1; decide)
      have hK2 : Kna (ws.map Pt.va ++ (ns.take k).map Pt.va) (kw ts ws ++ kn ts (ns.take k)) := by
        have h := Kna_of (Ks := kw ts ws ++ kn ts (ns.take k)) (fun e he => by
          rcases List.mem_append.1 he with he | he
          · obtain ⟨x, _, rfl⟩ := List.mem_map.1 he; show (1 : Int) ≠ 0; decide
          · obtain ⟨x, _, rfl⟩ := List.mem_map.1 he; show (2 : Int) ≠ 0; decide)
        have e : (kw ts ws ++ kn ts (ns.take k)).map (·.1) = ws.map Pt.va ++ (ns.take k).map Pt.va := by unfold kw kn; rw [List.map_append, List.map_map, List.map_map]; rfl
        rwa [e] at h
      have hcall := fun W (hW : Below wr.heap.size wr W) => not_any ts ws (ws.map Pt.va ++ (ns.take k).map Pt.va) b mb (kw ts ws ++ kn ts (ns.take k)) (n0 + k) hkn hK1 hK2 hty ns[k] (.slice tp tn tc) vc W (hI.later hW) (o2.later hW) hwk (by have := HNN.out; omega)
      have hkp : (kw ts ws ++ kn ts (ns.take k)) ++ [(ns[k].va, ((2 : Int), tyq ts ns[k].ty))] = kw ts ws ++ kn ts (ns.take (k + 1)) := by rw [htk, List.append_assoc]; unfold kn; rw [List.map_append]; rfl
      rw [hkp] at hcall
      obtain ⟨e9, he9⟩ : ∃ e9, pck ts ws (ws.map Pt.va ++ (ns.take k).map Pt.va) ns[k] 1 = e9 := ⟨_, rfl⟩
      rw [he9] at hcall hev
      have HCM : Hid (∀ W, Below wr.heap.size wr W → Calls Tryd.prog 40 #[scV (.slice tp tn tc) b mb, .agg A.toArray] W (PQ W mb (kw ts ws ++ kn ts (ns.take (k + 1))) (n0 + k + 1) e9)) := fun W hW => by rw [z1]; exact hcall W hW
      have HAO : Hid (A.all (·.oneCell') = true) := by show _ = _; rw [z1, hu]; rfl
      have ZA : Hid ((Tryd.prog.info? 46).map (·.size) = some A.length) := by show _ = _; rw [hAz]; kernel_rfl
      have HAL := hid hAz
      have X1_ := hid r1
      have HEV := hid hev
      have HTK := hid htk
      have i1 : (0 : Int) ≤ (k : Int) := by omega
      have i2 : (k : Int) < (n : Int) := by omega
      clear hF hI hat hrd r1 o1 hAz hev htk hx0 hwk hK1 hK2 hcall hkp he9 z1 hu o2
      go_wp2_with (first
        | ((with_reducible show wpList _ _ _ (Oper.mk _ (.load _ _) _ _ _ _ :: _) _ _); refine wpList_load_mid (by rfl) 46 _ (by rfl) g (off + k * 18) (by rfl) A _ X1_.out Tryd.underlying46 rfl ZA.out ?_)
        | ((with_reducible show wpList _ _ _ (Oper.mk _ (.store _ _ _) _ _ _ _ :: _) _ _); refine wp_st (by rfl) 46 _ _ (by rfl) wr.heap.size 0 _ 46 (.agg A.toArray) A (by rfl) (by rfl) (by rfl) (heap_alloc_new _ _) (by have := HAL.out; simp; omega) ZA.out HAO.out ?_; intro w1 hblk hfr; rw [ovr_all (by rw [HAL.out]; rfl)] at hblk; have XB : Hid (w1.rangeAt wr.heap.size 0 A) := range_blk hblk; have HBW : Hid (Below wr.heap.size wr w1) := new_store hfr; clear hblk hfr)
        | ((with_reducible show wpList _ _ _ (Oper.mk _ (.load _ _) _ _ _ _ :: _) _ _); refine wpList_load_mid (by rfl) 46 _ (by rfl) wr.heap.size 0 (by rfl) A _ XB.out Tryd.underlying46 rfl ZA.out ?_))
      refine (HCM.out _ HBW.out).mono ?_
      rintro e w2 ⟨rfl, hf2, hk2⟩
      have HF2 : Hid (Fr (fun i => i = mb) w w2) := HF.out.trans ((Fr.of_below HBW.out).trans hf2)
      have HK2 := hid hk2
      have HS1 := hid ((HI.out.later HBW.out))
      have HFR := hid hf2
      clear hk2 hf2
      by_cases hz : e9 = 0
      · have HE2 := HEV.out
        rw [if_neg (fun c => c hz)] at HE2
        have HE3 := hid HE2
        have HI2 := hid (show Scp w2 ts (.slice tp tn tc) b mb (kw ts ws ++ kn ts (ns.take (k + 1))) (n0 + (k + 1)) from HS1.out.fr HFR.out (HK2.out hz))
        subst hz
        clear HE2 HK2 HS1 HFR
        go_wp2_with fail
        go_roundg (n + 1 - (k + 1))
        case rel => exact ⟨k + 1, by omega, rfl, by go_num, by rw [HTK.out, List.map_append, ← List.append_assoc]; exact HE3.out, HF2.out, HI2.out⟩
        case measure => omega
      · have HE2 : Hid (R = e9) := by have h := HEV.out; rw [if_pos hz] at h; exact h.symm
        have d9 : (e9 != 0) = true := by simpa using hz
        have HZ := hid hz
        clear hz HK2 HS1 HFR
        go_wp2_with fail
        go_ret
        exact ⟨ret_int HE2.out.symm, HF2.out, fun c => absurd (HE2.out.symm.trans c) HZ.out⟩
    · obtain rfl : k = n := by omega
      have hw : ns.take k = ns := List.take_of_length_le (by have := HN.out; omega)
      have hd : ns.drop k = [] := List.drop_of_length_le (by have := HN.out; omega)
      rw [hd, nfs] at hev
      have HE2 : Hid (R = 0) := hev.symm
      have HI2 := hid hI
      clear hev hd hF hI hw
      go_wp2_with fail
      go_ret
      exact ⟨ret_int HE2.out.symm, HF.out, fun _ => HI2.out⟩
set_option maxHeartbeats 32000000 in
theorem firstMany_any (ts : List Tp) (ws ns : List Pt) (ms : List Mn) (b mb n0 : Nat) (hkn : Known ts ws) (hty : ∀ i (hi : i < ts.length), tyk ts[i].n ts[i].f = 0) (tv lv : Value) (w : World) (hs : Scp w ts tv b mb (kw ts ws ++ kn ts ns) n0) (hR : Rd w (.row 78 20 (ms.map encM)) lv) (hwz : ∀ x, x ∈ ms → Wsz x.p.c) (hn : n0 + ms.length ≤ 100) :
    Calls Tryd.prog 41 #[lv, .func (.func 42) #[scV tv b mb] #[]] w fun e w' => e = .returned (.int .i64 (mfs 0 ts ws (ws.map Pt.va ++ ns.map Pt.va) ms)) ∧ Fr (fun i => i = mb) w w' ∧ (mfs 0 ts ws (ws.map Pt.va ++ ns.map Pt.va) ms = 0 → Scp w' ts tv b mb (kw ts ws ++ (kn ts ns ++ km ts (ms.take (ms.length)))) (n0 + (ms.length))) := by
  obtain ⟨tp, tn, tc, rfl⟩ := rd_shape hs.rt
  have HS := hid hs
  have HL := hid hR
  have HWZ := hid hwz
  have HNN := hid hn
  obtain ⟨p, cap, rfl, hmx, _⟩ := rd_row lenM hR
  obtain ⟨n, hnl⟩ : ∃ n, ms.length = n := ⟨_, rfl⟩
  have HN := hid hnl
  obtain ⟨R, hRR⟩ : ∃ R, mfs 0 ts ws (ws.map Pt.va ++ ns.map Pt.va) ms = R := ⟨_, rfl⟩
  have HR := hid hRR
  rw [hRR]
  rw [hnl] at hmx HL ⊢
  clear hR hs hwz hn hnl hRR
  go_enter Tryd.func41, Tryd.ntmps41
  go_wp2_with fail
  go_loopg [10] (n + 1) (fun gg i wr => ∃ k : Nat, k ≤ n ∧ gg = n + 1 - k ∧ i = .int .i64 (k : Nat) ∧ mfs 0 ts ws (ws.map Pt.va ++ ns.map Pt.va ++ (ms.take k).map (fun m => m.p.va)) (ms.drop k) = R ∧ Fr (fun i => i = mb) w wr ∧ Scp wr ts (.slice tp tn tc) b mb (kw ts ws ++ (kn ts ns ++ km ts (ms.take (k)))) (n0 + (k)))
  case atStart => exact ⟨0, by omega, by omega, rfl, by simpa using HR.out, Fr.refl _ _, by simpa [km] using HS.out⟩
  case round =>
    obtain ⟨k, hk, rfl, rfl, hev, hF, hI⟩ := hrel
    have HF := hid hF
    have HI := hid hI
    by_cases hlt : k < n
    · have hkc : k < ms.length := by have := HN.out; omega
      obtain ⟨p', cap', e0, _, hat⟩ := rd_row lenM (HL.out.fr HS.out.km.isMap hF)
      simp only [Value.slice.injEq] at e0
      obtain ⟨rfl, hx0, rfl⟩ := e0
      obtain ⟨g, off, rfl, hrd⟩ := hat (by omega)
      obtain ⟨A, r1, o1⟩ := hrd wr (Below.refl _ _) k hkc
      obtain ⟨B, z0, o0⟩ := rdM o1
      obtain ⟨vc, z1, o2⟩ := rdP o0
      obtain ⟨up, un, uc, hu⟩ := rd_shape o2
      have hAz : A.length = 20 := o1.1.symm
      rw [List.drop_eq_getElem_cons hkc, mfs] at hev
      have htk : ms.take (k + 1) = ms.take k ++ [ms[k]] := List.take_succ_eq_append_getElem hkc
      have hwk : Wsz ms[k].p.c := HWZ.out _ (List.getElem_mem hkc)
      have hK1 : Knw ts ws (kw ts ws ++ (kn ts ns ++ km ts (ms.take k))) := Knw_of (fun e he => by
        rcases List.mem_append.1 he with he | he
        · obtain ⟨x, _, rfl⟩ := List.mem_map.1 he; show (2 : Int) ≠ 1; decide
        · obtain ⟨x, _, rfl⟩ := List.mem_map.1 he; show (3 : Int) ≠ 1; decide)
      have hK2 : Kna (ws.map Pt.va ++ ns.map Pt.va ++ (ms.take k).map (fun m => m.p.va)) (kw ts ws ++ (kn ts ns ++ km ts (ms.take k))) := by
        have h := Kna_of (Ks := kw ts ws ++ (kn ts ns ++ km ts (ms.take k))) (fun e he => by
          rcases List.mem_append.1 he with he | he
          · obtain ⟨x, _, rfl⟩ := List.mem_map.1 he; show (1 : Int) ≠ 0; decide
          · rcases List.mem_append.1 he with he | he
            · obtain ⟨x, _, rfl⟩ := List.mem_map.1 he; show (2 : Int) ≠ 0; decide
            · obtain ⟨x, _, rfl⟩ := List.mem_map.1 he; show (3 : Int) ≠ 0; decide)
        have e : (kw ts ws ++ (kn ts ns ++ km ts (ms.take k))).map (·.1) = ws.map Pt.va ++ ns.map Pt.va ++ (ms.take k).map (fun m => m.p.va) := by unfold kw kn km; rw [List.map_append, List.map_append, List.map_map, List.map_map, List.map_map, List.append_assoc]; rfl
        rwa [e] at h
      have hcall := fun W (hW : Below wr.heap.size wr W) => many_any ts ws (ws.map Pt.va ++ ns.map Pt.va ++ (ms.take k).map (fun m => m.p.va)) b mb (kw ts ws ++ (kn ts ns ++ km ts (ms.take k))) (n0 + k) hkn hK1 hK2 hty ms[k] (.slice tp tn tc) vc W (hI.later hW) (o2.later hW) hwk (by have := HNN.out; omega)
      have hkp : (kw ts ws ++ (kn ts ns ++ km ts (ms.take k))) ++ [(ms[k].p.va, ((3 : Int), tyq ts ms[k].p.ty))] = kw ts ws ++ (kn ts ns ++ km ts (ms.take (k + 1))) := by rw [htk, List.append_assoc, List.append_assoc]; unfold km; rw [List.map_append]; rfl
      rw [hkp] at hcall
      obtain ⟨e9, he9⟩ : ∃ e9, mck ts ws (ws.map Pt.va ++ ns.map Pt.va ++ (ms.take k).map (fun m => m.p.va)) ms[k] = e9 := ⟨_, rfl⟩
      rw [he9] at hcall hev
      have HCM : Hid (∀ W, Below wr.heap.size wr W → Calls Tryd.prog 42 #[scV (.slice tp tn tc) b mb, .agg A.toArray] W (PQ W mb (kw ts ws ++ (kn ts ns ++ km ts (ms.take (k + 1)))) (n0 + k + 1) e9)) := fun W hW => by rw [z0, z1]; exact hcall W hW
      have HAO : Hid (A.all (·.oneCell') = true) := by show _ = _; rw [z0, z1, hu]; rfl
      have ZA : Hid ((Tryd.prog.info? 78).map (·.size) = some A.length) := by show _ = _; rw [hAz]; kernel_rfl
      have HAL := hid hAz
      have X1_ := hid r1
      have HEV := hid hev
      have HTK := hid htk
      have i1 : (0 : Int) ≤ (k : Int) := by omega
      have i2 : (k : Int) < (n : Int) := by omega
      clear hF hI hat hrd r1 o1 hAz hev htk hx0 hwk hK1 hK2 hcall hkp he9 z0 z1 hu o2 o0
      go_wp2_with (first
        | ((with_reducible show wpList _ _ _ (Oper.mk _ (.load _ _) _ _ _ _ :: _) _ _); refine wpList_load_mid (by rfl) 78 _ (by rfl) g (off + k * 20) (by rfl) A _ X1_.out Tryd.underlying78 rfl ZA.out ?_)
        | ((with_reducible show wpList _ _ _ (Oper.mk _ (.store _ _ _) _ _ _ _ :: _) _ _); refine wp_st (by rfl) 78 _ _ (by rfl) wr.heap.size 0 _ 78 (.agg A.toArray) A (by rfl) (by rfl) (by rfl) (heap_alloc_new _ _) (by have := HAL.out; simp; omega) ZA.out HAO.out ?_; intro w1 hblk hfr; rw [ovr_all (by rw [HAL.out]; rfl)] at hblk; have XB : Hid (w1.rangeAt wr.heap.size 0 A) := range_blk hblk; have HBW : Hid (Below wr.heap.size wr w1) := new_store hfr; clear hblk hfr)
        | ((with_reducible show wpList _ _ _ (Oper.mk _ (.load _ _) _ _ _ _ :: _) _ _); refine wpList_load_mid (by rfl) 78 _ (by rfl) wr.heap.size 0 (by rfl) A _ XB.out Tryd.underlying78 rfl ZA.out ?_))
      refine (HCM.out _ HBW.out).mono ?_
      rintro e w2 ⟨rfl, hf2, hk2⟩
      have HF2 : Hid (Fr (fun i => i = mb) w w2) := HF.out.trans ((Fr.of_below HBW.out).trans hf2)
      have HK2 := hid hk2
      have HS1 := hid ((HI.out.later HBW.out))
      have HFR := hid hf2
      clear hk2 hf2
      by_cases hz : e9 = 0
      · have HE2 := HEV.out
        rw [if_neg (fun c => c hz)] at HE2
        have HE3 := hid HE2
        have HI2 := hid (show Scp w2 ts (.slice tp tn tc) b mb (kw ts ws ++ (kn ts ns ++ km ts (ms.take (k + 1)))) (n0 + (k + 1)) from HS1.out.fr HFR.out (HK2.out hz))
        subst hz
        clear HE2 HK2 HS1 HFR
        go_wp2_with fail
        go_roundg (n + 1 - (k + 1))
        case rel => exact ⟨k + 1, by omega, rfl, by go_num, by rw [HTK.out, List.map_append, ← List.append_assoc]; exact HE3.out, HF2.out, HI2.out⟩
        case measure => omega
      · have HE2 : Hid (R = e9) := by have h := HEV.out; rw [if_pos hz] at h; exact h.symm
        have d9 : (e9 != 0) = true := by simpa using hz
        have HZ := hid hz
        clear hz HK2 HS1 HFR
        go_wp2_with fail
        go_ret
        exact ⟨ret_int HE2.out.symm, HF2.out, fun c => absurd (HE2.out.symm.trans c) HZ.out⟩
    · obtain rfl : k = n := by omega
      have hw : ms.take k = ms := List.take_of_length_le (by have := HN.out; omega)
      have hd : ms.drop k = [] := List.drop_of_length_le (by have := HN.out; omega)
      rw [hd, mfs] at hev
      have HE2 : Hid (R = 0) := hev.symm
      have HI2 := hid hI
      clear hev hd hF hI hw
      go_wp2_with fail
      go_ret
      exact ⟨ret_int HE2.out.symm, HF.out, fun _ => HI2.out⟩
set_option maxHeartbeats 32000000 in
theorem firstLink_any (ts : List Tp) (ws ns : List Pt) (ks : List Lk) (b mb : Nat) (Ks : Kns) (n0 : Nat) (hkl : Knl ws ns Ks) (tv lv : Value) (w : World) (hs : Scp w ts tv b mb Ks n0) (hR : Rd w (.row 54 3 (ks.map encK)) lv) (hwz : ∀ x, x ∈ ks → x.l.size ≤ maxLen ∧ x.r.size ≤ maxLen) (hn : n0 + ks.length ≤ 100) :
    Calls Tryd.prog 43 #[lv, .func (.func 44) #[scV tv b mb] #[]] w fun e w' => e = .returned (.int .i64 (lfs 0 ws ns ks)) ∧ Fr (fun i => i = mb) w w' ∧ (lfs 0 ws ns ks = 0 → Scp w' ts tv b mb Ks n0) := by
  obtain ⟨tp, tn, tc, rfl⟩ := rd_shape hs.rt
  have HS := hid hs
  have HL := hid hR
  have HWZ := hid hwz
  have HNN := hid hn
  obtain ⟨p, cap, rfl, hmx, _⟩ := rd_row lenK hR
  obtain ⟨n, hnl⟩ : ∃ n, ks.length = n := ⟨_, rfl⟩
  have HN := hid hnl
  obtain ⟨R, hRR⟩ : ∃ R, lfs 0 ws ns ks = R := ⟨_, rfl⟩
  have HR := hid hRR
  rw [hRR]
  rw [hnl] at hmx HL ⊢
  clear hR hs hwz hn hnl hRR
  go_enter Tryd.func43, Tryd.ntmps43
  go_wp2_with fail
  go_loopg [10] (n + 1) (fun gg i wr => ∃ k : Nat, k ≤ n ∧ gg = n + 1 - k ∧ i = .int .i64 (k : Nat) ∧ lfs 0 ws ns (ks.drop k) = R ∧ Fr (fun i => i = mb) w wr ∧ Scp wr ts (.slice tp tn tc) b mb Ks n0)
  case atStart => exact ⟨0, by omega, by omega, rfl, by simpa using HR.out, Fr.refl _ _, HS.out⟩
  case round =>
    obtain ⟨k, hk, rfl, rfl, hev, hF, hI⟩ := hrel
    have HF := hid hF
    have HI := hid hI
    by_cases hlt : k < n
    · have hkc : k < ks.length := by have := HN.out; omega
      obtain ⟨p', cap', e0, _, hat⟩ := rd_row lenK (HL.out.fr HS.out.km.isMap hF)
      simp only [Value.slice.injEq] at e0
      obtain ⟨rfl, hx0, rfl⟩ := e0
      obtain ⟨g, off, rfl, hrd⟩ := hat (by omega)
      obtain ⟨A, r1, o1⟩ := hrd wr (Below.refl _ _) k hkc
      obtain ⟨ov, z1, o2⟩ := rdK o1
      obtain ⟨up, un, uc, hu⟩ := rd_shape o2
      have hAz : A.length = 3 := o1.1.symm
      rw [List.drop_eq_getElem_cons hkc, lfs] at hev
      have htk : ks.take (k + 1) = ks.take k ++ [ks[k]] := List.take_succ_eq_append_getElem hkc
      have hwk := HWZ.out _ (List.getElem_mem hkc)
      have hcall := fun W (hW : Below wr.heap.size wr W) => link_any ts ws ns b mb Ks n0 hkl ks[k].l ks[k].r ks[k].o (.slice tp tn tc) ov W (hI.later hW) (o2.later hW) hwk.1 hwk.2
      obtain ⟨e9, he9⟩ : ∃ e9, lck ws ns ks[k].l ks[k].r ks[k].o = e9 := ⟨_, rfl⟩
      rw [he9] at hcall hev
      have HCM : Hid (∀ W, Below wr.heap.size wr W → Calls Tryd.prog 44 #[scV (.slice tp tn tc) b mb, .agg A.toArray] W (PQ W mb Ks n0 e9)) := fun W hW => by
        rw [z1]
        exact (hcall W hW).mono fun e w' h => ⟨h.1, Fr.of_below h.2, fun _ => ((hI.later hW).km).later h.2⟩
      have HAO : Hid (A.all (·.oneCell') = true) := by show _ = _; rw [z1, hu]; rfl
      have ZA : Hid ((Tryd.prog.info? 54).map (·.size) = some A.length) := by show _ = _; rw [hAz]; kernel_rfl
      have HAL := hid hAz
      have X1_ := hid r1
      have HEV := hid hev
      have HTK := hid htk
      have i1 : (0 : Int) ≤ (k : Int) := by omega
      have i2 : (k : Int) < (n : Int) := by omega
      clear hF hI hat hrd r1 o1 hAz hev htk hx0 hwk hcall he9 z1 hu o2
      go_wp2_with (first
        | ((with_reducible show wpList _ _ _ (Oper.mk _ (.load _ _) _ _ _ _ :: _) _ _); refine wpList_load_mid (by rfl) 54 _ (by rfl) g (off + k * 3) (by rfl) A _ X1_.out Tryd.underlying54 rfl ZA.out ?_)
        | ((with_reducible show wpList _ _ _ (Oper.mk _ (.store _ _ _) _ _ _ _ :: _) _ _); refine wp_st (by rfl) 54 _ _ (by rfl) wr.heap.size 0 _ 54 (.agg A.toArray) A (by rfl) (by rfl) (by rfl) (heap_alloc_new _ _) (by have := HAL.out; simp; omega) ZA.out HAO.out ?_; intro w1 hblk hfr; rw [ovr_all (by rw [HAL.out]; rfl)] at hblk; have XB : Hid (w1.rangeAt wr.heap.size 0 A) := range_blk hblk; have HBW : Hid (Below wr.heap.size wr w1) := new_store hfr; clear hblk hfr)
        | ((with_reducible show wpList _ _ _ (Oper.mk _ (.load _ _) _ _ _ _ :: _) _ _); refine wpList_load_mid (by rfl) 54 _ (by rfl) wr.heap.size 0 (by rfl) A _ XB.out Tryd.underlying54 rfl ZA.out ?_))
      refine (HCM.out _ HBW.out).mono ?_
      rintro e w2 ⟨rfl, hf2, hk2⟩
      have HF2 : Hid (Fr (fun i => i = mb) w w2) := HF.out.trans ((Fr.of_below HBW.out).trans hf2)
      have HK2 := hid hk2
      have HS1 := hid ((HI.out.later HBW.out))
      have HFR := hid hf2
      clear hk2 hf2
      by_cases hz : e9 = 0
      · have HE2 := HEV.out
        rw [if_neg (fun c => c hz)] at HE2
        have HE3 := hid HE2
        have HI2 := hid (show Scp w2 ts (.slice tp tn tc) b mb Ks n0 from HS1.out.fr HFR.out (HK2.out hz))
        subst hz
        clear HE2 HK2 HS1 HFR
        go_wp2_with fail
        go_roundg (n + 1 - (k + 1))
        case rel => exact ⟨k + 1, by omega, rfl, by go_num, HE3.out, HF2.out, HI2.out⟩
        case measure => omega
      · have HE2 : Hid (R = e9) := by have h := HEV.out; rw [if_pos hz] at h; exact h.symm
        have d9 : (e9 != 0) = true := by simpa using hz
        have HZ := hid hz
        clear hz HK2 HS1 HFR
        go_wp2_with fail
        go_ret
        exact ⟨ret_int HE2.out.symm, HF2.out, fun c => absurd (HE2.out.symm.trans c) HZ.out⟩
    · obtain rfl : k = n := by omega
      have hw : ks.take k = ks := List.take_of_length_le (by have := HN.out; omega)
      have hd : ks.drop k = [] := List.drop_of_length_le (by have := HN.out; omega)
      rw [hd, lfs] at hev
      have HE2 : Hid (R = 0) := hev.symm
      have HI2 := hid hI
      clear hev hd hF hI hw
      go_wp2_with fail
      go_ret
      exact ⟨ret_int HE2.out.symm, HF.out, fun _ => HI2.out⟩
theorem ixq_all {α : Type} {q : α → Bool} : ∀ (l : List α) (n : Nat), ixq q l n = -1 → ∀ x, x ∈ l → q x = false
  | [], _, _, x, hx => by cases hx
  | y :: r, n, h0, x, hx => by
    rw [ixq] at h0
    by_cases c : q y = true
    · rw [if_pos c] at h0; omega
    · rw [if_neg c] at h0
      rcases List.mem_cons.1 hx with rfl | hx
      · simpa using c
      · exact ixq_all r (n + 1) h0 x hx
theorem lkp_map (c : Int) (g : Pt → Int) (l : List Pt) (va : ByteArray) : (ptq l va < 0 → lkp (l.map fun p => (p.va, (c, g p))) va.data.toList = none) ∧ (0 ≤ ptq l va → ∃ q, lkp (l.map fun p => (p.va, (c, g p))) va.data.toList = some (c, q)) := by
  constructor
  · intro h
    rw [lkp_none]
    intro e he
    obtain ⟨p, hp, rfl⟩ := List.mem_map.1 he
    rcases ixq_lt (q := fun p : Pt => seq p.va va) l 0 with d | ⟨j, hj, d, _⟩
    · have h2 := ixq_all l 0 d p hp
      rw [seq_iff] at h2
      exact h2
    · exfalso
      have : ptq l va = (j : Int) := by show ixq _ _ _ = _; rw [d]; simp
      omega
  · intro h
    rcases ixq_lt (q := fun p : Pt => seq p.va va) l 0 with d | ⟨j, hj, d, _⟩
    · exfalso
      have : ptq l va = -1 := d
      omega
    · have hf := find_ixq (q := fun p : Pt => seq p.va va) l 0 j hj d
      refine ⟨g l[j], ?_⟩
      unfold lkp
      rw [List.find?_map]
      have e : ((fun p : ByteArray × (Int × Int) => p.1.data.toList == va.data.toList) ∘ fun p : Pt => (p.va, (c, g p))) = fun p : Pt => seq p.va va := by funext p; simp [seq_iff]
      rw [e, hf]
      rfl
theorem Knl_of (ts : List Tp) (ws ns : List Pt) (ms : List Mn) : Knl ws ns (kw ts ws ++ (kn ts ns ++ km ts ms)) := fun va => by
  obtain ⟨a1, a2⟩ := lkp_map 1 (fun p => tyq ts p.ty) ws va
  obtain ⟨b1, b2⟩ := lkp_map 2 (fun p => tyq ts p.ty) ns va
  rw [lkp_append]
  by_cases h1 : 0 ≤ ptq ws va
  · obtain ⟨q, hq⟩ := a2 h1
    have hq' : lkp (kw ts ws) va.data.toList = some (1, q) := hq
    rw [hq']
    simp
    omega
  · have hq' : lkp (kw ts ws) va.data.toList = none := a1 (by omega)
    rw [hq']
    simp only
    rw [lkp_append]
    by_cases h2 : 0 ≤ ptq ns va
    · obtain ⟨q, hq⟩ := b2 h2
      have hq2 : lkp (kn ts ns) va.data.toList = some (2, q) := hq
      rw [hq2]
      simp
      omega
    · have hq2 : lkp (kn ts ns) va.data.toList = none := b1 (by omega)
      rw [hq2]
      simp only
      cases hk : lkp (km ts ms) va.data.toList with
      | none => simp; omega
      | some q =>
        obtain ⟨e, he, rfl⟩ := lkp_some hk
        obtain ⟨x, _, rfl⟩ := List.mem_map.1 he
        simp
        omega
set_option maxHeartbeats 8000000 in
theorem isSized_any (r : Rl) (q1 q2 q3 q4 q5 : Option Addr) (j1 j2 j3 j4 j5 l5 : Nat) (w : World) (q : Bool) (hq : decide (szs r) = q) :
    Calls Tryd.prog 37 #[.agg #[.string r.n, .slice q1 r.w.length j1, .slice q2 r.t.length j2, .slice q3 r.m.length j3, .slice q4 r.k.length j4, .string r.e.ty, .slice q5 l5 j5]] w fun e w' => e = .returned (.bool q) ∧ Below w.heap.size w w' := by
  have hz : (szs r) ↔ q = true := by rw [← hq]; simp
  unfold szs at hz
  obtain ⟨rn, ws, ns, ms, ks, ⟨ety, vs⟩⟩ := r
  simp only at hz ⊢
  generalize ws.length = l1 at *
  generalize ns.length = l2 at *
  generalize ms.length = l3 at *
  generalize ks.length = l4 at *
  clear hq
  rcases (by omega : l1 < 1 ∨ (1 ≤ l1 ∧ 3 < l1) ∨ (1 ≤ l1 ∧ l1 ≤ 3 ∧ 2 < l2) ∨ (1 ≤ l1 ∧ l1 ≤ 3 ∧ l2 ≤ 2 ∧ 2 < l3) ∨ (1 ≤ l1 ∧ l1 ≤ 3 ∧ l2 ≤ 2 ∧ l3 ≤ 2 ∧ 6 < l4) ∨ (1 ≤ l1 ∧ l1 ≤ 3 ∧ l2 ≤ 2 ∧ l3 ≤ 2 ∧ l4 ≤ 6)) with c | c | c | c | c | c
  · have HQ : Hid (q = false) := by
      show _ = _
      cases q with
      | false => rfl
      | true => have := hz.2 rfl; omega
    have g0 : decide ((1 : Int) ≤ (l1 : Int)) = false := by simp; omega
    clear c hz
    go_enter Tryd.func37, Tryd.ntmps37
    go_wp2_with fail
    go_ret
    exact ⟨by rw [HQ.out]; rfl, by go_grown⟩
  · have HQ : Hid (q = false) := by
      show _ = _
      cases q with
      | false => rfl
      | true => have := hz.2 rfl; omega
    have g0 : decide ((1 : Int) ≤ (l1 : Int)) = true := by simp; omega
    have g1 : decide ((l1 : Int) ≤ 3) = false := by simp; omega
    clear c hz
    go_enter Tryd.func37, Tryd.ntmps37
    go_wp2_with fail
    go_ret
    exact ⟨by rw [HQ.out]; rfl, by go_grown⟩
  · have HQ : Hid (q = false) := by
      show _ = _
      cases q with
      | false => rfl
      | true => have := hz.2 rfl; omega
    have g0 : decide ((1 : Int) ≤ (l1 : Int)) = true := by simp; omega
    have g1 : decide ((l1 : Int) ≤ 3) = true := by simp; omega
    have g2 : decide ((l2 : Int) ≤ 2) = false := by simp; omega
    clear c hz
    go_enter Tryd.func37, Tryd.ntmps37
    go_wp2_with fail
    go_ret
    exact ⟨by rw [HQ.out]; rfl, by go_grown⟩
  · have HQ : Hid (q = false) := by
      show _ = _
      cases q with
      | false => rfl
      | true => have := hz.2 rfl; omega
    have g0 : decide ((1 : Int) ≤ (l1 : Int)) = true := by simp; omega
    have g1 : decide ((l1 : Int) ≤ 3) = true := by simp; omega
    have g2 : decide ((l2 : Int) ≤ 2) = true := by simp; omega
    have g3 : decide ((l3 : Int) ≤ 2) = false := by simp; omega
    clear c hz
    go_enter Tryd.func37, Tryd.ntmps37
    go_wp2_with fail
    go_ret
    exact ⟨by rw [HQ.out]; rfl, by go_grown⟩
  · have HQ : Hid (q = false) := by
      show _ = _
      cases q with
      | false => rfl
      | true => have := hz.2 rfl; omega
    have g0 : decide ((1 : Int) ≤ (l1 : Int)) = true := by simp; omega
    have g1 : decide ((l1 : Int) ≤ 3) = true := by simp; omega
    have g2 : decide ((l2 : Int) ≤ 2) = true := by simp; omega
    have g3 : decide ((l3 : Int) ≤ 2) = true := by simp; omega
    have g4 : decide ((l4 : Int) ≤ 6) = false := by simp; omega
    clear c hz
    go_enter Tryd.func37, Tryd.ntmps37
    go_wp2_with fail
    go_ret
    exact ⟨by rw [HQ.out]; rfl, by go_grown⟩
  · have HQ : Hid (q = true) := by
      show _ = _
      exact hz.1 (by omega)
    have g0 : decide ((1 : Int) ≤ (l1 : Int)) = true := by simp; omega
    have g1 : decide ((l1 : Int) ≤ 3) = true := by simp; omega
    have g2 : decide ((l2 : Int) ≤ 2) = true := by simp; omega
    have g3 : decide ((l3 : Int) ≤ 2) = true := by simp; omega
    have g4 : decide ((l4 : Int) ≤ 6) = true := by simp; omega
    clear c hz
    go_enter Tryd.func37, Tryd.ntmps37
    go_wp2_with fail
    go_ret
    exact ⟨by rw [HQ.out]; rfl, by go_grown⟩
/-- A rule's box and its scope's, while its parts are checked. -/
structure Cs2 (w W : World) (us ss : List Value) (sb mb : Nat) : Prop where
  bel : Below w.heap.size w W
  b1 : W.heap[w.heap.size]? = some (.cells us.toArray 35 (0, 0))
  b2 : W.heap[sb]? = some (.cells ss.toArray 108 (0, 0))
  lo : w.heap.size < mb
  ne : sb ≠ mb
theorem Cs2.fr {w W W' : World} {us ss : List Value} {sb mb : Nat} (h : Cs2 w W us ss sb mb) (hf : Fr (fun i => i = mb) W W') : Cs2 w W' us ss sb mb :=
  ⟨below_fr h.bel hf (Nat.le_of_lt h.lo), (hf.block _ (blk_lt h.b1) (by have := h.lo; omega)).trans h.b1, (hf.block _ (blk_lt h.b2) h.ne).trans h.b2, h.lo, h.ne⟩
theorem Cs2.c1 {w W : World} {us ss : List Value} {sb mb : Nat} (h : Cs2 w W us ss sb mb) (j : Nat) : W.cell? ⟨w.heap.size, j, none⟩ = us[j]? := by rw [cell_of_blk h.b1]; simp
theorem Cs2.c2 {w W : World} {us ss : List Value} {sb mb : Nat} (h : Cs2 w W us ss sb mb) (j : Nat) : W.cell? ⟨sb, j, none⟩ = ss[j]? := by rw [cell_of_blk h.b2]; simp
theorem cs2_start {w w3 w4 : World} {us ss zs : List Value} (h : BlkT w w3 us 35) (hb : w4.heap[w3.heap.size + 1]? = some (.cells (ovr zs 0 ss).toArray 108 (0, 0))) (hz : ss.length = zs.length) (hf : Fr (fun i => i = w3.heap.size + 1) ((w3.alloc (.map #[] 0)).alloc (.cells zs.toArray 108)) w4) : Cs2 w w4 us ss (w3.heap.size + 1) w3.heap.size := by
  have hlt := blk_lt h.b1
  have hsz := h.bel.size
  have e2 : ((w3.alloc (.map #[] 0)).alloc (.cells zs.toArray 108)).heap.size = w3.heap.size + 2 := by simp
  have hb3 : Below w.heap.size w ((w3.alloc (.map #[] 0)).alloc (.cells zs.toArray 108)) := (h.bel.alloc hsz _).alloc (by simp; omega) _
  rw [ovr_all hz] at hb
  refine ⟨below_fr hb3 hf (by omega), (hf.block _ (by omega) (by omega)).trans ?_, hb, hlt, by omega⟩
  rw [Below.heap_alloc _ _ _ (by simp; omega), Below.heap_alloc _ _ _ hlt]
  exact h.b1
theorem scp_start {w w3 w4 : World} {us ss zs : List Value} {ts : List Tp} {tv : Value} {b : Nat} (hT : Rd w (.row 71 2 (ts.map encY)) tv) (htk : Tab w 0 kpl) (htr : Tab w 1 rll) (hc : Cs2 w w4 us ss (w3.heap.size + 1) w3.heap.size) (hfc : w3.cell? ⟨b, 0, none⟩ = some tv) (hf : Fr (fun i => i = w3.heap.size + 1) ((w3.alloc (.map #[] 0)).alloc (.cells zs.toArray 108)) w4) : Scp w4 ts tv b w3.heap.size [] 0 := by
  have hb1 : Below (w3.alloc (.map #[] 0)).heap.size (w3.alloc (.map #[] 0)) w4 := new_store (by simpa using hf)
  have hb2 : Below w3.heap.size w3 w4 := below_trans ((Below.refl _ _).alloc (Nat.le_refl _) _) hb1 (by simp)
  exact ⟨hT.later hc.bel, (hb2.cell (p := ⟨b, 0, none⟩) (World.block_lt_of_cell? _ _ hfc)).trans hfc, (km_made w3).later hb1, tab_later htk hc.bel, tab_later htr hc.bel⟩
/-- Sizes of what a rule names. -/
structure Szr (r : Rl) : Prop where
  w : ∀ t, t ∈ r.w → Wsz t.c
  t : ∀ t, t ∈ r.t → Wsz t.c
  m : ∀ x, x ∈ r.m → Wsz x.p.c
  k : ∀ x, x ∈ r.k → x.l.size ≤ maxLen ∧ x.r.size ≤ maxLen
  e : ∀ o, o ∈ r.e.v → o.va.size ≤ maxLen
theorem rck_parts (ts : List Tp) (r : Rl) (h1 : frn r.n = 0) (h2 : szs r) : rck ts r = if wfs 0 ts [] r.w ≠ 0 then wfs 0 ts [] r.w else if nfs 0 ts r.w (r.w.map Pt.va) r.t ≠ 0 then nfs 0 ts r.w (r.w.map Pt.va) r.t else if mfs 0 ts r.w (r.w.map Pt.va ++ r.t.map Pt.va) r.m ≠ 0 then mfs 0 ts r.w (r.w.map Pt.va ++ r.t.map Pt.va) r.m else if lfs 0 r.w r.t r.k ≠ 0 then lfs 0 r.w r.t r.k else eck ts r.w r.e.ty r.e.v := by
  unfold rck
  rw [if_neg (fun c => c h1), if_neg (fun c => c h2), wfs_cont, nfs_cont, mfs_cont, lfs_cont]
set_option maxHeartbeats 16000000 in
theorem checkRule_name (ts : List Tp) (hty : ∀ i (hi : i < ts.length), tyk ts[i].n ts[i].f = 0) (r : Rl) (hzr : Szr r) (tv u1 u2 u3 u4 u5 : Value) (w : World) (hT : Rd w (.row 71 2 (ts.map encY)) tv) (htk : Tab w 0 kpl) (htr : Tab w 1 rll) (h1 : Rd w (.row 46 18 (r.w.map encP)) u1) (h2 : Rd w (.row 46 18 (r.t.map encP)) u2) (h3 : Rd w (.row 78 20 (r.m.map encM)) u3) (h4 : Rd w (.row 54 3 (r.k.map encK)) u4) (h5 : Rd w (.row 42 6 (r.e.v.map encO)) u5) (hf : frn r.n ≠ 0) :
    Calls Tryd.prog 28 #[.agg #[.string r.n, u1, u2, u3, u4, .string r.e.ty, u5], tv] w fun e w' => e = .returned (.int .i64 (rck ts r)) ∧ Below w.heap.size w w' := by
  have HCN := hid (fun W (hW : Below w.heap.size w W) => checkName_any r.n W (tab_later htk hW) (tab_later htr hW))
  have hR : rck ts r = frn r.n := by unfold rck; rw [if_pos hf]
  rw [hR]
  clear hR
  obtain ⟨tp, tn, tc, rfl⟩ := rd_shape hT
  obtain ⟨q1, j1, e1, _, _⟩ := rd_row lenP h1
  obtain ⟨q2, j2, e2, _, _⟩ := rd_row lenP h2
  obtain ⟨q3, j3, e3, _, _⟩ := rd_row lenM h3
  obtain ⟨q4, j4, e4, _, _⟩ := rd_row lenK h4
  obtain ⟨q5, j5, e5, _, _⟩ := rd_row lenO h5
  subst e1 e2 e3 e4 e5
  obtain ⟨rn, ws, ns, ms, ks, ⟨ety, vs⟩⟩ := r
  simp only at HCN hf ⊢
  obtain ⟨E, hE⟩ : ∃ E, frn rn = E := ⟨_, rfl⟩
  rw [hE] at HCN hf ⊢
  generalize ws.length = l1
  generalize ns.length = l2
  generalize ms.length = l3
  generalize ks.length = l4
  generalize vs.length = l5
  have HT : Hid (BlkT w (w.alloc (.cells [.string rn, .slice q1 l1 j1, .slice q2 l2 j2, .slice q3 l3 j3, .slice q4 l4 j4, .string ety, .slice q5 l5 j5].toArray 35)) [.string rn, .slice q1 l1 j1, .slice q2 l2 j2, .slice q3 l3 j3, .slice q4 l4 j4, .string ety, .slice q5 l5 j5] 35) := BlkT.start w _ _
  have d9 : (E != 0) = true := by simpa using hf
  clear h1 h2 h3 h4 h5 hf hE hzr
  go_enter Tryd.func28, Tryd.ntmps28
  go_wp2_with fail
  refine (HCN.out _ HT.out.bel).mono ?_
  rintro e w1 ⟨rfl, rfl⟩
  go_wp2_with fail
  go_ret
  exact ⟨ret_int rfl, HT.out.bel⟩
set_option maxHeartbeats 16000000 in
theorem checkRule_size (ts : List Tp) (hty : ∀ i (hi : i < ts.length), tyk ts[i].n ts[i].f = 0) (r : Rl) (hzr : Szr r) (tv u1 u2 u3 u4 u5 : Value) (w : World) (hT : Rd w (.row 71 2 (ts.map encY)) tv) (htk : Tab w 0 kpl) (htr : Tab w 1 rll) (h1 : Rd w (.row 46 18 (r.w.map encP)) u1) (h2 : Rd w (.row 46 18 (r.t.map encP)) u2) (h3 : Rd w (.row 78 20 (r.m.map encM)) u3) (h4 : Rd w (.row 54 3 (r.k.map encK)) u4) (h5 : Rd w (.row 42 6 (r.e.v.map encO)) u5) (hf : frn r.n = 0) (hsz : ¬ szs r) :
    Calls Tryd.prog 28 #[.agg #[.string r.n, u1, u2, u3, u4, .string r.e.ty, u5], tv] w fun e w' => e = .returned (.int .i64 (rck ts r)) ∧ Below w.heap.size w w' := by
  have HCN := hid (fun W (hW : Below w.heap.size w W) => checkName_any r.n W (tab_later htk hW) (tab_later htr hW))
  rw [hf] at HCN
  have hR : rck ts r = 1 := by unfold rck; rw [if_neg (fun c => c hf), if_pos hsz]
  rw [hR]
  clear hR
  obtain ⟨tp, tn, tc, rfl⟩ := rd_shape hT
  obtain ⟨q1, j1, e1, _, _⟩ := rd_row lenP h1
  obtain ⟨q2, j2, e2, _, _⟩ := rd_row lenP h2
  obtain ⟨q3, j3, e3, _, _⟩ := rd_row lenM h3
  obtain ⟨q4, j4, e4, _, _⟩ := rd_row lenK h4
  obtain ⟨q5, j5, e5, _, _⟩ := rd_row lenO h5
  have HIS := hid (fun W => isSized_any r q1 q2 q3 q4 q5 j1 j2 j3 j4 j5 r.e.v.length W false (by simpa using hsz))
  subst e1 e2 e3 e4 e5
  obtain ⟨rn, ws, ns, ms, ks, ⟨ety, vs⟩⟩ := r
  simp only at HCN HIS ⊢
  generalize ws.length = l1 at *
  generalize ns.length = l2 at *
  generalize ms.length = l3 at *
  generalize ks.length = l4 at *
  generalize vs.length = l5 at *
  have HT : Hid (BlkT w (w.alloc (.cells [.string rn, .slice q1 l1 j1, .slice q2 l2 j2, .slice q3 l3 j3, .slice q4 l4 j4, .string ety, .slice q5 l5 j5].toArray 35)) [.string rn, .slice q1 l1 j1, .slice q2 l2 j2, .slice q3 l3 j3, .slice q4 l4 j4, .string ety, .slice q5 l5 j5] 35) := BlkT.start w _ _
  have XR : Hid ((w.alloc (.cells [.string rn, .slice q1 l1 j1, .slice q2 l2 j2, .slice q3 l3 j3, .slice q4 l4 j4, .string ety, .slice q5 l5 j5].toArray 35)).rangeAt w.heap.size 0 [.string rn, .slice q1 l1 j1, .slice q2 l2 j2, .slice q3 l3 j3, .slice q4 l4 j4, .string ety, .slice q5 l5 j5]) := range_blk HT.out.b1
  clear h1 h2 h3 h4 h5 hf hsz hzr
  go_enter Tryd.func28, Tryd.ntmps28
  go_wp2_with fail
  refine (HCN.out _ HT.out.bel).mono ?_
  rintro e w1 ⟨rfl, hw1⟩
  have HT1 : Hid (BlkT w w1 [.string rn, .slice q1 l1 j1, .slice q2 l2 j2, .slice q3 l3 j3, .slice q4 l4 j4, .string ety, .slice q5 l5 j5] 35) := by rw [hw1]; exact HT.out
  clear hw1 XR
  have XR : Hid (w1.rangeAt w.heap.size 0 [.string rn, .slice q1 l1 j1, .slice q2 l2 j2, .slice q3 l3 j3, .slice q4 l4 j4, .string ety, .slice q5 l5 j5]) := range_blk HT1.out.b1
  go_wp2_with ((with_reducible show wpList _ _ _ (Oper.mk _ (.load _ _) _ _ _ _ :: _) _ _); refine wpList_load_mid (by rfl) 35 _ (by rfl) w.heap.size 0 (by rfl) [.string rn, .slice q1 l1 j1, .slice q2 l2 j2, .slice q3 l3 j3, .slice q4 l4 j4, .string ety, .slice q5 l5 j5] _ XR.out Tryd.underlying35 rfl (by kernel_rfl) ?_)
  refine (HIS.out _).mono ?_
  rintro e w2 ⟨rfl, hb2⟩
  have HT2 : Hid (BlkT w w2 [.string rn, .slice q1 l1 j1, .slice q2 l2 j2, .slice q3 l3 j3, .slice q4 l4 j4, .string ety, .slice q5 l5 j5] 35) := HT1.out.next hb2
  clear hb2 XR
  go_wp2_with fail
  go_ret
  exact ⟨rfl, HT2.out.bel⟩
set_option maxHeartbeats 64000000 in
theorem checkRule_main (ts : List Tp) (hty : ∀ i (hi : i < ts.length), tyk ts[i].n ts[i].f = 0) (r : Rl) (hzr : Szr r) (tv u1 u2 u3 u4 u5 : Value) (w : World) (hT : Rd w (.row 71 2 (ts.map encY)) tv) (htk : Tab w 0 kpl) (htr : Tab w 1 rll) (h1 : Rd w (.row 46 18 (r.w.map encP)) u1) (h2 : Rd w (.row 46 18 (r.t.map encP)) u2) (h3 : Rd w (.row 78 20 (r.m.map encM)) u3) (h4 : Rd w (.row 54 3 (r.k.map encK)) u4) (h5 : Rd w (.row 42 6 (r.e.v.map encO)) u5) (hf : frn r.n = 0) (hsz : szs r) :
    Calls Tryd.prog 28 #[.agg #[.string r.n, u1, u2, u3, u4, .string r.e.ty, u5], tv] w fun e w' => e = .returned (.int .i64 (rck ts r)) ∧ Below w.heap.size w w' := by
  have HCN := hid (fun W (hW : Below w.heap.size w W) => checkName_any r.n W (tab_later htk hW) (tab_later htr hW))
  rw [hf] at HCN
  have hR := rck_parts ts r hf hsz
  obtain ⟨tp, tn, tc, rfl⟩ := rd_shape hT
  obtain ⟨q1, j1, e1, _, _⟩ := rd_row lenP h1
  obtain ⟨q2, j2, e2, _, _⟩ := rd_row lenP h2
  obtain ⟨q3, j3, e3, _, _⟩ := rd_row lenM h3
  obtain ⟨q4, j4, e4, _, _⟩ := rd_row lenK h4
  obtain ⟨q5, j5, e5, _, _⟩ := rd_row lenO h5
  have HIS := hid (fun W => isSized_any r q1 q2 q3 q4 q5 j1 j2 j3 j4 j5 r.e.v.length W true (by simpa using hsz))
  subst e1 e2 e3 e4 e5
  have HSZ := hid hsz
  have HZR := hid hzr
  have HTK := hid htk
  have HTR := hid htr
  have HTY := hid hty
  have HTT := hid hT
  clear hf hsz hzr htk htr hty hT
  obtain ⟨rn, ws, ns, ms, ks, ⟨ety, vs⟩⟩ := r
  obtain ⟨R, hRR⟩ : ∃ R, rck ts ⟨rn, ws, ns, ms, ks, ⟨ety, vs⟩⟩ = R := ⟨_, rfl⟩
  rw [hRR] at hR ⊢
  simp only at HCN HIS hR h1 h2 h3 h4 h5 ⊢
  have HFW := hid (fun W b mb n0 lv hs hR hn => firstWhen_any ts ws b mb n0 HTY.out (.slice tp tn tc) lv W hs hR HZR.out.w hn)
  have HFN := hid (fun W b mb n0 lv hkn hs hR hn => firstNot_any ts ws ns b mb n0 hkn HTY.out (.slice tp tn tc) lv W hs hR HZR.out.t hn)
  have HFM := hid (fun W b mb n0 lv hkn hs hR hn => firstMany_any ts ws ns ms b mb n0 hkn HTY.out (.slice tp tn tc) lv W hs hR HZR.out.m hn)
  have HFL := hid (fun W b mb n0 lv hs hR hn => firstLink_any ts ws ns ks b mb (kw ts ws ++ (kn ts ns ++ km ts ms)) n0 (Knl_of ts ws ns ms) (.slice tp tn tc) lv W hs hR HZR.out.k hn)
  have hKW : Knw ts ws (kw ts ws ++ (kn ts ns ++ km ts ms)) := Knw_of (ts := ts) (ws := ws) (B := kn ts ns ++ km ts ms) (fun e he => by
    rcases List.mem_append.1 he with h | h
    · obtain ⟨x, _, rfl⟩ := List.mem_map.1 h; show (2 : Int) ≠ 1; decide
    · obtain ⟨x, _, rfl⟩ := List.mem_map.1 h; show (3 : Int) ≠ 1; decide)
  have HFE := hid (fun W b mb n0 u5 hkn hs hV => emit_any ts ws b mb (kw ts ws ++ (kn ts ns ++ km ts ms)) n0 hkn hKW HTY.out ety vs HZR.out.e (.slice tp tn tc) u5 W hs hV)
  obtain ⟨E1, hE1⟩ : ∃ E, wfs 0 ts [] ws = E := ⟨_, rfl⟩
  obtain ⟨E2, hE2⟩ : ∃ E, nfs 0 ts ws (ws.map Pt.va) ns = E := ⟨_, rfl⟩
  obtain ⟨E3, hE3⟩ : ∃ E, mfs 0 ts ws (ws.map Pt.va ++ ns.map Pt.va) ms = E := ⟨_, rfl⟩
  obtain ⟨E4, hE4⟩ : ∃ E, lfs 0 ws ns ks = E := ⟨_, rfl⟩
  obtain ⟨E5, hE5⟩ : ∃ E, eck ts ws ety vs = E := ⟨_, rfl⟩
  rw [hE1, hE2, hE3, hE4, hE5] at hR
  rw [hE1] at HFW
  rw [hE2] at HFN
  rw [hE3] at HFM
  rw [hE4] at HFL
  rw [hE5] at HFE
  rw [List.take_length] at HFW HFN HFM
  have HFD := hid (fun W => finder_any tp tn tc W)
  have hmm := @run_makeMap Tryd.prog
  obtain ⟨l1, hl1⟩ : ∃ l, ws.length = l := ⟨_, rfl⟩
  obtain ⟨l2, hl2⟩ : ∃ l, ns.length = l := ⟨_, rfl⟩
  obtain ⟨l3, hl3⟩ : ∃ l, ms.length = l := ⟨_, rfl⟩
  obtain ⟨l4, hl4⟩ : ∃ l, ks.length = l := ⟨_, rfl⟩
  obtain ⟨l5, hl5⟩ : ∃ l, vs.length = l := ⟨_, rfl⟩
  have HSL : Hid (l1 ≤ 3 ∧ l2 ≤ 2 ∧ l3 ≤ 2 ∧ l4 ≤ 6) := by
    have h := HSZ.out
    unfold szs at h
    simp only at h
    show _ ∧ _
    omega
  rw [hl1, hl2, hl3, hl4, hl5] at HIS
  rw [hl1] at h1 HFW
  rw [hl2] at h2 HFN
  rw [hl3] at h3 HFM
  rw [hl4] at h4 HFL
  rw [hl5] at h5
  rw [hl1, hl2, hl3, hl4, hl5]
  have HT : Hid (BlkT w (w.alloc (.cells [.string rn, .slice q1 l1 j1, .slice q2 l2 j2, .slice q3 l3 j3, .slice q4 l4 j4, .string ety, .slice q5 l5 j5].toArray 35)) [.string rn, .slice q1 l1 j1, .slice q2 l2 j2, .slice q3 l3 j3, .slice q4 l4 j4, .string ety, .slice q5 l5 j5] 35) := BlkT.start w _ _
  have H1 := hid h1
  have H2 := hid h2
  have H3 := hid h3
  have H4 := hid h4
  have H5 := hid h5
  have HR := hid hR
  clear hl1 hl2 hl3 hl4 hl5 hE1 hE2 hE3 hE4 hE5 hRR hR h1 h2 h3 h4 h5 hKW HSZ HZR HTY
  go_enter Tryd.func28, Tryd.ntmps28
  go_wp2_with fail
  refine (HCN.out _ HT.out.bel).mono ?_
  rintro e w1 ⟨rfl, hw1⟩
  have HT1 : Hid (BlkT w w1 [.string rn, .slice q1 l1 j1, .slice q2 l2 j2, .slice q3 l3 j3, .slice q4 l4 j4, .string ety, .slice q5 l5 j5] 35) := by rw [hw1]; exact HT.out
  clear hw1
  have XR : Hid (w1.rangeAt w.heap.size 0 [.string rn, .slice q1 l1 j1, .slice q2 l2 j2, .slice q3 l3 j3, .slice q4 l4 j4, .string ety, .slice q5 l5 j5]) := range_blk HT1.out.b1
  go_wp2_with ((with_reducible show wpList _ _ _ (Oper.mk _ (.load _ _) _ _ _ _ :: _) _ _); refine wpList_load_mid (by rfl) 35 _ (by rfl) w.heap.size 0 (by rfl) [.string rn, .slice q1 l1 j1, .slice q2 l2 j2, .slice q3 l3 j3, .slice q4 l4 j4, .string ety, .slice q5 l5 j5] _ XR.out Tryd.underlying35 rfl (by kernel_rfl) ?_)
  refine (HIS.out _).mono ?_
  rintro e w2 ⟨rfl, hb2⟩
  have HT2 : Hid (BlkT w w2 [.string rn, .slice q1 l1 j1, .slice q2 l2 j2, .slice q3 l3 j3, .slice q4 l4 j4, .string ety, .slice q5 l5 j5] 35) := HT1.out.next hb2
  clear hb2 XR
  go_wp2_with fail
  refine (HFD.out _).mono ?_
  rintro e w3 ⟨rfl, hw3⟩
  have HT3 : Hid (BlkT w w3 [.string rn, .slice q1 l1 j1, .slice q2 l2 j2, .slice q3 l3 j3, .slice q4 l4 j4, .string ety, .slice q5 l5 j5] 35) := by rw [hw3]; exact HT2.out.next ((Below.refl _ _).alloc (Nat.le_refl _) _)
  have HFC : Hid (w3.cell? ⟨w2.heap.size, 0, none⟩ = some (.slice tp tn tc)) := by rw [hw3]; exact cell_of_blk (heap_alloc_new _ _) 0
  clear hw3
  have r1 : w3.cell? ⟨w.heap.size, 1, none⟩ = some (.slice q1 l1 j1) := HT3.out.c 1
  have HLT := hid (blk_lt HT3.out.b1)
  go_wp2_with ((with_reducible show wpList _ _ _ (Oper.mk _ (.store _ _ _) _ _ _ _ :: _) _ _); refine wp_st (by rfl) 108 _ _ (by rfl) (w3.heap.size + 1) 0 _ 108 (.agg [.slice tp tn tc, .func (.func 46) #[] #[.pointer (some ⟨w2.heap.size, 0, none⟩)], .map (some w3.heap.size)].toArray) [.slice tp tn tc, .func (.func 46) #[] #[.pointer (some ⟨w2.heap.size, 0, none⟩)], .map (some w3.heap.size)] (by rfl) (by rfl) (by rfl) (heap_2 _ _ _) (by simp) (by kernel_rfl) (by rfl) ?_; intro w4 hblk hfr; have HF4 := hid hfr; have HC4 : Hid (Cs2 w w4 [.string rn, .slice q1 l1 j1, .slice q2 l2 j2, .slice q3 l3 j3, .slice q4 l4 j4, .string ety, .slice q5 l5 j5] [.slice tp tn tc, .func (.func 46) #[] #[.pointer (some ⟨w2.heap.size, 0, none⟩)], .map (some w3.heap.size)] (w3.heap.size + 1) w3.heap.size) := cs2_start HT3.out hblk (by rfl) hfr; have r4 : w4.cell? ⟨w.heap.size, 1, none⟩ = some (.slice q1 l1 j1) := HC4.out.c1 1; have s0 : w4.cell? ⟨w3.heap.size + 1, 0, none⟩ = some (.slice tp tn tc) := HC4.out.c2 0; have s1 : w4.cell? ⟨w3.heap.size + 1, 1, none⟩ = some (.func (.func 46) #[] #[.pointer (some ⟨w2.heap.size, 0, none⟩)]) := HC4.out.c2 1; have s2 : w4.cell? ⟨w3.heap.size + 1, 2, none⟩ = some (.map (some w3.heap.size)) := HC4.out.c2 2; clear hblk hfr)
  have HS4 : Hid (Scp w4 ts (.slice tp tn tc) w2.heap.size w3.heap.size [] 0) := scp_start HTT.out HTK.out HTR.out HC4.out HFC.out HF4.out
  clear HF4 r1 r4 s0 s1 s2
  refine (HFW.out w4 _ _ 0 _ HS4.out (H1.out.later HC4.out.bel) (by have := HSL.out; omega)).mono ?_
  rintro e w5 ⟨rfl, hf9, hk9⟩
  have HC5 := hid (HC4.out.fr hf9)
  clear hf9
  by_cases hz : E1 = 0
  · have HS5 := hid (hk9 hz).1
    have HKN := hid (hk9 hz).2
    have HR2 := HR.out
    rw [if_neg (fun c => c hz)] at HR2
    clear HR
    have HR := hid HR2
    clear HR2 hk9
    subst hz
    have r4 : w5.cell? ⟨w.heap.size, 2, none⟩ = some (.slice q2 l2 j2) := HC5.out.c1 2
    have s0 : w5.cell? ⟨w3.heap.size + 1, 0, none⟩ = some (.slice tp tn tc) := HC5.out.c2 0
    have s1 : w5.cell? ⟨w3.heap.size + 1, 1, none⟩ = some (.func (.func 46) #[] #[.pointer (some ⟨w2.heap.size, 0, none⟩)]) := HC5.out.c2 1
    have s2 : w5.cell? ⟨w3.heap.size + 1, 2, none⟩ = some (.map (some w3.heap.size)) := HC5.out.c2 2
    go_wp2_with fail
    clear r4 s0 s1 s2
    refine (HFN.out w5 _ _ (0 + l1) _ HKN.out HS5.out (H2.out.later HC5.out.bel) (by have := HSL.out; omega)).mono ?_
    rintro e w6 ⟨rfl, hf9, hk9⟩
    have HC6 := hid (HC5.out.fr hf9)
    clear hf9
    by_cases hz : E2 = 0
    · have HS6 := hid (hk9 hz)
      have HR2 := HR.out
      rw [if_neg (fun c => c hz)] at HR2
      clear HR
      have HR := hid HR2
      clear HR2 hk9
      subst hz
      have r4 : w6.cell? ⟨w.heap.size, 3, none⟩ = some (.slice q3 l3 j3) := HC6.out.c1 3
      have s0 : w6.cell? ⟨w3.heap.size + 1, 0, none⟩ = some (.slice tp tn tc) := HC6.out.c2 0
      have s1 : w6.cell? ⟨w3.heap.size + 1, 1, none⟩ = some (.func (.func 46) #[] #[.pointer (some ⟨w2.heap.size, 0, none⟩)]) := HC6.out.c2 1
      have s2 : w6.cell? ⟨w3.heap.size + 1, 2, none⟩ = some (.map (some w3.heap.size)) := HC6.out.c2 2
      go_wp2_with fail
      clear r4 s0 s1 s2
      refine (HFM.out w6 _ _ (0 + l1 + l2) _ HKN.out HS6.out (H3.out.later HC6.out.bel) (by have := HSL.out; omega)).mono ?_
      rintro e w7 ⟨rfl, hf9, hk9⟩
      have HC7 := hid (HC6.out.fr hf9)
      clear hf9
      by_cases hz : E3 = 0
      · have HS7 := hid (hk9 hz)
        have HR2 := HR.out
        rw [if_neg (fun c => c hz)] at HR2
        clear HR
        have HR := hid HR2
        clear HR2 hk9
        subst hz
        have r4 : w7.cell? ⟨w.heap.size, 4, none⟩ = some (.slice q4 l4 j4) := HC7.out.c1 4
        have s0 : w7.cell? ⟨w3.heap.size + 1, 0, none⟩ = some (.slice tp tn tc) := HC7.out.c2 0
        have s1 : w7.cell? ⟨w3.heap.size + 1, 1, none⟩ = some (.func (.func 46) #[] #[.pointer (some ⟨w2.heap.size, 0, none⟩)]) := HC7.out.c2 1
        have s2 : w7.cell? ⟨w3.heap.size + 1, 2, none⟩ = some (.map (some w3.heap.size)) := HC7.out.c2 2
        go_wp2_with fail
        clear r4 s0 s1 s2
        refine (HFL.out w7 _ _ (0 + l1 + l2 + l3) _ HS7.out (H4.out.later HC7.out.bel) (by have := HSL.out; omega)).mono ?_
        rintro e w8 ⟨rfl, hf9, hk9⟩
        have HC8 := hid (HC7.out.fr hf9)
        clear hf9
        by_cases hz : E4 = 0
        · have HS8 := hid (hk9 hz)
          have HR2 := HR.out
          rw [if_neg (fun c => c hz)] at HR2
          clear HR
          have HR := hid HR2
          clear HR2 hk9
          subst hz
          have r4 : w8.cell? ⟨w.heap.size, 5, none⟩ = some (.string ety) := HC8.out.c1 5
          have r5 : w8.cell? ⟨w.heap.size, 6, none⟩ = some (.slice q5 l5 j5) := HC8.out.c1 6
          have s0 : w8.cell? ⟨w3.heap.size + 1, 0, none⟩ = some (.slice tp tn tc) := HC8.out.c2 0
          have s1 : w8.cell? ⟨w3.heap.size + 1, 1, none⟩ = some (.func (.func 46) #[] #[.pointer (some ⟨w2.heap.size, 0, none⟩)]) := HC8.out.c2 1
          have s2 : w8.cell? ⟨w3.heap.size + 1, 2, none⟩ = some (.map (some w3.heap.size)) := HC8.out.c2 2
          go_wp2_with fail
          clear r4 s0 s1 s2 r5
          refine (HFE.out w8 _ _ (0 + l1 + l2 + l3) _ HKN.out HS8.out (H5.out.later HC8.out.bel)).mono ?_
          rintro e w9 ⟨rfl, hb9⟩
          have HB9 := hid (below_trans HC8.out.bel hb9 HC8.out.bel.size)
          clear hb9
          go_wp2_with fail
          go_ret
          exact ⟨ret_int HR.out.symm, HB9.out⟩
        · have d9 : (E4 != 0) = true := by simpa using hz
          have HR2 : Hid (R = E4) := by have h := HR.out; rw [if_pos hz] at h; exact h
          clear hk9 hz HR
          go_wp2_with fail
          go_ret
          exact ⟨ret_int HR2.out.symm, HC8.out.bel⟩
      · have d9 : (E3 != 0) = true := by simpa using hz
        have HR2 : Hid (R = E3) := by have h := HR.out; rw [if_pos hz] at h; exact h
        clear hk9 hz HR
        go_wp2_with fail
        go_ret
        exact ⟨ret_int HR2.out.symm, HC7.out.bel⟩
    · have d9 : (E2 != 0) = true := by simpa using hz
      have HR2 : Hid (R = E2) := by have h := HR.out; rw [if_pos hz] at h; exact h
      clear hk9 hz HR
      go_wp2_with fail
      go_ret
      exact ⟨ret_int HR2.out.symm, HC6.out.bel⟩
  · have d9 : (E1 != 0) = true := by simpa using hz
    have HR2 : Hid (R = E1) := by have h := HR.out; rw [if_pos hz] at h; exact h
    clear hk9 hz HR
    go_wp2_with fail
    go_ret
    exact ⟨ret_int HR2.out.symm, HC5.out.bel⟩
theorem checkRule_any (ts : List Tp) (hty : ∀ i (hi : i < ts.length), tyk ts[i].n ts[i].f = 0) (r : Rl) (hzr : Szr r) (tv u1 u2 u3 u4 u5 : Value) (w : World) (hT : Rd w (.row 71 2 (ts.map encY)) tv) (htk : Tab w 0 kpl) (htr : Tab w 1 rll) (h1 : Rd w (.row 46 18 (r.w.map encP)) u1) (h2 : Rd w (.row 46 18 (r.t.map encP)) u2) (h3 : Rd w (.row 78 20 (r.m.map encM)) u3) (h4 : Rd w (.row 54 3 (r.k.map encK)) u4) (h5 : Rd w (.row 42 6 (r.e.v.map encO)) u5) :
    Calls Tryd.prog 28 #[.agg #[.string r.n, u1, u2, u3, u4, .string r.e.ty, u5], tv] w fun e w' => e = .returned (.int .i64 (rck ts r)) ∧ Below w.heap.size w w' := by
  by_cases hf : frn r.n = 0
  · by_cases hsz : szs r
    · exact checkRule_main ts hty r hzr tv u1 u2 u3 u4 u5 w hT htk htr h1 h2 h3 h4 h5 hf hsz
    · exact checkRule_size ts hty r hzr tv u1 u2 u3 u4 u5 w hT htk htr h1 h2 h3 h4 h5 hf hsz
  · exact checkRule_name ts hty r hzr tv u1 u2 u3 u4 u5 w hT htk htr h1 h2 h3 h4 h5 hf
end Go.Proofs.YtdihklfaiiclgaaDoor.Chk
