/-
  A pattern, by the reference.
-/
import Derived.Test.YthndlfdbmljkhaaGreatDoorCp
namespace Go.Proofs.YthndlfdbmljkhaaGreatDoor.Chk
open Go.ChangeShapes Go.WideShapes Go.ChangeAt Go.RowKit Go.Maps
set_option linter.unusedVariables false
set_option linter.unusedSimpArgs false
set_option maxRecDepth 20000
def encS (s : ByteArray) : List Dat := [.lit (.string s)]
theorem lenS (s : ByteArray) : (encS s).length = 1 := rfl
theorem rdS {w : World} {s : ByteArray} {vs : List Value} (h : RdL w (encS s) vs) : vs = [.string s] := by
  obtain ⟨v0, r0, rfl, h0, h⟩ := RdL.one h
  rw [rd_lit h0, RdL.none h]
def wbad (part w n : Int) : Prop := (part = 0 ∧ ¬ (0 ≤ w ∧ w ≤ 2)) ∨ (part = 1 ∧ w ≠ 0) ∨ (part = 2 ∧ w ≠ 1) ∨ (w = 0 ∧ n ≠ 0)
def rbad (w n : Int) : Prop := (w = 1 ∧ ¬ (0 ≤ n ∧ n ≤ 1073741824)) ∨ (w = 2 ∧ ¬ (1 ≤ n ∧ n ≤ 120))
instance (part w n : Int) : Decidable (wbad part w n) := by unfold wbad; infer_instance
instance (w n : Int) : Decidable (rbad w n) := by unfold rbad; infer_instance
def pck (ts : List Tp) (kn : List Pt) (ah : List ByteArray) (p : Pt) (part : Int) : Int :=
  if frn p.va ≠ 0 then frn p.va
  else if ah.any (fun a => seq a p.va) = true then 7
  else if tyq ts p.ty < 0 then 6
  else if wbad part p.w p.n then 4
  else if rbad p.w p.n then 2
  else if noc p.c = true then 0
  else (cdk ts kn (ts.getD (tyq ts p.ty).toNat ⟨txt [], []⟩) 8 p.c).2
structure Blk1 (w0 w : World) (us : List Value) (t : TypeId) : Prop where
  bel : Below w0.heap.size w0 w
  b1 : w.heap[w0.heap.size]? = some (.cells us.toArray t (0, 0))
theorem Blk1.start (w : World) (us : List Value) (t : TypeId) : Blk1 w (w.alloc (.cells us.toArray t)) us t := ⟨(Below.refl _ _).alloc (Nat.le_refl _) _, heap_alloc_new _ _⟩
section
variable {w0 w w' : World} {us : List Value} {t : TypeId}
theorem Blk1.next (h : Blk1 w0 w us t) (hb : Below w.heap.size w w') : Blk1 w0 w' us t := ⟨below_trans h.bel hb h.bel.size, (hb.block _ (blk_lt h.b1)).trans h.b1⟩
theorem Blk1.drew (h : Blk1 w0 w us t) : Blk1 w0 w.drew us t := ⟨h.bel.drew, h.b1⟩
theorem Blk1.drewN (h : Blk1 w0 w us t) (n : Nat) : Blk1 w0 (w.drewN n) us t := h.next (below_drawn (Below.refl _ _) n)
theorem Blk1.c (h : Blk1 w0 w us t) (j : Nat) : w.cell? ⟨w0.heap.size, j, none⟩ = us[j]? := by rw [cell_of_blk h.b1]; simp
end
theorem range_part {w : World} {g n : Nat} {l r q : List Value} {t : TypeId} (h : w.heap[g]? = some (.cells (l ++ (r ++ q)).toArray t (0, 0))) (hl : l.length = n) : w.rangeAt g n r := fun j x hx => by
  rw [cell_of_blk h]
  have hj : j < r.length := (List.getElem?_eq_some_iff.1 hx).1
  simp only [List.getElem?_toArray]
  rw [List.getElem?_append_right (by omega), show n + j - l.length = j by omega, List.getElem?_append_left hj]
  exact hx
set_option maxHeartbeats 32000000 in
theorem patternFault_any (ts : List Tp) (kn : List Pt) (ah : List ByteArray) (pt : Pt) (part : Int) (hpart : part = 0 ∨ part = 1 ∨ part = 2) (tv kv av v : Value) (w : World) (hkn : Known ts kn) (hwf : Wfc pt.c) (hT : Rd w (.row 72 2 (ts.map encY)) tv) (hK : Rd w (.row 65 18 (kn.map encP)) kv) (hA : Rd w (.row 9 1 (ah.map encS)) av) (hS : Rd w (.row 63 14 pt.c.sb) v) :
   Calls Tryz.prog 73 #[tv, kv, av, ptV pt.va pt.ty pt.c.k v pt.c.l pt.c.r pt.w pt.n, .int .i64 part] w fun e w' => e = .returned (.int .i64 (pck ts kn ah pt part)) ∧ Below w.heap.size w w' := by
 have hTy : ∀ i (hi : i < ts.length), Calls Tryz.prog 35 #[tv, .string pt.ty] w (fun _ _ => True) → True := fun _ _ _ => trivial
 clear hTy
 have hcond : ∀ (t : Tp) (fv : Value) W, Below w.heap.size w W → Rd W (.row 93 2 (t.f.map encF)) fv → Calls Tryz.prog 122 #[tv, kv, .agg #[.string t.n, fv], cnV pt.c.k v pt.c.l pt.c.r, .int .i64 1] W (CR W (cdk ts kn t 8 pt.c)) := fun t fv W hW hf => conditionFault_any ts kn t hkn 8 pt.c tv kv fv v W 1 (by decide) (by decide) hwf (hT.later hW) (hK.later hW) hf (hS.later hW)
 obtain ⟨kp, kc, e2, _, _⟩ := rd_row lenP hK
 obtain ⟨ap, ac, e3, hma, hata⟩ := rd_row lenS hA
 obtain ⟨tp, tc, e1, hmt, hatt⟩ := rd_row lenY hT
 have hv : ∃ p0 cap0, v = .slice p0 pt.c.sb.length cap0 := by
   obtain ⟨_, cs, hcs, _⟩ := hwf
   have h9 := hS
   rw [hcs] at h9
   obtain ⟨p0, cap0, e, _⟩ := rd_row lenC h9
   exact ⟨p0, cap0, by rw [e, hcs, List.length_map]⟩
 obtain ⟨p0, cap0, e4⟩ := hv
 subst e1 e2 e3 e4
 obtain ⟨va, ty, ⟨ck, csb, ⟨lk, lvk, lvi, lvt, lva, lfd⟩, ⟨rk, rvk, rvi, rvt, rva, rfd⟩⟩, tw, tn⟩ := pt
 simp only at hcond ⊢
 have hNC := fun W => noCondition_any ⟨ck, csb, ⟨lk, lvk, lvi, lvt, lva, lfd⟩, ⟨rk, rvk, rvi, rvt, rva, rfd⟩⟩ p0 cap0 W
 simp only at hNC
 obtain ⟨n0, hn0⟩ : ∃ n0, csb.length = n0 := ⟨_, rfl⟩
 rw [hn0] at hcond hNC ⊢
 have HNC : Hid (∀ W, Calls Tryz.prog 121 #[(cnV ck (.slice p0 n0 cap0) ⟨lk, lvk, lvi, lvt, lva, lfd⟩ ⟨rk, rvk, rvi, rvt, rva, rfd⟩)] W fun e w' => e = .returned (.bool (noc ⟨ck, csb, ⟨lk, lvk, lvi, lvt, lva, lfd⟩, ⟨rk, rvk, rvi, rvt, rva, rfd⟩⟩)) ∧ Below W.heap.size W w') := hNC
 unfold pck
 simp only
 have HFN : Hid (∀ W, Calls Tryz.prog 72 #[.string va] W fun e w' => e = .returned (.int .i64 (frn va)) ∧ Below W.heap.size W w') := fun W => freeName_any va W
 obtain ⟨rn, hrn⟩ : ∃ rn, frn va = rn := ⟨_, rfl⟩
 rw [hrn] at HFN ⊢
 have HB0 : Hid (Blk1 w (w.alloc (.cells (ptC va ty ck (.slice p0 n0 cap0) ⟨lk, lvk, lvi, lvt, lva, lfd⟩ ⟨rk, rvk, rvi, rvt, rva, rfd⟩ tw tn).toArray 65)) (ptC va ty ck (.slice p0 n0 cap0) ⟨lk, lvk, lvi, lvt, lva, lfd⟩ ⟨rk, rvk, rvi, rvt, rva, rfd⟩ tw tn) 65) := Blk1.start w _ _
 obtain ⟨nt, hnt⟩ : ∃ nt, ts.length = nt := ⟨_, rfl⟩
 obtain ⟨nk, hnk⟩ : ∃ nk, kn.length = nk := ⟨_, rfl⟩
 obtain ⟨na, hna⟩ : ∃ na, ah.length = na := ⟨_, rfl⟩
 have HTQ : Hid (∀ W, Below w.heap.size w W → Calls Tryz.prog 35 #[.slice tp nt tc, .string ty] W fun e w' => e = .returned (.int .i64 (tyq ts ty)) ∧ Below W.heap.size W w') := fun W hW => by
   have h9 := typeNamed_any ts (.slice tp ts.length tc) ty W (hT.later hW)
   rw [hnt] at h9
   exact h9
 have HATT : Hid (At encY 2 w tp ts) := hatt
 have HATA : Hid (At encS 1 w ap ah) := hata
 have HCO := hid hcond
 rw [hnt, hnk] at HCO
 rw [hnt] at hmt
 rw [hna] at hma
 rw [hnt, hnk, hna]
 have HNT : Hid (ts.length = nt) := hnt
 have HNA : Hid (ah.length = na) := hna
 clear hT hK hA hS hkn hwf hcond hNC hn0 hrn hnt hnk hna hatt hata
 have FARM : True := trivial
 clear FARM
 by_cases hr0 : rn = 0
 . rw [if_neg (fun c => c hr0)]
   subst hr0
   obtain ⟨R, hR⟩ : ∃ R, (if ah.any (fun a => seq a va) = true then (7 : Int) else if tyq ts ty < 0 then 6 else if wbad part tw tn then 4 else if rbad tw tn then 2 else if noc ⟨ck, csb, ⟨lk, lvk, lvi, lvt, lva, lfd⟩, ⟨rk, rvk, rvi, rvt, rva, rfd⟩⟩ = true then 0 else (cdk ts kn (ts.getD (tyq ts ty).toNat ⟨txt [], []⟩) 8 ⟨ck, csb, ⟨lk, lvk, lvi, lvt, lva, lfd⟩, ⟨rk, rvk, rvi, rvt, rva, rfd⟩⟩).2) = R := ⟨_, rfl⟩
   rw [hR]
   have HRR0 := hid hR
   clear hR
   go_enter Tryz.func73, Tryz.ntmps73
   go_wp2_with (go_at_call 72; refine (HFN.out _).mono ?_; rintro e w2 ⟨rfl, hb_⟩; have HB2 : Hid _ := HB0.out.next hb_; clear hb_)
   clear HFN HB0
   go_loopw [12] (fun i wr => ∃ k : Nat, k ≤ na ∧ i = .int .i64 (k : Nat) ∧ (∀ (j : Nat) (hj : j < ah.length), j < k → seq ah[j] va = false) ∧ Blk1 w wr (ptC va ty ck (.slice p0 n0 cap0) ⟨lk, lvk, lvi, lvt, lva, lfd⟩ ⟨rk, rvk, rvi, rvt, rva, rfd⟩ tw tn) 65) (fun i _ => na + 1 - (intOf i).toNat)
   case atStart => exact ⟨0, by omega, rfl, fun j hj h => by omega, HB2.out⟩
   case round =>
    obtain ⟨k, hk, rfl, hf, hTr⟩ := hrel
    have HF := hid hf
    have HT : Hid (Blk1 w wr (ptC va ty ck (.slice p0 n0 cap0) ⟨lk, lvk, lvi, lvt, lva, lfd⟩ ⟨rk, rvk, rvi, rvt, rva, rfd⟩ tw tn) 65) := hTr
    clear hf HB2
    by_cases hlt : k < na
    . have hkc : k < ah.length := by have := HNA.out; omega
      obtain ⟨g, off, rfl, hrd⟩ := HATA.out (by omega)
      obtain ⟨us, r1, o1⟩ := hrd wr hTr.bel k hkc
      have z1 := rdS o1
      clear o1
      subst z1
      have a0 := r1 0 _ rfl
      simp only [Nat.add_zero, Nat.mul_one] at a0
      have d0 : wr.cell? ⟨w.heap.size, 0, none⟩ = some (.string va) := hTr.c 0
      have HNX : seq ah[k] va = false → Hid (∀ (j : Nat) (hj : j < ah.length), j < k + 1 → seq ah[j] va = false) := fun hq j hj h => by
        by_cases c : j = k
        . subst c; exact hq
        . exact HF.out j hj (by omega)
      have hmem : ah[k] ∈ ah := List.getElem_mem hkc
      obtain ⟨d, hd⟩ : ∃ d, ah[k] = d := ⟨_, rfl⟩
      rw [hd] at a0 HNX hmem
      have i1 : (0 : Int) ≤ (k : Int) := by omega
      have i2 : (k : Int) < (na : Int) := by omega
      cases hq : seq d va
      . have HNY := HNX hq
        have hq2 : (d.toList == va.toList) = false := hq
        clear HNX hq hd hrd hTr hkc r1 hmem
        go_wp2_with fail
        go_quiet (fail)
        go_wp2_with fail
        go_roundw
        case rel => exact ⟨k + 1, by omega, by go_num, HNY.out, HT.out.drewN _⟩
        case measure => simp [intOf]; omega
      . have HR0 : Hid (R = 7) := by
          have h := HRR0.out
          rw [if_pos (List.any_eq_true.2 ⟨d, hmem, hq⟩)] at h
          exact h.symm
        have hq2 : (d.toList == va.toList) = true := hq
        clear HNX hq hd hrd hTr hkc r1 hmem
        go_wp2_with fail
        go_quiet (fail)
        go_wp2_with fail
        go_ret
        exact ⟨ret_int HR0.out.symm, (HT.out.drewN _).bel⟩
    . obtain rfl : na = k := by omega
      have hany : ¬ ah.any (fun a => seq a va) = true := fun c => by
        obtain ⟨x, hx, hq⟩ := List.any_eq_true.1 c
        obtain ⟨j, hj, rfl⟩ := List.getElem_of_mem hx
        have := HF.out j hj (by have := HNA.out; omega)
        rw [this] at hq
        cases hq
      have h1 := HRR0.out
      rw [if_neg hany] at h1
      have HR1 := hid h1
      have d0 : wr.cell? ⟨w.heap.size, 0, none⟩ = some (.string va) := hTr.c 0
      have d1 : wr.cell? ⟨w.heap.size, 1, none⟩ = some (.string ty) := hTr.c 1
      have d2 : wr.cell? ⟨w.heap.size, 2, none⟩ = some (.int .i64 ck) := hTr.c 2
      have d3 : wr.cell? ⟨w.heap.size, 3, none⟩ = some (.slice p0 n0 cap0) := hTr.c 3
      have d4 : wr.cell? ⟨w.heap.size, 4, none⟩ = some (.int .i64 lk) := hTr.c 4
      have d5 : wr.cell? ⟨w.heap.size, 5, none⟩ = some (.int .i64 lvk) := hTr.c 5
      have d6 : wr.cell? ⟨w.heap.size, 6, none⟩ = some (.int .i64 lvi) := hTr.c 6
      have d7 : wr.cell? ⟨w.heap.size, 7, none⟩ = some (.string lvt) := hTr.c 7
      have d8 : wr.cell? ⟨w.heap.size, 8, none⟩ = some (.string lva) := hTr.c 8
      have d9 : wr.cell? ⟨w.heap.size, 9, none⟩ = some (.string lfd) := hTr.c 9
      have d10 : wr.cell? ⟨w.heap.size, 10, none⟩ = some (.int .i64 rk) := hTr.c 10
      have d11 : wr.cell? ⟨w.heap.size, 11, none⟩ = some (.int .i64 rvk) := hTr.c 11
      have d12 : wr.cell? ⟨w.heap.size, 12, none⟩ = some (.int .i64 rvi) := hTr.c 12
      have d13 : wr.cell? ⟨w.heap.size, 13, none⟩ = some (.string rvt) := hTr.c 13
      have d14 : wr.cell? ⟨w.heap.size, 14, none⟩ = some (.string rva) := hTr.c 14
      have d15 : wr.cell? ⟨w.heap.size, 15, none⟩ = some (.string rfd) := hTr.c 15
      have d16 : wr.cell? ⟨w.heap.size, 16, none⟩ = some (.int .i64 tw) := hTr.c 16
      have d17 : wr.cell? ⟨w.heap.size, 17, none⟩ = some (.int .i64 tn) := hTr.c 17
      clear h1 hany HRR0 HF hTr HATA
      rcases ixq_lt (q := fun t : Tp => seq t.n ty) ts 0 with c | ⟨i, hi, c, hqq⟩
      . have c0 : tyq ts ty = -1 := c
        have HTN : Hid (∀ W, Below w.heap.size w W → Calls Tryz.prog 35 #[.slice tp nt tc, .string ty] W fun e w' => e = .returned (.int .i64 (-1)) ∧ Below W.heap.size W w') := fun W hW => by have h9 := HTQ.out W hW; rw [c0] at h9; exact h9
        have HR0 : Hid (R = 6) := by
          have h := HR1.out
          rw [if_pos (by rw [c0]; decide)] at h
          exact h.symm
        clear c c0 HTQ HR1
        go_wp2_with (first
          | (go_at_call 35; refine (HTN.out _ HT.out.bel).mono ?_; rintro e w5 ⟨rfl, hb_⟩; have HB5 : Hid _ := HT.out.next hb_; have d0_w5 : w5.cell? ⟨w.heap.size, 0, none⟩ = some (.string va) := HB5.out.c 0; have d1_w5 : w5.cell? ⟨w.heap.size, 1, none⟩ = some (.string ty) := HB5.out.c 1; have d2_w5 : w5.cell? ⟨w.heap.size, 2, none⟩ = some (.int .i64 ck) := HB5.out.c 2; have d3_w5 : w5.cell? ⟨w.heap.size, 3, none⟩ = some (.slice p0 n0 cap0) := HB5.out.c 3; have d4_w5 : w5.cell? ⟨w.heap.size, 4, none⟩ = some (.int .i64 lk) := HB5.out.c 4; have d5_w5 : w5.cell? ⟨w.heap.size, 5, none⟩ = some (.int .i64 lvk) := HB5.out.c 5; have d6_w5 : w5.cell? ⟨w.heap.size, 6, none⟩ = some (.int .i64 lvi) := HB5.out.c 6; have d7_w5 : w5.cell? ⟨w.heap.size, 7, none⟩ = some (.string lvt) := HB5.out.c 7; have d8_w5 : w5.cell? ⟨w.heap.size, 8, none⟩ = some (.string lva) := HB5.out.c 8; have d9_w5 : w5.cell? ⟨w.heap.size, 9, none⟩ = some (.string lfd) := HB5.out.c 9; have d10_w5 : w5.cell? ⟨w.heap.size, 10, none⟩ = some (.int .i64 rk) := HB5.out.c 10; have d11_w5 : w5.cell? ⟨w.heap.size, 11, none⟩ = some (.int .i64 rvk) := HB5.out.c 11; have d12_w5 : w5.cell? ⟨w.heap.size, 12, none⟩ = some (.int .i64 rvi) := HB5.out.c 12; have d13_w5 : w5.cell? ⟨w.heap.size, 13, none⟩ = some (.string rvt) := HB5.out.c 13; have d14_w5 : w5.cell? ⟨w.heap.size, 14, none⟩ = some (.string rva) := HB5.out.c 14; have d15_w5 : w5.cell? ⟨w.heap.size, 15, none⟩ = some (.string rfd) := HB5.out.c 15; have d16_w5 : w5.cell? ⟨w.heap.size, 16, none⟩ = some (.int .i64 tw) := HB5.out.c 16; have d17_w5 : w5.cell? ⟨w.heap.size, 17, none⟩ = some (.int .i64 tn) := HB5.out.c 17; clear hb_))
        go_ret
        exact ⟨ret_int HR0.out.symm, HB5.out.bel⟩
      . have c0 : tyq ts ty = (i : Int) := by show ixq _ _ _ = _; rw [c]; simp
        have HTN : Hid (∀ W, Below w.heap.size w W → Calls Tryz.prog 35 #[.slice tp nt tc, .string ty] W fun e w' => e = .returned (.int .i64 (i : Int)) ∧ Below W.heap.size W w') := fun W hW => by have h9 := HTQ.out W hW; rw [c0] at h9; exact h9
        have h1 := HR1.out
        rw [if_neg (by rw [c0]; omega), c0] at h1
        have hgd : ts.getD (i : Int).toNat ⟨txt [], []⟩ = ts[i] := by simp [hi]
        rw [hgd] at h1
        obtain ⟨gt, oft, rfl, hrd⟩ := HATT.out (by omega)
        obtain ⟨us, r1, o1⟩ := hrd w (Below.refl _ _) i hi
        obtain ⟨vf, z1, o2⟩ := rdY o1
        clear o1
        subst z1
        obtain ⟨⟨tn2, tf2⟩, ht2⟩ : ∃ t, ts[i] = t := ⟨_, rfl⟩
        rw [ht2] at r1 o2 h1
        simp only at r1 o2
        have hco := fun W hW => HCO.out ⟨tn2, tf2⟩ vf W hW (o2.later hW)
        obtain ⟨fp2, fc2, rfl, _, _⟩ := rd_row lenF o2
        obtain ⟨fl2, hfl2⟩ : ∃ fl2, tf2.length = fl2 := ⟨_, rfl⟩
        rw [hfl2] at r1 hco
        have HCT : Hid (∀ W, Below w.heap.size w W → W.cell? ⟨gt, oft + i * 2, none⟩ = some (.string tn2) ∧ W.cell? ⟨gt, oft + i * 2 + 1, none⟩ = some (.slice fp2 fl2 fc2)) := fun W hW => by
          have r2 := range_below r1 hW
          have a0 := r2 0 _ rfl
          have a1 := r2 1 _ rfl
          simp only [Nat.add_zero] at a0
          exact ⟨a0, a1⟩
        obtain ⟨A, hA⟩ : ∃ A, (cnC ck (.slice p0 n0 cap0) ⟨lk, lvk, lvi, lvt, lva, lfd⟩ ⟨rk, rvk, rvi, rvt, rva, rfd⟩) = A := ⟨_, rfl⟩
        have HRA : Hid (∀ W, Blk1 w W (ptC va ty ck (.slice p0 n0 cap0) ⟨lk, lvk, lvi, lvt, lva, lfd⟩ ⟨rk, rvk, rvi, rvt, rva, rfd⟩ tw tn) 65 → W.rangeAt w.heap.size 2 A) := fun W hW => by
          rw [← hA]
          exact range_part (l := [.string va, .string ty]) (q := [.int .i64 tw, .int .i64 tn]) hW.b1 rfl
        have ZA : Hid ((Tryz.prog.info? 63).map (·.size) = some A.length) := by show _ = _; rw [← hA]; kernel_rfl
        obtain ⟨CD, hCD⟩ : ∃ CD, (cdk ts kn ⟨tn2, tf2⟩ 8 ⟨ck, csb, ⟨lk, lvk, lvi, lvt, lva, lfd⟩, ⟨rk, rvk, rvi, rvt, rva, rfd⟩⟩).2 = CD := ⟨_, rfl⟩
        rw [hCD] at h1
        have HRR : Hid ((if wbad part tw tn then (4 : Int) else if rbad tw tn then 2 else if noc ⟨ck, csb, ⟨lk, lvk, lvi, lvt, lva, lfd⟩, ⟨rk, rvk, rvi, rvt, rva, rfd⟩⟩ = true then 0 else CD) = R) := h1
        have HCC : Hid (∀ W, Below w.heap.size w W → Calls Tryz.prog 122 #[.slice (some ⟨gt, oft, none⟩) nt tc, .slice kp nk kc, .agg #[.string tn2, .slice fp2 fl2 fc2], .agg A.toArray, .int .i64 1] W (fun e w' => ∃ m : Int, e = .returned (.tuple #[.int .i64 m, .int .i64 CD]) ∧ True ∧ Below W.heap.size W w')) := fun W hW => by
          rw [← hA, ← hCD]
          exact (hco W hW).mono fun e w' ⟨m, h1, _, h3⟩ => ⟨m, h1, trivial, h3⟩
        have i1 : (0 : Int) ≤ (i : Int) := by omega
        have i2 : (i : Int) < (nt : Int) := by have := HNT.out; omega
        clear hqq h1 hgd hrd r1 o2 hco hfl2 hA hCD c c0 hi ht2 HTQ HR1 HCO HATT
        rcases hpart with rfl | rfl | rfl
        . by_cases hw : 0 ≤ tw ∧ tw ≤ 2
          . have HIW : Hid (∀ W, Calls Tryz.prog 17 #[.int .i64 tw, .int .i64 0, .int .i64 2] W fun e w' => e = .returned (.bool true) ∧ w' = W) := fun W => in_any tw _ _ true (say_true hw) W
            rcases (by omega : tw = 0 ∨ tw = 1 ∨ tw = 2) with rfl | rfl | rfl
            . by_cases hn0 : tn = 0
              . subst hn0
                cases hno : noc ⟨ck, csb, ⟨lk, lvk, lvi, lvt, lva, lfd⟩, ⟨rk, rvk, rvi, rvt, rva, rfd⟩⟩
                . have HNO : Hid (∀ W, Calls Tryz.prog 121 #[(cnV ck (.slice p0 n0 cap0) ⟨lk, lvk, lvi, lvt, lva, lfd⟩ ⟨rk, rvk, rvi, rvt, rva, rfd⟩)] W fun e w' => e = .returned (.bool false) ∧ Below W.heap.size W w') := fun W => by
                   have h9 := HNC.out W
                   rw [hno] at h9
                   exact h9
                  have HR0 : Hid (R = CD) := by
                   have h := HRR.out
                   rw [if_neg (by simp [wbad]), if_neg (by simp [rbad]; try omega), if_neg (by rw [hno]; decide)] at h
                   exact h.symm
                  clear HRR hno
                  go_wp2_with (first
                   | (go_at_call_of 17 (Value.int .i64 2); refine (HIW.out _).mono ?_; rintro e w' ⟨rfl, rfl⟩)
                   | (go_at_call 121; refine (HNO.out _).mono ?_; rintro e w6 ⟨rfl, hb_⟩; have HB6 : Hid _ := HB5.out.next hb_; clear hb_)
                   | (go_at_call 35; refine (HTN.out _ HT.out.bel).mono ?_; rintro e w5 ⟨rfl, hb_⟩; have HB5 : Hid _ := HT.out.next hb_; have d0_w5 : w5.cell? ⟨w.heap.size, 0, none⟩ = some (.string va) := HB5.out.c 0; have d1_w5 : w5.cell? ⟨w.heap.size, 1, none⟩ = some (.string ty) := HB5.out.c 1; have d2_w5 : w5.cell? ⟨w.heap.size, 2, none⟩ = some (.int .i64 ck) := HB5.out.c 2; have d3_w5 : w5.cell? ⟨w.heap.size, 3, none⟩ = some (.slice p0 n0 cap0) := HB5.out.c 3; have d4_w5 : w5.cell? ⟨w.heap.size, 4, none⟩ = some (.int .i64 lk) := HB5.out.c 4; have d5_w5 : w5.cell? ⟨w.heap.size, 5, none⟩ = some (.int .i64 lvk) := HB5.out.c 5; have d6_w5 : w5.cell? ⟨w.heap.size, 6, none⟩ = some (.int .i64 lvi) := HB5.out.c 6; have d7_w5 : w5.cell? ⟨w.heap.size, 7, none⟩ = some (.string lvt) := HB5.out.c 7; have d8_w5 : w5.cell? ⟨w.heap.size, 8, none⟩ = some (.string lva) := HB5.out.c 8; have d9_w5 : w5.cell? ⟨w.heap.size, 9, none⟩ = some (.string lfd) := HB5.out.c 9; have d10_w5 : w5.cell? ⟨w.heap.size, 10, none⟩ = some (.int .i64 rk) := HB5.out.c 10; have d11_w5 : w5.cell? ⟨w.heap.size, 11, none⟩ = some (.int .i64 rvk) := HB5.out.c 11; have d12_w5 : w5.cell? ⟨w.heap.size, 12, none⟩ = some (.int .i64 rvi) := HB5.out.c 12; have d13_w5 : w5.cell? ⟨w.heap.size, 13, none⟩ = some (.string rvt) := HB5.out.c 13; have d14_w5 : w5.cell? ⟨w.heap.size, 14, none⟩ = some (.string rva) := HB5.out.c 14; have d15_w5 : w5.cell? ⟨w.heap.size, 15, none⟩ = some (.string rfd) := HB5.out.c 15; have d16_w5 : w5.cell? ⟨w.heap.size, 16, none⟩ = some (.int .i64 0) := HB5.out.c 16; have d17_w5 : w5.cell? ⟨w.heap.size, 17, none⟩ = some (.int .i64 0) := HB5.out.c 17; clear hb_))
                  clear d0 d0_w5 d1 d1_w5 d2 d2_w5 d3 d3_w5 d4 d4_w5 d5 d5_w5 d6 d6_w5 d7 d7_w5 d8 d8_w5 d9 d9_w5 d10 d10_w5 d11 d11_w5 d12 d12_w5 d13 d13_w5 d14 d14_w5 d15 d15_w5 d16 d16_w5 d17 d17_w5
                  refine start_n (S := (fun w' => w'.cell? ⟨gt, oft + i * 2, none⟩ = some (.string tn2) ∧ w'.cell? ⟨gt, oft + i * 2 + 1, none⟩ = some (.slice fp2 fl2 fc2) ∧ w'.rangeAt w.heap.size 2 A)) 13 #[false, false, false, false, false, false, false, false, false, false, false, false, false] rfl rfl (by kernel_rfl) (by { exact ⟨(HCT.out _ HB6.out.drew.bel).1, (HCT.out _ HB6.out.drew.bel).2, HRA.out _ HB6.out.drew⟩ }) (fun hHeld => ?_)
                  refine tkq (i := 0) (v := ?v1z1) rfl ?hy1z1 ?rest1z1; (case hy1z1 => intro w0 hSw; (try dsimp only at hSw); go_simp <;> (try (with_reducible rfl))); (try simp only [puts])
                  refine tkq (i := 1) (v := ?v2z1) rfl ?hy2z1 ?rest2z1; (case hy2z1 => intro w0 hSw; (try dsimp only at hSw); go_simp <;> (try (with_reducible rfl))); (try simp only [puts])
                  refine tkq (i := 2) (v := ?v3z1) rfl ?hy3z1 ?rest3z1; (case hy3z1 => intro w0 hSw; (try dsimp only at hSw); go_simp <;> (try (with_reducible rfl))); (try simp only [puts])
                  refine tkq (i := 3) (v := ?v4z1) rfl ?hy4z1 ?rest4z1; (case hy4z1 => intro w0 hSw; (try dsimp only at hSw); go_simp <;> (try (with_reducible rfl))); (try simp only [puts])
                  refine tkq (i := 4) (v := ?v5z1) rfl ?hy5z1 ?rest5z1; (case hy5z1 => intro w0 hSw; (try dsimp only at hSw); go_simp <;> (try (with_reducible rfl))); (try simp only [puts])
                  refine tkq (i := 5) (v := ?v6z1) rfl ?hy6z1 ?rest6z1; (case hy6z1 => intro w0 hSw; (try dsimp only at hSw); go_simp <;> (try (with_reducible rfl))); (try simp only [puts])
                  refine tkq (i := 6) (v := ?v7z1) rfl ?hy7z1 ?rest7z1; (case hy7z1 => intro w0 hSw; (try dsimp only at hSw); go_simp <;> (try (with_reducible rfl))); (try simp only [puts])
                  refine tlq (i := 7) rfl (yieldsIf_load_mid (by rfl) 63 _ rfl w.heap.size (2) (by rfl) A _ (fun _ h => h.2.2) Tryz.underlying63 rfl ZA.out) ?_
                  (try simp only [puts])
                  refine wpAnyH_ready (rs := [8]) (by kernel_rfl) (by simp) ?_
                  refine cons_mk rfl (fun K hK => ?_) AllReadyH.nil
                  refine step_call5 122 ent_cf (by rfl) _ _ _ _ _ _ (by rfl) (.slice (some ⟨gt, oft, none⟩) nt tc) (.slice kp nk kc) (.agg #[.string tn2, .slice fp2 fl2 fc2]) (.agg A.toArray) (.int .i64 1) (by rfl) (by rfl) (by rfl) (by rfl) (by rfl) _ (HCC.out _ HB6.out.bel.drew) ?_
                  rintro e w9 ⟨m9, rfl, hm9, hb9⟩
                  refine ⟨_, rfl, ?_⟩
                  have HB9 : Hid (Blk1 w w9 (ptC va ty ck (.slice p0 n0 cap0) ⟨lk, lvk, lvi, lvt, lva, lfd⟩ ⟨rk, rvk, rvi, rvt, rva, rfd⟩ 0 0) 65) := HB6.out.drew.next hb9
                  clear hb9 hm9
                  refine hK.out _ _ (by { exact ⟨(HCT.out _ HB9.out.bel).1, (HCT.out _ HB9.out.bel).2, HRA.out _ HB9.out⟩ }) (fun hHeld => ?_)
                  clear hK K
                  (try simp only [puts])
                  refine tkq (i := 9) (v := ?v8z1) rfl ?hy8z1 ?rest8z1; (case hy8z1 => intro w0 hSw; (try dsimp only at hSw); go_simp <;> (try (with_reducible rfl))); (try simp only [puts])
                  refine tkq (i := 10) (v := ?v9z1) rfl ?hy9z1 ?rest9z1; (case hy9z1 => intro w0 hSw; (try dsimp only at hSw); go_simp <;> (try (with_reducible rfl))); (try simp only [puts])
                  refine tkq (i := 11) (v := ?v10z1) rfl ?hy10z1 ?rest10z1; (case hy10z1 => intro w0 hSw; (try dsimp only at hSw); go_simp <;> (try (with_reducible rfl))); (try simp only [puts])
                  refine tkq (i := 12) (v := ?v11z1) rfl ?hy11z1 ?rest11z1; (case hy11z1 => intro w0 hSw; (try dsimp only at hSw); go_simp <;> (try (with_reducible rfl))); (try simp only [puts])
                  refine wpAnyH_done (by kernel_rfl) ?_ _
                  clear hHeld
                  go_wp2_with fail
                  go_ret
                  exact ⟨ret_int HR0.out.symm, HB9.out.bel⟩
                . have HNO : Hid (∀ W, Calls Tryz.prog 121 #[(cnV ck (.slice p0 n0 cap0) ⟨lk, lvk, lvi, lvt, lva, lfd⟩ ⟨rk, rvk, rvi, rvt, rva, rfd⟩)] W fun e w' => e = .returned (.bool true) ∧ Below W.heap.size W w') := fun W => by
                   have h9 := HNC.out W
                   rw [hno] at h9
                   exact h9
                  have HR0 : Hid (R = 0) := by
                   have h := HRR.out
                   rw [if_neg (by simp [wbad]), if_neg (by simp [rbad]; try omega), if_pos hno] at h
                   exact h.symm
                  clear HRR hno
                  go_wp2_with (first
                   | (go_at_call_of 17 (Value.int .i64 2); refine (HIW.out _).mono ?_; rintro e w' ⟨rfl, rfl⟩)
                   | (go_at_call 121; refine (HNO.out _).mono ?_; rintro e w6 ⟨rfl, hb_⟩; have HB6 : Hid _ := HB5.out.next hb_; clear hb_)
                   | (go_at_call 35; refine (HTN.out _ HT.out.bel).mono ?_; rintro e w5 ⟨rfl, hb_⟩; have HB5 : Hid _ := HT.out.next hb_; have d0_w5 : w5.cell? ⟨w.heap.size, 0, none⟩ = some (.string va) := HB5.out.c 0; have d1_w5 : w5.cell? ⟨w.heap.size, 1, none⟩ = some (.string ty) := HB5.out.c 1; have d2_w5 : w5.cell? ⟨w.heap.size, 2, none⟩ = some (.int .i64 ck) := HB5.out.c 2; have d3_w5 : w5.cell? ⟨w.heap.size, 3, none⟩ = some (.slice p0 n0 cap0) := HB5.out.c 3; have d4_w5 : w5.cell? ⟨w.heap.size, 4, none⟩ = some (.int .i64 lk) := HB5.out.c 4; have d5_w5 : w5.cell? ⟨w.heap.size, 5, none⟩ = some (.int .i64 lvk) := HB5.out.c 5; have d6_w5 : w5.cell? ⟨w.heap.size, 6, none⟩ = some (.int .i64 lvi) := HB5.out.c 6; have d7_w5 : w5.cell? ⟨w.heap.size, 7, none⟩ = some (.string lvt) := HB5.out.c 7; have d8_w5 : w5.cell? ⟨w.heap.size, 8, none⟩ = some (.string lva) := HB5.out.c 8; have d9_w5 : w5.cell? ⟨w.heap.size, 9, none⟩ = some (.string lfd) := HB5.out.c 9; have d10_w5 : w5.cell? ⟨w.heap.size, 10, none⟩ = some (.int .i64 rk) := HB5.out.c 10; have d11_w5 : w5.cell? ⟨w.heap.size, 11, none⟩ = some (.int .i64 rvk) := HB5.out.c 11; have d12_w5 : w5.cell? ⟨w.heap.size, 12, none⟩ = some (.int .i64 rvi) := HB5.out.c 12; have d13_w5 : w5.cell? ⟨w.heap.size, 13, none⟩ = some (.string rvt) := HB5.out.c 13; have d14_w5 : w5.cell? ⟨w.heap.size, 14, none⟩ = some (.string rva) := HB5.out.c 14; have d15_w5 : w5.cell? ⟨w.heap.size, 15, none⟩ = some (.string rfd) := HB5.out.c 15; have d16_w5 : w5.cell? ⟨w.heap.size, 16, none⟩ = some (.int .i64 0) := HB5.out.c 16; have d17_w5 : w5.cell? ⟨w.heap.size, 17, none⟩ = some (.int .i64 0) := HB5.out.c 17; clear hb_))
                  go_ret
                  exact ⟨ret_int (HR0.out.symm), HB6.out.bel⟩
              . have b1 : (tn != 0) = true := by simpa using hn0
                have b2 : (tn == 0) = false := by simpa using hn0
                have HR0 : Hid (R = 4) := by
                  have h := HRR.out
                  rw [if_pos (.inr (.inr (.inr ⟨rfl, hn0⟩)))] at h
                  exact h.symm
                clear HRR
                go_wp2_with (first
                  | (go_at_call_of 17 (Value.int .i64 2); refine (HIW.out _).mono ?_; rintro e w' ⟨rfl, rfl⟩)
                  | (go_at_call 35; refine (HTN.out _ HT.out.bel).mono ?_; rintro e w5 ⟨rfl, hb_⟩; have HB5 : Hid _ := HT.out.next hb_; have d0_w5 : w5.cell? ⟨w.heap.size, 0, none⟩ = some (.string va) := HB5.out.c 0; have d1_w5 : w5.cell? ⟨w.heap.size, 1, none⟩ = some (.string ty) := HB5.out.c 1; have d2_w5 : w5.cell? ⟨w.heap.size, 2, none⟩ = some (.int .i64 ck) := HB5.out.c 2; have d3_w5 : w5.cell? ⟨w.heap.size, 3, none⟩ = some (.slice p0 n0 cap0) := HB5.out.c 3; have d4_w5 : w5.cell? ⟨w.heap.size, 4, none⟩ = some (.int .i64 lk) := HB5.out.c 4; have d5_w5 : w5.cell? ⟨w.heap.size, 5, none⟩ = some (.int .i64 lvk) := HB5.out.c 5; have d6_w5 : w5.cell? ⟨w.heap.size, 6, none⟩ = some (.int .i64 lvi) := HB5.out.c 6; have d7_w5 : w5.cell? ⟨w.heap.size, 7, none⟩ = some (.string lvt) := HB5.out.c 7; have d8_w5 : w5.cell? ⟨w.heap.size, 8, none⟩ = some (.string lva) := HB5.out.c 8; have d9_w5 : w5.cell? ⟨w.heap.size, 9, none⟩ = some (.string lfd) := HB5.out.c 9; have d10_w5 : w5.cell? ⟨w.heap.size, 10, none⟩ = some (.int .i64 rk) := HB5.out.c 10; have d11_w5 : w5.cell? ⟨w.heap.size, 11, none⟩ = some (.int .i64 rvk) := HB5.out.c 11; have d12_w5 : w5.cell? ⟨w.heap.size, 12, none⟩ = some (.int .i64 rvi) := HB5.out.c 12; have d13_w5 : w5.cell? ⟨w.heap.size, 13, none⟩ = some (.string rvt) := HB5.out.c 13; have d14_w5 : w5.cell? ⟨w.heap.size, 14, none⟩ = some (.string rva) := HB5.out.c 14; have d15_w5 : w5.cell? ⟨w.heap.size, 15, none⟩ = some (.string rfd) := HB5.out.c 15; have d16_w5 : w5.cell? ⟨w.heap.size, 16, none⟩ = some (.int .i64 0) := HB5.out.c 16; have d17_w5 : w5.cell? ⟨w.heap.size, 17, none⟩ = some (.int .i64 tn) := HB5.out.c 17; clear hb_))
                go_ret
                exact ⟨ret_int (HR0.out.symm), HB5.out.bel⟩
            . by_cases hr : 0 ≤ tn ∧ tn ≤ 1073741824
              . have HIN : Hid (∀ W, Calls Tryz.prog 17 #[.int .i64 tn, .int .i64 0, .int .i64 1073741824] W fun e w' => e = .returned (.bool true) ∧ w' = W) := fun W => in_any tn _ _ true (say_true hr) W
                have HRB : Hid (¬ rbad 1 tn) := by simp [rbad, Hid]; omega
                cases hno : noc ⟨ck, csb, ⟨lk, lvk, lvi, lvt, lva, lfd⟩, ⟨rk, rvk, rvi, rvt, rva, rfd⟩⟩
                . have HNO : Hid (∀ W, Calls Tryz.prog 121 #[(cnV ck (.slice p0 n0 cap0) ⟨lk, lvk, lvi, lvt, lva, lfd⟩ ⟨rk, rvk, rvi, rvt, rva, rfd⟩)] W fun e w' => e = .returned (.bool false) ∧ Below W.heap.size W w') := fun W => by
                   have h9 := HNC.out W
                   rw [hno] at h9
                   exact h9
                  have HR0 : Hid (R = CD) := by
                   have h := HRR.out
                   rw [if_neg (by simp [wbad]), if_neg (by simp [rbad]; try omega), if_neg (by rw [hno]; decide)] at h
                   exact h.symm
                  clear HRR hno
                  go_wp2_with (first
                   | (go_at_call_of 17 (Value.int .i64 2); refine (HIW.out _).mono ?_; rintro e w' ⟨rfl, rfl⟩)
                   | (go_at_call_of 17 (Value.int .i64 1073741824); refine (HIN.out _).mono ?_; rintro e w' ⟨rfl, rfl⟩)
                   | (go_at_call 121; refine (HNO.out _).mono ?_; rintro e w6 ⟨rfl, hb_⟩; have HB6 : Hid _ := HB5.out.next hb_; clear hb_)
                   | (go_at_call 35; refine (HTN.out _ HT.out.bel).mono ?_; rintro e w5 ⟨rfl, hb_⟩; have HB5 : Hid _ := HT.out.next hb_; have d0_w5 : w5.cell? ⟨w.heap.size, 0, none⟩ = some (.string va) := HB5.out.c 0; have d1_w5 : w5.cell? ⟨w.heap.size, 1, none⟩ = some (.string ty) := HB5.out.c 1; have d2_w5 : w5.cell? ⟨w.heap.size, 2, none⟩ = some (.int .i64 ck) := HB5.out.c 2; have d3_w5 : w5.cell? ⟨w.heap.size, 3, none⟩ = some (.slice p0 n0 cap0) := HB5.out.c 3; have d4_w5 : w5.cell? ⟨w.heap.size, 4, none⟩ = some (.int .i64 lk) := HB5.out.c 4; have d5_w5 : w5.cell? ⟨w.heap.size, 5, none⟩ = some (.int .i64 lvk) := HB5.out.c 5; have d6_w5 : w5.cell? ⟨w.heap.size, 6, none⟩ = some (.int .i64 lvi) := HB5.out.c 6; have d7_w5 : w5.cell? ⟨w.heap.size, 7, none⟩ = some (.string lvt) := HB5.out.c 7; have d8_w5 : w5.cell? ⟨w.heap.size, 8, none⟩ = some (.string lva) := HB5.out.c 8; have d9_w5 : w5.cell? ⟨w.heap.size, 9, none⟩ = some (.string lfd) := HB5.out.c 9; have d10_w5 : w5.cell? ⟨w.heap.size, 10, none⟩ = some (.int .i64 rk) := HB5.out.c 10; have d11_w5 : w5.cell? ⟨w.heap.size, 11, none⟩ = some (.int .i64 rvk) := HB5.out.c 11; have d12_w5 : w5.cell? ⟨w.heap.size, 12, none⟩ = some (.int .i64 rvi) := HB5.out.c 12; have d13_w5 : w5.cell? ⟨w.heap.size, 13, none⟩ = some (.string rvt) := HB5.out.c 13; have d14_w5 : w5.cell? ⟨w.heap.size, 14, none⟩ = some (.string rva) := HB5.out.c 14; have d15_w5 : w5.cell? ⟨w.heap.size, 15, none⟩ = some (.string rfd) := HB5.out.c 15; have d16_w5 : w5.cell? ⟨w.heap.size, 16, none⟩ = some (.int .i64 1) := HB5.out.c 16; have d17_w5 : w5.cell? ⟨w.heap.size, 17, none⟩ = some (.int .i64 tn) := HB5.out.c 17; clear hb_))
                  clear d0 d0_w5 d1 d1_w5 d2 d2_w5 d3 d3_w5 d4 d4_w5 d5 d5_w5 d6 d6_w5 d7 d7_w5 d8 d8_w5 d9 d9_w5 d10 d10_w5 d11 d11_w5 d12 d12_w5 d13 d13_w5 d14 d14_w5 d15 d15_w5 d16 d16_w5 d17 d17_w5
                  refine start_n (S := (fun w' => w'.cell? ⟨gt, oft + i * 2, none⟩ = some (.string tn2) ∧ w'.cell? ⟨gt, oft + i * 2 + 1, none⟩ = some (.slice fp2 fl2 fc2) ∧ w'.rangeAt w.heap.size 2 A)) 13 #[false, false, false, false, false, false, false, false, false, false, false, false, false] rfl rfl (by kernel_rfl) (by { exact ⟨(HCT.out _ HB6.out.drew.bel).1, (HCT.out _ HB6.out.drew.bel).2, HRA.out _ HB6.out.drew⟩ }) (fun hHeld => ?_)
                  refine tkq (i := 0) (v := ?v12z2) rfl ?hy12z2 ?rest12z2; (case hy12z2 => intro w0 hSw; (try dsimp only at hSw); go_simp <;> (try (with_reducible rfl))); (try simp only [puts])
                  refine tkq (i := 1) (v := ?v13z2) rfl ?hy13z2 ?rest13z2; (case hy13z2 => intro w0 hSw; (try dsimp only at hSw); go_simp <;> (try (with_reducible rfl))); (try simp only [puts])
                  refine tkq (i := 2) (v := ?v14z2) rfl ?hy14z2 ?rest14z2; (case hy14z2 => intro w0 hSw; (try dsimp only at hSw); go_simp <;> (try (with_reducible rfl))); (try simp only [puts])
                  refine tkq (i := 3) (v := ?v15z2) rfl ?hy15z2 ?rest15z2; (case hy15z2 => intro w0 hSw; (try dsimp only at hSw); go_simp <;> (try (with_reducible rfl))); (try simp only [puts])
                  refine tkq (i := 4) (v := ?v16z2) rfl ?hy16z2 ?rest16z2; (case hy16z2 => intro w0 hSw; (try dsimp only at hSw); go_simp <;> (try (with_reducible rfl))); (try simp only [puts])
                  refine tkq (i := 5) (v := ?v17z2) rfl ?hy17z2 ?rest17z2; (case hy17z2 => intro w0 hSw; (try dsimp only at hSw); go_simp <;> (try (with_reducible rfl))); (try simp only [puts])
                  refine tkq (i := 6) (v := ?v18z2) rfl ?hy18z2 ?rest18z2; (case hy18z2 => intro w0 hSw; (try dsimp only at hSw); go_simp <;> (try (with_reducible rfl))); (try simp only [puts])
                  refine tlq (i := 7) rfl (yieldsIf_load_mid (by rfl) 63 _ rfl w.heap.size (2) (by rfl) A _ (fun _ h => h.2.2) Tryz.underlying63 rfl ZA.out) ?_
                  (try simp only [puts])
                  refine wpAnyH_ready (rs := [8]) (by kernel_rfl) (by simp) ?_
                  refine cons_mk rfl (fun K hK => ?_) AllReadyH.nil
                  refine step_call5 122 ent_cf (by rfl) _ _ _ _ _ _ (by rfl) (.slice (some ⟨gt, oft, none⟩) nt tc) (.slice kp nk kc) (.agg #[.string tn2, .slice fp2 fl2 fc2]) (.agg A.toArray) (.int .i64 1) (by rfl) (by rfl) (by rfl) (by rfl) (by rfl) _ (HCC.out _ HB6.out.bel.drew) ?_
                  rintro e w9 ⟨m9, rfl, hm9, hb9⟩
                  refine ⟨_, rfl, ?_⟩
                  have HB9 : Hid (Blk1 w w9 (ptC va ty ck (.slice p0 n0 cap0) ⟨lk, lvk, lvi, lvt, lva, lfd⟩ ⟨rk, rvk, rvi, rvt, rva, rfd⟩ 1 tn) 65) := HB6.out.drew.next hb9
                  clear hb9 hm9
                  refine hK.out _ _ (by { exact ⟨(HCT.out _ HB9.out.bel).1, (HCT.out _ HB9.out.bel).2, HRA.out _ HB9.out⟩ }) (fun hHeld => ?_)
                  clear hK K
                  (try simp only [puts])
                  refine tkq (i := 9) (v := ?v19z2) rfl ?hy19z2 ?rest19z2; (case hy19z2 => intro w0 hSw; (try dsimp only at hSw); go_simp <;> (try (with_reducible rfl))); (try simp only [puts])
                  refine tkq (i := 10) (v := ?v20z2) rfl ?hy20z2 ?rest20z2; (case hy20z2 => intro w0 hSw; (try dsimp only at hSw); go_simp <;> (try (with_reducible rfl))); (try simp only [puts])
                  refine tkq (i := 11) (v := ?v21z2) rfl ?hy21z2 ?rest21z2; (case hy21z2 => intro w0 hSw; (try dsimp only at hSw); go_simp <;> (try (with_reducible rfl))); (try simp only [puts])
                  refine tkq (i := 12) (v := ?v22z2) rfl ?hy22z2 ?rest22z2; (case hy22z2 => intro w0 hSw; (try dsimp only at hSw); go_simp <;> (try (with_reducible rfl))); (try simp only [puts])
                  refine wpAnyH_done (by kernel_rfl) ?_ _
                  clear hHeld
                  go_wp2_with fail
                  go_ret
                  exact ⟨ret_int HR0.out.symm, HB9.out.bel⟩
                . have HNO : Hid (∀ W, Calls Tryz.prog 121 #[(cnV ck (.slice p0 n0 cap0) ⟨lk, lvk, lvi, lvt, lva, lfd⟩ ⟨rk, rvk, rvi, rvt, rva, rfd⟩)] W fun e w' => e = .returned (.bool true) ∧ Below W.heap.size W w') := fun W => by
                   have h9 := HNC.out W
                   rw [hno] at h9
                   exact h9
                  have HR0 : Hid (R = 0) := by
                   have h := HRR.out
                   rw [if_neg (by simp [wbad]), if_neg (by simp [rbad]; try omega), if_pos hno] at h
                   exact h.symm
                  clear HRR hno
                  go_wp2_with (first
                   | (go_at_call_of 17 (Value.int .i64 2); refine (HIW.out _).mono ?_; rintro e w' ⟨rfl, rfl⟩)
                   | (go_at_call_of 17 (Value.int .i64 1073741824); refine (HIN.out _).mono ?_; rintro e w' ⟨rfl, rfl⟩)
                   | (go_at_call 121; refine (HNO.out _).mono ?_; rintro e w6 ⟨rfl, hb_⟩; have HB6 : Hid _ := HB5.out.next hb_; clear hb_)
                   | (go_at_call 35; refine (HTN.out _ HT.out.bel).mono ?_; rintro e w5 ⟨rfl, hb_⟩; have HB5 : Hid _ := HT.out.next hb_; have d0_w5 : w5.cell? ⟨w.heap.size, 0, none⟩ = some (.string va) := HB5.out.c 0; have d1_w5 : w5.cell? ⟨w.heap.size, 1, none⟩ = some (.string ty) := HB5.out.c 1; have d2_w5 : w5.cell? ⟨w.heap.size, 2, none⟩ = some (.int .i64 ck) := HB5.out.c 2; have d3_w5 : w5.cell? ⟨w.heap.size, 3, none⟩ = some (.slice p0 n0 cap0) := HB5.out.c 3; have d4_w5 : w5.cell? ⟨w.heap.size, 4, none⟩ = some (.int .i64 lk) := HB5.out.c 4; have d5_w5 : w5.cell? ⟨w.heap.size, 5, none⟩ = some (.int .i64 lvk) := HB5.out.c 5; have d6_w5 : w5.cell? ⟨w.heap.size, 6, none⟩ = some (.int .i64 lvi) := HB5.out.c 6; have d7_w5 : w5.cell? ⟨w.heap.size, 7, none⟩ = some (.string lvt) := HB5.out.c 7; have d8_w5 : w5.cell? ⟨w.heap.size, 8, none⟩ = some (.string lva) := HB5.out.c 8; have d9_w5 : w5.cell? ⟨w.heap.size, 9, none⟩ = some (.string lfd) := HB5.out.c 9; have d10_w5 : w5.cell? ⟨w.heap.size, 10, none⟩ = some (.int .i64 rk) := HB5.out.c 10; have d11_w5 : w5.cell? ⟨w.heap.size, 11, none⟩ = some (.int .i64 rvk) := HB5.out.c 11; have d12_w5 : w5.cell? ⟨w.heap.size, 12, none⟩ = some (.int .i64 rvi) := HB5.out.c 12; have d13_w5 : w5.cell? ⟨w.heap.size, 13, none⟩ = some (.string rvt) := HB5.out.c 13; have d14_w5 : w5.cell? ⟨w.heap.size, 14, none⟩ = some (.string rva) := HB5.out.c 14; have d15_w5 : w5.cell? ⟨w.heap.size, 15, none⟩ = some (.string rfd) := HB5.out.c 15; have d16_w5 : w5.cell? ⟨w.heap.size, 16, none⟩ = some (.int .i64 1) := HB5.out.c 16; have d17_w5 : w5.cell? ⟨w.heap.size, 17, none⟩ = some (.int .i64 tn) := HB5.out.c 17; clear hb_))
                  go_ret
                  exact ⟨ret_int (HR0.out.symm), HB6.out.bel⟩
              . have HIN : Hid (∀ W, Calls Tryz.prog 17 #[.int .i64 tn, .int .i64 0, .int .i64 1073741824] W fun e w' => e = .returned (.bool false) ∧ w' = W) := fun W => in_any tn _ _ false (say_false hr) W
                have HR0 : Hid (R = 2) := by
                  have h := HRR.out
                  rw [if_neg (by simp [wbad]), if_pos (by simp [rbad]; omega)] at h
                  exact h.symm
                clear HRR
                go_wp2_with (first
                  | (go_at_call_of 17 (Value.int .i64 2); refine (HIW.out _).mono ?_; rintro e w' ⟨rfl, rfl⟩)
                  | (go_at_call_of 17 (Value.int .i64 1073741824); refine (HIN.out _).mono ?_; rintro e w' ⟨rfl, rfl⟩)
                  | (go_at_call 35; refine (HTN.out _ HT.out.bel).mono ?_; rintro e w5 ⟨rfl, hb_⟩; have HB5 : Hid _ := HT.out.next hb_; have d0_w5 : w5.cell? ⟨w.heap.size, 0, none⟩ = some (.string va) := HB5.out.c 0; have d1_w5 : w5.cell? ⟨w.heap.size, 1, none⟩ = some (.string ty) := HB5.out.c 1; have d2_w5 : w5.cell? ⟨w.heap.size, 2, none⟩ = some (.int .i64 ck) := HB5.out.c 2; have d3_w5 : w5.cell? ⟨w.heap.size, 3, none⟩ = some (.slice p0 n0 cap0) := HB5.out.c 3; have d4_w5 : w5.cell? ⟨w.heap.size, 4, none⟩ = some (.int .i64 lk) := HB5.out.c 4; have d5_w5 : w5.cell? ⟨w.heap.size, 5, none⟩ = some (.int .i64 lvk) := HB5.out.c 5; have d6_w5 : w5.cell? ⟨w.heap.size, 6, none⟩ = some (.int .i64 lvi) := HB5.out.c 6; have d7_w5 : w5.cell? ⟨w.heap.size, 7, none⟩ = some (.string lvt) := HB5.out.c 7; have d8_w5 : w5.cell? ⟨w.heap.size, 8, none⟩ = some (.string lva) := HB5.out.c 8; have d9_w5 : w5.cell? ⟨w.heap.size, 9, none⟩ = some (.string lfd) := HB5.out.c 9; have d10_w5 : w5.cell? ⟨w.heap.size, 10, none⟩ = some (.int .i64 rk) := HB5.out.c 10; have d11_w5 : w5.cell? ⟨w.heap.size, 11, none⟩ = some (.int .i64 rvk) := HB5.out.c 11; have d12_w5 : w5.cell? ⟨w.heap.size, 12, none⟩ = some (.int .i64 rvi) := HB5.out.c 12; have d13_w5 : w5.cell? ⟨w.heap.size, 13, none⟩ = some (.string rvt) := HB5.out.c 13; have d14_w5 : w5.cell? ⟨w.heap.size, 14, none⟩ = some (.string rva) := HB5.out.c 14; have d15_w5 : w5.cell? ⟨w.heap.size, 15, none⟩ = some (.string rfd) := HB5.out.c 15; have d16_w5 : w5.cell? ⟨w.heap.size, 16, none⟩ = some (.int .i64 1) := HB5.out.c 16; have d17_w5 : w5.cell? ⟨w.heap.size, 17, none⟩ = some (.int .i64 tn) := HB5.out.c 17; clear hb_))
                go_ret
                exact ⟨ret_int (HR0.out.symm), HB5.out.bel⟩
            . by_cases hr : 1 ≤ tn ∧ tn ≤ 120
              . have HIN : Hid (∀ W, Calls Tryz.prog 17 #[.int .i64 tn, .int .i64 1, .int .i64 120] W fun e w' => e = .returned (.bool true) ∧ w' = W) := fun W => in_any tn _ _ true (say_true hr) W
                have HRB : Hid (¬ rbad 2 tn) := by simp [rbad, Hid]; omega
                cases hno : noc ⟨ck, csb, ⟨lk, lvk, lvi, lvt, lva, lfd⟩, ⟨rk, rvk, rvi, rvt, rva, rfd⟩⟩
                . have HNO : Hid (∀ W, Calls Tryz.prog 121 #[(cnV ck (.slice p0 n0 cap0) ⟨lk, lvk, lvi, lvt, lva, lfd⟩ ⟨rk, rvk, rvi, rvt, rva, rfd⟩)] W fun e w' => e = .returned (.bool false) ∧ Below W.heap.size W w') := fun W => by
                   have h9 := HNC.out W
                   rw [hno] at h9
                   exact h9
                  have HR0 : Hid (R = CD) := by
                   have h := HRR.out
                   rw [if_neg (by simp [wbad]), if_neg (by simp [rbad]; try omega), if_neg (by rw [hno]; decide)] at h
                   exact h.symm
                  clear HRR hno
                  go_wp2_with (first
                   | (go_at_call_of 17 (Value.int .i64 2); refine (HIW.out _).mono ?_; rintro e w' ⟨rfl, rfl⟩)
                   | (go_at_call_of 17 (Value.int .i64 120); refine (HIN.out _).mono ?_; rintro e w' ⟨rfl, rfl⟩)
                   | (go_at_call 121; refine (HNO.out _).mono ?_; rintro e w6 ⟨rfl, hb_⟩; have HB6 : Hid _ := HB5.out.next hb_; clear hb_)
                   | (go_at_call 35; refine (HTN.out _ HT.out.bel).mono ?_; rintro e w5 ⟨rfl, hb_⟩; have HB5 : Hid _ := HT.out.next hb_; have d0_w5 : w5.cell? ⟨w.heap.size, 0, none⟩ = some (.string va) := HB5.out.c 0; have d1_w5 : w5.cell? ⟨w.heap.size, 1, none⟩ = some (.string ty) := HB5.out.c 1; have d2_w5 : w5.cell? ⟨w.heap.size, 2, none⟩ = some (.int .i64 ck) := HB5.out.c 2; have d3_w5 : w5.cell? ⟨w.heap.size, 3, none⟩ = some (.slice p0 n0 cap0) := HB5.out.c 3; have d4_w5 : w5.cell? ⟨w.heap.size, 4, none⟩ = some (.int .i64 lk) := HB5.out.c 4; have d5_w5 : w5.cell? ⟨w.heap.size, 5, none⟩ = some (.int .i64 lvk) := HB5.out.c 5; have d6_w5 : w5.cell? ⟨w.heap.size, 6, none⟩ = some (.int .i64 lvi) := HB5.out.c 6; have d7_w5 : w5.cell? ⟨w.heap.size, 7, none⟩ = some (.string lvt) := HB5.out.c 7; have d8_w5 : w5.cell? ⟨w.heap.size, 8, none⟩ = some (.string lva) := HB5.out.c 8; have d9_w5 : w5.cell? ⟨w.heap.size, 9, none⟩ = some (.string lfd) := HB5.out.c 9; have d10_w5 : w5.cell? ⟨w.heap.size, 10, none⟩ = some (.int .i64 rk) := HB5.out.c 10; have d11_w5 : w5.cell? ⟨w.heap.size, 11, none⟩ = some (.int .i64 rvk) := HB5.out.c 11; have d12_w5 : w5.cell? ⟨w.heap.size, 12, none⟩ = some (.int .i64 rvi) := HB5.out.c 12; have d13_w5 : w5.cell? ⟨w.heap.size, 13, none⟩ = some (.string rvt) := HB5.out.c 13; have d14_w5 : w5.cell? ⟨w.heap.size, 14, none⟩ = some (.string rva) := HB5.out.c 14; have d15_w5 : w5.cell? ⟨w.heap.size, 15, none⟩ = some (.string rfd) := HB5.out.c 15; have d16_w5 : w5.cell? ⟨w.heap.size, 16, none⟩ = some (.int .i64 2) := HB5.out.c 16; have d17_w5 : w5.cell? ⟨w.heap.size, 17, none⟩ = some (.int .i64 tn) := HB5.out.c 17; clear hb_))
                  clear d0 d0_w5 d1 d1_w5 d2 d2_w5 d3 d3_w5 d4 d4_w5 d5 d5_w5 d6 d6_w5 d7 d7_w5 d8 d8_w5 d9 d9_w5 d10 d10_w5 d11 d11_w5 d12 d12_w5 d13 d13_w5 d14 d14_w5 d15 d15_w5 d16 d16_w5 d17 d17_w5
                  refine start_n (S := (fun w' => w'.cell? ⟨gt, oft + i * 2, none⟩ = some (.string tn2) ∧ w'.cell? ⟨gt, oft + i * 2 + 1, none⟩ = some (.slice fp2 fl2 fc2) ∧ w'.rangeAt w.heap.size 2 A)) 13 #[false, false, false, false, false, false, false, false, false, false, false, false, false] rfl rfl (by kernel_rfl) (by { exact ⟨(HCT.out _ HB6.out.drew.bel).1, (HCT.out _ HB6.out.drew.bel).2, HRA.out _ HB6.out.drew⟩ }) (fun hHeld => ?_)
                  refine tkq (i := 0) (v := ?v23z3) rfl ?hy23z3 ?rest23z3; (case hy23z3 => intro w0 hSw; (try dsimp only at hSw); go_simp <;> (try (with_reducible rfl))); (try simp only [puts])
                  refine tkq (i := 1) (v := ?v24z3) rfl ?hy24z3 ?rest24z3; (case hy24z3 => intro w0 hSw; (try dsimp only at hSw); go_simp <;> (try (with_reducible rfl))); (try simp only [puts])
                  refine tkq (i := 2) (v := ?v25z3) rfl ?hy25z3 ?rest25z3; (case hy25z3 => intro w0 hSw; (try dsimp only at hSw); go_simp <;> (try (with_reducible rfl))); (try simp only [puts])
                  refine tkq (i := 3) (v := ?v26z3) rfl ?hy26z3 ?rest26z3; (case hy26z3 => intro w0 hSw; (try dsimp only at hSw); go_simp <;> (try (with_reducible rfl))); (try simp only [puts])
                  refine tkq (i := 4) (v := ?v27z3) rfl ?hy27z3 ?rest27z3; (case hy27z3 => intro w0 hSw; (try dsimp only at hSw); go_simp <;> (try (with_reducible rfl))); (try simp only [puts])
                  refine tkq (i := 5) (v := ?v28z3) rfl ?hy28z3 ?rest28z3; (case hy28z3 => intro w0 hSw; (try dsimp only at hSw); go_simp <;> (try (with_reducible rfl))); (try simp only [puts])
                  refine tkq (i := 6) (v := ?v29z3) rfl ?hy29z3 ?rest29z3; (case hy29z3 => intro w0 hSw; (try dsimp only at hSw); go_simp <;> (try (with_reducible rfl))); (try simp only [puts])
                  refine tlq (i := 7) rfl (yieldsIf_load_mid (by rfl) 63 _ rfl w.heap.size (2) (by rfl) A _ (fun _ h => h.2.2) Tryz.underlying63 rfl ZA.out) ?_
                  (try simp only [puts])
                  refine wpAnyH_ready (rs := [8]) (by kernel_rfl) (by simp) ?_
                  refine cons_mk rfl (fun K hK => ?_) AllReadyH.nil
                  refine step_call5 122 ent_cf (by rfl) _ _ _ _ _ _ (by rfl) (.slice (some ⟨gt, oft, none⟩) nt tc) (.slice kp nk kc) (.agg #[.string tn2, .slice fp2 fl2 fc2]) (.agg A.toArray) (.int .i64 1) (by rfl) (by rfl) (by rfl) (by rfl) (by rfl) _ (HCC.out _ HB6.out.bel.drew) ?_
                  rintro e w9 ⟨m9, rfl, hm9, hb9⟩
                  refine ⟨_, rfl, ?_⟩
                  have HB9 : Hid (Blk1 w w9 (ptC va ty ck (.slice p0 n0 cap0) ⟨lk, lvk, lvi, lvt, lva, lfd⟩ ⟨rk, rvk, rvi, rvt, rva, rfd⟩ 2 tn) 65) := HB6.out.drew.next hb9
                  clear hb9 hm9
                  refine hK.out _ _ (by { exact ⟨(HCT.out _ HB9.out.bel).1, (HCT.out _ HB9.out.bel).2, HRA.out _ HB9.out⟩ }) (fun hHeld => ?_)
                  clear hK K
                  (try simp only [puts])
                  refine tkq (i := 9) (v := ?v30z3) rfl ?hy30z3 ?rest30z3; (case hy30z3 => intro w0 hSw; (try dsimp only at hSw); go_simp <;> (try (with_reducible rfl))); (try simp only [puts])
                  refine tkq (i := 10) (v := ?v31z3) rfl ?hy31z3 ?rest31z3; (case hy31z3 => intro w0 hSw; (try dsimp only at hSw); go_simp <;> (try (with_reducible rfl))); (try simp only [puts])
                  refine tkq (i := 11) (v := ?v32z3) rfl ?hy32z3 ?rest32z3; (case hy32z3 => intro w0 hSw; (try dsimp only at hSw); go_simp <;> (try (with_reducible rfl))); (try simp only [puts])
                  refine tkq (i := 12) (v := ?v33z3) rfl ?hy33z3 ?rest33z3; (case hy33z3 => intro w0 hSw; (try dsimp only at hSw); go_simp <;> (try (with_reducible rfl))); (try simp only [puts])
                  refine wpAnyH_done (by kernel_rfl) ?_ _
                  clear hHeld
                  go_wp2_with fail
                  go_ret
                  exact ⟨ret_int HR0.out.symm, HB9.out.bel⟩
                . have HNO : Hid (∀ W, Calls Tryz.prog 121 #[(cnV ck (.slice p0 n0 cap0) ⟨lk, lvk, lvi, lvt, lva, lfd⟩ ⟨rk, rvk, rvi, rvt, rva, rfd⟩)] W fun e w' => e = .returned (.bool true) ∧ Below W.heap.size W w') := fun W => by
                   have h9 := HNC.out W
                   rw [hno] at h9
                   exact h9
                  have HR0 : Hid (R = 0) := by
                   have h := HRR.out
                   rw [if_neg (by simp [wbad]), if_neg (by simp [rbad]; try omega), if_pos hno] at h
                   exact h.symm
                  clear HRR hno
                  go_wp2_with (first
                   | (go_at_call_of 17 (Value.int .i64 2); refine (HIW.out _).mono ?_; rintro e w' ⟨rfl, rfl⟩)
                   | (go_at_call_of 17 (Value.int .i64 120); refine (HIN.out _).mono ?_; rintro e w' ⟨rfl, rfl⟩)
                   | (go_at_call 121; refine (HNO.out _).mono ?_; rintro e w6 ⟨rfl, hb_⟩; have HB6 : Hid _ := HB5.out.next hb_; clear hb_)
                   | (go_at_call 35; refine (HTN.out _ HT.out.bel).mono ?_; rintro e w5 ⟨rfl, hb_⟩; have HB5 : Hid _ := HT.out.next hb_; have d0_w5 : w5.cell? ⟨w.heap.size, 0, none⟩ = some (.string va) := HB5.out.c 0; have d1_w5 : w5.cell? ⟨w.heap.size, 1, none⟩ = some (.string ty) := HB5.out.c 1; have d2_w5 : w5.cell? ⟨w.heap.size, 2, none⟩ = some (.int .i64 ck) := HB5.out.c 2; have d3_w5 : w5.cell? ⟨w.heap.size, 3, none⟩ = some (.slice p0 n0 cap0) := HB5.out.c 3; have d4_w5 : w5.cell? ⟨w.heap.size, 4, none⟩ = some (.int .i64 lk) := HB5.out.c 4; have d5_w5 : w5.cell? ⟨w.heap.size, 5, none⟩ = some (.int .i64 lvk) := HB5.out.c 5; have d6_w5 : w5.cell? ⟨w.heap.size, 6, none⟩ = some (.int .i64 lvi) := HB5.out.c 6; have d7_w5 : w5.cell? ⟨w.heap.size, 7, none⟩ = some (.string lvt) := HB5.out.c 7; have d8_w5 : w5.cell? ⟨w.heap.size, 8, none⟩ = some (.string lva) := HB5.out.c 8; have d9_w5 : w5.cell? ⟨w.heap.size, 9, none⟩ = some (.string lfd) := HB5.out.c 9; have d10_w5 : w5.cell? ⟨w.heap.size, 10, none⟩ = some (.int .i64 rk) := HB5.out.c 10; have d11_w5 : w5.cell? ⟨w.heap.size, 11, none⟩ = some (.int .i64 rvk) := HB5.out.c 11; have d12_w5 : w5.cell? ⟨w.heap.size, 12, none⟩ = some (.int .i64 rvi) := HB5.out.c 12; have d13_w5 : w5.cell? ⟨w.heap.size, 13, none⟩ = some (.string rvt) := HB5.out.c 13; have d14_w5 : w5.cell? ⟨w.heap.size, 14, none⟩ = some (.string rva) := HB5.out.c 14; have d15_w5 : w5.cell? ⟨w.heap.size, 15, none⟩ = some (.string rfd) := HB5.out.c 15; have d16_w5 : w5.cell? ⟨w.heap.size, 16, none⟩ = some (.int .i64 2) := HB5.out.c 16; have d17_w5 : w5.cell? ⟨w.heap.size, 17, none⟩ = some (.int .i64 tn) := HB5.out.c 17; clear hb_))
                  go_ret
                  exact ⟨ret_int (HR0.out.symm), HB6.out.bel⟩
              . have HIN : Hid (∀ W, Calls Tryz.prog 17 #[.int .i64 tn, .int .i64 1, .int .i64 120] W fun e w' => e = .returned (.bool false) ∧ w' = W) := fun W => in_any tn _ _ false (say_false hr) W
                have HR0 : Hid (R = 2) := by
                  have h := HRR.out
                  rw [if_neg (by simp [wbad]), if_pos (by simp [rbad]; omega)] at h
                  exact h.symm
                clear HRR
                go_wp2_with (first
                  | (go_at_call_of 17 (Value.int .i64 2); refine (HIW.out _).mono ?_; rintro e w' ⟨rfl, rfl⟩)
                  | (go_at_call_of 17 (Value.int .i64 120); refine (HIN.out _).mono ?_; rintro e w' ⟨rfl, rfl⟩)
                  | (go_at_call 35; refine (HTN.out _ HT.out.bel).mono ?_; rintro e w5 ⟨rfl, hb_⟩; have HB5 : Hid _ := HT.out.next hb_; have d0_w5 : w5.cell? ⟨w.heap.size, 0, none⟩ = some (.string va) := HB5.out.c 0; have d1_w5 : w5.cell? ⟨w.heap.size, 1, none⟩ = some (.string ty) := HB5.out.c 1; have d2_w5 : w5.cell? ⟨w.heap.size, 2, none⟩ = some (.int .i64 ck) := HB5.out.c 2; have d3_w5 : w5.cell? ⟨w.heap.size, 3, none⟩ = some (.slice p0 n0 cap0) := HB5.out.c 3; have d4_w5 : w5.cell? ⟨w.heap.size, 4, none⟩ = some (.int .i64 lk) := HB5.out.c 4; have d5_w5 : w5.cell? ⟨w.heap.size, 5, none⟩ = some (.int .i64 lvk) := HB5.out.c 5; have d6_w5 : w5.cell? ⟨w.heap.size, 6, none⟩ = some (.int .i64 lvi) := HB5.out.c 6; have d7_w5 : w5.cell? ⟨w.heap.size, 7, none⟩ = some (.string lvt) := HB5.out.c 7; have d8_w5 : w5.cell? ⟨w.heap.size, 8, none⟩ = some (.string lva) := HB5.out.c 8; have d9_w5 : w5.cell? ⟨w.heap.size, 9, none⟩ = some (.string lfd) := HB5.out.c 9; have d10_w5 : w5.cell? ⟨w.heap.size, 10, none⟩ = some (.int .i64 rk) := HB5.out.c 10; have d11_w5 : w5.cell? ⟨w.heap.size, 11, none⟩ = some (.int .i64 rvk) := HB5.out.c 11; have d12_w5 : w5.cell? ⟨w.heap.size, 12, none⟩ = some (.int .i64 rvi) := HB5.out.c 12; have d13_w5 : w5.cell? ⟨w.heap.size, 13, none⟩ = some (.string rvt) := HB5.out.c 13; have d14_w5 : w5.cell? ⟨w.heap.size, 14, none⟩ = some (.string rva) := HB5.out.c 14; have d15_w5 : w5.cell? ⟨w.heap.size, 15, none⟩ = some (.string rfd) := HB5.out.c 15; have d16_w5 : w5.cell? ⟨w.heap.size, 16, none⟩ = some (.int .i64 2) := HB5.out.c 16; have d17_w5 : w5.cell? ⟨w.heap.size, 17, none⟩ = some (.int .i64 tn) := HB5.out.c 17; clear hb_))
                go_ret
                exact ⟨ret_int (HR0.out.symm), HB5.out.bel⟩
          . have HIW : Hid (∀ W, Calls Tryz.prog 17 #[.int .i64 tw, .int .i64 0, .int .i64 2] W fun e w' => e = .returned (.bool false) ∧ w' = W) := fun W => in_any tw _ _ false (say_false hw) W
            have HR0 : Hid (R = 4) := by
              have h := HRR.out
              rw [if_pos (.inl ⟨rfl, hw⟩)] at h
              exact h.symm
            clear HRR
            go_wp2_with (first
              | (go_at_call_of 17 (Value.int .i64 2); refine (HIW.out _).mono ?_; rintro e w' ⟨rfl, rfl⟩)
              | (go_at_call 35; refine (HTN.out _ HT.out.bel).mono ?_; rintro e w5 ⟨rfl, hb_⟩; have HB5 : Hid _ := HT.out.next hb_; have d0_w5 : w5.cell? ⟨w.heap.size, 0, none⟩ = some (.string va) := HB5.out.c 0; have d1_w5 : w5.cell? ⟨w.heap.size, 1, none⟩ = some (.string ty) := HB5.out.c 1; have d2_w5 : w5.cell? ⟨w.heap.size, 2, none⟩ = some (.int .i64 ck) := HB5.out.c 2; have d3_w5 : w5.cell? ⟨w.heap.size, 3, none⟩ = some (.slice p0 n0 cap0) := HB5.out.c 3; have d4_w5 : w5.cell? ⟨w.heap.size, 4, none⟩ = some (.int .i64 lk) := HB5.out.c 4; have d5_w5 : w5.cell? ⟨w.heap.size, 5, none⟩ = some (.int .i64 lvk) := HB5.out.c 5; have d6_w5 : w5.cell? ⟨w.heap.size, 6, none⟩ = some (.int .i64 lvi) := HB5.out.c 6; have d7_w5 : w5.cell? ⟨w.heap.size, 7, none⟩ = some (.string lvt) := HB5.out.c 7; have d8_w5 : w5.cell? ⟨w.heap.size, 8, none⟩ = some (.string lva) := HB5.out.c 8; have d9_w5 : w5.cell? ⟨w.heap.size, 9, none⟩ = some (.string lfd) := HB5.out.c 9; have d10_w5 : w5.cell? ⟨w.heap.size, 10, none⟩ = some (.int .i64 rk) := HB5.out.c 10; have d11_w5 : w5.cell? ⟨w.heap.size, 11, none⟩ = some (.int .i64 rvk) := HB5.out.c 11; have d12_w5 : w5.cell? ⟨w.heap.size, 12, none⟩ = some (.int .i64 rvi) := HB5.out.c 12; have d13_w5 : w5.cell? ⟨w.heap.size, 13, none⟩ = some (.string rvt) := HB5.out.c 13; have d14_w5 : w5.cell? ⟨w.heap.size, 14, none⟩ = some (.string rva) := HB5.out.c 14; have d15_w5 : w5.cell? ⟨w.heap.size, 15, none⟩ = some (.string rfd) := HB5.out.c 15; have d16_w5 : w5.cell? ⟨w.heap.size, 16, none⟩ = some (.int .i64 tw) := HB5.out.c 16; have d17_w5 : w5.cell? ⟨w.heap.size, 17, none⟩ = some (.int .i64 tn) := HB5.out.c 17; clear hb_))
            go_ret
            exact ⟨ret_int (HR0.out.symm), HB5.out.bel⟩
        . by_cases hw : tw = 0
          . subst hw
            by_cases hn0 : tn = 0
            . subst hn0
              cases hno : noc ⟨ck, csb, ⟨lk, lvk, lvi, lvt, lva, lfd⟩, ⟨rk, rvk, rvi, rvt, rva, rfd⟩⟩
              . have HNO : Hid (∀ W, Calls Tryz.prog 121 #[(cnV ck (.slice p0 n0 cap0) ⟨lk, lvk, lvi, lvt, lva, lfd⟩ ⟨rk, rvk, rvi, rvt, rva, rfd⟩)] W fun e w' => e = .returned (.bool false) ∧ Below W.heap.size W w') := fun W => by
                  have h9 := HNC.out W
                  rw [hno] at h9
                  exact h9
                have HR0 : Hid (R = CD) := by
                  have h := HRR.out
                  rw [if_neg (by simp [wbad]), if_neg (by simp [rbad]; try omega), if_neg (by rw [hno]; decide)] at h
                  exact h.symm
                clear HRR hno
                go_wp2_with (first
                  | (go_at_call_of 17 (Value.int .i64 2); refine (HIW.out _).mono ?_; rintro e w' ⟨rfl, rfl⟩)
                  | (go_at_call 121; refine (HNO.out _).mono ?_; rintro e w6 ⟨rfl, hb_⟩; have HB6 : Hid _ := HB5.out.next hb_; clear hb_)
                  | (go_at_call 35; refine (HTN.out _ HT.out.bel).mono ?_; rintro e w5 ⟨rfl, hb_⟩; have HB5 : Hid _ := HT.out.next hb_; have d0_w5 : w5.cell? ⟨w.heap.size, 0, none⟩ = some (.string va) := HB5.out.c 0; have d1_w5 : w5.cell? ⟨w.heap.size, 1, none⟩ = some (.string ty) := HB5.out.c 1; have d2_w5 : w5.cell? ⟨w.heap.size, 2, none⟩ = some (.int .i64 ck) := HB5.out.c 2; have d3_w5 : w5.cell? ⟨w.heap.size, 3, none⟩ = some (.slice p0 n0 cap0) := HB5.out.c 3; have d4_w5 : w5.cell? ⟨w.heap.size, 4, none⟩ = some (.int .i64 lk) := HB5.out.c 4; have d5_w5 : w5.cell? ⟨w.heap.size, 5, none⟩ = some (.int .i64 lvk) := HB5.out.c 5; have d6_w5 : w5.cell? ⟨w.heap.size, 6, none⟩ = some (.int .i64 lvi) := HB5.out.c 6; have d7_w5 : w5.cell? ⟨w.heap.size, 7, none⟩ = some (.string lvt) := HB5.out.c 7; have d8_w5 : w5.cell? ⟨w.heap.size, 8, none⟩ = some (.string lva) := HB5.out.c 8; have d9_w5 : w5.cell? ⟨w.heap.size, 9, none⟩ = some (.string lfd) := HB5.out.c 9; have d10_w5 : w5.cell? ⟨w.heap.size, 10, none⟩ = some (.int .i64 rk) := HB5.out.c 10; have d11_w5 : w5.cell? ⟨w.heap.size, 11, none⟩ = some (.int .i64 rvk) := HB5.out.c 11; have d12_w5 : w5.cell? ⟨w.heap.size, 12, none⟩ = some (.int .i64 rvi) := HB5.out.c 12; have d13_w5 : w5.cell? ⟨w.heap.size, 13, none⟩ = some (.string rvt) := HB5.out.c 13; have d14_w5 : w5.cell? ⟨w.heap.size, 14, none⟩ = some (.string rva) := HB5.out.c 14; have d15_w5 : w5.cell? ⟨w.heap.size, 15, none⟩ = some (.string rfd) := HB5.out.c 15; have d16_w5 : w5.cell? ⟨w.heap.size, 16, none⟩ = some (.int .i64 0) := HB5.out.c 16; have d17_w5 : w5.cell? ⟨w.heap.size, 17, none⟩ = some (.int .i64 0) := HB5.out.c 17; clear hb_))
                clear d0 d0_w5 d1 d1_w5 d2 d2_w5 d3 d3_w5 d4 d4_w5 d5 d5_w5 d6 d6_w5 d7 d7_w5 d8 d8_w5 d9 d9_w5 d10 d10_w5 d11 d11_w5 d12 d12_w5 d13 d13_w5 d14 d14_w5 d15 d15_w5 d16 d16_w5 d17 d17_w5
                refine start_n (S := (fun w' => w'.cell? ⟨gt, oft + i * 2, none⟩ = some (.string tn2) ∧ w'.cell? ⟨gt, oft + i * 2 + 1, none⟩ = some (.slice fp2 fl2 fc2) ∧ w'.rangeAt w.heap.size 2 A)) 13 #[false, false, false, false, false, false, false, false, false, false, false, false, false] rfl rfl (by kernel_rfl) (by { exact ⟨(HCT.out _ HB6.out.drew.bel).1, (HCT.out _ HB6.out.drew.bel).2, HRA.out _ HB6.out.drew⟩ }) (fun hHeld => ?_)
                refine tkq (i := 0) (v := ?v1z1q) rfl ?hy1z1q ?rest1z1q; (case hy1z1q => intro w0 hSw; (try dsimp only at hSw); go_simp <;> (try (with_reducible rfl))); (try simp only [puts])
                refine tkq (i := 1) (v := ?v2z1q) rfl ?hy2z1q ?rest2z1q; (case hy2z1q => intro w0 hSw; (try dsimp only at hSw); go_simp <;> (try (with_reducible rfl))); (try simp only [puts])
                refine tkq (i := 2) (v := ?v3z1q) rfl ?hy3z1q ?rest3z1q; (case hy3z1q => intro w0 hSw; (try dsimp only at hSw); go_simp <;> (try (with_reducible rfl))); (try simp only [puts])
                refine tkq (i := 3) (v := ?v4z1q) rfl ?hy4z1q ?rest4z1q; (case hy4z1q => intro w0 hSw; (try dsimp only at hSw); go_simp <;> (try (with_reducible rfl))); (try simp only [puts])
                refine tkq (i := 4) (v := ?v5z1q) rfl ?hy5z1q ?rest5z1q; (case hy5z1q => intro w0 hSw; (try dsimp only at hSw); go_simp <;> (try (with_reducible rfl))); (try simp only [puts])
                refine tkq (i := 5) (v := ?v6z1q) rfl ?hy6z1q ?rest6z1q; (case hy6z1q => intro w0 hSw; (try dsimp only at hSw); go_simp <;> (try (with_reducible rfl))); (try simp only [puts])
                refine tkq (i := 6) (v := ?v7z1q) rfl ?hy7z1q ?rest7z1q; (case hy7z1q => intro w0 hSw; (try dsimp only at hSw); go_simp <;> (try (with_reducible rfl))); (try simp only [puts])
                refine tlq (i := 7) rfl (yieldsIf_load_mid (by rfl) 63 _ rfl w.heap.size (2) (by rfl) A _ (fun _ h => h.2.2) Tryz.underlying63 rfl ZA.out) ?_
                (try simp only [puts])
                refine wpAnyH_ready (rs := [8]) (by kernel_rfl) (by simp) ?_
                refine cons_mk rfl (fun K hK => ?_) AllReadyH.nil
                refine step_call5 122 ent_cf (by rfl) _ _ _ _ _ _ (by rfl) (.slice (some ⟨gt, oft, none⟩) nt tc) (.slice kp nk kc) (.agg #[.string tn2, .slice fp2 fl2 fc2]) (.agg A.toArray) (.int .i64 1) (by rfl) (by rfl) (by rfl) (by rfl) (by rfl) _ (HCC.out _ HB6.out.bel.drew) ?_
                rintro e w9 ⟨m9, rfl, hm9, hb9⟩
                refine ⟨_, rfl, ?_⟩
                have HB9 : Hid (Blk1 w w9 (ptC va ty ck (.slice p0 n0 cap0) ⟨lk, lvk, lvi, lvt, lva, lfd⟩ ⟨rk, rvk, rvi, rvt, rva, rfd⟩ 0 0) 65) := HB6.out.drew.next hb9
                clear hb9 hm9
                refine hK.out _ _ (by { exact ⟨(HCT.out _ HB9.out.bel).1, (HCT.out _ HB9.out.bel).2, HRA.out _ HB9.out⟩ }) (fun hHeld => ?_)
                clear hK K
                (try simp only [puts])
                refine tkq (i := 9) (v := ?v8z1q) rfl ?hy8z1q ?rest8z1q; (case hy8z1q => intro w0 hSw; (try dsimp only at hSw); go_simp <;> (try (with_reducible rfl))); (try simp only [puts])
                refine tkq (i := 10) (v := ?v9z1q) rfl ?hy9z1q ?rest9z1q; (case hy9z1q => intro w0 hSw; (try dsimp only at hSw); go_simp <;> (try (with_reducible rfl))); (try simp only [puts])
                refine tkq (i := 11) (v := ?v10z1q) rfl ?hy10z1q ?rest10z1q; (case hy10z1q => intro w0 hSw; (try dsimp only at hSw); go_simp <;> (try (with_reducible rfl))); (try simp only [puts])
                refine tkq (i := 12) (v := ?v11z1q) rfl ?hy11z1q ?rest11z1q; (case hy11z1q => intro w0 hSw; (try dsimp only at hSw); go_simp <;> (try (with_reducible rfl))); (try simp only [puts])
                refine wpAnyH_done (by kernel_rfl) ?_ _
                clear hHeld
                go_wp2_with fail
                go_ret
                exact ⟨ret_int HR0.out.symm, HB9.out.bel⟩
              . have HNO : Hid (∀ W, Calls Tryz.prog 121 #[(cnV ck (.slice p0 n0 cap0) ⟨lk, lvk, lvi, lvt, lva, lfd⟩ ⟨rk, rvk, rvi, rvt, rva, rfd⟩)] W fun e w' => e = .returned (.bool true) ∧ Below W.heap.size W w') := fun W => by
                  have h9 := HNC.out W
                  rw [hno] at h9
                  exact h9
                have HR0 : Hid (R = 0) := by
                  have h := HRR.out
                  rw [if_neg (by simp [wbad]), if_neg (by simp [rbad]; try omega), if_pos hno] at h
                  exact h.symm
                clear HRR hno
                go_wp2_with (first
                  | (go_at_call_of 17 (Value.int .i64 2); refine (HIW.out _).mono ?_; rintro e w' ⟨rfl, rfl⟩)
                  | (go_at_call 121; refine (HNO.out _).mono ?_; rintro e w6 ⟨rfl, hb_⟩; have HB6 : Hid _ := HB5.out.next hb_; clear hb_)
                  | (go_at_call 35; refine (HTN.out _ HT.out.bel).mono ?_; rintro e w5 ⟨rfl, hb_⟩; have HB5 : Hid _ := HT.out.next hb_; have d0_w5 : w5.cell? ⟨w.heap.size, 0, none⟩ = some (.string va) := HB5.out.c 0; have d1_w5 : w5.cell? ⟨w.heap.size, 1, none⟩ = some (.string ty) := HB5.out.c 1; have d2_w5 : w5.cell? ⟨w.heap.size, 2, none⟩ = some (.int .i64 ck) := HB5.out.c 2; have d3_w5 : w5.cell? ⟨w.heap.size, 3, none⟩ = some (.slice p0 n0 cap0) := HB5.out.c 3; have d4_w5 : w5.cell? ⟨w.heap.size, 4, none⟩ = some (.int .i64 lk) := HB5.out.c 4; have d5_w5 : w5.cell? ⟨w.heap.size, 5, none⟩ = some (.int .i64 lvk) := HB5.out.c 5; have d6_w5 : w5.cell? ⟨w.heap.size, 6, none⟩ = some (.int .i64 lvi) := HB5.out.c 6; have d7_w5 : w5.cell? ⟨w.heap.size, 7, none⟩ = some (.string lvt) := HB5.out.c 7; have d8_w5 : w5.cell? ⟨w.heap.size, 8, none⟩ = some (.string lva) := HB5.out.c 8; have d9_w5 : w5.cell? ⟨w.heap.size, 9, none⟩ = some (.string lfd) := HB5.out.c 9; have d10_w5 : w5.cell? ⟨w.heap.size, 10, none⟩ = some (.int .i64 rk) := HB5.out.c 10; have d11_w5 : w5.cell? ⟨w.heap.size, 11, none⟩ = some (.int .i64 rvk) := HB5.out.c 11; have d12_w5 : w5.cell? ⟨w.heap.size, 12, none⟩ = some (.int .i64 rvi) := HB5.out.c 12; have d13_w5 : w5.cell? ⟨w.heap.size, 13, none⟩ = some (.string rvt) := HB5.out.c 13; have d14_w5 : w5.cell? ⟨w.heap.size, 14, none⟩ = some (.string rva) := HB5.out.c 14; have d15_w5 : w5.cell? ⟨w.heap.size, 15, none⟩ = some (.string rfd) := HB5.out.c 15; have d16_w5 : w5.cell? ⟨w.heap.size, 16, none⟩ = some (.int .i64 0) := HB5.out.c 16; have d17_w5 : w5.cell? ⟨w.heap.size, 17, none⟩ = some (.int .i64 0) := HB5.out.c 17; clear hb_))
                go_ret
                exact ⟨ret_int (HR0.out.symm), HB6.out.bel⟩
            . have b1 : (tn != 0) = true := by simpa using hn0
              have b2 : (tn == 0) = false := by simpa using hn0
              have HR0 : Hid (R = 4) := by
                have h := HRR.out
                rw [if_pos (.inr (.inr (.inr ⟨rfl, hn0⟩)))] at h
                exact h.symm
              clear HRR
              go_wp2_with (first
                | (go_at_call_of 17 (Value.int .i64 2); refine (HIW.out _).mono ?_; rintro e w' ⟨rfl, rfl⟩)
                | (go_at_call 35; refine (HTN.out _ HT.out.bel).mono ?_; rintro e w5 ⟨rfl, hb_⟩; have HB5 : Hid _ := HT.out.next hb_; have d0_w5 : w5.cell? ⟨w.heap.size, 0, none⟩ = some (.string va) := HB5.out.c 0; have d1_w5 : w5.cell? ⟨w.heap.size, 1, none⟩ = some (.string ty) := HB5.out.c 1; have d2_w5 : w5.cell? ⟨w.heap.size, 2, none⟩ = some (.int .i64 ck) := HB5.out.c 2; have d3_w5 : w5.cell? ⟨w.heap.size, 3, none⟩ = some (.slice p0 n0 cap0) := HB5.out.c 3; have d4_w5 : w5.cell? ⟨w.heap.size, 4, none⟩ = some (.int .i64 lk) := HB5.out.c 4; have d5_w5 : w5.cell? ⟨w.heap.size, 5, none⟩ = some (.int .i64 lvk) := HB5.out.c 5; have d6_w5 : w5.cell? ⟨w.heap.size, 6, none⟩ = some (.int .i64 lvi) := HB5.out.c 6; have d7_w5 : w5.cell? ⟨w.heap.size, 7, none⟩ = some (.string lvt) := HB5.out.c 7; have d8_w5 : w5.cell? ⟨w.heap.size, 8, none⟩ = some (.string lva) := HB5.out.c 8; have d9_w5 : w5.cell? ⟨w.heap.size, 9, none⟩ = some (.string lfd) := HB5.out.c 9; have d10_w5 : w5.cell? ⟨w.heap.size, 10, none⟩ = some (.int .i64 rk) := HB5.out.c 10; have d11_w5 : w5.cell? ⟨w.heap.size, 11, none⟩ = some (.int .i64 rvk) := HB5.out.c 11; have d12_w5 : w5.cell? ⟨w.heap.size, 12, none⟩ = some (.int .i64 rvi) := HB5.out.c 12; have d13_w5 : w5.cell? ⟨w.heap.size, 13, none⟩ = some (.string rvt) := HB5.out.c 13; have d14_w5 : w5.cell? ⟨w.heap.size, 14, none⟩ = some (.string rva) := HB5.out.c 14; have d15_w5 : w5.cell? ⟨w.heap.size, 15, none⟩ = some (.string rfd) := HB5.out.c 15; have d16_w5 : w5.cell? ⟨w.heap.size, 16, none⟩ = some (.int .i64 0) := HB5.out.c 16; have d17_w5 : w5.cell? ⟨w.heap.size, 17, none⟩ = some (.int .i64 tn) := HB5.out.c 17; clear hb_))
              go_ret
              exact ⟨ret_int (HR0.out.symm), HB5.out.bel⟩
          . have b1 : (tw != 0) = true := by simpa using hw
            have b2 : (tw == 0) = false := by simpa using hw
            have HR0 : Hid (R = 4) := by
              have h := HRR.out
              rw [if_pos (.inr (.inl ⟨rfl, hw⟩))] at h
              exact h.symm
            clear HRR
            go_wp2_with (first
              | (go_at_call 35; refine (HTN.out _ HT.out.bel).mono ?_; rintro e w5 ⟨rfl, hb_⟩; have HB5 : Hid _ := HT.out.next hb_; have d0_w5 : w5.cell? ⟨w.heap.size, 0, none⟩ = some (.string va) := HB5.out.c 0; have d1_w5 : w5.cell? ⟨w.heap.size, 1, none⟩ = some (.string ty) := HB5.out.c 1; have d2_w5 : w5.cell? ⟨w.heap.size, 2, none⟩ = some (.int .i64 ck) := HB5.out.c 2; have d3_w5 : w5.cell? ⟨w.heap.size, 3, none⟩ = some (.slice p0 n0 cap0) := HB5.out.c 3; have d4_w5 : w5.cell? ⟨w.heap.size, 4, none⟩ = some (.int .i64 lk) := HB5.out.c 4; have d5_w5 : w5.cell? ⟨w.heap.size, 5, none⟩ = some (.int .i64 lvk) := HB5.out.c 5; have d6_w5 : w5.cell? ⟨w.heap.size, 6, none⟩ = some (.int .i64 lvi) := HB5.out.c 6; have d7_w5 : w5.cell? ⟨w.heap.size, 7, none⟩ = some (.string lvt) := HB5.out.c 7; have d8_w5 : w5.cell? ⟨w.heap.size, 8, none⟩ = some (.string lva) := HB5.out.c 8; have d9_w5 : w5.cell? ⟨w.heap.size, 9, none⟩ = some (.string lfd) := HB5.out.c 9; have d10_w5 : w5.cell? ⟨w.heap.size, 10, none⟩ = some (.int .i64 rk) := HB5.out.c 10; have d11_w5 : w5.cell? ⟨w.heap.size, 11, none⟩ = some (.int .i64 rvk) := HB5.out.c 11; have d12_w5 : w5.cell? ⟨w.heap.size, 12, none⟩ = some (.int .i64 rvi) := HB5.out.c 12; have d13_w5 : w5.cell? ⟨w.heap.size, 13, none⟩ = some (.string rvt) := HB5.out.c 13; have d14_w5 : w5.cell? ⟨w.heap.size, 14, none⟩ = some (.string rva) := HB5.out.c 14; have d15_w5 : w5.cell? ⟨w.heap.size, 15, none⟩ = some (.string rfd) := HB5.out.c 15; have d16_w5 : w5.cell? ⟨w.heap.size, 16, none⟩ = some (.int .i64 tw) := HB5.out.c 16; have d17_w5 : w5.cell? ⟨w.heap.size, 17, none⟩ = some (.int .i64 tn) := HB5.out.c 17; clear hb_))
            go_ret
            exact ⟨ret_int (HR0.out.symm), HB5.out.bel⟩
        . by_cases hw : tw = 1
          . subst hw
            by_cases hr : 0 ≤ tn ∧ tn ≤ 1073741824
            . have HIN : Hid (∀ W, Calls Tryz.prog 17 #[.int .i64 tn, .int .i64 0, .int .i64 1073741824] W fun e w' => e = .returned (.bool true) ∧ w' = W) := fun W => in_any tn _ _ true (say_true hr) W
              have HRB : Hid (¬ rbad 1 tn) := by simp [rbad, Hid]; omega
              cases hno : noc ⟨ck, csb, ⟨lk, lvk, lvi, lvt, lva, lfd⟩, ⟨rk, rvk, rvi, rvt, rva, rfd⟩⟩
              . have HNO : Hid (∀ W, Calls Tryz.prog 121 #[(cnV ck (.slice p0 n0 cap0) ⟨lk, lvk, lvi, lvt, lva, lfd⟩ ⟨rk, rvk, rvi, rvt, rva, rfd⟩)] W fun e w' => e = .returned (.bool false) ∧ Below W.heap.size W w') := fun W => by
                  have h9 := HNC.out W
                  rw [hno] at h9
                  exact h9
                have HR0 : Hid (R = CD) := by
                  have h := HRR.out
                  rw [if_neg (by simp [wbad]), if_neg (by simp [rbad]; try omega), if_neg (by rw [hno]; decide)] at h
                  exact h.symm
                clear HRR hno
                go_wp2_with (first
                  | (go_at_call_of 17 (Value.int .i64 1073741824); refine (HIN.out _).mono ?_; rintro e w' ⟨rfl, rfl⟩)
                  | (go_at_call 121; refine (HNO.out _).mono ?_; rintro e w6 ⟨rfl, hb_⟩; have HB6 : Hid _ := HB5.out.next hb_; clear hb_)
                  | (go_at_call 35; refine (HTN.out _ HT.out.bel).mono ?_; rintro e w5 ⟨rfl, hb_⟩; have HB5 : Hid _ := HT.out.next hb_; have d0_w5 : w5.cell? ⟨w.heap.size, 0, none⟩ = some (.string va) := HB5.out.c 0; have d1_w5 : w5.cell? ⟨w.heap.size, 1, none⟩ = some (.string ty) := HB5.out.c 1; have d2_w5 : w5.cell? ⟨w.heap.size, 2, none⟩ = some (.int .i64 ck) := HB5.out.c 2; have d3_w5 : w5.cell? ⟨w.heap.size, 3, none⟩ = some (.slice p0 n0 cap0) := HB5.out.c 3; have d4_w5 : w5.cell? ⟨w.heap.size, 4, none⟩ = some (.int .i64 lk) := HB5.out.c 4; have d5_w5 : w5.cell? ⟨w.heap.size, 5, none⟩ = some (.int .i64 lvk) := HB5.out.c 5; have d6_w5 : w5.cell? ⟨w.heap.size, 6, none⟩ = some (.int .i64 lvi) := HB5.out.c 6; have d7_w5 : w5.cell? ⟨w.heap.size, 7, none⟩ = some (.string lvt) := HB5.out.c 7; have d8_w5 : w5.cell? ⟨w.heap.size, 8, none⟩ = some (.string lva) := HB5.out.c 8; have d9_w5 : w5.cell? ⟨w.heap.size, 9, none⟩ = some (.string lfd) := HB5.out.c 9; have d10_w5 : w5.cell? ⟨w.heap.size, 10, none⟩ = some (.int .i64 rk) := HB5.out.c 10; have d11_w5 : w5.cell? ⟨w.heap.size, 11, none⟩ = some (.int .i64 rvk) := HB5.out.c 11; have d12_w5 : w5.cell? ⟨w.heap.size, 12, none⟩ = some (.int .i64 rvi) := HB5.out.c 12; have d13_w5 : w5.cell? ⟨w.heap.size, 13, none⟩ = some (.string rvt) := HB5.out.c 13; have d14_w5 : w5.cell? ⟨w.heap.size, 14, none⟩ = some (.string rva) := HB5.out.c 14; have d15_w5 : w5.cell? ⟨w.heap.size, 15, none⟩ = some (.string rfd) := HB5.out.c 15; have d16_w5 : w5.cell? ⟨w.heap.size, 16, none⟩ = some (.int .i64 1) := HB5.out.c 16; have d17_w5 : w5.cell? ⟨w.heap.size, 17, none⟩ = some (.int .i64 tn) := HB5.out.c 17; clear hb_))
                clear d0 d0_w5 d1 d1_w5 d2 d2_w5 d3 d3_w5 d4 d4_w5 d5 d5_w5 d6 d6_w5 d7 d7_w5 d8 d8_w5 d9 d9_w5 d10 d10_w5 d11 d11_w5 d12 d12_w5 d13 d13_w5 d14 d14_w5 d15 d15_w5 d16 d16_w5 d17 d17_w5
                refine start_n (S := (fun w' => w'.cell? ⟨gt, oft + i * 2, none⟩ = some (.string tn2) ∧ w'.cell? ⟨gt, oft + i * 2 + 1, none⟩ = some (.slice fp2 fl2 fc2) ∧ w'.rangeAt w.heap.size 2 A)) 13 #[false, false, false, false, false, false, false, false, false, false, false, false, false] rfl rfl (by kernel_rfl) (by { exact ⟨(HCT.out _ HB6.out.drew.bel).1, (HCT.out _ HB6.out.drew.bel).2, HRA.out _ HB6.out.drew⟩ }) (fun hHeld => ?_)
                refine tkq (i := 0) (v := ?v34z4) rfl ?hy34z4 ?rest34z4; (case hy34z4 => intro w0 hSw; (try dsimp only at hSw); go_simp <;> (try (with_reducible rfl))); (try simp only [puts])
                refine tkq (i := 1) (v := ?v35z4) rfl ?hy35z4 ?rest35z4; (case hy35z4 => intro w0 hSw; (try dsimp only at hSw); go_simp <;> (try (with_reducible rfl))); (try simp only [puts])
                refine tkq (i := 2) (v := ?v36z4) rfl ?hy36z4 ?rest36z4; (case hy36z4 => intro w0 hSw; (try dsimp only at hSw); go_simp <;> (try (with_reducible rfl))); (try simp only [puts])
                refine tkq (i := 3) (v := ?v37z4) rfl ?hy37z4 ?rest37z4; (case hy37z4 => intro w0 hSw; (try dsimp only at hSw); go_simp <;> (try (with_reducible rfl))); (try simp only [puts])
                refine tkq (i := 4) (v := ?v38z4) rfl ?hy38z4 ?rest38z4; (case hy38z4 => intro w0 hSw; (try dsimp only at hSw); go_simp <;> (try (with_reducible rfl))); (try simp only [puts])
                refine tkq (i := 5) (v := ?v39z4) rfl ?hy39z4 ?rest39z4; (case hy39z4 => intro w0 hSw; (try dsimp only at hSw); go_simp <;> (try (with_reducible rfl))); (try simp only [puts])
                refine tkq (i := 6) (v := ?v40z4) rfl ?hy40z4 ?rest40z4; (case hy40z4 => intro w0 hSw; (try dsimp only at hSw); go_simp <;> (try (with_reducible rfl))); (try simp only [puts])
                refine tlq (i := 7) rfl (yieldsIf_load_mid (by rfl) 63 _ rfl w.heap.size (2) (by rfl) A _ (fun _ h => h.2.2) Tryz.underlying63 rfl ZA.out) ?_
                (try simp only [puts])
                refine wpAnyH_ready (rs := [8]) (by kernel_rfl) (by simp) ?_
                refine cons_mk rfl (fun K hK => ?_) AllReadyH.nil
                refine step_call5 122 ent_cf (by rfl) _ _ _ _ _ _ (by rfl) (.slice (some ⟨gt, oft, none⟩) nt tc) (.slice kp nk kc) (.agg #[.string tn2, .slice fp2 fl2 fc2]) (.agg A.toArray) (.int .i64 1) (by rfl) (by rfl) (by rfl) (by rfl) (by rfl) _ (HCC.out _ HB6.out.bel.drew) ?_
                rintro e w9 ⟨m9, rfl, hm9, hb9⟩
                refine ⟨_, rfl, ?_⟩
                have HB9 : Hid (Blk1 w w9 (ptC va ty ck (.slice p0 n0 cap0) ⟨lk, lvk, lvi, lvt, lva, lfd⟩ ⟨rk, rvk, rvi, rvt, rva, rfd⟩ 1 tn) 65) := HB6.out.drew.next hb9
                clear hb9 hm9
                refine hK.out _ _ (by { exact ⟨(HCT.out _ HB9.out.bel).1, (HCT.out _ HB9.out.bel).2, HRA.out _ HB9.out⟩ }) (fun hHeld => ?_)
                clear hK K
                (try simp only [puts])
                refine tkq (i := 9) (v := ?v41z4) rfl ?hy41z4 ?rest41z4; (case hy41z4 => intro w0 hSw; (try dsimp only at hSw); go_simp <;> (try (with_reducible rfl))); (try simp only [puts])
                refine tkq (i := 10) (v := ?v42z4) rfl ?hy42z4 ?rest42z4; (case hy42z4 => intro w0 hSw; (try dsimp only at hSw); go_simp <;> (try (with_reducible rfl))); (try simp only [puts])
                refine tkq (i := 11) (v := ?v43z4) rfl ?hy43z4 ?rest43z4; (case hy43z4 => intro w0 hSw; (try dsimp only at hSw); go_simp <;> (try (with_reducible rfl))); (try simp only [puts])
                refine tkq (i := 12) (v := ?v44z4) rfl ?hy44z4 ?rest44z4; (case hy44z4 => intro w0 hSw; (try dsimp only at hSw); go_simp <;> (try (with_reducible rfl))); (try simp only [puts])
                refine wpAnyH_done (by kernel_rfl) ?_ _
                clear hHeld
                go_wp2_with fail
                go_ret
                exact ⟨ret_int HR0.out.symm, HB9.out.bel⟩
              . have HNO : Hid (∀ W, Calls Tryz.prog 121 #[(cnV ck (.slice p0 n0 cap0) ⟨lk, lvk, lvi, lvt, lva, lfd⟩ ⟨rk, rvk, rvi, rvt, rva, rfd⟩)] W fun e w' => e = .returned (.bool true) ∧ Below W.heap.size W w') := fun W => by
                  have h9 := HNC.out W
                  rw [hno] at h9
                  exact h9
                have HR0 : Hid (R = 0) := by
                  have h := HRR.out
                  rw [if_neg (by simp [wbad]), if_neg (by simp [rbad]; try omega), if_pos hno] at h
                  exact h.symm
                clear HRR hno
                go_wp2_with (first
                  | (go_at_call_of 17 (Value.int .i64 1073741824); refine (HIN.out _).mono ?_; rintro e w' ⟨rfl, rfl⟩)
                  | (go_at_call 121; refine (HNO.out _).mono ?_; rintro e w6 ⟨rfl, hb_⟩; have HB6 : Hid _ := HB5.out.next hb_; clear hb_)
                  | (go_at_call 35; refine (HTN.out _ HT.out.bel).mono ?_; rintro e w5 ⟨rfl, hb_⟩; have HB5 : Hid _ := HT.out.next hb_; have d0_w5 : w5.cell? ⟨w.heap.size, 0, none⟩ = some (.string va) := HB5.out.c 0; have d1_w5 : w5.cell? ⟨w.heap.size, 1, none⟩ = some (.string ty) := HB5.out.c 1; have d2_w5 : w5.cell? ⟨w.heap.size, 2, none⟩ = some (.int .i64 ck) := HB5.out.c 2; have d3_w5 : w5.cell? ⟨w.heap.size, 3, none⟩ = some (.slice p0 n0 cap0) := HB5.out.c 3; have d4_w5 : w5.cell? ⟨w.heap.size, 4, none⟩ = some (.int .i64 lk) := HB5.out.c 4; have d5_w5 : w5.cell? ⟨w.heap.size, 5, none⟩ = some (.int .i64 lvk) := HB5.out.c 5; have d6_w5 : w5.cell? ⟨w.heap.size, 6, none⟩ = some (.int .i64 lvi) := HB5.out.c 6; have d7_w5 : w5.cell? ⟨w.heap.size, 7, none⟩ = some (.string lvt) := HB5.out.c 7; have d8_w5 : w5.cell? ⟨w.heap.size, 8, none⟩ = some (.string lva) := HB5.out.c 8; have d9_w5 : w5.cell? ⟨w.heap.size, 9, none⟩ = some (.string lfd) := HB5.out.c 9; have d10_w5 : w5.cell? ⟨w.heap.size, 10, none⟩ = some (.int .i64 rk) := HB5.out.c 10; have d11_w5 : w5.cell? ⟨w.heap.size, 11, none⟩ = some (.int .i64 rvk) := HB5.out.c 11; have d12_w5 : w5.cell? ⟨w.heap.size, 12, none⟩ = some (.int .i64 rvi) := HB5.out.c 12; have d13_w5 : w5.cell? ⟨w.heap.size, 13, none⟩ = some (.string rvt) := HB5.out.c 13; have d14_w5 : w5.cell? ⟨w.heap.size, 14, none⟩ = some (.string rva) := HB5.out.c 14; have d15_w5 : w5.cell? ⟨w.heap.size, 15, none⟩ = some (.string rfd) := HB5.out.c 15; have d16_w5 : w5.cell? ⟨w.heap.size, 16, none⟩ = some (.int .i64 1) := HB5.out.c 16; have d17_w5 : w5.cell? ⟨w.heap.size, 17, none⟩ = some (.int .i64 tn) := HB5.out.c 17; clear hb_))
                go_ret
                exact ⟨ret_int (HR0.out.symm), HB6.out.bel⟩
            . have HIN : Hid (∀ W, Calls Tryz.prog 17 #[.int .i64 tn, .int .i64 0, .int .i64 1073741824] W fun e w' => e = .returned (.bool false) ∧ w' = W) := fun W => in_any tn _ _ false (say_false hr) W
              have HR0 : Hid (R = 2) := by
                have h := HRR.out
                rw [if_neg (by simp [wbad]), if_pos (by simp [rbad]; omega)] at h
                exact h.symm
              clear HRR
              go_wp2_with (first
                | (go_at_call_of 17 (Value.int .i64 1073741824); refine (HIN.out _).mono ?_; rintro e w' ⟨rfl, rfl⟩)
                | (go_at_call 35; refine (HTN.out _ HT.out.bel).mono ?_; rintro e w5 ⟨rfl, hb_⟩; have HB5 : Hid _ := HT.out.next hb_; have d0_w5 : w5.cell? ⟨w.heap.size, 0, none⟩ = some (.string va) := HB5.out.c 0; have d1_w5 : w5.cell? ⟨w.heap.size, 1, none⟩ = some (.string ty) := HB5.out.c 1; have d2_w5 : w5.cell? ⟨w.heap.size, 2, none⟩ = some (.int .i64 ck) := HB5.out.c 2; have d3_w5 : w5.cell? ⟨w.heap.size, 3, none⟩ = some (.slice p0 n0 cap0) := HB5.out.c 3; have d4_w5 : w5.cell? ⟨w.heap.size, 4, none⟩ = some (.int .i64 lk) := HB5.out.c 4; have d5_w5 : w5.cell? ⟨w.heap.size, 5, none⟩ = some (.int .i64 lvk) := HB5.out.c 5; have d6_w5 : w5.cell? ⟨w.heap.size, 6, none⟩ = some (.int .i64 lvi) := HB5.out.c 6; have d7_w5 : w5.cell? ⟨w.heap.size, 7, none⟩ = some (.string lvt) := HB5.out.c 7; have d8_w5 : w5.cell? ⟨w.heap.size, 8, none⟩ = some (.string lva) := HB5.out.c 8; have d9_w5 : w5.cell? ⟨w.heap.size, 9, none⟩ = some (.string lfd) := HB5.out.c 9; have d10_w5 : w5.cell? ⟨w.heap.size, 10, none⟩ = some (.int .i64 rk) := HB5.out.c 10; have d11_w5 : w5.cell? ⟨w.heap.size, 11, none⟩ = some (.int .i64 rvk) := HB5.out.c 11; have d12_w5 : w5.cell? ⟨w.heap.size, 12, none⟩ = some (.int .i64 rvi) := HB5.out.c 12; have d13_w5 : w5.cell? ⟨w.heap.size, 13, none⟩ = some (.string rvt) := HB5.out.c 13; have d14_w5 : w5.cell? ⟨w.heap.size, 14, none⟩ = some (.string rva) := HB5.out.c 14; have d15_w5 : w5.cell? ⟨w.heap.size, 15, none⟩ = some (.string rfd) := HB5.out.c 15; have d16_w5 : w5.cell? ⟨w.heap.size, 16, none⟩ = some (.int .i64 1) := HB5.out.c 16; have d17_w5 : w5.cell? ⟨w.heap.size, 17, none⟩ = some (.int .i64 tn) := HB5.out.c 17; clear hb_))
              go_ret
              exact ⟨ret_int (HR0.out.symm), HB5.out.bel⟩
          . have b1 : (tw != 1) = true := by simpa using hw
            have b2 : (tw == 1) = false := by simpa using hw
            have HR0 : Hid (R = 4) := by
              have h := HRR.out
              rw [if_pos (.inr (.inr (.inl ⟨rfl, hw⟩)))] at h
              exact h.symm
            clear HRR
            go_wp2_with (first
              | (go_at_call 35; refine (HTN.out _ HT.out.bel).mono ?_; rintro e w5 ⟨rfl, hb_⟩; have HB5 : Hid _ := HT.out.next hb_; have d0_w5 : w5.cell? ⟨w.heap.size, 0, none⟩ = some (.string va) := HB5.out.c 0; have d1_w5 : w5.cell? ⟨w.heap.size, 1, none⟩ = some (.string ty) := HB5.out.c 1; have d2_w5 : w5.cell? ⟨w.heap.size, 2, none⟩ = some (.int .i64 ck) := HB5.out.c 2; have d3_w5 : w5.cell? ⟨w.heap.size, 3, none⟩ = some (.slice p0 n0 cap0) := HB5.out.c 3; have d4_w5 : w5.cell? ⟨w.heap.size, 4, none⟩ = some (.int .i64 lk) := HB5.out.c 4; have d5_w5 : w5.cell? ⟨w.heap.size, 5, none⟩ = some (.int .i64 lvk) := HB5.out.c 5; have d6_w5 : w5.cell? ⟨w.heap.size, 6, none⟩ = some (.int .i64 lvi) := HB5.out.c 6; have d7_w5 : w5.cell? ⟨w.heap.size, 7, none⟩ = some (.string lvt) := HB5.out.c 7; have d8_w5 : w5.cell? ⟨w.heap.size, 8, none⟩ = some (.string lva) := HB5.out.c 8; have d9_w5 : w5.cell? ⟨w.heap.size, 9, none⟩ = some (.string lfd) := HB5.out.c 9; have d10_w5 : w5.cell? ⟨w.heap.size, 10, none⟩ = some (.int .i64 rk) := HB5.out.c 10; have d11_w5 : w5.cell? ⟨w.heap.size, 11, none⟩ = some (.int .i64 rvk) := HB5.out.c 11; have d12_w5 : w5.cell? ⟨w.heap.size, 12, none⟩ = some (.int .i64 rvi) := HB5.out.c 12; have d13_w5 : w5.cell? ⟨w.heap.size, 13, none⟩ = some (.string rvt) := HB5.out.c 13; have d14_w5 : w5.cell? ⟨w.heap.size, 14, none⟩ = some (.string rva) := HB5.out.c 14; have d15_w5 : w5.cell? ⟨w.heap.size, 15, none⟩ = some (.string rfd) := HB5.out.c 15; have d16_w5 : w5.cell? ⟨w.heap.size, 16, none⟩ = some (.int .i64 tw) := HB5.out.c 16; have d17_w5 : w5.cell? ⟨w.heap.size, 17, none⟩ = some (.int .i64 tn) := HB5.out.c 17; clear hb_))
            go_ret
            exact ⟨ret_int (HR0.out.symm), HB5.out.bel⟩
 . rw [if_pos hr0]
   have b1 : (rn != 0) = true := by simpa using hr0
   have b2 : (rn == 0) = false := by simpa using hr0
   go_enter Tryz.func73, Tryz.ntmps73
   go_wp2_with (go_at_call 72; refine (HFN.out _).mono ?_; rintro e w2 ⟨rfl, hb_⟩; have HB2 : Hid _ := HB0.out.next hb_; clear hb_)
   go_ret
   exact ⟨rfl, HB2.out.bel⟩
end Go.Proofs.YthndlfdbmljkhaaGreatDoor.Chk
