/-
  Fit. What the document says of values of a type. Events: CheckEvent, and what the document says of an event. What the document says of an event. Events that are only read; when conditions hold, in plain words. The value that a side stands for, by the program.
-/
import Derived.Test.YtnlmknbhppdliaaGreatDoorV4I
import Derived.Test.YtnlmknbhppdliaaGreatDoorDg
set_option maxHeartbeats 64000000
namespace Go.Proofs.YtnlmknbhppdliaaGreatDoor.V4
open Go.ChangeShapes Go.WideShapes Go.ChangeAt Go.RowKit
set_option linter.unusedVariables false
set_option linter.unusedSimpArgs false
set_option maxRecDepth 20000
theorem kat_at {l : List Vl} {fs : List Fd} {k : Nat} (h : k < l.length) (h2 : k < fs.length) : kat l fs k = if l[k].k ≠ fs[k].k then 13 else 0 := by
  unfold kat
  rw [List.getElem?_eq_getElem h, List.getElem?_eq_getElem h2]
theorem fit_any (t : Ty) (v : Value) (u : Value) (l : List Vl) (w : World) (hv : FieldsAt w v t.fs) (hu : ValsAt w u l) :
   Calls Tryz.prog 43 #[.agg #[.string t.s, v], u] w fun e w' => e = .returned (.int .i64 (fit t l)) ∧ Below w.heap.size w w' := by
 obtain ⟨s, fs⟩ := t
 obtain ⟨T, hT⟩ : ∃ T, tchk ⟨s, fs⟩ = T := ⟨_, rfl⟩
 obtain ⟨A, hA⟩ : ∃ A, fst (vat l) l.length = A := ⟨_, rfl⟩
 obtain ⟨R, hR⟩ : ∃ R, fit ⟨s, fs⟩ l = R := ⟨_, rfl⟩
 simp only at hv
 have HV : Hid (FieldsAt w v fs) := hv
 have HU : Hid (ValsAt w u l) := hu
 have H1 : Hid (∀ W, Below w.heap.size w W → Calls Tryz.prog 53 #[.agg #[.string s, v]] W fun e w' => e = .returned (.int .i64 T) ∧ Below W.heap.size W w') := fun W hb => by rw [← hT]; exact checkType_any ⟨s, fs⟩ _ _ (HV.out.below hb)
 have H2 : Hid (∀ W, Below w.heap.size w W → Calls Tryz.prog 68 #[u] W fun e w' => e = .returned (.int .i64 A) ∧ Below W.heap.size W w') := fun W hb => by rw [← hA]; exact zBX _ _ _ (HU.out.below hb)
 obtain ⟨n, hn⟩ : ∃ n, fs.length = n := ⟨_, rfl⟩
 obtain ⟨m, hm⟩ : ∃ m, l.length = m := ⟨_, rfl⟩
 have HR : Hid (R = if T ≠ 0 then T else if A ≠ 0 then A else if m ≠ n then 13 else fst (kat l fs) m) := by rw [← hR]; unfold fit; simp only; rw [hT, hA, hn, hm]; exact rfl
 have HN : Hid (fs.length = n ∧ l.length = m) := ⟨hn, hm⟩
 rw [hR]
 obtain ⟨p, cap, hsh, _, _, hfc⟩ := hv
 obtain ⟨p2, cap2, hsh2, _, hmx2, hvc⟩ := hu
 rw [hn] at hsh
 rw [hm] at hsh2
 subst hsh hsh2
 have HFC : Hid (0 < fs.length → ∃ g off, p = some ⟨g, off, none⟩ ∧ ∀ j (hj : j < fs.length), g < w.heap.size ∧ w.cell? ⟨g, off + j * 2, none⟩ = some (.string fs[j].s) ∧ w.cell? ⟨g, off + j * 2 + 1, none⟩ = some (.int .i64 fs[j].k)) := hfc
 have HVC : Hid (0 < l.length → ∃ g off, p2 = some ⟨g, off, none⟩ ∧ ∀ j (hj : j < l.length), g < w.heap.size ∧ w.cell? ⟨g, off + j * 3, none⟩ = some (.int .i64 l[j].k) ∧ w.cell? ⟨g, off + j * 3 + 1, none⟩ = some (.int .i64 l[j].n) ∧ w.cell? ⟨g, off + j * 3 + 2, none⟩ = some (.string l[j].s)) := hvc
 have hmx : (m : Int) ≤ 9223372036854775807 := by unfold maxLen at hmx2; omega
 clear hT hA hR hfc hvc hmx2 hn hm
 go_enter Tryz.func43, Tryz.ntmps43
 go_wp2_with fail
 refine (H1.out _ ((Below.refl _ w).alloc (Nat.le_refl _) _)).mono ?_
 rintro e w1 ⟨rfl, hb1⟩
 have HB1 : Hid (Below w.heap.size w w1) := zAA ((Below.refl _ w).alloc (Nat.le_refl _) (.cells #[.string s, .slice p n cap] 59)) hb1 (by simp)
 have c0 : w1.cell? ⟨w.heap.size, 0, none⟩ = some (.string s) := (hb1.cell (by simp)).trans (zAN rfl rfl)
 have c1 : w1.cell? ⟨w.heap.size, 1, none⟩ = some (.slice p n cap) := (hb1.cell (by simp)).trans (zAN rfl rfl)
 clear hb1
 by_cases hT0 : T = 0
 . subst hT0
   go_wp2_with fail
   refine (H2.out _ HB1.out).mono ?_
   rintro e w2 ⟨rfl, hb2⟩
   have HB2 : Hid (Below w.heap.size w w2) := zAA HB1.out hb2 HB1.out.size
   have d1 : w2.cell? ⟨w.heap.size, 1, none⟩ = some (.slice p n cap) := (hb2.cell (World.block_lt_of_cell? _ _ c1)).trans c1
   clear hb2 c0 c1
   by_cases hA0 : A = 0
   . subst hA0
     by_cases hmn : m = n
     . subst hmn
       have hx : R = fst (kat l fs) m := by rw [HR.out]; simp
       have HX : Hid (R = fst (kat l fs) m) := hx
       clear hx
       go_wp2
       go_loopw [27] (fun i wr => ∃ k : Nat, k ≤ m ∧ i = .int .i64 (k : Nat) ∧ fst (kat l fs) k = 0 ∧ Below w.heap.size w wr ∧ wr.cell? ⟨w.heap.size, 1, none⟩ = some (.slice p m cap)) (fun i _ => m + 1 - (intOf i).toNat)
       case atStart => exact ⟨0, by omega, rfl, rfl, HB2.out, d1⟩
       case round =>
        obtain ⟨k, hk, rfl, hf, hB, bt⟩ := hrel
        have HF : Hid (fst (kat l fs) k = 0) := hf
        have HB : Hid (Below w.heap.size w wr) := hB
        by_cases hlt : k < m
        . have hkd : k < l.length := by have := HN.out; omega
          have hkf : k < fs.length := by have := HN.out; omega
          obtain ⟨g, off, hg, hcl⟩ := HFC.out (by omega)
          obtain ⟨g2, off2, hg2, hcl2⟩ := HVC.out (by omega)
          obtain ⟨hgs, c0j, c1⟩ := hcl k hkf
          obtain ⟨hgs2, e0, e1, e2⟩ := hcl2 k hkd
          subst hg hg2
          have HK : Hid (kat l fs k = if l[k].k ≠ fs[k].k then 13 else 0) := kat_at hkd hkf
          obtain ⟨y, hy⟩ : ∃ y, fs[k].k = y := ⟨_, rfl⟩
          obtain ⟨d, hd⟩ : ∃ d, l[k] = d := ⟨_, rfl⟩
          rw [hy] at c1 HK
          rw [hd] at e0 e1 e2 HK
          have b0 : wr.cell? ⟨g2, off2 + k * 3, none⟩ = some (.int .i64 d.k) := (hB.cell (p := ⟨g2, off2 + k * 3, none⟩) hgs2).trans e0
          have b1 : wr.cell? ⟨g2, off2 + k * 3 + 1, none⟩ = some (.int .i64 d.n) := (hB.cell (p := ⟨g2, off2 + k * 3 + 1, none⟩) hgs2).trans e1
          have b2 : wr.cell? ⟨g2, off2 + k * 3 + 2, none⟩ = some (.string d.s) := (hB.cell (p := ⟨g2, off2 + k * 3 + 2, none⟩) hgs2).trans e2
          have i1 : (0 : Int) ≤ (k : Int) := by omega
          have i2 : (k : Int) < (m : Int) := by omega
          have HWR : Hid (w.heap.size < wr.heap.size) := World.block_lt_of_cell? wr ⟨w.heap.size, 1, none⟩ bt
          have x0 : (wr.alloc (.cells #[.int .i64 d.k, .int .i64 d.n, .string d.s] 42)).cell? ⟨wr.heap.size, 0, none⟩ = some (.int .i64 d.k) := zAN rfl rfl
          have x1 : (wr.alloc (.cells #[.int .i64 d.k, .int .i64 d.n, .string d.s] 42)).cell? ⟨w.heap.size, 1, none⟩ = some (.slice (some ⟨g, off, none⟩) m cap) := (((Below.refl _ wr).alloc (Nat.le_refl _) _).cell (p := ⟨w.heap.size, 1, none⟩) HWR.out).trans bt
          have x2 : (wr.alloc (.cells #[.int .i64 d.k, .int .i64 d.n, .string d.s] 42)).cell? ⟨g, off + k * 2 + 1, none⟩ = some (.int .i64 y) := ((HB.out.alloc HB.out.size _).cell (p := ⟨g, off + k * 2 + 1, none⟩) hgs).trans c1
          have HW1 : Hid (Below w.heap.size w (wr.alloc (.cells #[.int .i64 d.k, .int .i64 d.n, .string d.s] 42))) := HB.out.alloc HB.out.size _
          clear hcl hcl2 c0j c1 e0 e1 e2 hgs hgs2 hf hB hkd hkf hy hd
          go_wp2_with fail
          generalize wr.alloc (.cells #[.int .i64 d.k, .int .i64 d.n, .string d.s] 42) = W1 at x0 x1 x2 HW1 ⊢
          clear b0 b1 b2 bt HWR HB
          by_cases hdy : d.k = y
          . have HKE : Hid (kat l fs k = 0) := by rw [HK.out, if_neg (by simp [hdy])]; exact rfl
            go_quiet (fail)
            go_wp2
            go_roundw
            case rel => exact ⟨k + 1, by omega, by go_num, fst_step HF.out HKE.out, zAA HW1.out (Go.Joins.below_draws _ _ _) (Nat.le_refl _), by assumption⟩
            case measure => simp [intOf]; omega
          . have hb1 : (d.k == y) = false := by simpa using hdy
            have hb2 : (d.k != y) = true := by simpa using hdy
            have HKE : Hid (kat l fs k = 13) := by rw [HK.out, if_pos hdy]; exact rfl
            go_quiet (fail)
            go_wp2
            go_ret
            exact ⟨zAD (by rw [HX.out, fst_hit HF.out (by rw [HKE.out]; omega) hlt, HKE.out]), zAA HW1.out (Go.Joins.below_draws _ _ _) (Nat.le_refl _)⟩
        . obtain rfl : k = m := by omega
          clear hf hB bt
          go_wp2
          go_ret
          exact ⟨zAD (by rw [HX.out, HF.out]), HB.out⟩
     . have hb1 : ((m : Int) == (n : Int)) = false := by simp; omega
       have hb2 : ((m : Int) != (n : Int)) = true := by simp; omega
       have hb3 : (m = n) = False := by simpa using hmn
       have hx : R = 13 := by rw [HR.out]; simp [hmn]
       have HX : Hid (R = 13) := hx
       clear hx
       go_wp2
       go_ret
       exact ⟨zAD HX.out.symm, HB2.out⟩
   . have hb1 : (A == 0) = false := by simpa using hA0
     have hb2 : (A != 0) = true := by simpa using hA0
     have hx : R = A := by rw [HR.out]; simp [hA0]
     have HX : Hid (R = A) := hx
     clear hx
     go_wp2
     go_ret
     exact ⟨zAD HX.out.symm, HB2.out⟩
 . have hb1 : (T == 0) = false := by simpa using hT0
   have hb2 : (T != 0) = true := by simpa using hT0
   have hx : R = T := by rw [HR.out]; simp [hT0]
   have HX : Hid (R = T) := hx
   clear hx
   clear c0 c1
   go_wp2
   go_ret
   exact ⟨zAD HX.out.symm, HB1.out⟩
def schk (st en : Int) : Int := if ¬ (0 ≤ st ∧ st ≤ 1099511627776) ∨ ¬ (0 ≤ en ∧ en ≤ 1099511627776) then 2 else if en < st then 11 else 0
def TysAt (w : World) (v : Value) (ts : List Ty) : Prop :=
  ∃ p cap, v = .slice p ts.length cap ∧ ts.length ≤ cap ∧ cap ≤ maxLen ∧ (0 < ts.length → ∃ g off, p = some ⟨g, off, none⟩ ∧ ∀ j (hj : j < ts.length), g < w.heap.size ∧ w.cell? ⟨g, off + j * 2, none⟩ = some (.string ts[j].s) ∧ ∃ u, w.cell? ⟨g, off + j * 2 + 1, none⟩ = some u ∧ FieldsAt w u ts[j].fs)
def echk (ts : List Ty) (num typ st en : Int) (l : List Vl) : Int :=
  if num < 1 ∨ 1048576 < num then 2 else if typ < 0 ∨ (ts.length : Int) ≤ typ then 6 else if schk st en ≠ 0 then schk st en
  else fit (ts.getD typ.toNat ⟨ByteArray.empty, []⟩) l
theorem zCW (a : Int) (r : Bool) (h : Say r (0 ≤ a ∧ a ≤ 1099511627776)) (w : World) :
  Calls Tryz.prog 67 #[.int .i64 a] w fun e w' => e = .returned (.bool r) ∧ w' = w := by
 have H : Hid (Say r (0 ≤ a ∧ a ≤ 1099511627776)) := h
 clear h
 go_enter Tryz.func67, Tryz.ntmps67
 go_wp2
 all_goals
  go_ret
  exact ⟨zAO (by have h := H.out; unfold Say at h; rw [Bool.eq_iff_iff, h]; simp <;> omega), rfl⟩
theorem zDR (st en : Int) (w : World) :
  Calls Tryz.prog 42 #[.agg #[.int .i64 st, .int .i64 en]] w fun e w' => e = .returned (.int .i64 (schk st en)) ∧ Below w.heap.size w w' := by
 obtain ⟨a, ha⟩ := zBK (0 ≤ st ∧ st ≤ 1099511627776)
 obtain ⟨b, hb⟩ := zBK (0 ≤ en ∧ en ≤ 1099511627776)
 have HA : Hid (Say a (0 ≤ st ∧ st ≤ 1099511627776)) := ha
 have HB : Hid (Say b (0 ≤ en ∧ en ≤ 1099511627776)) := hb
 clear ha hb
 cases a <;> cases b
 all_goals
  go_enter Tryz.func42, Tryz.ntmps42
  go_wp2_with (first | (go_at_call_of 67 (Value.int IntKind.i64 st); refine (zCW _ _ HA.out _).mono ?_; rintro e w2 ⟨rfl, rfl⟩) | (go_at_call_of 67 (Value.int IntKind.i64 en); refine (zCW _ _ HB.out _).mono ?_; rintro e w2 ⟨rfl, rfl⟩))
  all_goals
   go_ret
   refine ⟨zAD ?_, (Below.refl _ w).alloc (Nat.le_refl _) _⟩
   have h1 := HA.out
   have h2 := HB.out
   simp only [Say, true_iff, false_iff, Bool.false_eq_true] at h1 h2
   unfold schk
   (repeat' split) <;> first | rfl | (exfalso; omega)
theorem echk_typ {ts : List Ty} {num typ st en : Int} {l : List Vl} {j : Nat} (hj : j < ts.length) (h1 : ¬ (num < 1 ∨ 1048576 < num)) (h2 : typ = (j : Int)) : echk ts num typ st en l = if schk st en ≠ 0 then schk st en else fit ts[j] l := by
  subst h2
  unfold echk
  rw [if_neg h1, if_neg (by omega)]
  simp [List.getElem?_eq_getElem hj]
theorem checkEvent_any (v : Value) (ts : List Ty) (num typ st en : Int) (u : Value) (l : List Vl) (w : World) (hv : TysAt w v ts) (hu : ValsAt w u l) :
   Calls Tryz.prog 24 #[v, .agg #[.int .i64 num, .int .i64 typ, .int .i64 st, .int .i64 en, u]] w fun e w' => e = .returned (.int .i64 (echk ts num typ st en l)) ∧ Below w.heap.size w w' := by
 obtain ⟨R, hR⟩ : ∃ R, echk ts num typ st en l = R := ⟨_, rfl⟩
 obtain ⟨n, hn⟩ : ∃ n, ts.length = n := ⟨_, rfl⟩
 obtain ⟨r, hr⟩ : ∃ r, schk st en = r := ⟨_, rfl⟩
 have HU : Hid (ValsAt w u l) := hu
 have HN : Hid (ts.length = n) := hn
 have HR : Hid (echk ts num typ st en l = R) := hR
 have H1 : Hid (∀ W, Calls Tryz.prog 42 #[.agg #[.int .i64 st, .int .i64 en]] W fun e w' => e = .returned (.int .i64 r) ∧ Below W.heap.size W w') := fun W => by rw [← hr]; exact zDR _ _ _
 have HRR : Hid (schk st en = r) := hr
 rw [hR]
 obtain ⟨p, cap, hsh, _, hmx, htc⟩ := hv
 obtain ⟨p2, cap2, hsh2, _, _⟩ := hu.shape
 obtain ⟨m, hm⟩ : ∃ m, l.length = m := ⟨_, rfl⟩
 rw [hm] at hsh2
 rw [hn] at hsh
 subst hsh hsh2
 have HTC : Hid (0 < ts.length → ∃ g off, p = some ⟨g, off, none⟩ ∧ ∀ j (hj : j < ts.length), g < w.heap.size ∧ w.cell? ⟨g, off + j * 2, none⟩ = some (.string ts[j].s) ∧ ∃ u, w.cell? ⟨g, off + j * 2 + 1, none⟩ = some u ∧ FieldsAt w u ts[j].fs) := htc
 clear hR hn hr hu htc hm hmx
 by_cases h1 : num < 1 ∨ 1048576 < num
 . have hx : R = 2 := by rw [← HR.out]; unfold echk; rw [if_pos h1]
   have HX : Hid (R = 2) := hx
   clear hx
   rcases h1 with h1 | h1
   . go_enter Tryz.func24, Tryz.ntmps24
     go_wp2
     go_ret
     exact ⟨zAD HX.out.symm, (Below.refl _ w).alloc (Nat.le_refl _) _⟩
   . have h0 : ¬ num < 1 := by omega
     go_enter Tryz.func24, Tryz.ntmps24
     go_wp2
     go_ret
     exact ⟨zAD HX.out.symm, (Below.refl _ w).alloc (Nat.le_refl _) _⟩
 . have n1 : ¬ num < 1 := by omega
   have n2 : ¬ 1048576 < num := by omega
   have H0 : Hid (¬ (num < 1 ∨ 1048576 < num)) := h1
   by_cases h2 : typ < 0 ∨ (n : Int) ≤ typ
   . have hx : R = 6 := by rw [← HR.out]; unfold echk; rw [if_neg h1, if_pos (by rw [HN.out]; exact h2)]
     have HX : Hid (R = 6) := hx
     clear hx h1
     rcases h2 with h2 | h2
     . go_enter Tryz.func24, Tryz.ntmps24
       go_wp2
       go_ret
       exact ⟨zAD HX.out.symm, (Below.refl _ w).alloc (Nat.le_refl _) _⟩
     . have h0 : ¬ typ < 0 := by omega
       go_enter Tryz.func24, Tryz.ntmps24
       go_wp2
       go_ret
       exact ⟨zAD HX.out.symm, (Below.refl _ w).alloc (Nat.le_refl _) _⟩
   . obtain ⟨j, hj⟩ : ∃ j : Nat, typ = (j : Int) := ⟨typ.toNat, by omega⟩
     subst hj
     have hjl : j < ts.length := by have := HN.out; omega
     have t1 : (0 : Int) ≤ (j : Int) := by omega
     have t2 : (j : Int) < (n : Int) := by omega
     have t3 : ¬ ((n : Int) ≤ (j : Int)) := by omega
     have t4 : decide ((n : Int) ≤ (j : Int)) = false := by simp; omega
     have t5 : decide ((j : Int) < 0) = false := by simp
     have hx : R = if r ≠ 0 then r else fit ts[j] l := by rw [← HR.out, echk_typ hjl h1 rfl, HRR.out]
     obtain ⟨q, hq⟩ : ∃ q, fit ts[j] l = q := ⟨_, rfl⟩
     rw [hq] at hx
     have HX : Hid (R = if r ≠ 0 then r else q) := hx
     obtain ⟨g, off, hg, hcl⟩ := HTC.out (by omega)
     subst hg
     obtain ⟨hgs, c0, uf, c1, hF⟩ := hcl j hjl
     have HF : Hid (FieldsAt w uf ts[j].fs) := hF
     have H2 : Hid (∀ W, Below w.heap.size w W → Calls Tryz.prog 43 #[.agg #[.string ts[j].s, uf], .slice p2 m cap2] W fun e w' => e = .returned (.int .i64 q) ∧ Below W.heap.size W w') := fun W hb => by rw [← hq]; exact fit_any ts[j] _ _ _ _ (HF.out.below hb) (HU.out.below hb)
     obtain ⟨pf, capf, hshf, hF1, hF2⟩ := hF.shape
     obtain ⟨nf, hnf⟩ : ∃ nf, ts[j].fs.length = nf := ⟨_, rfl⟩
     rw [hnf] at hshf
     subst hshf
     obtain ⟨tn, htn⟩ : ∃ x, ts[j].s = x := ⟨_, rfl⟩
     rw [htn] at c0 H2
     have HGS : Hid (g < w.heap.size ∧ w.cell? ⟨g, off + j * 2, none⟩ = some (.string tn) ∧ w.cell? ⟨g, off + j * 2 + 1, none⟩ = some (.slice pf nf capf)) := ⟨hgs, c0, c1⟩
     clear hx hq hcl HF hF hF1 hF2 hnf htn hgs c0 c1 h1 h2 hjl
     go_enter Tryz.func24, Tryz.ntmps24
     go_wp2_with fail
     refine (H1.out _).mono ?_
     rintro e w1 ⟨rfl, hb1⟩
     have HB1 : Hid (Below w.heap.size w w1) := zAA ((Below.refl _ w).alloc (Nat.le_refl _) (.cells #[.int .i64 num, .int .i64 (j : Int), .int .i64 st, .int .i64 en, .slice p2 m cap2] 35)) hb1 (by simp)
     have x1 : w1.cell? ⟨w.heap.size, 1, none⟩ = some (.int .i64 (j : Int)) := (hb1.cell (by simp)).trans (zAN rfl rfl)
     have x4 : w1.cell? ⟨w.heap.size, 4, none⟩ = some (.slice p2 m cap2) := (hb1.cell (by simp)).trans (zAN rfl rfl)
     have y0 : w1.cell? ⟨g, off + j * 2, none⟩ = some (.string tn) := (HB1.out.cell (p := ⟨g, off + j * 2, none⟩) HGS.out.1).trans HGS.out.2.1
     have y1 : w1.cell? ⟨g, off + j * 2 + 1, none⟩ = some (.slice pf nf capf) := (HB1.out.cell (p := ⟨g, off + j * 2 + 1, none⟩) HGS.out.1).trans HGS.out.2.2
     clear hb1
     by_cases hr0 : r = 0
     . subst hr0
       have hx : R = q := by have := HX.out; simpa using this
       have HXQ : Hid (R = q) := hx
       clear hx HX
       have HLT : Hid (w.heap.size < w1.heap.size ∧ g < w1.heap.size) := ⟨World.block_lt_of_cell? w1 ⟨w.heap.size, 1, none⟩ x1, World.block_lt_of_cell? w1 ⟨g, off + j * 2, none⟩ y0⟩
       go_wp2_with fail
       go_region_held3 (fun w' => w'.cell? ⟨w.heap.size, 1, none⟩ = some (.int .i64 (j : Int)) ∧ w'.cell? ⟨w.heap.size, 4, none⟩ = some (.slice p2 m cap2) ∧ w'.cell? ⟨g, off + j * 2, none⟩ = some (.string tn) ∧ w'.cell? ⟨g, off + j * 2 + 1, none⟩ = some (.slice pf nf capf))
        (first | exact ⟨z0, z1, z2, z3⟩ | (go_keep; done))
        ((go_at_call 43; refine (H2.out _ HB1.out.drew).mono ?_; rintro e w2 ⟨rfl, hb2⟩; have HB2 : Hid (Below w1.heap.size w1 w2) := zAA ((Below.refl _ w1).drew) hb2 (Nat.le_refl _); have z0 : w2.cell? ⟨w.heap.size, 1, none⟩ = some (.int .i64 (j : Int)) := (HB2.out.cell (p := ⟨w.heap.size, 1, none⟩) (HLT.out.1)).trans x1; have z1 : w2.cell? ⟨w.heap.size, 4, none⟩ = some (.slice p2 m cap2) := (HB2.out.cell (p := ⟨w.heap.size, 4, none⟩) (HLT.out.1)).trans x4; have z2 : w2.cell? ⟨g, off + j * 2, none⟩ = some (.string tn) := (HB2.out.cell (p := ⟨g, off + j * 2, none⟩) (HLT.out.2)).trans y0; have z3 : w2.cell? ⟨g, off + j * 2 + 1, none⟩ = some (.slice pf nf capf) := (HB2.out.cell (p := ⟨g, off + j * 2 + 1, none⟩) (HLT.out.2)).trans y1; clear hb2))
       clear x1 x4 y0 y1 z0 z1 z2 z3
       go_wp2
       go_ret
       exact ⟨zAD HXQ.out.symm, zAA HB1.out HB2.out HB1.out.size⟩
     . have hb1 : (r == 0) = false := by simpa using hr0
       have hb2 : (r != 0) = true := by simpa using hr0
       have hx : R = r := by rw [HX.out]; simp [hr0]
       have HXQ : Hid (R = r) := hx
       clear hx HX x1 x4 y0 y1
       go_wp2
       go_ret
       exact ⟨zAD HXQ.out.symm, HB1.out⟩
end Go.Proofs.YtnlmknbhppdliaaGreatDoor.V4
namespace Go.Proofs.YtnlmknbhppdliaaGreatDoor.Chk
open Go.ChangeShapes Go.WideShapes Go.ChangeAt Go.RowKit Go.Maps
set_option linter.unusedVariables false
set_option linter.unusedSimpArgs false
set_option maxRecDepth 20000
structure Ev where
  n : Int
  t : Int
  st : Int
  en : Int
  v : List V4.Vl
def encV (v : V4.Vl) : List Dat := [.lit (.int .i64 v.k), .lit (.int .i64 v.n), .lit (.string v.s)]
def encX (x : Ev) : List Dat := [.lit (.int .i64 x.n), .lit (.int .i64 x.t), .lit (.int .i64 x.st), .lit (.int .i64 x.en), .row 42 3 (x.v.map encV)]
theorem lenV (c : V4.Vl) : (encV c).length = 3 := rfl
theorem lenX (c : Ev) : (encX c).length = 5 := rfl
theorem rdV {w : World} {o : V4.Vl} {vs : List Value} (h : RdL w (encV o) vs) : vs = [.int .i64 o.k, .int .i64 o.n, .string o.s] := by
  obtain ⟨v0, r0, rfl, h0, h⟩ := RdL.one h
  obtain ⟨v1, r1, rfl, h1, h⟩ := RdL.one h
  obtain ⟨v2, r2, rfl, h2, h⟩ := RdL.one h
  rw [zAI h0, zAI h1, zAI h2, RdL.none h]
theorem rdX {w : World} {x : Ev} {vs : List Value} (h : RdL w (encX x) vs) : ∃ u, vs = [.int .i64 x.n, .int .i64 x.t, .int .i64 x.st, .int .i64 x.en, u] ∧ Rd w (.row 42 3 (x.v.map encV)) u := by
  obtain ⟨v0, r0, rfl, h0, h⟩ := RdL.one h
  obtain ⟨v1, r1, rfl, h1, h⟩ := RdL.one h
  obtain ⟨v2, r2, rfl, h2, h⟩ := RdL.one h
  obtain ⟨v3, r3, rfl, h3, h⟩ := RdL.one h
  obtain ⟨v4, r4, rfl, h4, h⟩ := RdL.one h
  rw [zAI h0, zAI h1, zAI h2, zAI h3, RdL.none h]
  exact ⟨v4, rfl, h4⟩
def vT (t : Tp) : V4.Ty := ⟨t.n, t.f.map vF⟩
theorem valsAt {w : World} {v : Value} {l : List V4.Vl} (h : Rd w (.row 42 3 (l.map encV)) v) : V4.ValsAt w v l := by
  obtain ⟨p, cap, rfl, _, hat⟩ := zAG lenV h
  obtain ⟨_, h1, h2⟩ := zBM h
  refine ⟨p, cap, rfl, h1, h2, fun h0 => ?_⟩
  obtain ⟨g, off, rfl, hr⟩ := hat h0
  refine ⟨g, off, rfl, fun j hj => ?_⟩
  obtain ⟨us, r1, r2⟩ := hr w (Below.refl _ _) j hj
  rw [rdV r2] at r1
  have c0 : w.cell? ⟨g, off + j * 3, none⟩ = some (.int .i64 l[j].k) := by simpa using r1 0 _ rfl
  have c1 : w.cell? ⟨g, off + j * 3 + 1, none⟩ = some (.int .i64 l[j].n) := r1 1 _ rfl
  have c2 : w.cell? ⟨g, off + j * 3 + 2, none⟩ = some (.string l[j].s) := r1 2 _ rfl
  exact ⟨World.block_lt_of_cell? _ _ c0, c0, c1, c2⟩
theorem tysAt {w : World} {v : Value} {ts : List Tp} (h : Rd w (.row 59 2 (ts.map encY)) v) : V4.TysAt w v (ts.map vT) := by
  obtain ⟨p, cap, rfl, _, hat⟩ := zAG lenY h
  obtain ⟨_, h1, h2⟩ := zBM h
  have hl : (ts.map vT).length = ts.length := by simp
  refine ⟨p, cap, by rw [hl], by rw [hl]; exact h1, h2, fun h0 => ?_⟩
  obtain ⟨g, off, rfl, hr⟩ := hat (by rw [hl] at h0; exact h0)
  refine ⟨g, off, rfl, fun j hj => ?_⟩
  have hj' : j < ts.length := by rw [hl] at hj; exact hj
  obtain ⟨us, r1, r2⟩ := hr w (Below.refl _ _) j hj'
  obtain ⟨fv, z1, o2⟩ := rdY r2
  rw [z1] at r1
  have c0 : w.cell? ⟨g, off + j * 2, none⟩ = some (.string ts[j].n) := by simpa using r1 0 _ rfl
  have c1 : w.cell? ⟨g, off + j * 2 + 1, none⟩ = some fv := r1 1 _ rfl
  refine ⟨World.block_lt_of_cell? _ _ c0, ?_, fv, c1, ?_⟩
  . rw [List.getElem_map]; exact c0
  . rw [List.getElem_map]; exact zC5 o2
def evk (ts : List Tp) (x : Ev) : Int := V4.echk (ts.map vT) x.n x.t x.st x.en x.v
abbrev evV (x : Ev) (u : Value) : Value := .agg #[.int .i64 x.n, .int .i64 x.t, .int .i64 x.st, .int .i64 x.en, u]
theorem zBZ (ts : List Tp) (x : Ev) (tv u : Value) (w : World) (hT : Rd w (.row 59 2 (ts.map encY)) tv) (hu : Rd w (.row 42 3 (x.v.map encV)) u) :
  Calls Tryz.prog 24 #[tv, evV x u] w fun e w' => e = .returned (.int .i64 (evk ts x)) ∧ Below w.heap.size w w' :=
 V4.checkEvent_any tv (ts.map vT) x.n x.t x.st x.en u x.v w (tysAt hT) (valsAt hu)
def dT : Tp := ⟨txt [], []⟩
def ev0 : Ev := ⟨0, 0, 0, 0, []⟩
def vl0 : V4.Vl := ⟨0, 0, txt []⟩
theorem zAS {α : Type} {l : List α} {i : Nat} (h : i < l.length) (d : α) : l.getD i d = l[i] := by simp [List.getD, List.getElem?_eq_getElem h]
theorem zED {ts : List Tp} {x : Ev} (h : evk ts x = 0) : ∃ i, ∃ hi : i < ts.length, x.t = (i : Int) ∧ x.v.length = ts[i].f.length ∧ ∀ k (hk : k < x.v.length) (hf : k < ts[i].f.length), V4.vchk x.v[k] = 0 ∧ x.v[k].k = ts[i].f[k].k := by
 unfold evk V4.echk at h
 split at h
 . omega
 . split at h
   . omega
   . rename_i c1 c2
     rw [List.length_map] at c2
     split at h
     . rename_i c; exact absurd h c
     . obtain ⟨i, hi⟩ : ∃ i : Nat, x.t = (i : Int) := ⟨x.t.toNat, by omega⟩
       have hil : i < ts.length := by omega
       refine ⟨i, hil, hi, ?_⟩
       rw [hi, Int.toNat_natCast, zAS (by rw [List.length_map]; exact hil), List.getElem_map] at h
       unfold V4.fit at h
       split at h
       . rename_i c; exact absurd h c
       . split at h
         . rename_i c; exact absurd h c
         . rename_i c3
           split at h
           . omega
           . rename_i c4
             have e1 : x.v.length = ts[i].f.length := by have := Classical.byContradiction c4; rw [this]; simp [vT]
             refine ⟨e1, fun k hk hf => ?_⟩
             have a1 := V4.fst_zero (Classical.byContradiction c3) k hk
             have a2 := V4.fst_zero h k hk
             unfold V4.vat at a1
             rw [List.getElem?_eq_getElem hk] at a1
             unfold V4.kat at a2
             have hg : (vT ts[i]).fs[k]? = some (vF ts[i].f[k]) := by simp [vT, List.getElem?_eq_getElem hf]
             rw [List.getElem?_eq_getElem hk, hg] at a2
             refine ⟨a1, ?_⟩
             simp only at a2
             split at a2
             . omega
             . rename_i c; have := Classical.byContradiction c; simpa [vF] using this
def fvl (ts : List Tp) (x : Ev) (nm : ByteArray) : V4.Vl := x.v.getD (fdq (ts.getD x.t.toNat dT).f nm).toNat vl0
theorem zHM {α : Type} {q : α → Bool} {l : List α} (h : 0 ≤ ixq q l 0) : ∃ j, ∃ hj : j < l.length, ixq q l 0 = (j : Int) ∧ q l[j] = true := by
  rcases zA2 (q := q) l 0 with c | ⟨j, hj, c, d⟩
  . omega
  . exact ⟨j, hj, by rw [c]; simp, d⟩
theorem zGN {ts : List Tp} {x : Ev} {nm : ByteArray} (h : evk ts x = 0) (hf : 0 ≤ fdq (ts.getD x.t.toNat dT).f nm) : ∃ k, ∃ hk : k < x.v.length, fdq (ts.getD x.t.toNat dT).f nm = (k : Int) ∧ fvl ts x nm = x.v[k] ∧ V4.vchk (fvl ts x nm) = 0 ∧ (fvl ts x nm).k = (fck (ts.getD x.t.toNat dT).f nm).1 := by
  obtain ⟨i, hi, e1, e2, e3⟩ := zED h
  have et : ts.getD x.t.toNat dT = ts[i] := by rw [e1, Int.toNat_natCast]; exact zAS hi _
  rw [et] at hf ⊢
  obtain ⟨k, hk, e4, _⟩ := zHM hf
  have e4' : fdq ts[i].f nm = (k : Int) := e4
  have hkv : k < x.v.length := by omega
  have e5 : fvl ts x nm = x.v[k] := by unfold fvl; rw [et, e4', Int.toNat_natCast]; exact zAS hkv _
  obtain ⟨a1, a2⟩ := e3 k hkv hk
  refine ⟨k, hkv, e4', e5, by rw [e5]; exact a1, ?_⟩
  rw [e5, a2]
  unfold fck
  rw [if_neg (by omega), e4', Int.toNat_natCast, zAS hk]
def svl (ts : List Tp) (ws : List Pt) (own : Ev) (kn : List Ev) (o : Opd) : V4.Vl :=
  if o.k = 2 then fvl ts own o.fd else if o.k = 3 then fvl ts (kn.getD (ptq ws o.va).toNat ev0) o.fd else ⟨o.vk, o.vi, o.vt⟩
def Kok (ts : List Tp) (ws : List Pt) (kn : List Ev) : Prop := kn.length = ws.length ∧ ∀ j (hj : j < kn.length) (hw : j < ws.length), evk ts kn[j] = 0 ∧ tyq ts ws[j].ty = kn[j].t
theorem vck_zero {vk vi : Int} {vt : ByteArray} (h : vck vk vi vt = 0) : V4.vchk ⟨vk, vi, vt⟩ = 0 := by rw [vck_eq]; exact h
theorem svl_ok {ts : List Tp} {ws : List Pt} {own : Ev} {kn : List Ev} {o : Opd} (hs : (sdk ts ws (ts.getD own.t.toNat dT) o).2 = 0) (ho : evk ts own = 0) (hk : Kok ts ws kn) : V4.vchk (svl ts ws own kn o) = 0 ∧ (svl ts ws own kn o).k = (sdk ts ws (ts.getD own.t.toNat dT) o).1 := by
 unfold sdk at hs ⊢
 by_cases h0 : 1 ≤ o.k ∧ o.k ≤ 3
 . rw [if_neg (fun c => c h0)] at hs ⊢
   by_cases h1 : o.k = 1
   . rw [if_pos h1] at hs ⊢
     split at hs
     . simp at hs
     . rename_i c
       rw [if_neg c]
       unfold svl
       rw [if_neg (by omega), if_neg (by omega)]
       exact ⟨vck_zero hs, rfl⟩
   . rw [if_neg h1] at hs ⊢
     by_cases h2 : o.k = 2
     . rw [if_pos h2] at hs ⊢
       split at hs
       . simp at hs
       . rename_i c
         rw [if_neg c]
         unfold svl
         rw [if_pos h2]
         have hf : 0 ≤ fdq (ts.getD own.t.toNat dT).f o.fd := by
           unfold fck at hs
           split at hs
           . simp at hs
           . omega
         obtain ⟨k, hk1, _, _, a, b⟩ := zGN ho hf
         exact ⟨a, b⟩
     . rw [if_neg h2] at hs ⊢
       split at hs
       . simp at hs
       . rename_i c1
         rw [if_neg c1]
         split at hs
         . simp at hs
         . rename_i c2
           rw [if_neg c2]
           obtain ⟨j, hj, e1, _⟩ := zHM (q := fun p : Pt => seq p.va o.va) (l := ws) (by show 0 ≤ ptq ws o.va; omega)
           have e1' : ptq ws o.va = (j : Int) := e1
           have hjk : j < kn.length := by rw [hk.1]; exact hj
           obtain ⟨g1, g2⟩ := hk.2 j hjk hj
           have et : tyOf ts ws o.va = ts.getD kn[j].t.toNat dT := by
             unfold tyOf
             rw [e1', Int.toNat_natCast, zAS hj, g2]
             rfl
           have es : svl ts ws own kn o = fvl ts kn[j] o.fd := by
             unfold svl
             rw [if_neg h2, if_pos (by omega), e1', Int.toNat_natCast, zAS hjk]
           rw [et] at hs ⊢
           rw [es]
           have hf : 0 ≤ fdq (ts.getD kn[j].t.toNat dT).f o.fd := by
             unfold fck at hs
             split at hs
             . simp at hs
             . omega
           obtain ⟨k, hk1, _, _, a, b⟩ := zGN g1 hf
           exact ⟨a, b⟩
 . rw [if_pos h0] at hs; simp at hs
def cmb (k n : Int) : Bool := if k = 4 then decide (n = 0) else if k = 5 then !decide (n = 0) else if k = 6 then decide (n < 0) else decide (n ≤ 0)
def hld (ts : List Tp) (ws : List Pt) (own : Ev) (kn : List Ev) : Nat → Cn → Bool
  | 0, _ => false
  | n + 1, c => if c.k = 0 then true else if c.k = 1 then (subs c).all (hld ts ws own kn n) else if c.k = 2 then (subs c).any (hld ts ws own kn n) else if c.k = 3 then !(hld ts ws own kn n ((subs c).getD 0 cn0)) else cmb c.k (V4.ord (svl ts ws own kn c.l) (svl ts ws own kn c.r))
theorem zHL {f : Cn → Int × Int} : ∀ (l : List Cn) (m : Int), (cgo f l m).2 = 0 → ∀ x, x ∈ l → (f x).2 = 0
 | [], _, _, x, hx => by cases hx
 | y :: r, m, h, x, hx => by
  rw [cgo] at h
  split at h
  . rename_i c; exact absurd h c
  . rename_i c
    split at h
    . simp at h
    . rcases List.mem_cons.1 hx with rfl | hx
      . exact Classical.byContradiction c
      . exact zHL r _ h x hx
theorem cdk_ok {ts : List Tp} {ws : List Pt} {own : Tp} {n : Nat} {c : Cn} (h : (cdk ts ws own n c).2 = 0) : ∃ m, n = m + 1 ∧ 1 ≤ c.k ∧ c.k ≤ 7 ∧ (c.k ≤ 3 → (c.k = 3 → c.sb.length = 1) ∧ ∀ x, x ∈ subs c → (cdk ts ws own m x).2 = 0) ∧ (3 < c.k → (sdk ts ws own c.l).2 = 0 ∧ (sdk ts ws own c.r).2 = 0 ∧ (sdk ts ws own c.l).1 = (sdk ts ws own c.r).1) := by
 cases n with
 | zero => unfold cdk at h; split at h <;> simp at h
 | succ m =>
  refine ⟨m, rfl, ?_⟩
  unfold cdk at h
  split at h
  . simp at h
  . rename_i c0
    have c0' : 1 ≤ c.k ∧ c.k ≤ 7 := Classical.byContradiction c0
    refine ⟨c0'.1, c0'.2, fun hk => ?_, fun hk => ?_⟩
    . rw [if_neg (by omega)] at h
      split at h
      . simp at h
      . split at h
        . simp at h
        . rename_i c2
          exact ⟨fun h3 => by omega, fun x hx => zHL _ _ h x hx⟩
    . rw [if_pos hk] at h
      split at h
      . simp at h
      . split at h
        . rename_i c1; exact absurd h c1
        . rename_i c1
          split at h
          . rename_i c2; exact absurd h c2
          . rename_i c2
            split at h
            . simp at h
            . rename_i c3
              exact ⟨Classical.byContradiction c1, Classical.byContradiction c2, Classical.byContradiction c3⟩
structure Bxs (w0 W : World) (l : List (List Value × TypeId)) : Prop where
  bel : Below w0.heap.size w0 W
  b : ∀ i (hi : i < l.length), W.heap[w0.heap.size + i]? = some (.cells l[i].1.toArray l[i].2 (0, 0))
theorem Bxs.nil (w : World) : Bxs w w [] := ⟨Below.refl _ _, fun i hi => by simp at hi⟩
theorem Bxs.snoc {w0 W : World} {l : List (List Value × TypeId)} (h : Bxs w0 W l) (hs : W.heap.size = w0.heap.size + l.length) (us : List Value) (t : TypeId) : Bxs w0 (W.alloc (.cells us.toArray t)) (l ++ [(us, t)]) := by
 refine ⟨h.bel.alloc h.bel.size _, fun i hi => ?_⟩
 by_cases c : i < l.length
 . rw [Below.heap_alloc _ _ _ (by omega), List.getElem_append_left c]
   exact h.b i c
 . have e : i = l.length := by simp at hi; omega
   subst e
   rw [← hs]
   simpa using heap_alloc_new W (.cells us.toArray t)
theorem Bxs.next {w0 W W' : World} {l : List (List Value × TypeId)} (h : Bxs w0 W l) (hb : Below W.heap.size W W') : Bxs w0 W' l :=
  ⟨zAA h.bel hb h.bel.size, fun i hi => (hb.block _ (zAH (h.b i hi))).trans (h.b i hi)⟩
theorem Bxs.c {w0 W : World} {l : List (List Value × TypeId)} (h : Bxs w0 W l) (i : Nat) (hi : i < l.length) (j : Nat) : W.cell? ⟨w0.heap.size + i, j, none⟩ = l[i].1[j]? := by rw [zAC (h.b i hi)]; simp
theorem Bxs.r {w0 W : World} {l : List (List Value × TypeId)} (h : Bxs w0 W l) (i : Nat) (hi : i < l.length) : W.rangeAt (w0.heap.size + i) 0 l[i].1 := zAE (h.b i hi)
theorem bxs2 (w : World) (us vs : List Value) (t u : TypeId) : Bxs w ((w.alloc (.cells us.toArray t)).alloc (.cells vs.toArray u)) [(us, t), (vs, u)] := (((Bxs.nil w).snoc (by simp) us t).snoc (by simp) vs u)
theorem bxs3 (w : World) (us vs ws : List Value) (t u x : TypeId) : Bxs w (((w.alloc (.cells us.toArray t)).alloc (.cells vs.toArray u)).alloc (.cells ws.toArray x)) [(us, t), (vs, u), (ws, x)] := (((Bxs.nil w).snoc (by simp) us t).snoc (by simp) vs u).snoc (by simp) ws x
theorem bxs4 (w : World) (us vs ws zs : List Value) (t u x y : TypeId) : Bxs w ((((w.alloc (.cells us.toArray t)).alloc (.cells vs.toArray u)).alloc (.cells ws.toArray x)).alloc (.cells zs.toArray y)) [(us, t), (vs, u), (ws, x), (zs, y)] := ((((Bxs.nil w).snoc (by simp) us t).snoc (by simp) vs u).snoc (by simp) ws x).snoc (by simp) zs y
abbrev snC (tv : Value) (o : Ev) (ov wv kv : Value) : List Value := [tv, .int .i64 o.n, .int .i64 o.t, .int .i64 o.st, .int .i64 o.en, ov, wv, kv]
abbrev snV (tv : Value) (o : Ev) (ov wv kv : Value) : Value := .agg #[tv, .int .i64 o.n, .int .i64 o.t, .int .i64 o.st, .int .i64 o.en, ov, wv, kv]
structure Scn (w : World) (ts : List Tp) (ws : List Pt) (own : Ev) (kn : List Ev) (tv ov wv kv : Value) : Prop where
  rt : Rd w (.row 59 2 (ts.map encY)) tv
  ro : Rd w (.row 42 3 (own.v.map encV)) ov
  rw : Rd w (.row 48 18 (ws.map encP)) wv
  rk : Rd w (.row 35 5 (kn.map encX)) kv
theorem Scn.later {w W : World} {ts : List Tp} {ws : List Pt} {own : Ev} {kn : List Ev} {tv ov wv kv : Value} (h : Scn w ts ws own kn tv ov wv kv) (hb : Below w.heap.size w W) : Scn W ts ws own kn tv ov wv kv := ⟨h.rt.later hb, h.ro.later hb, h.rw.later hb, h.rk.later hb⟩
structure Sok (ts : List Tp) (ws : List Pt) (own : Ev) (kn : List Ev) : Prop where
  ty : ∀ i (hi : i < ts.length), tyk ts[i].n ts[i].f = 0
  ev : evk ts own = 0
  kn : Kok ts ws kn
theorem zGA (A : List Value) (n nm : ByteArray) (k : Int) (b : Nat) (w : World) (hA : A = [.string n, .int .i64 k]) (h : w.cell? ⟨b, 0, none⟩ = some (.string nm)) : Calls Tryz.prog 163 #[.agg A.toArray, .pointer (some ⟨b, 0, none⟩)] w fun e w' => e = .returned (.bool (seq n nm)) ∧ Below w.heap.size w w' := by
  have hB : BlkT w (w.alloc (.cells A.toArray 103)) A 103 := BlkT.start w _ _
  have c0 : (w.alloc (.cells A.toArray 103)).cell? ⟨w.heap.size, 0, none⟩ = some (.string n) := by rw [hB.c 0, hA]; rfl
  have c4 : (w.alloc (.cells A.toArray 103)).cell? ⟨b, 0, none⟩ = some (.string nm) := (hB.bel.cell (p := ⟨b, 0, none⟩) (World.block_lt_of_cell? _ _ h)).trans h
  have HB := hid hB.bel
  clear hB h hA
  unfold seq
  go_enter Tryz.func163, Tryz.ntmps163
  go_wp2_with fail
  go_ret
  exact ⟨rfl, HB.out⟩
theorem zEU (ws : List Fd) (v : Value) (nm : ByteArray) (b : Nat) (w : World) (h : Rd w (.row 103 2 (ws.map encF)) v) (hn : w.cell? ⟨b, 0, none⟩ = some (.string nm)) :
  Calls Tryz.prog 84 #[v, .func (.func 163) #[] #[.pointer (some ⟨b, 0, none⟩)]] w fun e w' => e = .returned (.int .i64 (fdq ws nm)) ∧ Below w.heap.size w w' := by
 obtain ⟨p, cap, rfl, hmx, hat⟩ := zAG lenF h
 have HAT : Hid (At encF 2 w p ws) := hat
 obtain ⟨n, hnl⟩ : ∃ n, ws.length = n := ⟨_, rfl⟩
 have HN := hid hnl
 have HNM := hid hn
 rw [hnl] at hmx ⊢
 clear h hat hnl hn
 go_enter Tryz.func84, Tryz.ntmps84
 go_wp2_with fail
 go_loopg [8] (n + 1) (fun gg i wr => ∃ k : Nat, k ≤ n ∧ gg = n + 1 - k ∧ i = .int .i64 (k : Nat) ∧ (∀ (j : Nat) (hj : j < ws.length), j < k → seq ws[j].n nm = false) ∧ Below w.heap.size w wr)
 case atStart => exact ⟨0, by omega, by omega, rfl, fun j _ h => by omega, Below.refl _ _⟩
 case round =>
  obtain ⟨k, hk, rfl, rfl, hno, hB⟩ := hrel
  have HB := hid hB
  by_cases hlt : k < n
  . have hkc : k < ws.length := by have := HN.out; omega
    obtain ⟨g, off, rfl, hrd⟩ := HAT.out (by omega)
    obtain ⟨A, r1, o1⟩ := hrd wr hB k hkc
    have z1 := rdF o1
    have hAz : A.length = 2 := o1.1.symm
    have ZA : Hid ((Tryz.prog.info? 103).map (·.size) = some A.length) := by show _ = _; rw [hAz]; kernel_rfl
    have HCM := hid (zGA A ws[k].n nm ws[k].k b wr z1 ((hB.cell (p := ⟨b, 0, none⟩) (World.block_lt_of_cell? _ _ HNM.out)).trans HNM.out))
    have HNO := hid hno
    obtain ⟨q, hq⟩ : ∃ q, seq ws[k].n nm = q := ⟨_, rfl⟩
    have HQK : Hid (seq ws[k].n nm = q) := hq
    rw [hq] at HCM
    have X1_ := hid r1
    have i1 : (0 : Int) ≤ (k : Int) := by omega
    have i2 : (k : Int) < (n : Int) := by omega
    clear hno hB hrd o1 z1 r1 hq hAz
    cases q with
    | true =>
     go_wp2_with (first
      | ((with_reducible refine gLq ?_); refine wpList_load_mid (by rfl) 103 _ (by rfl) g (off + k * 2) (by rfl) A _ X1_.out Tryz.underlying103 rfl ZA.out ?_)
      | (go_at_call 163; refine HCM.out.mono ?_; rintro e w2 ⟨rfl, hb2⟩; have HB2 := hid (zAA HB.out hb2 HB.out.size); clear hb2))
     go_ret
     exact ⟨zAD (by show (k : Int) = ixq _ _ _; rw [zBB (q := fun t : Fd => seq t.n nm) ws 0 k hkc (fun j hj => HNO.out j (by omega) hj) (by exact HQK.out)]; simp), HB2.out⟩
    | false =>
     go_wp2_with (first
      | ((with_reducible refine gLq ?_); refine wpList_load_mid (by rfl) 103 _ (by rfl) g (off + k * 2) (by rfl) A _ X1_.out Tryz.underlying103 rfl ZA.out ?_)
      | (go_at_call 163; refine HCM.out.mono ?_; rintro e w2 ⟨rfl, hb2⟩; have HB2 := hid (zAA HB.out hb2 HB.out.size); clear hb2))
     go_roundg (n + 1 - (k + 1))
     case rel =>
      refine ⟨k + 1, by omega, rfl, by go_num, fun j hj hjk => ?_, HB2.out⟩
      by_cases c : j < k
      . exact HNO.out j hj c
      . obtain rfl : j = k := by omega
        exact HQK.out
     case measure => omega
  . obtain rfl : k = n := by omega
    have HR := hid (show fdq ws nm = -1 from zAZ _ _ (fun x hx => by
     obtain ⟨j, hj, rfl⟩ := List.getElem_of_mem hx
     exact hno j hj (by have := HN.out; omega)))
    clear hno hB
    go_wp2_with fail
    go_ret
    exact ⟨zAD HR.out.symm, HB.out⟩
theorem zF9 (ts : List Tp) (ws : List Pt) (own : Ev) (kn : List Ev) (tv ov wv kv : Value) (hty : ∀ i (hi : i < ts.length), tyk ts[i].n ts[i].f = 0) (x : Ev) (u : Value) (nm : ByteArray) (w : World) (hs : Scn w ts ws own kn tv ov wv kv) (hu : Rd w (.row 42 3 (x.v.map encV)) u) (hx : evk ts x = 0) (hf : 0 ≤ fdq (ts.getD x.t.toNat dT).f nm) :
  Calls Tryz.prog 146 #[snV tv own ov wv kv, evV x u, .string nm] w fun e w' => e = .returned (V4.vV (fvl ts x nm)) ∧ Below w.heap.size w w' := by
 obtain ⟨i, hi, e1, e1a, e1b⟩ := zED hx
 obtain ⟨k, hk, e4, e5, e5a, e5b⟩ := zGN hx hf
 clear e1a e1b e5a e5b
 have et : ts.getD x.t.toNat dT = ts[i] := by rw [e1, Int.toNat_natCast]; exact zAS hi _
 rw [et] at e4
 rw [e5]
 obtain ⟨tp, tn, tc, htv⟩ := zAB hs.rt
 obtain ⟨op, on2, oc, hov⟩ := zAB hs.ro
 obtain ⟨wp, wn, wc, hwv⟩ := zAB hs.rw
 obtain ⟨kp, kn2, kc, hkv⟩ := zAB hs.rk
 have hT := hs.rt
 subst htv hov hwv hkv
 obtain ⟨tp', tc', e0, m1, hat⟩ := zAG lenY hT
 clear m1
 simp only [Value.slice.injEq] at e0
 obtain ⟨e01, e02, e03⟩ := e0
 obtain ⟨g, off, e06, hrd⟩ := hat (by omega)
 obtain ⟨up', uc', e10, m2, hau⟩ := zAG lenV hu
 clear m2
 obtain ⟨up, un, uc, eu⟩ := zAB hu
 rw [eu] at e10
 simp only [Value.slice.injEq] at e10
 obtain ⟨e11, e12, e13⟩ := e10
 obtain ⟨g2, off2, e16, hrv⟩ := hau (by omega)
 subst eu
 obtain rfl : tp = some ⟨g, off, none⟩ := e01.trans e06
 obtain rfl : up = some ⟨g2, off2, none⟩ := e11.trans e16
 obtain ⟨xn, xt, xs, xe, xv⟩ := x
 obtain ⟨on, ot, ost, oen, ovl⟩ := own
 simp only at e1 hk e5 hrv e12 ⊢
 subst e1
 have hB : Bxs w ((((w.alloc (.cells #[.slice (some ⟨g, off, none⟩) tn tc, .int .i64 on, .int .i64 ot, .int .i64 ost, .int .i64 oen, .slice op on2 oc, .slice wp wn wc, .slice kp kn2 kc] 100)).alloc (.cells #[.int .i64 xn, .int .i64 (i : Nat), .int .i64 xs, .int .i64 xe, .slice (some ⟨g2, off2, none⟩) un uc] 35)).alloc (.cells #[.string nm] 9)).alloc (.cells #[.int .i64 0, .int .i64 0, .string ⟨#[]⟩] 42)) [([.slice (some ⟨g, off, none⟩) tn tc, .int .i64 on, .int .i64 ot, .int .i64 ost, .int .i64 oen, .slice op on2 oc, .slice wp wn wc, .slice kp kn2 kc], 100), ([.int .i64 xn, .int .i64 (i : Nat), .int .i64 xs, .int .i64 xe, .slice (some ⟨g2, off2, none⟩) un uc], 35), ([.string nm], 9), ([.int .i64 0, .int .i64 0, .string ⟨#[]⟩], 42)] := bxs4 w _ _ _ _ _ _ _ _
 obtain ⟨A, r1, o1⟩ := hrd _ hB.bel i hi
 obtain ⟨fv, z1, o2⟩ := rdY o1
 rw [z1] at r1
 have t0 : ((((w.alloc (.cells #[.slice (some ⟨g, off, none⟩) tn tc, .int .i64 on, .int .i64 ot, .int .i64 ost, .int .i64 oen, .slice op on2 oc, .slice wp wn wc, .slice kp kn2 kc] 100)).alloc (.cells #[.int .i64 xn, .int .i64 (i : Nat), .int .i64 xs, .int .i64 xe, .slice (some ⟨g2, off2, none⟩) un uc] 35)).alloc (.cells #[.string nm] 9)).alloc (.cells #[.int .i64 0, .int .i64 0, .string ⟨#[]⟩] 42)).cell? ⟨g, off + i * 2, none⟩ = some (.string ts[i].n) := by simpa using r1 0 _ rfl
 have t1 : ((((w.alloc (.cells #[.slice (some ⟨g, off, none⟩) tn tc, .int .i64 on, .int .i64 ot, .int .i64 ost, .int .i64 oen, .slice op on2 oc, .slice wp wn wc, .slice kp kn2 kc] 100)).alloc (.cells #[.int .i64 xn, .int .i64 (i : Nat), .int .i64 xs, .int .i64 xe, .slice (some ⟨g2, off2, none⟩) un uc] 35)).alloc (.cells #[.string nm] 9)).alloc (.cells #[.int .i64 0, .int .i64 0, .string ⟨#[]⟩] 42)).cell? ⟨g, off + i * 2 + 1, none⟩ = some fv := r1 1 _ rfl
 have hVF := zEU ts[i].f fv nm (w.heap.size + 2) _ o2 (hB.c 2 (by simp) 0)
 rw [e4] at hVF
 have HVF := hid hVF
 have HRV := hid (fun W (hW : Below w.heap.size w W) => hrv W hW k hk)
 have HB := hid hB
 obtain ⟨fp, fl, fc, rfl⟩ := zAB o2
 obtain ⟨tnm, htnm⟩ : ∃ n, ts[i].n = n := ⟨_, rfl⟩
 rw [htnm] at t0
 obtain ⟨⟨vk, vn, vs⟩, hv⟩ : ∃ v, xv[k] = v := ⟨_, rfl⟩
 rw [hv] at HRV ⊢
 have i1 : (0 : Int) ≤ (i : Int) := by omega
 have i2 : (i : Int) < (tn : Int) := by omega
 have i3 : (0 : Int) ≤ (k : Int) := by omega
 have i4 : (k : Int) < (un : Int) := by omega
 clear hs hu hx hf hty e4 e5 et hT hat hrd hau hrv e01 e02 e03 e06 e11 e12 e13 e16 hB hVF r1 o1 o2 z1 htnm hv hi hk
 go_enter Tryz.func146, Tryz.ntmps146
 go_wp2_with fail
 refine HVF.out.mono ?_
 rintro e w1 ⟨rfl, hb1⟩
 have HB1 := hid (HB.out.next hb1)
 clear hb1 t0 t1 HVF
 obtain ⟨B, r2, o2⟩ := HRV.out w1 HB1.out.bel
 have z2 := rdV o2
 rw [z2] at r2
 have c4 : w1.cell? ⟨w.heap.size + 1, 4, none⟩ = some (.slice (some ⟨g2, off2, none⟩) un uc) := HB1.out.c 1 (by simp) 4
 have X2 := hid r2
 have HZ := hid (HB1.out.b 3 (by simp))
 clear r2 o2 z2 HRV
 go_wp2_with (first
  | ((with_reducible show wpList _ _ _ (Oper.mk _ (.load 42 _) _ _ _ _ :: _) _ _); refine wpList_load_mid (by rfl) 42 _ (by rfl) g2 (off2 + k * 3) (by rfl) [.int .i64 vk, .int .i64 vn, .string vs] _ X2.out Tryz.underlying42 rfl (by kernel_rfl) ?_)
  | ((with_reducible refine gSq ?_); refine zB9 42 (w.heap.size + 3) 0 _ 42 [.int .i64 vk, .int .i64 vn, .string vs] HZ.out ?_; intro w2 hblk hfr; have HW2 := hid hblk; have HBE : Hid (Below w.heap.size w w2) := zAP HB1.out.bel hfr (by omega); clear hblk hfr))
 exact zDJ (w.heap.size + 3) [.int .i64 vk, .int .i64 vn, .string vs] 42 _ HW2.out rfl rfl (by rfl) Tryz.underlying42 rfl (by kernel_rfl) ⟨rfl, HBE.out⟩
theorem side_own (ts : List Tp) (ws : List Pt) (own : Ev) (kn : List Ev) (tv ov wv kv : Value) (hk : Sok ts ws own kn) (o : Opd) (w : World) (hs : Scn w ts ws own kn tv ov wv kv) (ho : o.k = 2) (hf : 0 ≤ fdq (ts.getD own.t.toNat dT).f o.fd) :
  Calls Tryz.prog 112 #[snV tv own ov wv kv, opV o] w fun e w' => e = .returned (V4.vV (fvl ts own o.fd)) ∧ Below w.heap.size w w' := by
 have HFS := hid (fun W (hW : Below w.heap.size w W) => zF9 ts ws own kn tv ov wv kv hk.ty own ov o.fd W (hs.later hW) (hs.later hW).ro hk.ev hf)
 obtain ⟨⟨vk, vn, vs⟩, hv⟩ : ∃ v, fvl ts own o.fd = v := ⟨_, rfl⟩
 rw [hv] at HFS ⊢
 obtain ⟨tp, tn, tc, htv⟩ := zAB hs.rt
 obtain ⟨op, on2, oc, hov⟩ := zAB hs.ro
 obtain ⟨wp, wn, wc, hwv⟩ := zAB hs.rw
 obtain ⟨kp, kn2, kc, hkv⟩ := zAB hs.rk
 have hB := bxs3 w (snC tv own ov wv kv) [.int .i64 o.k, .int .i64 o.vk, .int .i64 o.vi, .string o.vt, .string o.va, .string o.fd] [.int .i64 0, .int .i64 0, .string ⟨#[]⟩] 100 44 42
 subst htv hov hwv hkv
 obtain ⟨on, ot, ost, oen, ovl⟩ := own
 obtain ⟨ok, ovk, ovi, ovt, ova, ofd⟩ := o
 simp only [snC] at hB
 simp only at ho HFS ⊢
 subst ho
 have HB := hid hB
 have XS := hid (hB.r 0 (by simp))
 have XE : Hid ((((w.alloc (.cells #[.slice tp tn tc, .int .i64 on, .int .i64 ot, .int .i64 ost, .int .i64 oen, .slice op on2 oc, .slice wp wn wc, .slice kp kn2 kc] 100)).alloc (.cells #[.int .i64 2, .int .i64 ovk, .int .i64 ovi, .string ovt, .string ova, .string ofd] 44)).alloc (.cells #[.int .i64 0, .int .i64 0, .string ⟨#[]⟩] 42)).rangeAt w.heap.size 1 [.int .i64 on, .int .i64 ot, .int .i64 ost, .int .i64 oen, .slice op on2 oc]) := fun j u hu => by
  have := hB.c 0 (by simp) (1 + j)
  rw [show w.heap.size + 0 = w.heap.size from rfl] at this
  rw [this]
  rcases j with _ | _ | _ | _ | _ | j <;> simp_all
 clear hB hs hk hf hv
 go_enter Tryz.func112, Tryz.ntmps112
 go_wp2_with (first
  | ((with_reducible refine gLq ?_); refine wpList_load_mid (by rfl) 35 _ (by rfl) w.heap.size 1 (by rfl) [.int .i64 on, .int .i64 ot, .int .i64 ost, .int .i64 oen, .slice op on2 oc] _ XE.out Tryz.underlying35 rfl (by kernel_rfl) ?_)
  | ((with_reducible refine gLq ?_); refine wpList_load_mid (by rfl) 100 _ (by rfl) w.heap.size 0 (by rfl) [.slice tp tn tc, .int .i64 on, .int .i64 ot, .int .i64 ost, .int .i64 oen, .slice op on2 oc, .slice wp wn wc, .slice kp kn2 kc] _ XS.out Tryz.underlying100 rfl (by kernel_rfl) ?_))
 refine (HFS.out _ HB.out.bel).mono ?_
 rintro e w1 ⟨rfl, hb1⟩
 have HB1 := hid (HB.out.next hb1)
 have HBB := hid HB1.out.bel
 have HZ := hid (HB1.out.b 2 (by simp))
 clear hb1 XS XE
 go_wp2_with ((with_reducible refine gSq ?_); refine zB9 42 (w.heap.size + 2) 0 _ 42 [.int .i64 vk, .int .i64 vn, .string vs] HZ.out ?_; intro w2 hblk hfr; have HW2 := hid hblk; have HBE : Hid (Below w.heap.size w w2) := zAP HBB.out (hfr) (by omega); clear hblk hfr)
 exact zDJ (w.heap.size + 2) [.int .i64 vk, .int .i64 vn, .string vs] 42 _ HW2.out rfl rfl (by rfl) Tryz.underlying42 rfl (by kernel_rfl) ⟨rfl, HBE.out⟩
theorem side_con (ts : List Tp) (ws : List Pt) (own : Ev) (kn : List Ev) (tv ov wv kv : Value) (hk : Sok ts ws own kn) (o : Opd) (w : World) (hs : Scn w ts ws own kn tv ov wv kv) (ho : o.k ≠ 2) (ho3 : o.k ≠ 3) :
  Calls Tryz.prog 112 #[snV tv own ov wv kv, opV o] w fun e w' => e = .returned (V4.vV ⟨o.vk, o.vi, o.vt⟩) ∧ Below w.heap.size w w' := by
 obtain ⟨tp, tn, tc, htv⟩ := zAB hs.rt
 obtain ⟨op, on2, oc, hov⟩ := zAB hs.ro
 obtain ⟨wp, wn, wc, hwv⟩ := zAB hs.rw
 obtain ⟨kp, kn2, kc, hkv⟩ := zAB hs.rk
 have hB := bxs3 w (snC tv own ov wv kv) [.int .i64 o.k, .int .i64 o.vk, .int .i64 o.vi, .string o.vt, .string o.va, .string o.fd] [.int .i64 0, .int .i64 0, .string ⟨#[]⟩] 100 44 42
 subst htv hov hwv hkv
 obtain ⟨on, ot, ost, oen, ovl⟩ := own
 obtain ⟨ok, ovk, ovi, ovt, ova, ofd⟩ := o
 simp only [snC] at hB
 simp only at ho ho3 ⊢
 have d2 : decide (ok = 2) = false := by simpa using ho
 have d3 : decide (ok = 3) = false := by simpa using ho3
 have HB := hid hB
 have HBB := hid hB.bel
 have HZ := hid (hB.b 2 (by simp))
 clear hB hs hk
 go_enter Tryz.func112, Tryz.ntmps112
 go_wp2_with ((with_reducible refine gSq ?_); refine zB9 42 (w.heap.size + 2) 0 _ 42 [.int .i64 ovk, .int .i64 ovi, .string ovt] HZ.out ?_; intro w2 hblk hfr; have HW2 := hid hblk; have HBE : Hid (Below w.heap.size w w2) := zAP HBB.out (hfr) (by omega); clear hblk hfr)
 exact zDJ (w.heap.size + 2) [.int .i64 ovk, .int .i64 ovi, .string ovt] 42 _ HW2.out rfl rfl (by rfl) Tryz.underlying42 rfl (by kernel_rfl) ⟨rfl, HBE.out⟩
theorem ent_fds : ∀ args w, (callFunc 146 args).run Tryz.prog w = .ok (.enter 146 args) w := enters_of Tryz.func146 (by kernel_rfl) rfl
end Go.Proofs.YtnlmknbhppdliaaGreatDoor.Chk
