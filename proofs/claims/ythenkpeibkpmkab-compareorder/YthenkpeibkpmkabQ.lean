/-
  The walk of CompareOrder.
-/
import Derived.Test.YthenkpeibkpmkabP
namespace Go.Proofs.Ythenkpeibkpmkab
open Go.ChangeShapes Go.WideShapes Go.ChangeAt Go.RowKit
set_option linter.unusedVariables false
set_option linter.unusedSimpArgs false
theorem cmpE_same {a b : Vl} (ha : vchk a = 0) (hb : vchk b = 0) (hk : a.k = b.k) : cmpE a b = 0 := by
  unfold cmpE; simp [ha, hb, hk]
theorem cmpE_two {a b : Vl} (ha : vchk a = 0) (hb : vchk b = 0) (hk : a.k ≠ b.k) : cmpE a b = 13 := by
  unfold cmpE; simp [ha, hb, hk]
theorem cmpV_same {a b : Vl} (h : cmpE a b = 0) : cmpV a b = ord a b := by
  unfold cmpV; simp [h]
/-- A value in a block of its own. -/
def Bx (W : World) (b : Nat) (v : Vl) : Prop := W.cell? ⟨b, 0, none⟩ = some (.int .i64 v.k) ∧ W.cell? ⟨b, 1, none⟩ = some (.int .i64 v.n) ∧ W.cell? ⟨b, 2, none⟩ = some (.string v.s)
theorem Bx.lt {W : World} {b : Nat} {v : Vl} (h : Bx W b v) : b < W.heap.size := World.block_lt_of_cell? W ⟨b, 0, none⟩ h.1
theorem Bx.below {W W' : World} {b : Nat} {v : Vl} (h : Bx W b v) (hb : Below W.heap.size W W') : Bx W' b v :=
  ⟨(hb.cell (p := ⟨b, 0, none⟩) h.lt).trans h.1, (hb.cell (p := ⟨b, 1, none⟩) h.lt).trans h.2.1, (hb.cell (p := ⟨b, 2, none⟩) h.lt).trans h.2.2⟩
theorem bx_new (W : World) (v : Vl) : Bx (W.alloc (.cells #[.int .i64 v.k, .int .i64 v.n, .string v.s] 32)) W.heap.size v := ⟨cell_new rfl rfl, cell_new rfl rfl, cell_new rfl rfl⟩
theorem compare_is {a b : Vl} {x y : Int} (hx : cmpV a b = x) (hy : cmpE a b = y) (W : World) : Calls Try.prog 12 #[.agg #[.int .i64 a.k, .int .i64 a.n, .string a.s], .agg #[.int .i64 b.k, .int .i64 b.n, .string b.s]] W fun e w' => e = .returned (.tuple #[.int .i64 x, .int .i64 y]) ∧ Below W.heap.size W w' := by
  rw [← hx, ← hy]; exact compare_any a b W
theorem toList_inj {a b : ByteArray} (h : a.toList = b.toList) : a = b := by
  rw [Lib.toList_data, Lib.toList_data] at h
  cases a
  cases b
  simp at h
  rw [h]
theorem cmpV_err {a b : Vl} (h : cmpE a b = 13) : cmpV a b = 0 := by
  unfold cmpV; simp [h]
set_option maxHeartbeats 8000000 in
theorem compareOrder_walk (n m k : Int) (s t u : ByteArray) (text : Bool) (w : World) (hn : wfI n) (hm : wfI m) (hk : wfI k) (hs : s.size ≤ maxLen) (ht : t.size ≤ maxLen) (hu : u.size ≤ maxLen) :
    Calls Try.prog 4 #[.int .i64 n, .int .i64 m, .int .i64 k, .string s, .string t, .string u, .bool text] w fun e w' => e = .returned (.bool true) ∧ Below w.heap.size w w' := by
  have HH : Hid (wfI n ∧ wfI m ∧ wfI k ∧ s.size ≤ maxLen ∧ t.size ≤ maxLen ∧ u.size ≤ maxLen) := ⟨hn, hm, hk, hs, ht, hu⟩
  clear hn hm hk hs ht hu
  go_enter Try.func4, Try.ntmps4
  go_wp2_with fail
  refine (mk_any n s text _ HH.out.1 HH.out.2.2.2.1).mono ?_
  rintro e w1 ⟨⟨ka, na, sa⟩, rfl, ha, hb1⟩
  have HA : Hid (VOk ⟨ka, na, sa⟩ text) := ha
  have HB1 : Hid (Below w.heap.size w w1) := hb1
  clear ha hb1
  unfold vV
  go_wp2_with fail
  have hx1 := bx_new w1 ⟨ka, na, sa⟩
  refine (mk_any m t text _ HH.out.2.1 HH.out.2.2.2.2.1).mono ?_
  rintro e w2 ⟨⟨kb, nb, sb⟩, rfl, hb, hb2⟩
  have HB : Hid (VOk ⟨kb, nb, sb⟩ text) := hb
  have XA : Hid (Bx w2 w1.heap.size ⟨ka, na, sa⟩) := hx1.below hb2
  have HB2 : Hid (Below w.heap.size w w2) := below_trans (HB1.out.alloc HB1.out.size _) hb2 (by have := HB1.out.size; simp; omega)
  clear hb hb2 hx1
  generalize w1.heap.size = A at XA ⊢
  unfold vV
  go_wp2_with fail
  have hx1 := bx_new w2 ⟨kb, nb, sb⟩
  refine (mk_any k u text _ HH.out.2.2.1 HH.out.2.2.2.2.2).mono ?_
  rintro e w3 ⟨⟨kc, nc, sc⟩, rfl, hc, hb3⟩
  have HC : Hid (VOk ⟨kc, nc, sc⟩ text) := hc
  have XB : Hid (Bx w3 w2.heap.size ⟨kb, nb, sb⟩) := hx1.below hb3
  have hb3' : Below w2.heap.size w2 w3 := below_trans ((Below.refl _ w2).alloc (Nat.le_refl _) _) hb3 (by simp)
  have XA3 : Hid (Bx w3 A ⟨ka, na, sa⟩) := XA.out.below hb3'
  have HB3 : Hid (Below w.heap.size w w3) := below_trans HB2.out hb3' HB2.out.size
  clear hc hb3 hb3' hx1 XA
  generalize w2.heap.size = B at XB ⊢
  unfold vV
  have hnb : Below w3.heap.size w3 (w3.alloc (.cells #[.int .i64 kc, .int .i64 nc, .string sc] 32)) := (Below.refl _ w3).alloc (Nat.le_refl _) _
  obtain ⟨a0, a1, a2⟩ := XA3.out.below hnb
  obtain ⟨b0, b1, b2⟩ := XB.out.below hnb
  obtain ⟨c0, c1, c2⟩ := bx_new w3 ⟨kc, nc, sc⟩
  simp only at a0 a1 a2 b0 b1 b2 c0 c1 c2
  have HW3 : Hid (Below w.heap.size w (w3.alloc (.cells #[.int .i64 kc, .int .i64 nc, .string sc] 32))) := HB3.out.alloc HB3.out.size _
  clear hnb
  go_wp2_with fail
  generalize w3.alloc (.cells #[.int .i64 kc, .int .i64 nc, .string sc] 32) = W at a0 a1 a2 b0 b1 b2 c0 c1 c2 HW3 ⊢
  generalize w3.heap.size = C at c0 c1 c2 ⊢
  have HX : Hid (Bx W A ⟨ka, na, sa⟩ ∧ Bx W B ⟨kb, nb, sb⟩ ∧ Bx W C ⟨kc, nc, sc⟩) := ⟨⟨a0, a1, a2⟩, ⟨b0, b1, b2⟩, ⟨c0, c1, c2⟩⟩
  have hkab : ka = kb := HA.out.2.trans HB.out.2.symm
  have hkbc : kb = kc := HB.out.2.trans HC.out.2.symm
  have eab : cmpE ⟨ka, na, sa⟩ ⟨kb, nb, sb⟩ = 0 := cmpE_same HA.out.1 HB.out.1 hkab
  have eba : cmpE ⟨kb, nb, sb⟩ ⟨ka, na, sa⟩ = 0 := cmpE_same HB.out.1 HA.out.1 hkab.symm
  have ebc : cmpE ⟨kb, nb, sb⟩ ⟨kc, nc, sc⟩ = 0 := cmpE_same HB.out.1 HC.out.1 hkbc
  have eac : cmpE ⟨ka, na, sa⟩ ⟨kc, nc, sc⟩ = 0 := cmpE_same HA.out.1 HC.out.1 (hkab.trans hkbc)
  obtain ⟨x1, hx1⟩ : ∃ x, ord ⟨ka, na, sa⟩ ⟨kb, nb, sb⟩ = x := ⟨_, rfl⟩
  obtain ⟨x2, hx2⟩ : ∃ x, ord ⟨kb, nb, sb⟩ ⟨ka, na, sa⟩ = x := ⟨_, rfl⟩
  obtain ⟨x3, hx3⟩ : ∃ x, ord ⟨kb, nb, sb⟩ ⟨kc, nc, sc⟩ = x := ⟨_, rfl⟩
  obtain ⟨x4, hx4⟩ : ∃ x, ord ⟨ka, na, sa⟩ ⟨kc, nc, sc⟩ = x := ⟨_, rfl⟩
  have R1 : Hid (x1 = - x2) := by rw [← hx1, ← hx2]; exact ord_anti hkab
  have R2 : Hid (x1 = 0 ↔ na = nb ∧ sa = sb) := by rw [← hx1]; exact ord_zero hkab HA.out.1 HB.out.1
  have R3 : Hid (x1 ≤ 0 → x3 ≤ 0 → x4 ≤ 0) := by rw [← hx1, ← hx3, ← hx4]; exact ord_trans hkab
  have R4 : Hid (x2 = -1 ∨ x2 = 0 ∨ x2 = 1) := by rw [← hx2]; exact ord_range _ _
  have C1 : Hid (∀ W, Calls Try.prog 12 #[.agg #[.int .i64 ka, .int .i64 na, .string sa], .agg #[.int .i64 kb, .int .i64 nb, .string sb]] W fun e w' => e = .returned (.tuple #[.int .i64 x1, .int .i64 0]) ∧ Below W.heap.size W w') := fun W => by have h := compare_is (a := ⟨ka, na, sa⟩) (b := ⟨kb, nb, sb⟩) ((cmpV_same eab).trans hx1) eab W; exact h
  have C2 : Hid (∀ W, Calls Try.prog 12 #[.agg #[.int .i64 kb, .int .i64 nb, .string sb], .agg #[.int .i64 ka, .int .i64 na, .string sa]] W fun e w' => e = .returned (.tuple #[.int .i64 x2, .int .i64 0]) ∧ Below W.heap.size W w') := fun W => by have h := compare_is (a := ⟨kb, nb, sb⟩) (b := ⟨ka, na, sa⟩) ((cmpV_same eba).trans hx2) eba W; exact h
  have C3 : Hid (∀ W, Calls Try.prog 12 #[.agg #[.int .i64 kb, .int .i64 nb, .string sb], .agg #[.int .i64 kc, .int .i64 nc, .string sc]] W fun e w' => e = .returned (.tuple #[.int .i64 x3, .int .i64 0]) ∧ Below W.heap.size W w') := fun W => by have h := compare_is (a := ⟨kb, nb, sb⟩) (b := ⟨kc, nc, sc⟩) ((cmpV_same ebc).trans hx3) ebc W; exact h
  have C4 : Hid (∀ W, Calls Try.prog 12 #[.agg #[.int .i64 ka, .int .i64 na, .string sa], .agg #[.int .i64 kc, .int .i64 nc, .string sc]] W fun e w' => e = .returned (.tuple #[.int .i64 x4, .int .i64 0]) ∧ Below W.heap.size W w') := fun W => by have h := compare_is (a := ⟨ka, na, sa⟩) (b := ⟨kc, nc, sc⟩) ((cmpV_same eac).trans hx4) eac W; exact h
  have HKK : Hid (ka = kb) := hkab
  have C5 : Hid (∀ kd nd sd, VOk ⟨kd, nd, sd⟩ (!text) → ∀ W, Calls Try.prog 12 #[.agg #[.int .i64 ka, .int .i64 na, .string sa], .agg #[.int .i64 kd, .int .i64 nd, .string sd]] W fun e w' => e = .returned (.tuple #[.int .i64 0, .int .i64 13]) ∧ Below W.heap.size W w') := fun kd nd sd hd W => by
    have h13 : cmpE ⟨ka, na, sa⟩ ⟨kd, nd, sd⟩ = 13 := cmpE_two HA.out.1 hd.1 (by rw [HA.out.2, hd.2]; cases text <;> simp)
    have h := compare_is (a := ⟨ka, na, sa⟩) (b := ⟨kd, nd, sd⟩) (cmpV_err h13) h13 W
    exact h
  clear hkab hkbc eab eba ebc eac hx1 hx2 hx3 hx4 a0 a1 a2 b0 b1 b2 c0 c1 c2
  refine (C1.out _).mono ?_
  rintro e W4 ⟨rfl, hb⟩
  have HX1 : Hid (Bx W4 A ⟨ka, na, sa⟩ ∧ Bx W4 B ⟨kb, nb, sb⟩ ∧ Bx W4 C ⟨kc, nc, sc⟩) := ⟨HX.out.1.below hb, HX.out.2.1.below hb, HX.out.2.2.below hb⟩
  have HWW1 : Hid (Below w.heap.size w W4) := below_trans HW3.out hb HW3.out.size
  obtain ⟨⟨a0, a1, a2⟩, ⟨b0, b1, b2⟩, ⟨c0, c1, c2⟩⟩ := HX1.out
  simp only at a0 a1 a2 b0 b1 b2 c0 c1 c2
  clear hb
  go_wp2_with fail
  clear a0 a1 a2 b0 b1 b2 c0 c1 c2
  refine (C2.out _).mono ?_
  rintro e W5 ⟨rfl, hb⟩
  have HX2 : Hid (Bx W5 A ⟨ka, na, sa⟩ ∧ Bx W5 B ⟨kb, nb, sb⟩ ∧ Bx W5 C ⟨kc, nc, sc⟩) := ⟨HX1.out.1.below hb, HX1.out.2.1.below hb, HX1.out.2.2.below hb⟩
  have HWW2 : Hid (Below w.heap.size w W5) := below_trans HWW1.out hb HWW1.out.size
  obtain ⟨⟨a0, a1, a2⟩, ⟨b0, b1, b2⟩, ⟨c0, c1, c2⟩⟩ := HX2.out
  simp only at a0 a1 a2 b0 b1 b2 c0 c1 c2
  clear hb
  go_wp2_with fail
  clear a0 a1 a2 b0 b1 b2 c0 c1 c2
  refine (C3.out _).mono ?_
  rintro e W6 ⟨rfl, hb⟩
  have HX3 : Hid (Bx W6 A ⟨ka, na, sa⟩ ∧ Bx W6 B ⟨kb, nb, sb⟩ ∧ Bx W6 C ⟨kc, nc, sc⟩) := ⟨HX2.out.1.below hb, HX2.out.2.1.below hb, HX2.out.2.2.below hb⟩
  have HWW3 : Hid (Below w.heap.size w W6) := below_trans HWW2.out hb HWW2.out.size
  obtain ⟨⟨a0, a1, a2⟩, ⟨b0, b1, b2⟩, ⟨c0, c1, c2⟩⟩ := HX3.out
  simp only at a0 a1 a2 b0 b1 b2 c0 c1 c2
  clear hb
  go_wp2_with fail
  clear a0 a1 a2 b0 b1 b2 c0 c1 c2
  refine (C4.out _).mono ?_
  rintro e W7 ⟨rfl, hb⟩
  have HX4 : Hid (Bx W7 A ⟨ka, na, sa⟩ ∧ Bx W7 B ⟨kb, nb, sb⟩ ∧ Bx W7 C ⟨kc, nc, sc⟩) := ⟨HX3.out.1.below hb, HX3.out.2.1.below hb, HX3.out.2.2.below hb⟩
  have HWW4 : Hid (Below w.heap.size w W7) := below_trans HWW3.out hb HWW3.out.size
  obtain ⟨⟨a0, a1, a2⟩, ⟨b0, b1, b2⟩, ⟨c0, c1, c2⟩⟩ := HX4.out
  simp only at a0 a1 a2 b0 b1 b2 c0 c1 c2
  clear hb
  go_wp2_with fail
  have HSX : Hid ((⟨#[120]⟩ : ByteArray).size ≤ maxLen) := by unfold maxLen; exact (by decide : (1 : Nat) ≤ 9223372036854775807)
  have HLA : Hid (A < W7.heap.size) := HX4.out.1.lt
  clear b0 b1 b2 c0 c1 c2
  go_region_held3 (fun w' => w'.cell? ⟨A, 0, none⟩ = some (.int .i64 ka) ∧ w'.cell? ⟨A, 1, none⟩ = some (.int .i64 na) ∧ w'.cell? ⟨A, 2, none⟩ = some (.string sa))
    (first | exact ⟨r0, r1, r2⟩ | exact ⟨q0, q1, q2⟩ | (go_keep; done))
    (first
      | (go_at_call 11; refine (mk_any 1 ⟨#[120]⟩ (!text) _ (by unfold wfI; omega) HSX.out).mono ?_; rintro e wV ⟨⟨kd, nd, sd⟩, rfl, hd, hbV⟩; unfold vV; have HD : Hid (VOk ⟨kd, nd, sd⟩ (!text)) := hd; have HBV : Hid (Below W7.heap.size W7 wV) := below_trans ((Below.refl _ W7).drew) hbV (Nat.le_refl _); have q0 : wV.cell? ⟨A, 0, none⟩ = some (.int .i64 ka) := (HBV.out.cell (p := ⟨A, 0, none⟩) HLA.out).trans a0; have q1 : wV.cell? ⟨A, 1, none⟩ = some (.int .i64 na) := (HBV.out.cell (p := ⟨A, 1, none⟩) HLA.out).trans a1; have q2 : wV.cell? ⟨A, 2, none⟩ = some (.string sa) := (HBV.out.cell (p := ⟨A, 2, none⟩) HLA.out).trans a2; clear hd hbV)
      | (go_at_call 12; refine (C5.out kd nd sd HD.out _).mono ?_; rintro e wU ⟨rfl, hbU⟩; have HBU : Hid (Below W7.heap.size W7 wU) := below_trans HBV.out hbU HBV.out.size; have r0 : wU.cell? ⟨A, 0, none⟩ = some (.int .i64 ka) := (HBU.out.cell (p := ⟨A, 0, none⟩) HLA.out).trans a0; have r1 : wU.cell? ⟨A, 1, none⟩ = some (.int .i64 na) := (HBU.out.cell (p := ⟨A, 1, none⟩) HLA.out).trans a1; have r2 : wU.cell? ⟨A, 2, none⟩ = some (.string sa) := (HBU.out.cell (p := ⟨A, 2, none⟩) HLA.out).trans a2; clear hbU))
  have HXU : Hid (Bx wU A ⟨ka, na, sa⟩ ∧ Bx wU B ⟨kb, nb, sb⟩) := ⟨HX4.out.1.below HBU.out, HX4.out.2.1.below HBU.out⟩
  have HWU : Hid (Below w.heap.size w wU) := below_trans HWW4.out HBU.out HWW4.out.size
  clear a0 a1 a2 q0 q1 q2 r0 r1 r2
  have hkk := HKK.out
  have hr1 := R1.out
  subst hkk
  obtain ⟨⟨a0, a1, a2⟩, ⟨b0, b1, b2⟩⟩ := HXU.out
  simp only at a0 a1 a2 b0 b1 b2
  have hr3 := R3.out
  clear HX HX1 HX2 HX3 HX4 HXU C1 C2 C3 C4 C5 HD HBV HBU HWW1 HWW2 HWW3 HWW4 HW3 XA3 XB HB1 HB2 HB3 HH HSX HLA R1 R3 HKK HA HB HC
  rcases R4.out with h | h | h
  · subst h
    have hx : x1 = 1 := by omega
    subst hx
    have hne : ¬ (na = nb ∧ sa = sb) := fun h => by have := R2.out.2 h; omega
    have HNE : Hid (¬ (na = nb ∧ sa = sb)) := hne
    clear hr1 hne hr3 R2 R4
    go_wp2
    all_goals first
      | (exfalso
         exact HNE.out ⟨by assumption, toList_inj (by assumption)⟩)
      | (go_ret
         exact ⟨ret_bool (by simp), HWU.out⟩)
  · subst h
    have hx : x1 = 0 := by omega
    subst hx
    obtain ⟨hq1, hq2⟩ := R2.out.1 rfl
    subst hq1 hq2
    clear hr1 R2 R4
    by_cases h3 : x3 ≤ 0
    · have h4 : x4 ≤ 0 := hr3 (by omega) h3
      have h5 : ¬ 0 < x4 := by omega
      clear hr3
      go_wp2
      all_goals
        go_ret
        exact ⟨ret_bool (by simp <;> omega), HWU.out⟩
    · clear hr3
      go_wp2
      all_goals
        go_ret
        exact ⟨ret_bool (by simp <;> omega), HWU.out⟩
  · subst h
    have hx : x1 = -1 := by omega
    subst hx
    have hne : ¬ (na = nb ∧ sa = sb) := fun h => by have := R2.out.2 h; omega
    have HNE : Hid (¬ (na = nb ∧ sa = sb)) := hne
    clear hr1 hne R2 R4
    by_cases h3 : x3 ≤ 0
    · have h4 : x4 ≤ 0 := hr3 (by omega) h3
      have h5 : ¬ 0 < x4 := by omega
      clear hr3
      go_wp2
      all_goals first
        | (exfalso
           exact HNE.out ⟨by assumption, toList_inj (by assumption)⟩)
        | (go_ret
           exact ⟨ret_bool (by simp), HWU.out⟩)
    · clear hr3
      go_wp2
      all_goals first
        | (exfalso
           exact HNE.out ⟨by assumption, toList_inj (by assumption)⟩)
        | (go_ret
           exact ⟨ret_bool (by simp), HWU.out⟩)
end Go.Proofs.Ythenkpeibkpmkab
