/-
  Events: CheckEvent, and what the document says of an event.
-/
import Derived.Test.YthenkpeibkpmkabL
import Derived.Test.YthenkpeibkpmkabN
namespace Go.Proofs.Ythenkpeibkpmkab
open Go.ChangeShapes Go.WideShapes Go.ChangeAt Go.RowKit
set_option linter.unusedVariables false
set_option linter.unusedSimpArgs false
def schk (st en : Int) : Int := if ¬ (0 ≤ st ∧ st ≤ 1099511627776) ∨ ¬ (0 ≤ en ∧ en ≤ 1099511627776) then 2 else if en < st then 11 else 0
def TysAt (w : World) (v : Value) (ts : List Ty) : Prop :=
  ∃ p cap, v = .slice p ts.length cap ∧ ts.length ≤ cap ∧ cap ≤ maxLen ∧ (0 < ts.length → ∃ g off, p = some ⟨g, off, none⟩ ∧ ∀ j (hj : j < ts.length), g < w.heap.size ∧ w.cell? ⟨g, off + j * 2, none⟩ = some (.string ts[j].s) ∧ ∃ u, w.cell? ⟨g, off + j * 2 + 1, none⟩ = some u ∧ FieldsAt w u ts[j].fs)
theorem TysAt.below {w w' : World} {v : Value} {ts : List Ty} (h : TysAt w v ts) (b : Below w.heap.size w w') : TysAt w' v ts := by
  obtain ⟨p, cap, h1, hc, hm, h2⟩ := h
  refine ⟨p, cap, h1, hc, hm, fun h0 => ?_⟩
  obtain ⟨g, off, h3, h4⟩ := h2 h0
  refine ⟨g, off, h3, fun j hj => ?_⟩
  obtain ⟨a, b0, u, b1, f⟩ := h4 j hj
  exact ⟨Nat.lt_of_lt_of_le a b.size, (b.cell (p := ⟨g, off + j * 2, none⟩) a).trans b0, u, (b.cell (p := ⟨g, off + j * 2 + 1, none⟩) a).trans b1, f.below b⟩
def echk (ts : List Ty) (num typ st en : Int) (l : List Vl) : Int :=
  if num < 1 ∨ 1048576 < num then 2 else if typ < 0 ∨ (ts.length : Int) ≤ typ then 6 else if schk st en ≠ 0 then schk st en
  else fit (ts.getD typ.toNat ⟨ByteArray.empty, []⟩) l
theorem isTime_any (a : Int) (r : Bool) (h : Say r (0 ≤ a ∧ a ≤ 1099511627776)) (w : World) :
    Calls Try.prog 33 #[.int .i64 a] w fun e w' => e = .returned (.bool r) ∧ w' = w := by
  have H : Hid (Say r (0 ≤ a ∧ a ≤ 1099511627776)) := h
  clear h
  go_enter Try.func33, Try.ntmps33
  go_wp2
  all_goals
    go_ret
    exact ⟨ret_bool (by have h := H.out; unfold Say at h; rw [Bool.eq_iff_iff, h]; simp <;> omega), rfl⟩
set_option maxHeartbeats 2000000 in
theorem tickCheck_any (st en : Int) (w : World) :
    Calls Try.prog 20 #[.agg #[.int .i64 st, .int .i64 en]] w fun e w' => e = .returned (.int .i64 (schk st en)) ∧ Below w.heap.size w w' := by
  obtain ⟨a, ha⟩ := bool_of (0 ≤ st ∧ st ≤ 1099511627776)
  obtain ⟨b, hb⟩ := bool_of (0 ≤ en ∧ en ≤ 1099511627776)
  have HA : Hid (Say a (0 ≤ st ∧ st ≤ 1099511627776)) := ha
  have HB : Hid (Say b (0 ≤ en ∧ en ≤ 1099511627776)) := hb
  clear ha hb
  cases a <;> cases b
  all_goals
    go_enter Try.func20, Try.ntmps20
    go_wp2_with (first | (go_at_call_of 33 (Value.int IntKind.i64 st); refine (isTime_any _ _ HA.out _).mono ?_; rintro e w2 ⟨rfl, rfl⟩) | (go_at_call_of 33 (Value.int IntKind.i64 en); refine (isTime_any _ _ HB.out _).mono ?_; rintro e w2 ⟨rfl, rfl⟩))
    all_goals
      go_ret
      refine ⟨ret_int ?_, (Below.refl _ w).alloc (Nat.le_refl _) _⟩
      have h1 := HA.out
      have h2 := HB.out
      simp only [Say, true_iff, false_iff, Bool.false_eq_true] at h1 h2
      unfold schk
      (repeat' split) <;> first | rfl | (exfalso; omega)
theorem timeMay_any (a : Int) (r : Bool) (h : Say r (0 ≤ a ∧ a ≤ 1099511627776)) (w : World) :
    Calls Try.prog 34 #[.int .i64 a] w fun e w' => e = .returned (.bool r) ∧ w' = w := by
  have H : Hid (Say r (0 ≤ a ∧ a ≤ 1099511627776)) := h
  clear h
  go_enter Try.func34, Try.ntmps34
  go_wp2_with (go_at_call 21; refine (in_any _ _ _ _ H.out _).mono ?_; rintro e w ⟨rfl, rfl⟩)
  go_ret
  exact ⟨rfl, rfl⟩
set_option maxHeartbeats 2000000 in
theorem spanFault_any (st en : Int) (w : World) :
    Calls Try.prog 22 #[.agg #[.int .i64 st, .int .i64 en]] w fun e w' => e = .returned (.int .i64 (schk st en)) ∧ Below w.heap.size w w' := by
  obtain ⟨a, ha⟩ := bool_of (0 ≤ st ∧ st ≤ 1099511627776)
  obtain ⟨b, hb⟩ := bool_of (0 ≤ en ∧ en ≤ 1099511627776)
  have HA : Hid (Say a (0 ≤ st ∧ st ≤ 1099511627776)) := ha
  have HB : Hid (Say b (0 ≤ en ∧ en ≤ 1099511627776)) := hb
  clear ha hb
  cases a <;> cases b
  all_goals
    go_enter Try.func22, Try.ntmps22
    go_wp2_with (first | (go_at_call_of 34 (Value.int IntKind.i64 st); refine (timeMay_any _ _ HA.out _).mono ?_; rintro e w2 ⟨rfl, rfl⟩) | (go_at_call_of 34 (Value.int IntKind.i64 en); refine (timeMay_any _ _ HB.out _).mono ?_; rintro e w2 ⟨rfl, rfl⟩))
    all_goals
      go_ret
      refine ⟨ret_int ?_, (Below.refl _ w).alloc (Nat.le_refl _) _⟩
      have h1 := HA.out
      have h2 := HB.out
      simp only [Say, true_iff, false_iff, Bool.false_eq_true] at h1 h2
      unfold schk
      (repeat' split) <;> first | rfl | (exfalso; omega)
theorem echk_typ {ts : List Ty} {num typ st en : Int} {l : List Vl} {j : Nat} (hj : j < ts.length) (h1 : ¬ (num < 1 ∨ 1048576 < num)) (h2 : typ = (j : Int)) : echk ts num typ st en l = if schk st en ≠ 0 then schk st en else fit ts[j] l := by
  subst h2
  unfold echk
  rw [if_neg h1, if_neg (by omega)]
  simp [List.getElem?_eq_getElem hj]
set_option maxHeartbeats 8000000 in
theorem checkEvent_any (v : Value) (ts : List Ty) (num typ st en : Int) (u : Value) (l : List Vl) (w : World) (hv : TysAt w v ts) (hu : ValsAt w u l) :
    Calls Try.prog 9 #[v, .agg #[.int .i64 num, .int .i64 typ, .int .i64 st, .int .i64 en, u]] w fun e w' => e = .returned (.int .i64 (echk ts num typ st en l)) ∧ Below w.heap.size w w' := by
  obtain ⟨R, hR⟩ : ∃ R, echk ts num typ st en l = R := ⟨_, rfl⟩
  obtain ⟨n, hn⟩ : ∃ n, ts.length = n := ⟨_, rfl⟩
  obtain ⟨r, hr⟩ : ∃ r, schk st en = r := ⟨_, rfl⟩
  have HU : Hid (ValsAt w u l) := hu
  have HN : Hid (ts.length = n) := hn
  have HR : Hid (echk ts num typ st en l = R) := hR
  have H1 : Hid (∀ W, Calls Try.prog 20 #[.agg #[.int .i64 st, .int .i64 en]] W fun e w' => e = .returned (.int .i64 r) ∧ Below W.heap.size W w') := fun W => by rw [← hr]; exact tickCheck_any _ _ _
  have HRR : Hid (schk st en = r) := hr
  rw [hR]
  obtain ⟨p, cap, hsh, _, hmx, htc⟩ := hv
  obtain ⟨p2, cap2, hsh2, _, _⟩ := hu.shape
  obtain ⟨m, hm⟩ : ∃ m, l.length = m := ⟨_, rfl⟩
  rw [hm] at hsh2
  rw [hn] at hsh
  subst hsh hsh2
  have HTC : Hid (0 < ts.length → ∃ g off, p = some ⟨g, off, none⟩ ∧ ∀ j (hj : j < ts.length), g < w.heap.size ∧ w.cell? ⟨g, off + j * 2, none⟩ = some (.string ts[j].s) ∧ ∃ u, w.cell? ⟨g, off + j * 2 + 1, none⟩ = some u ∧ FieldsAt w u ts[j].fs) := htc
  clear hR hn hr hu htc hm hmx
  by_cases h1 : num < 1 ∨ 1048576 < num
  · have hx : R = 2 := by rw [← HR.out]; unfold echk; rw [if_pos h1]
    have HX : Hid (R = 2) := hx
    clear hx
    rcases h1 with h1 | h1
    · go_enter Try.func9, Try.ntmps9
      go_wp2
      go_ret
      exact ⟨ret_int HX.out.symm, (Below.refl _ w).alloc (Nat.le_refl _) _⟩
    · have h0 : ¬ num < 1 := by omega
      go_enter Try.func9, Try.ntmps9
      go_wp2
      go_ret
      exact ⟨ret_int HX.out.symm, (Below.refl _ w).alloc (Nat.le_refl _) _⟩
  · have n1 : ¬ num < 1 := by omega
    have n2 : ¬ 1048576 < num := by omega
    have H0 : Hid (¬ (num < 1 ∨ 1048576 < num)) := h1
    by_cases h2 : typ < 0 ∨ (n : Int) ≤ typ
    · have hx : R = 6 := by rw [← HR.out]; unfold echk; rw [if_neg h1, if_pos (by rw [HN.out]; exact h2)]
      have HX : Hid (R = 6) := hx
      clear hx h1
      rcases h2 with h2 | h2
      · go_enter Try.func9, Try.ntmps9
        go_wp2
        go_ret
        exact ⟨ret_int HX.out.symm, (Below.refl _ w).alloc (Nat.le_refl _) _⟩
      · have h0 : ¬ typ < 0 := by omega
        go_enter Try.func9, Try.ntmps9
        go_wp2
        go_ret
        exact ⟨ret_int HX.out.symm, (Below.refl _ w).alloc (Nat.le_refl _) _⟩
    · obtain ⟨j, hj⟩ : ∃ j : Nat, typ = (j : Int) := ⟨typ.toNat, by omega⟩
      subst hj
      have hjl : j < ts.length := by have := HN.out; omega
      have t1 : (0 : Int) ≤ (j : Int) := by omega
      have t2 : (j : Int) < (n : Int) := by omega
      have t3 : ¬ ((n : Int) ≤ (j : Int)) := by omega
      have t4 : decide ((n : Int) ≤ (j : Int)) = false := by simp; omega
      have t5 : decide ((j : Int) < 0) = false := by simp
      have hx : R = if r ≠ 0 then r else fit ts[j] l := by rw [← HR.out, echk_typ hjl h1 rfl, HRR.out]
      obtain ⟨q, hq⟩ : ∃ q, fit ts[j] l = q := ⟨_, rfl⟩
      rw [hq] at hx
      have HX : Hid (R = if r ≠ 0 then r else q) := hx
      obtain ⟨g, off, hg, hcl⟩ := HTC.out (by omega)
      subst hg
      obtain ⟨hgs, c0, uf, c1, hF⟩ := hcl j hjl
      have HF : Hid (FieldsAt w uf ts[j].fs) := hF
      have H2 : Hid (∀ W, Below w.heap.size w W → Calls Try.prog 16 #[.agg #[.string ts[j].s, uf], .slice p2 m cap2] W fun e w' => e = .returned (.int .i64 q) ∧ Below W.heap.size W w') := fun W hb => by rw [← hq]; exact fit_any ts[j] _ _ _ _ (HF.out.below hb) (HU.out.below hb)
      obtain ⟨pf, capf, hshf, hF1, hF2⟩ := hF.shape
      obtain ⟨nf, hnf⟩ : ∃ nf, ts[j].fs.length = nf := ⟨_, rfl⟩
      rw [hnf] at hshf
      subst hshf
      obtain ⟨tn, htn⟩ : ∃ x, ts[j].s = x := ⟨_, rfl⟩
      rw [htn] at c0 H2
      have HGS : Hid (g < w.heap.size ∧ w.cell? ⟨g, off + j * 2, none⟩ = some (.string tn) ∧ w.cell? ⟨g, off + j * 2 + 1, none⟩ = some (.slice pf nf capf)) := ⟨hgs, c0, c1⟩
      clear hx hq hcl HF hF hF1 hF2 hnf htn hgs c0 c1 h1 h2 hjl
      go_enter Try.func9, Try.ntmps9
      go_wp2_with fail
      refine (H1.out _).mono ?_
      rintro e w1 ⟨rfl, hb1⟩
      have HB1 : Hid (Below w.heap.size w w1) := below_trans ((Below.refl _ w).alloc (Nat.le_refl _) (.cells #[.int .i64 num, .int .i64 (j : Int), .int .i64 st, .int .i64 en, .slice p2 m cap2] 27)) hb1 (by simp)
      have x1 : w1.cell? ⟨w.heap.size, 1, none⟩ = some (.int .i64 (j : Int)) := (hb1.cell (by simp)).trans (cell_new rfl rfl)
      have x4 : w1.cell? ⟨w.heap.size, 4, none⟩ = some (.slice p2 m cap2) := (hb1.cell (by simp)).trans (cell_new rfl rfl)
      have y0 : w1.cell? ⟨g, off + j * 2, none⟩ = some (.string tn) := (HB1.out.cell (p := ⟨g, off + j * 2, none⟩) HGS.out.1).trans HGS.out.2.1
      have y1 : w1.cell? ⟨g, off + j * 2 + 1, none⟩ = some (.slice pf nf capf) := (HB1.out.cell (p := ⟨g, off + j * 2 + 1, none⟩) HGS.out.1).trans HGS.out.2.2
      clear hb1
      by_cases hr0 : r = 0
      · subst hr0
        have hx : R = q := by have := HX.out; simpa using this
        have HXQ : Hid (R = q) := hx
        clear hx HX
        have HLT : Hid (w.heap.size < w1.heap.size ∧ g < w1.heap.size) := ⟨World.block_lt_of_cell? w1 ⟨w.heap.size, 1, none⟩ x1, World.block_lt_of_cell? w1 ⟨g, off + j * 2, none⟩ y0⟩
        go_wp2_with fail
        go_region_held3 (fun w' => w'.cell? ⟨w.heap.size, 1, none⟩ = some (.int .i64 (j : Int)) ∧ w'.cell? ⟨w.heap.size, 4, none⟩ = some (.slice p2 m cap2) ∧ w'.cell? ⟨g, off + j * 2, none⟩ = some (.string tn) ∧ w'.cell? ⟨g, off + j * 2 + 1, none⟩ = some (.slice pf nf capf))
          (first | exact ⟨z0, z1, z2, z3⟩ | (go_keep; done))
          ((go_at_call 16; refine (H2.out _ HB1.out.drew).mono ?_; rintro e w2 ⟨rfl, hb2⟩; have HB2 : Hid (Below w1.heap.size w1 w2) := below_trans ((Below.refl _ w1).drew) hb2 (Nat.le_refl _); have z0 : w2.cell? ⟨w.heap.size, 1, none⟩ = some (.int .i64 (j : Int)) := (HB2.out.cell (p := ⟨w.heap.size, 1, none⟩) (HLT.out.1)).trans x1; have z1 : w2.cell? ⟨w.heap.size, 4, none⟩ = some (.slice p2 m cap2) := (HB2.out.cell (p := ⟨w.heap.size, 4, none⟩) (HLT.out.1)).trans x4; have z2 : w2.cell? ⟨g, off + j * 2, none⟩ = some (.string tn) := (HB2.out.cell (p := ⟨g, off + j * 2, none⟩) (HLT.out.2)).trans y0; have z3 : w2.cell? ⟨g, off + j * 2 + 1, none⟩ = some (.slice pf nf capf) := (HB2.out.cell (p := ⟨g, off + j * 2 + 1, none⟩) (HLT.out.2)).trans y1; clear hb2))
        clear x1 x4 y0 y1 z0 z1 z2 z3
        go_wp2
        go_ret
        exact ⟨ret_int HXQ.out.symm, below_trans HB1.out HB2.out HB1.out.size⟩
      · have hb1 : (r == 0) = false := by simpa using hr0
        have hb2 : (r != 0) = true := by simpa using hr0
        have hx : R = r := by rw [HX.out]; simp [hr0]
        have HXQ : Hid (R = r) := hx
        clear hx HX x1 x4 y0 y1
        go_wp2
        go_ret
        exact ⟨ret_int HXQ.out.symm, HB1.out⟩
end Go.Proofs.Ythenkpeibkpmkab
