/-
  Events: CheckEvent, and what the document says of an event.
-/
import Derived.Test.YtepgkemnpcadiaaC
namespace Go.Proofs.Ytepgkemnpcadiaa
open Go.ChangeShapes Go.WideShapes Go.ChangeAt Go.RowKit
set_option linter.unusedVariables false
set_option linter.unusedSimpArgs false
def schk (st en : Int) : Int := if ¬ (0 ≤ st ∧ st ≤ 1099511627776) ∨ ¬ (0 ≤ en ∧ en ≤ 1099511627776) then 2 else if en < st then 11 else 0
def TysAt (w : World) (v : Value) (ts : List Ty) : Prop :=
  ∃ p cap, v = .slice p ts.length cap ∧ ts.length ≤ cap ∧ cap ≤ maxLen ∧ (0 < ts.length → ∃ g off, p = some ⟨g, off, none⟩ ∧ ∀ j (hj : j < ts.length), g < w.heap.size ∧ w.cell? ⟨g, off + j * 2, none⟩ = some (.string ts[j].s) ∧ ∃ u, w.cell? ⟨g, off + j * 2 + 1, none⟩ = some u ∧ FieldsAt w u ts[j].fs)
theorem TysAt.below {w w' : World} {v : Value} {ts : List Ty} (h : TysAt w v ts) (b : Below w.heap.size w w') : TysAt w' v ts := by
  obtain ⟨p, cap, h1, hc, hm, h2⟩ := h
  refine ⟨p, cap, h1, hc, hm, fun h0 => ?_⟩
  obtain ⟨g, off, h3, h4⟩ := h2 h0
  refine ⟨g, off, h3, fun j hj => ?_⟩
  obtain ⟨a, b0, u, b1, f⟩ := h4 j hj
  exact ⟨Nat.lt_of_lt_of_le a b.size, (b.cell (p := ⟨g, off + j * 2, none⟩) a).trans b0, u, (b.cell (p := ⟨g, off + j * 2 + 1, none⟩) a).trans b1, f.below b⟩
def echk (ts : List Ty) (num typ st en : Int) (l : List Vl) : Int :=
  if num < 1 ∨ 1048576 < num then 2 else if typ < 0 ∨ (ts.length : Int) ≤ typ then 6 else if schk st en ≠ 0 then schk st en
  else fit (ts.getD typ.toNat ⟨ByteArray.empty, []⟩) l
theorem isTime_any (a : Int) (r : Bool) (h : Say r (0 ≤ a ∧ a ≤ 1099511627776)) (w : World) :
    Calls Try.prog 63 #[.int .i64 a] w fun e w' => e = .returned (.bool r) ∧ w' = w := by
  have H : Hid (Say r (0 ≤ a ∧ a ≤ 1099511627776)) := h
  clear h
  go_enter Try.func63, Try.ntmps63
  go_wp2
  all_goals
    go_ret
    exact ⟨ret_bool (by have h := H.out; unfold Say at h; rw [Bool.eq_iff_iff, h]; simp <;> omega), rfl⟩
set_option maxHeartbeats 2000000 in
theorem tickCheck_any (st en : Int) (w : World) :
    Calls Try.prog 64 #[.agg #[.int .i64 st, .int .i64 en]] w fun e w' => e = .returned (.int .i64 (schk st en)) ∧ Below w.heap.size w w' := by
  obtain ⟨a, ha⟩ := bool_of (0 ≤ st ∧ st ≤ 1099511627776)
  obtain ⟨b, hb⟩ := bool_of (0 ≤ en ∧ en ≤ 1099511627776)
  have HA : Hid (Say a (0 ≤ st ∧ st ≤ 1099511627776)) := ha
  have HB : Hid (Say b (0 ≤ en ∧ en ≤ 1099511627776)) := hb
  clear ha hb
  cases a <;> cases b
  all_goals
    go_enter Try.func64, Try.ntmps64
    go_wp2_with (first | (go_at_call_of 63 (Value.int IntKind.i64 st); refine (isTime_any _ _ HA.out _).mono ?_; rintro e w2 ⟨rfl, rfl⟩) | (go_at_call_of 63 (Value.int IntKind.i64 en); refine (isTime_any _ _ HB.out _).mono ?_; rintro e w2 ⟨rfl, rfl⟩))
    all_goals
      go_ret
      refine ⟨ret_int ?_, (Below.refl _ w).alloc (Nat.le_refl _) _⟩
      have h1 := HA.out
      have h2 := HB.out
      simp only [Say, true_iff, false_iff, Bool.false_eq_true] at h1 h2
      unfold schk
      (repeat' split) <;> first | rfl | (exfalso; omega)
theorem timeMay_any (a : Int) (r : Bool) (h : Say r (0 ≤ a ∧ a ≤ 1099511627776)) (w : World) :
    Calls Try.prog 47 #[.int .i64 a] w fun e w' => e = .returned (.bool r) ∧ w' = w := by
  have H : Hid (Say r (0 ≤ a ∧ a ≤ 1099511627776)) := h
  clear h
  go_enter Try.func47, Try.ntmps47
  go_wp2_with (go_at_call 52; refine (in_any _ _ _ _ H.out _).mono ?_; rintro e w ⟨rfl, rfl⟩)
  go_ret
  exact ⟨rfl, rfl⟩
set_option maxHeartbeats 2000000 in
theorem spanFault_any (st en : Int) (w : World) :
    Calls Try.prog 48 #[.agg #[.int .i64 st, .int .i64 en]] w fun e w' => e = .returned (.int .i64 (schk st en)) ∧ Below w.heap.size w w' := by
  obtain ⟨a, ha⟩ := bool_of (0 ≤ st ∧ st ≤ 1099511627776)
  obtain ⟨b, hb⟩ := bool_of (0 ≤ en ∧ en ≤ 1099511627776)
  have HA : Hid (Say a (0 ≤ st ∧ st ≤ 1099511627776)) := ha
  have HB : Hid (Say b (0 ≤ en ∧ en ≤ 1099511627776)) := hb
  clear ha hb
  cases a <;> cases b
  all_goals
    go_enter Try.func48, Try.ntmps48
    go_wp2_with (first | (go_at_call_of 47 (Value.int IntKind.i64 st); refine (timeMay_any _ _ HA.out _).mono ?_; rintro e w2 ⟨rfl, rfl⟩) | (go_at_call_of 47 (Value.int IntKind.i64 en); refine (timeMay_any _ _ HB.out _).mono ?_; rintro e w2 ⟨rfl, rfl⟩))
    all_goals
      go_ret
      refine ⟨ret_int ?_, (Below.refl _ w).alloc (Nat.le_refl _) _⟩
      have h1 := HA.out
      have h2 := HB.out
      simp only [Say, true_iff, false_iff, Bool.false_eq_true] at h1 h2
      unfold schk
      (repeat' split) <;> first | rfl | (exfalso; omega)
theorem echk_typ {ts : List Ty} {num typ st en : Int} {l : List Vl} {j : Nat} (hj : j < ts.length) (h1 : ¬ (num < 1 ∨ 1048576 < num)) (h2 : typ = (j : Int)) : echk ts num typ st en l = if schk st en ≠ 0 then schk st en else fit ts[j] l := by
  subst h2
  unfold echk
  rw [if_neg h1, if_neg (by omega)]
  simp [List.getElem?_eq_getElem hj]
end Go.Proofs.Ytepgkemnpcadiaa
