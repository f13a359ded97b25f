/-
  The types of the raw events.
-/
import Derived.Test.YthenkpeibkpmkabX
import Derived.Test.YthenkpeibkpmkabS
namespace Go.Proofs.Ythenkpeibkpmkab
open Go.ChangeShapes Go.WideShapes Go.ChangeAt Go.RowKit Go.Maps
set_option linter.unusedVariables false
set_option linter.unusedSimpArgs false
def b1 (c : UInt8) : ByteArray := ⟨#[c]⟩
def tyA : Ty := ⟨b1 97, [⟨b1 110, 1⟩]⟩
def tyB : Ty := ⟨b1 98, [⟨b1 110, 1⟩, ⟨b1 115, 2⟩]⟩
def tyC : Ty := ⟨b1 99, []⟩
def tyD : Ty := ⟨b1 100, [⟨b1 110, 1⟩]⟩
def tyE : Ty := ⟨b1 101, [⟨b1 110, 1⟩]⟩
def tys : List Ty := [tyA, tyB, tyC, tyD, tyE]
theorem nchk_b1 (c : UInt8) (h : 97 ≤ c.toNat ∧ c.toNat ≤ 122) : nchk (b1 c) = 0 := by
  unfold b1; rw [nchk_one, if_pos (by omega)]
theorem tchk_one (c : UInt8) (h : 97 ≤ c.toNat ∧ c.toNat ≤ 122) : tchk ⟨b1 c, [⟨b1 110, 1⟩]⟩ = 0 := by
  have h1 := nchk_b1 c h
  have h2 := nchk_b1 110 (by decide)
  simp [tchk, h1, fst, fchk, h2, fnd]
theorem tchk_B : tchk tyB = 0 := by
  have h1 := nchk_b1 98 (by decide)
  have h2 := nchk_b1 110 (by decide)
  have h3 := nchk_b1 115 (by decide)
  have h4 : eqS (b1 110) (b1 115) = false := by rw [eqS_data]; decide
  simp [tyB, tchk, h1, fst, fchk, h2, h3, fnd, h4]
theorem tchk_C : tchk tyC = 0 := by
  have h1 := nchk_b1 99 (by decide)
  simp [tyC, tchk, h1, fst]
/-- Values that fit type a of the raw events. -/
def Ok4 (a : Nat) (vs : List Vl) : Prop := fit (tys.getD a ⟨ByteArray.empty, []⟩) vs = 0
theorem fit_parts {t : Ty} {l : List Vl} (h : fit t l = 0) : tchk t = 0 ∧ fst (vat l) l.length = 0 ∧ l.length = t.fs.length := by
  unfold fit at h
  by_cases h1 : tchk t = 0
  · rw [if_neg (by simp [h1])] at h
    by_cases h2 : fst (vat l) l.length = 0
    · rw [if_neg (by simp [h2])] at h
      by_cases h3 : l.length = t.fs.length
      · exact ⟨h1, h2, h3⟩
      · rw [if_pos h3] at h; omega
    · rw [if_pos h2] at h; exact absurd h h2
  · rw [if_pos h1] at h; exact absurd h h1
theorem fit_more {t : Ty} {l : List Vl} {v : Vl} (h : fit t l = 0) (hv : vchk v = 0) : fit t (l ++ [v]) = 13 := by
  obtain ⟨h1, h2, h3⟩ := fit_parts h
  have hl : (l ++ [v]).length = l.length + 1 := by simp
  have h4 : fst (vat (l ++ [v])) (l ++ [v]).length = 0 := by
    rw [hl]
    refine fst_step ?_ ?_
    · rw [fst_congr (g := vat l) (fun k hk => by unfold vat; rw [List.getElem?_append_left hk])]
      exact h2
    · unfold vat; simp [hv]
  unfold fit
  rw [if_neg (by simp [h1]), if_neg (by simp only [h4]; simp), if_pos (by omega)]
theorem ok_int (n : Int) (h : 0 ≤ n ∧ n ≤ 5) : vchk ⟨1, n, ⟨#[]⟩⟩ = 0 := by
  have h0 : (⟨#[]⟩ : ByteArray).toList = [] := toList_empty
  rw [vchk_eq]
  simp [h0]
  omega
theorem ok_text (t : ByteArray) (h : t.size ≤ 3) : vchk ⟨2, 0, t⟩ = 0 := by
  rw [vchk_eq]
  simp
  omega
theorem Ok4.a {n : Int} (h : 0 ≤ n ∧ n ≤ 5) : Ok4 0 [⟨1, n, ⟨#[]⟩⟩] := by
  have h1 : tchk ⟨b1 97, [⟨b1 110, 1⟩]⟩ = 0 := tchk_one 97 (by decide)
  have h2 := ok_int n h
  simp [Ok4, tys, fit, h1, fst, vat, h2, tyA, kat]
theorem Ok4.d {n : Int} (h : 0 ≤ n ∧ n ≤ 5) : Ok4 3 [⟨1, n, ⟨#[]⟩⟩] := by
  have h1 : tchk ⟨b1 100, [⟨b1 110, 1⟩]⟩ = 0 := tchk_one 100 (by decide)
  have h2 := ok_int n h
  simp [Ok4, tys, fit, h1, fst, vat, h2, tyD, kat]
theorem Ok4.c : Ok4 2 [] := by
  have h1 : tchk ⟨b1 99, []⟩ = 0 := tchk_C
  simp [Ok4, tys, fit, h1, fst, tyC]
theorem Ok4.b {n : Int} {t : ByteArray} (h : 0 ≤ n ∧ n ≤ 5) (ht : t.size ≤ 3) : Ok4 1 [⟨1, n, ⟨#[]⟩⟩, ⟨2, 0, t⟩] := by
  have h2 := ok_int n h
  have h3 := ok_text t ht
  have h1 : tchk ⟨b1 98, [⟨b1 110, 1⟩, ⟨b1 115, 2⟩]⟩ = 0 := tchk_B
  simp [Ok4, tys, fit, h1, fst, vat, h2, h3, tyB, kat]
theorem fields_one {w : World} {g : Nat} (f : Fd) (hg : g < w.heap.size) (c0 : w.cell? ⟨g, 0, none⟩ = some (.string f.s)) (c1 : w.cell? ⟨g, 1, none⟩ = some (.int .i64 f.k)) : FieldsAt w (.slice (some ⟨g, 0, none⟩) 1 1) [f] := by
  refine ⟨_, 1, rfl, by simp, by unfold maxLen; omega, fun _ => ⟨g, 0, rfl, fun j hj => ⟨hg, ?_⟩⟩⟩
  obtain rfl : j = 0 := by simp at hj; omega
  exact ⟨c0, c1⟩
theorem fields_two {w : World} {g : Nat} (f f' : Fd) (hg : g < w.heap.size) (c0 : w.cell? ⟨g, 0, none⟩ = some (.string f.s)) (c1 : w.cell? ⟨g, 1, none⟩ = some (.int .i64 f.k)) (c2 : w.cell? ⟨g, 2, none⟩ = some (.string f'.s)) (c3 : w.cell? ⟨g, 3, none⟩ = some (.int .i64 f'.k)) : FieldsAt w (.slice (some ⟨g, 0, none⟩) 2 2) [f, f'] := by
  refine ⟨_, 2, rfl, by simp, by unfold maxLen; omega, fun _ => ⟨g, 0, rfl, fun j hj => ⟨hg, ?_⟩⟩⟩
  have hj' : j = 0 ∨ j = 1 := by simp at hj; omega
  rcases hj' with rfl | rfl
  · exact ⟨c0, c1⟩
  · exact ⟨c2, c3⟩
theorem fields_none (w : World) : FieldsAt w (.slice none 0 0) [] := ⟨none, 0, rfl, by simp, Nat.zero_le _, fun h => absurd h (by simp)⟩
theorem tys_mem {w w1 w2 w3 w4 w5 : World} (e1 : w1 = w.alloc (.cells #[.string ⟨#[110]⟩, .int .i64 1] 46)) (e2 : w2 = w1.alloc (.cells #[.string ⟨#[110]⟩, .int .i64 1, .string ⟨#[115]⟩, .int .i64 2] 46)) (e3 : w3 = w2.alloc (.cells #[.string ⟨#[110]⟩, .int .i64 1] 46)) (e4 : w4 = w3.alloc (.cells #[.string ⟨#[110]⟩, .int .i64 1] 46))
    (e5 : w5 = w4.alloc (.cells #[.string ⟨#[97]⟩, .slice (some ⟨w.heap.size, 0, none⟩) 1 1, .string ⟨#[98]⟩, .slice (some ⟨w.heap.size + 1, 0, none⟩) 2 2, .string ⟨#[99]⟩, .slice none 0 0, .string ⟨#[100]⟩, .slice (some ⟨w.heap.size + 1 + 1, 0, none⟩) 1 1, .string ⟨#[101]⟩, .slice (some ⟨w.heap.size + 1 + 1 + 1, 0, none⟩) 1 1] 44)) :
    TysAt w5 (.slice (some ⟨w.heap.size + 1 + 1 + 1 + 1, 0, none⟩) 5 5) tys ∧ Below w.heap.size w w5 := by
  have s1 : w1.heap.size = w.heap.size + 1 := by rw [e1]; simp
  have s2 : w2.heap.size = w.heap.size + 1 + 1 := by rw [e2]; simp [s1]
  have s3 : w3.heap.size = w.heap.size + 1 + 1 + 1 := by rw [e3]; simp [s2]
  have s4 : w4.heap.size = w.heap.size + 1 + 1 + 1 + 1 := by rw [e4]; simp [s3]
  have s5 : w5.heap.size = w.heap.size + 1 + 1 + 1 + 1 + 1 := by rw [e5]; simp [s4]
  have B1 : Below w.heap.size w w1 := by rw [e1]; exact (Below.refl _ w).alloc (Nat.le_refl _) _
  have B2 : Below w1.heap.size w1 w2 := by rw [e2]; exact (Below.refl _ w1).alloc (Nat.le_refl _) _
  have B3 : Below w2.heap.size w2 w3 := by rw [e3]; exact (Below.refl _ w2).alloc (Nat.le_refl _) _
  have B4 : Below w3.heap.size w3 w4 := by rw [e4]; exact (Below.refl _ w3).alloc (Nat.le_refl _) _
  have B5 : Below w4.heap.size w4 w5 := by rw [e5]; exact (Below.refl _ w4).alloc (Nat.le_refl _) _
  have F1 : FieldsAt w1 (.slice (some ⟨w.heap.size, 0, none⟩) 1 1) [⟨b1 110, 1⟩] := fields_one ⟨b1 110, 1⟩ (by omega) (by rw [e1]; exact cell_new rfl rfl) (by rw [e1]; exact cell_new rfl rfl)
  have F2 : FieldsAt w2 (.slice (some ⟨w.heap.size + 1, 0, none⟩) 2 2) [⟨b1 110, 1⟩, ⟨b1 115, 2⟩] := fields_two ⟨b1 110, 1⟩ ⟨b1 115, 2⟩ (by omega) (by rw [e2]; exact cell_new s1.symm rfl) (by rw [e2]; exact cell_new s1.symm rfl) (by rw [e2]; exact cell_new s1.symm rfl) (by rw [e2]; exact cell_new s1.symm rfl)
  have F3 : FieldsAt w3 (.slice (some ⟨w.heap.size + 1 + 1, 0, none⟩) 1 1) [⟨b1 110, 1⟩] := fields_one ⟨b1 110, 1⟩ (by omega) (by rw [e3]; exact cell_new s2.symm rfl) (by rw [e3]; exact cell_new s2.symm rfl)
  have F4 : FieldsAt w4 (.slice (some ⟨w.heap.size + 1 + 1 + 1, 0, none⟩) 1 1) [⟨b1 110, 1⟩] := fields_one ⟨b1 110, 1⟩ (by omega) (by rw [e4]; exact cell_new s3.symm rfl) (by rw [e4]; exact cell_new s3.symm rfl)
  refine ⟨⟨_, 5, rfl, by simp [tys], by unfold maxLen; omega, fun _ => ⟨w.heap.size + 1 + 1 + 1 + 1, 0, rfl, fun j hj => ⟨by omega, ?_⟩⟩⟩, ?_⟩
  · have hj' : j = 0 ∨ j = 1 ∨ j = 2 ∨ j = 3 ∨ j = 4 := by simp [tys] at hj; omega
    rcases hj' with rfl | rfl | rfl | rfl | rfl
    · exact ⟨by rw [e5]; exact cell_new s4.symm rfl, _, by rw [e5]; exact cell_new s4.symm rfl, (((F1.below B2).below B3).below B4).below B5⟩
    · exact ⟨by rw [e5]; exact cell_new s4.symm rfl, _, by rw [e5]; exact cell_new s4.symm rfl, ((F2.below B3).below B4).below B5⟩
    · exact ⟨by rw [e5]; exact cell_new s4.symm rfl, _, by rw [e5]; exact cell_new s4.symm rfl, fields_none _⟩
    · exact ⟨by rw [e5]; exact cell_new s4.symm rfl, _, by rw [e5]; exact cell_new s4.symm rfl, (F3.below B4).below B5⟩
    · exact ⟨by rw [e5]; exact cell_new s4.symm rfl, _, by rw [e5]; exact cell_new s4.symm rfl, F4.below B5⟩
  · exact below_trans (below_trans (below_trans (below_trans B1 B2 (by omega)) B3 (by omega)) B4 (by omega)) B5 (by omega)
set_option maxHeartbeats 4000000 in
theorem types_any (w : World) : Calls Try.prog 19 #[] w fun e w' => ∃ p cap, e = .returned (.slice p 5 cap) ∧ TysAt w' (.slice p 5 cap) tys ∧ Below w.heap.size w w' := by
  go_enter Try.func19, Try.ntmps19
  go_wp2
  go_ret
  exact ⟨_, _, rfl, tys_mem rfl rfl rfl rfl rfl⟩
end Go.Proofs.Ythenkpeibkpmkab
