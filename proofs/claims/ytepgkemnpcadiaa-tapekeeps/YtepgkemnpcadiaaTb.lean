/-
  Whether an act may be on a tape: the program's Check, the document's NoteFault; the law.
-/
import Derived.Test.YtepgkemnpcadiaaTa
import Derived.Test.YtepgkemnpcadiaaWo
namespace Go.Proofs.Ytepgkemnpcadiaa
open Go.ChangeShapes Go.WideShapes Go.ChangeAt Go.RowKit Go.Maps
set_option linter.unusedVariables false
set_option linter.unusedSimpArgs false
set_option maxRecDepth 20000
set_option maxHeartbeats 8000000 in
theorem noOp_any (o : Opn) (p : Option Addr) (cap : Nat) (w : World) (z : Bool) (hz : emp o = z) :
    Calls Try.prog 28 #[opv o (.slice p o.l.length cap)] w fun e w' => e = .returned (.bool z) ∧ Below w.heap.size w w' := by
  have HE := hid hz
  obtain ⟨k, s, a, b, l, d, c⟩ := o
  unfold opv
  simp only
  obtain ⟨n, hn⟩ : ∃ n, l.length = n := ⟨_, rfl⟩
  have HN := hid hn
  rw [hn]
  clear hz hn
  go_enter Try.func28, Try.ntmps28
  go_wp2
  all_goals
    go_ret
    refine ⟨ret_bool ?_, (Below.refl _ w).alloc (Nat.le_refl _) _⟩
    have h := HE.out
    rw [← h]
    have hn := HN.out
    clear h HE HN
    unfold emp
    simp only [beq_iff_eq, bne_iff_ne, decide_eq_true_eq, Bool.not_eq_true', List.isEmpty_iff, List.isEmpty_eq_false_iff, beq_eq_false_iff_ne, hn] at *
    first | (simp_all; done) | (simp_all <;> omega)
theorem ach_1 {o : Opn} {p : Int} {s : ByteArray} (h : p = 0) (h2 : s.toList = []) : ach ⟨1, o, p, s⟩ = ochk o := by
  unfold ach
  simp [h, h2]
theorem ach_1b {o : Opn} {p : Int} {s : ByteArray} (h : p ≠ 0 ∨ s.toList ≠ []) : ach ⟨1, o, p, s⟩ = 4 := by
  unfold ach
  simp only [if_true]
  rw [if_pos h]
theorem ach_4b {o : Opn} {p : Int} {s : ByteArray} (h : p ≠ 0 ∨ emp o = false) : ach ⟨4, o, p, s⟩ = 4 := by
  unfold ach
  simp only [if_true]
  rw [if_neg (by decide), if_pos h]
theorem ach_4 {o : Opn} {s : ByteArray} (h : emp o = true) : ach ⟨4, o, 0, s⟩ = if 3000 < s.size then 1 else 0 := by
  unfold ach
  simp only [if_true]
  rw [if_neg (by decide), if_neg (by simp [h])]
theorem ach_x {o : Opn} {k p : Int} {s : ByteArray} (h : k ≠ 1) (h4 : k ≠ 4) : ach ⟨k, o, p, s⟩ = 3 := by
  unfold ach
  simp only
  rw [if_neg h, if_neg h4]
set_option maxHeartbeats 8000000 in
theorem tcheck_any (a : Ac) (u : Value) (w : World) (hv : ValsAt w u a.o.l) :
    Calls Try.prog 9 #[acv a u] w fun e w' => e = .returned (.int .i64 (ach a)) ∧ Below w.heap.size w w' := by
  obtain ⟨k, o, p, y⟩ := a
  simp only at hv
  obtain ⟨q, cap, hu, hmx⟩ := hv.shape'
  have HV := hid hv
  have HC := hid (fun W (h : ValsAt W u o.l) => wchk_any o u W h)
  subst hu
  have HE := hid (fun z h W => empty_any o q cap W z h)
  have A1 := hid (@ach_1 o p y)
  have A1b := hid (@ach_1b o p y)
  have A4b := hid (@ach_4b o p y)
  have A4 := hid (@ach_4 o y)
  have AX := hid (@ach_x o k p y)
  have HBX := hid (fun (o : Obj) => (Below.refl w.heap.size w).alloc (Nat.le_refl _) o)
  obtain ⟨e0, he0⟩ : ∃ e0, emp o = e0 := ⟨_, rfl⟩
  have HE0 := hid he0
  clear hv he0
  obtain ⟨z, hz⟩ : ∃ z, ochk o = z := ⟨_, rfl⟩
  rw [hz] at HC A1
  obtain ⟨r, hr⟩ : ∃ r, ach ⟨k, o, p, y⟩ = r := ⟨_, rfl⟩
  have HR := hid hr
  rw [hr]
  clear hr hz
  obtain ⟨ok, os, oa, ob, ol, od, oc⟩ := o
  unfold acv
  unfold opv at HC HE
  simp only at HC HE HV hmx ⊢
  obtain ⟨n, hn⟩ : ∃ n, ol.length = n := ⟨_, rfl⟩
  rw [hn] at HC HE HV hmx ⊢
  clear hn
  by_cases k1 : k = 1
  · subst k1
    go_enter Try.func9, Try.ntmps9
    go_wp2_with (go_at_call 26; refine (HC.out _ (HV.out.below (HBX.out _))).mono ?_; rintro e w2 ⟨rfl, hb⟩; have HB2 := hid (below_trans (HBX.out _) hb (by simp)); clear hb)
    all_goals
      go_ret
      refine ⟨ret_int ?_, by first | exact HBX.out _ | exact HB2.out⟩
      rw [← HR.out]
      first
        | (refine (A1b.out (Or.inl ?_)).symm; assumption)
        | (refine (A1b.out (Or.inr ?_)).symm; simpa using ‹(!y.toList.isEmpty) = true›)
        | (refine (A1.out ?_ ?_).symm; assumption; simpa using ‹(!y.toList.isEmpty) = false›)
  · by_cases k4 : k = 4
    · subst k4
      go_enter Try.func9, Try.ntmps9
      go_wp2_with (go_at_call 27; refine (HE.out _ HE0.out _).mono ?_; rintro e w2 ⟨rfl, hb⟩; have HB2 := hid (below_trans (HBX.out _) hb (by simp)); have x3 := (hb.cell (p := ⟨w.heap.size, 9, none⟩) (by simp)).trans (cell_new rfl rfl); clear hb)
      all_goals
        go_ret
        refine ⟨ret_int ?_, by first | exact HBX.out _ | exact HB2.out⟩
        rw [← HR.out]
        first
          | (refine (A4b.out (Or.inl ?_)).symm; assumption)
          | (refine (A4b.out (Or.inr ?_)).symm; rw [HE0.out]; simpa using ‹(!e0) = true›)
          | (have hp : p = 0 := by assumption
             have he : e0 = true := by simpa using ‹(!e0) = false›
             subst hp
             rw [A4.out (HE0.out.trans he)]
             first | (rw [if_pos (by omega)]) | (rw [if_neg (by omega)]))
    · have HX := hid (AX.out k1 k4)
      go_enter Try.func9, Try.ntmps9
      go_wp2
      all_goals
        go_ret
        refine ⟨ret_int ?_, HBX.out _⟩
        rw [← HR.out, HX.out]
set_option maxHeartbeats 16000000 in
theorem noteFault_any (a : Ac) (u : Value) (w : World) (hv : ValsAt w u a.o.l) :
    Calls Try.prog 10 #[acv a u] w fun e w' => e = .returned (.int .i64 (ach a)) ∧ Below w.heap.size w w' := by
  obtain ⟨k, o, p, y⟩ := a
  simp only at hv
  obtain ⟨q, cap, hu, hmx⟩ := hv.shape'
  have HV := hid hv
  have HC := hid (fun W (h : ValsAt W u o.l) => wfault_any o u W h)
  subst hu
  have HE := hid (fun z h W => noOp_any o q cap W z h)
  have A1 := hid (@ach_1 o p y)
  have A1b := hid (@ach_1b o p y)
  have A4b := hid (@ach_4b o p y)
  have A4 := hid (@ach_4 o y)
  have AX := hid (@ach_x o k p y)
  have HBX := hid (fun (o : Obj) => (Below.refl w.heap.size w).alloc (Nat.le_refl _) o)
  obtain ⟨e0, he0⟩ : ∃ e0, emp o = e0 := ⟨_, rfl⟩
  have HE0 := hid he0
  clear hv he0
  obtain ⟨z, hz⟩ : ∃ z, ochk o = z := ⟨_, rfl⟩
  rw [hz] at HC A1
  obtain ⟨r, hr⟩ : ∃ r, ach ⟨k, o, p, y⟩ = r := ⟨_, rfl⟩
  have HR := hid hr
  rw [hr]
  clear hr hz
  obtain ⟨ok, os, oa, ob, ol, od, oc⟩ := o
  unfold acv
  unfold opv at HC HE
  simp only at HC HE HV hmx ⊢
  obtain ⟨n, hn⟩ : ∃ n, ol.length = n := ⟨_, rfl⟩
  rw [hn] at HC HE HV hmx ⊢
  clear hn
  by_cases k1 : k = 1
  · subst k1
    go_enter Try.func10, Try.ntmps10
    go_wp2_with (go_at_call 29; refine (HC.out _ (HV.out.below (HBX.out _))).mono ?_; rintro e w2 ⟨rfl, hb⟩; have HB2 := hid (below_trans (HBX.out _) hb (by simp)); clear hb)
    all_goals
      go_ret
      refine ⟨ret_int ?_, by first | exact HBX.out _ | exact HB2.out⟩
      rw [← HR.out]
      first
        | (refine (A1b.out (Or.inl ?_)).symm; assumption)
        | (refine (A1b.out (Or.inr ?_)).symm; first | assumption | simpa using ‹(!y.toList.isEmpty) = true›)
        | (refine (A1.out ?_ ?_).symm; assumption; first | assumption | simpa using ‹(!y.toList.isEmpty) = false›)
  · by_cases k4 : k = 4
    · subst k4
      go_enter Try.func10, Try.ntmps10
      go_wp2_with (go_at_call 28; refine (HE.out _ HE0.out _).mono ?_; rintro e w2 ⟨rfl, hb⟩; have HB2 := hid (below_trans (HBX.out _) hb (by simp)); have x0 := (hb.cell (p := ⟨w.heap.size, 0, none⟩) (by simp)).trans (cell_new rfl rfl); have x3 := (hb.cell (p := ⟨w.heap.size, 9, none⟩) (by simp)).trans (cell_new rfl rfl); clear hb)
      all_goals
        go_ret
        refine ⟨ret_int ?_, by first | exact HBX.out _ | exact HB2.out⟩
        rw [← HR.out]
        first
          | (refine (A4b.out (Or.inl ?_)).symm; assumption)
          | (refine (A4b.out (Or.inr ?_)).symm; rw [HE0.out]; simpa using ‹(!e0) = true›)
          | (have hp : p = 0 := by assumption
             have he : e0 = true := by simpa using ‹(!e0) = false›
             subst hp
             rw [A4.out (HE0.out.trans he)]
             first | (rw [if_pos (by omega)]) | (rw [if_neg (by omega)]))
    · have HX := hid (AX.out k1 k4)
      have b1 : (k != 1) = true := by simpa using k1
      have b4 : (k != 4) = true := by simpa using k4
      go_enter Try.func10, Try.ntmps10
      go_wp2
      all_goals
        go_ret
        refine ⟨ret_int ?_, HBX.out _⟩
        rw [← HR.out, HX.out]
end Go.Proofs.Ytepgkemnpcadiaa
