/-
  CheckType.
-/
import Derived.Test.YthenkpeibkpmkabH
import Derived.Lib.SmallJoins
namespace Go.Proofs.Ythenkpeibkpmkab
open Go.ChangeShapes Go.WideShapes Go.ChangeAt Go.RowKit
set_option linter.unusedVariables false
set_option linter.unusedSimpArgs false
theorem FieldsAt.take {w : World} {p : Option Addr} {n cap k : Nat} {l : List Fd} (h : FieldsAt w (.slice p n cap) l) (hk : k ≤ n) : FieldsAt w (.slice p k cap) (l.take k) := by
  obtain ⟨p', cap', h1, hc, hm, h2⟩ := h
  simp at h1
  obtain ⟨rfl, rfl, rfl⟩ := h1
  have hl : (l.take k).length = k := by rw [List.length_take]; omega
  refine ⟨p, cap, by rw [hl], by rw [hl]; omega, hm, fun h0 => ?_⟩
  obtain ⟨g, off, h3, h4⟩ := h2 (by omega)
  refine ⟨g, off, h3, fun j hj => ?_⟩
  obtain ⟨a, b0, b1⟩ := h4 j (by omega)
  rw [List.getElem_take]
  exact ⟨a, b0, b1⟩
theorem tchk_mid {t : Ty} (h1 : nchk t.s = 0) (h2 : ¬ 4 < t.fs.length) : tchk t = fst (fchk t.fs) t.fs.length := by
  unfold tchk
  rw [if_neg (by simp [h1]), if_neg h2]
set_option maxHeartbeats 4000000 in
theorem checkType_any (t : Ty) (v : Value) (w : World) (hv : FieldsAt w v t.fs) :
    Calls Try.prog 15 #[.agg #[.string t.s, v]] w fun e w' => e = .returned (.int .i64 (tchk t)) ∧ Below w.heap.size w w' := by
  obtain ⟨s, l⟩ := t
  obtain ⟨T, hT⟩ : ∃ T, tchk ⟨s, l⟩ = T := ⟨_, rfl⟩
  have HT : Hid (tchk ⟨s, l⟩ = T) := hT
  rw [hT]
  clear hT
  simp only at hv
  have HV : Hid (FieldsAt w v l) := hv
  obtain ⟨p, cap, rfl, hcap, hmax, hp⟩ := hv
  obtain ⟨n, hnl⟩ : ∃ n, l.length = n := ⟨_, rfl⟩
  have HNL : Hid (l.length = n) := hnl
  have HP : Hid (0 < l.length → ∃ g off, p = some ⟨g, off, none⟩ ∧ ∀ j (hj : j < l.length), g < w.heap.size ∧ w.cell? ⟨g, off + j * 2, none⟩ = some (.string l[j].s) ∧ w.cell? ⟨g, off + j * 2 + 1, none⟩ = some (.int .i64 l[j].k)) := hp
  obtain ⟨c, hc⟩ : ∃ c, nchk s = c := ⟨_, rfl⟩
  have HC : Hid (nchk s = c) := hc
  have H1 : Hid (∀ W, Calls Try.prog 14 #[.string s] W fun e w' => e = .returned (.int .i64 c) ∧ w' = W) := fun W => by rw [← hc]; exact name_any _ _
  rw [hnl] at hcap HV ⊢
  clear hp hnl hc hmax
  by_cases hc0 : c = 0
  · subst hc0
    by_cases h4 : 4 < n
    · have HX : Hid (T = 1) := by rw [← HT.out]; unfold tchk; simp only; rw [if_neg (by simp [HC.out]), if_pos (by rw [HNL.out]; exact h4)]; exact rfl
      have h4' : decide ((4 : Int) < (n : Int)) = true := by simp; omega
      go_enter Try.func15, Try.ntmps15
      go_wp2_with (go_at_call 14; refine (H1.out _).mono ?_; rintro e w2 ⟨rfl, rfl⟩)
      go_ret
      exact ⟨ret_int HX.out.symm, (Below.refl _ w).alloc (Nat.le_refl _) _⟩
    · have h4' : decide ((4 : Int) < (n : Int)) = false := by simp; omega
      have HX : Hid (T = fst (fchk l) n) := by rw [← HT.out, tchk_mid (by exact HC.out) (by simp only; rw [HNL.out]; exact h4)]; simp only; rw [HNL.out]; exact rfl
      go_enter Try.func15, Try.ntmps15
      go_wp2_with (go_at_call 14; refine (H1.out _).mono ?_; rintro e w2 ⟨rfl, rfl⟩)
      have HB0 : Hid (Below w.heap.size w (w.alloc (.cells #[.string s, .slice p n cap] 44))) := (Below.refl _ w).alloc (Nat.le_refl _) _
      go_loopw [20] (fun i wr => ∃ k : Nat, k ≤ n ∧ i = .int .i64 (k : Nat) ∧ fst (fchk l) k = 0 ∧ Below w.heap.size w wr ∧ wr.cell? ⟨w.heap.size, 1, none⟩ = some (.slice p n cap)) (fun i _ => n + 1 - (intOf i).toNat)
      case atStart => exact ⟨0, by omega, rfl, rfl, HB0.out, by simp⟩
      case round =>
        obtain ⟨k, hk, rfl, hf, hB, bt⟩ := hrel
        have HF : Hid (fst (fchk l) k = 0) := hf
        have HB : Hid (Below w.heap.size w wr) := hB
        by_cases hlt : k < n
        · have hkd : k < l.length := by have := HNL.out; omega
          obtain ⟨g, off, hg, hcl⟩ := HP.out (by omega)
          obtain ⟨hgs, c0, c1⟩ := hcl k hkd
          subst hg
          have HKF : Hid (fchk l k = fck l[k] (l.take k)) := fchk_at hkd
          obtain ⟨d, hdk⟩ : ∃ d, l[k] = d := ⟨_, rfl⟩
          rw [hdk] at c0 c1 HKF
          have b0 : wr.cell? ⟨g, off + k * 2, none⟩ = some (.string d.s) := (hB.cell (p := ⟨g, off + k * 2, none⟩) hgs).trans c0
          have b1 : wr.cell? ⟨g, off + k * 2 + 1, none⟩ = some (.int .i64 d.k) := (hB.cell (p := ⟨g, off + k * 2 + 1, none⟩) hgs).trans c1
          have i1 : (0 : Int) ≤ (k : Int) := by omega
          have i2 : (k : Int) < (n : Int) := by omega
          have i3 : (k : Int) ≤ (cap : Int) := by omega
          have i4 : k ≤ cap := by omega
          have hwr : w.heap.size < wr.heap.size := World.block_lt_of_cell? wr ⟨w.heap.size, 1, none⟩ bt
          obtain ⟨r, hr⟩ : ∃ r, fck d (l.take k) = r := ⟨_, rfl⟩
          rw [hr] at HKF
          have H2 : Hid (∀ W, Below w.heap.size w W → Calls Try.prog 30 #[.agg #[.string d.s, .int .i64 d.k], .slice (some ⟨g, off, none⟩) k cap] W fun e w' => e = .returned (.int .i64 r) ∧ Below W.heap.size W w') := fun W hb => by rw [← hr]; exact checkField_any d _ _ _ ((HV.out.below hb).take (by omega))
          have HWR : Hid (w.heap.size < wr.heap.size) := hwr
          have hne : wr.heap.size ≠ w.heap.size := by omega
          have hne2 : w.heap.size ≠ wr.heap.size := by omega
          clear hcl hdk c0 c1 hgs hf hB hkd hr hwr
          go_wp2_with fail
          have d0 : (wr.alloc (.cells #[.string d.s, .int .i64 d.k] 46)).cell? ⟨wr.heap.size, 0, none⟩ = some (.string d.s) := cell_new rfl rfl
          have d1 : (wr.alloc (.cells #[.string d.s, .int .i64 d.k] 46)).cell? ⟨wr.heap.size, 1, none⟩ = some (.int .i64 d.k) := cell_new rfl rfl
          have dt : (wr.alloc (.cells #[.string d.s, .int .i64 d.k] 46)).cell? ⟨w.heap.size, 1, none⟩ = some (.slice (some ⟨g, off, none⟩) n cap) := (((Below.refl _ wr).alloc (Nat.le_refl _) _).cell (p := ⟨w.heap.size, 1, none⟩) HWR.out).trans bt
          have HW1 : Hid (Below w.heap.size w (wr.alloc (.cells #[.string d.s, .int .i64 d.k] 46)) ∧ w.heap.size < (wr.alloc (.cells #[.string d.s, .int .i64 d.k] 46)).heap.size ∧ wr.heap.size < (wr.alloc (.cells #[.string d.s, .int .i64 d.k] 46)).heap.size) := ⟨HB.out.alloc HB.out.size _, by have := HWR.out; simp; omega, by simp⟩
          generalize wr.alloc (.cells #[.string d.s, .int .i64 d.k] 46) = W1 at d0 d1 dt HW1 ⊢
          clear b0 b1 bt
          go_region_held3 (fun w' => w'.cell? ⟨wr.heap.size, 0, none⟩ = some (.string d.s) ∧ w'.cell? ⟨wr.heap.size, 1, none⟩ = some (.int .i64 d.k) ∧ w'.cell? ⟨w.heap.size, 1, none⟩ = some (.slice (some ⟨g, off, none⟩) n cap))
            (first | exact ⟨q0, q1, q2⟩ | (go_keep; done))
            ((go_at_call 30; go_loud (refine (H2.out _ HW1.out.1.drew).mono ?_); rintro e w2 ⟨rfl, hb2⟩; have HB2 : Hid (Below W1.heap.size W1 w2) := below_trans ((Below.refl _ W1).drew) hb2 (Nat.le_refl _); have q0 : w2.cell? ⟨wr.heap.size, 0, none⟩ = some (.string d.s) := (HB2.out.cell (p := ⟨wr.heap.size, 0, none⟩) HW1.out.2.2).trans d0; have q1 : w2.cell? ⟨wr.heap.size, 1, none⟩ = some (.int .i64 d.k) := (HB2.out.cell (p := ⟨wr.heap.size, 1, none⟩) HW1.out.2.2).trans d1; have q2 : w2.cell? ⟨w.heap.size, 1, none⟩ = some (.slice (some ⟨g, off, none⟩) n cap) := (HB2.out.cell (p := ⟨w.heap.size, 1, none⟩) HW1.out.2.1).trans dt; clear hb2))
          have HQ : Hid (w2.cell? ⟨w.heap.size, 1, none⟩ = some (.slice (some ⟨g, off, none⟩) n cap)) := q2
          clear d0 d1 dt q0 q1 q2
          by_cases hr0 : r = 0
          · subst hr0
            go_wp2
            go_roundw
            case rel => exact ⟨k + 1, by omega, by go_num, fst_step HF.out HKF.out, below_trans HW1.out.1 HB2.out (by have := HW1.out; omega), HQ.out⟩
            case measure => simp [intOf]; omega
          · have hrb : (r == 0) = false := by simpa using hr0
            have hrd : (r != 0) = true := by simpa using hr0
            go_wp2
            go_ret
            exact ⟨ret_int (by rw [HX.out, fst_hit HF.out (by rw [HKF.out]; exact hr0) hlt, HKF.out]), below_trans HW1.out.1 HB2.out (by have := HW1.out; omega)⟩
        · obtain rfl : k = n := by omega
          clear hf hB bt
          go_wp2
          go_ret
          exact ⟨ret_int (by rw [HX.out, HF.out]), HB.out⟩
  · have HX : Hid (T = c) := by rw [← HT.out]; unfold tchk; simp only; rw [if_pos (by rw [HC.out]; exact hc0), HC.out]; exact rfl
    have hrb : (c == 0) = false := by simpa using hc0
    have hrd : (c != 0) = true := by simpa using hc0
    go_enter Try.func15, Try.ntmps15
    go_wp2_with (go_at_call 14; refine (H1.out _).mono ?_; rintro e w2 ⟨rfl, rfl⟩)
    go_ret
    exact ⟨ret_int HX.out.symm, (Below.refl _ w).alloc (Nat.le_refl _) _⟩
end Go.Proofs.Ythenkpeibkpmkab
