/-
  What the document says of a type.
-/
import Derived.Test.YthenkpeibkpmkabI
namespace Go.Proofs.Ythenkpeibkpmkab
open Go.ChangeShapes Go.WideShapes Go.ChangeAt Go.RowKit
set_option linter.unusedVariables false
set_option linter.unusedSimpArgs false
theorem fst_stay {f : Nat → Int} {k n : Nat} (h : fst f k ≠ 0) (hk : k ≤ n) : fst f n = fst f k := by
  induction n with
  | zero => obtain rfl : k = 0 := by omega
            rfl
  | succ n ih =>
    by_cases e : k = n + 1
    · subst e; rfl
    · have := ih (by omega)
      conv => lhs; unfold fst
      rw [if_pos (by rw [this]; exact h), this]
theorem fst_one {f : Nat → Int} {k : Nat} (h : fst f k = 0) : fst f (k + 1) = f k := by
  conv => lhs; unfold fst
  rw [if_neg (by simp [h])]
theorem any_snoc {name : ByteArray} {l : List Fd} {j : Nat} (h : j < l.length) : anyS name (l.take (j + 1)) = (anyS name (l.take j) || eqS l[j].s name) := by
  unfold anyS
  rw [List.take_succ_eq_append_getElem h, List.any_append]
  simp
theorem any_more {name : ByteArray} {l : List Fd} {j k : Nat} (h : anyS name (l.take j) = true) (hk : j ≤ k) : anyS name (l.take k) = true := by
  unfold anyS at h ⊢
  rw [List.any_eq_true] at h ⊢
  obtain ⟨x, hx, he⟩ := h
  exact ⟨x, (List.take_subset_take_left l hk) hx, he⟩
set_option maxHeartbeats 8000000 in
theorem tfault_any (t : Ty) (v : Value) (w : World) (hv : FieldsAt w v t.fs) :
    Calls Try.prog 35 #[.agg #[.string t.s, v]] w fun e w' => e = .returned (.int .i64 (tchk t)) ∧ Below w.heap.size w w' := by
  obtain ⟨s, l⟩ := t
  obtain ⟨T, hT⟩ : ∃ T, tchk ⟨s, l⟩ = T := ⟨_, rfl⟩
  have HT : Hid (tchk ⟨s, l⟩ = T) := hT
  rw [hT]
  clear hT
  simp only at hv
  obtain ⟨p, cap, rfl, hcap, hmax, hp⟩ := hv
  obtain ⟨n, hnl⟩ : ∃ n, l.length = n := ⟨_, rfl⟩
  have HNL : Hid (l.length = n) := hnl
  have HP : Hid (0 < l.length → ∃ g off, p = some ⟨g, off, none⟩ ∧ ∀ j (hj : j < l.length), g < w.heap.size ∧ w.cell? ⟨g, off + j * 2, none⟩ = some (.string l[j].s) ∧ w.cell? ⟨g, off + j * 2 + 1, none⟩ = some (.int .i64 l[j].k)) := hp
  obtain ⟨c, hc⟩ : ∃ c, nchk s = c := ⟨_, rfl⟩
  have HC : Hid (nchk s = c) := hc
  have H1 : Hid (∀ W, Calls Try.prog 41 #[.string s] W fun e w' => e = .returned (.int .i64 c) ∧ w' = W) := fun W => by rw [← hc]; exact nfault_any _ _
  rw [hnl]
  have hmx : (n : Int) ≤ 9223372036854775807 := by unfold maxLen at hmax; omega
  clear hp hnl hc hmax hcap
  by_cases hc0 : c = 0
  · subst hc0
    by_cases h4 : 4 < n
    · have HX : Hid (T = 1) := by rw [← HT.out]; unfold tchk; simp only; rw [if_neg (by simp [HC.out]), if_pos (by rw [HNL.out]; exact h4)]; exact rfl
      have h4' : decide ((4 : Int) < (n : Int)) = true := by simp; omega
      have h0n : (0 : Int) < (n : Int) := by omega
      go_enter Try.func35, Try.ntmps35
      go_wp2_with (go_at_call 41; refine (H1.out _).mono ?_; rintro e w2 ⟨rfl, rfl⟩)
      go_loop [3, 4] (fun e i => e = .int .i64 1 ∧ i = .int .i64 0) (fun _ i => 1)
      case atStart => exact ⟨rfl, rfl⟩
      case round =>
        obtain ⟨rfl, rfl⟩ := hrel
        go_wp2
        go_ret
        exact ⟨ret_int HX.out.symm, (Below.refl _ w).alloc (Nat.le_refl _) _⟩
    · have h4' : decide ((4 : Int) < (n : Int)) = false := by simp; omega
      have HX : Hid (T = fst (fchk l) n) := by rw [← HT.out, tchk_mid (by exact HC.out) (by simp only; rw [HNL.out]; exact h4)]; simp only; rw [HNL.out]; exact rfl
      go_enter Try.func35, Try.ntmps35
      go_wp2_with (go_at_call 41; refine (H1.out _).mono ?_; rintro e w2 ⟨rfl, rfl⟩)
      have HB0 : Hid (Below w.heap.size w (w.alloc (.cells #[.string s, .slice p n cap] 44))) := (Below.refl _ w).alloc (Nat.le_refl _) _
      go_loopw [3, 4] (fun e i wr => ∃ (k : Nat) (E : Int), k ≤ n ∧ e = .int .i64 E ∧ i = .int .i64 (k : Nat) ∧ fst (fchk l) k = E ∧ Below w.heap.size w wr ∧ wr.cell? ⟨w.heap.size, 1, none⟩ = some (.slice p n cap)) (fun _ i _ => n + 1 - (intOf i).toNat)
      case atStart => exact ⟨0, 0, by omega, rfl, rfl, rfl, HB0.out, by simp⟩
      case round =>
        obtain ⟨k, E, hk, rfl, rfl, hf, hB, bt⟩ := hrel
        have HF : Hid (fst (fchk l) k = E) := hf
        have HB : Hid (Below w.heap.size w wr) := hB
        have i1 : (0 : Int) ≤ (k : Int) := by omega
        by_cases hlt : k < n
        · have i2 : (k : Int) < (n : Int) := by omega
          by_cases hE : E = 0
          · subst hE
            have hkd : k < l.length := by have := HNL.out; omega
            obtain ⟨g, off, hg, hcl⟩ := HP.out (by omega)
            obtain ⟨hgs, c0, c1⟩ := hcl k hkd
            subst hg
            have HCL : Hid (∀ j (hj : j < l.length), g < w.heap.size ∧ w.cell? ⟨g, off + j * 2, none⟩ = some (.string l[j].s) ∧ w.cell? ⟨g, off + j * 2 + 1, none⟩ = some (.int .i64 l[j].k)) := hcl
            have HKF : Hid (fchk l k = fck l[k] (l.take k)) := fchk_at hkd
            obtain ⟨d, hdk⟩ : ∃ d, l[k] = d := ⟨_, rfl⟩
            rw [hdk] at c0 c1 HKF
            have b0 : wr.cell? ⟨g, off + k * 2, none⟩ = some (.string d.s) := (hB.cell (p := ⟨g, off + k * 2, none⟩) hgs).trans c0
            have b1 : wr.cell? ⟨g, off + k * 2 + 1, none⟩ = some (.int .i64 d.k) := (hB.cell (p := ⟨g, off + k * 2 + 1, none⟩) hgs).trans c1
            have HWR : Hid (w.heap.size < wr.heap.size) := World.block_lt_of_cell? wr ⟨w.heap.size, 1, none⟩ bt
            obtain ⟨nf, hnf⟩ : ∃ x, nchk d.s = x := ⟨_, rfl⟩
            have H2 : Hid (∀ W, Calls Try.prog 41 #[.string d.s] W fun e w' => e = .returned (.int .i64 nf) ∧ w' = W) := fun W => by rw [← hnf]; exact nfault_any _ _
            have HNF : Hid (nchk d.s = nf) := hnf
            clear hcl hdk c0 c1 hgs hf hB hkd hnf
            have d0 : (wr.alloc (.cells #[.string d.s, .int .i64 d.k] 46)).cell? ⟨wr.heap.size, 0, none⟩ = some (.string d.s) := cell_new rfl rfl
            have d1 : (wr.alloc (.cells #[.string d.s, .int .i64 d.k] 46)).cell? ⟨wr.heap.size, 1, none⟩ = some (.int .i64 d.k) := cell_new rfl rfl
            have dt : (wr.alloc (.cells #[.string d.s, .int .i64 d.k] 46)).cell? ⟨w.heap.size, 1, none⟩ = some (.slice (some ⟨g, off, none⟩) n cap) := (((Below.refl _ wr).alloc (Nat.le_refl _) _).cell (p := ⟨w.heap.size, 1, none⟩) HWR.out).trans bt
            have HW1 : Hid (Below w.heap.size w (wr.alloc (.cells #[.string d.s, .int .i64 d.k] 46))) := HB.out.alloc HB.out.size _
            go_wp2_with fail
            generalize wr.alloc (.cells #[.string d.s, .int .i64 d.k] 46) = W1 at d0 d1 dt HW1 ⊢
            clear b0 b1 bt HWR HB
            generalize wr.heap.size = fb at d0 d1 ⊢
            refine (H2.out _).mono ?_
            rintro e W1 ⟨rfl, rfl⟩
            by_cases hnf0 : nf = 0
            · subst hnf0
              by_cases hkk : 1 ≤ d.k ∧ d.k ≤ 2
              · have HFC : Hid (fck d (l.take k) = if anyS d.s (l.take k) = true then 7 else 0) := by
                  unfold fck
                  rw [if_neg (by simp [HNF.out]), if_neg (by omega)]
                  exact rfl
                go_wp2_with (go_at_call 21; refine (in_any _ _ _ true (Say.yes hkk) _).mono ?_; rintro e W1 ⟨rfl, rfl⟩)
                go_loopw [3, 6] (fun e i wr => ∃ (j : Nat) (a : Bool), j ≤ k ∧ e = .int .i64 (if a = true then 7 else 0) ∧ i = .int .i64 (j : Nat) ∧ anyS d.s (l.take j) = a ∧ Below w.heap.size w wr ∧ wr.cell? ⟨w.heap.size, 1, none⟩ = some (.slice (some ⟨g, off, none⟩) n cap) ∧ wr.cell? ⟨fb, 0, none⟩ = some (.string d.s)) (fun _ i _ => k + 1 - (intOf i).toNat)
                case atStart => exact ⟨0, false, by omega, rfl, rfl, rfl, HW1.out, dt, d0⟩
                case round =>
                  obtain ⟨j, a, hj, rfl, rfl, ha, hB2, bt2, bf2⟩ := hrel
                  have HA : Hid (anyS d.s (l.take j) = a) := ha
                  have HB2 : Hid (Below w.heap.size w wr) := hB2
                  have j1 : (0 : Int) ≤ (j : Int) := by omega
                  clear ha dt d0 d1
                  by_cases hjk : j < k
                  · have j2 : (j : Int) < (k : Int) := by omega
                    have j3 : (j : Int) < (n : Int) := by omega
                    cases a
                    · have hjl : j < l.length := by have := HNL.out; omega
                      obtain ⟨hgs, c0, c1j⟩ := HCL.out j hjl
                      have HSN : Hid (anyS d.s (l.take (j + 1)) = eqS l[j].s d.s) := by rw [any_snoc hjl, HA.out, Bool.false_or]; exact rfl
                      obtain ⟨y, hy⟩ : ∃ y, l[j].s = y := ⟨_, rfl⟩
                      rw [hy] at c0 HSN
                      have b0 : wr.cell? ⟨g, off + j * 2, none⟩ = some (.string y) := (hB2.cell (p := ⟨g, off + j * 2, none⟩) hgs).trans c0
                      clear hgs c0 c1j hy hjl hB2
                      by_cases he : y.toList = d.s.toList
                      · go_wp2_with fail
                        go_quiet (fail)
                        go_wp2
                        go_roundw
                        case rel => exact ⟨j + 1, true, by omega, rfl, by go_num, by rw [HSN.out]; simp [eqS, he], by first | exact HB2.out | exact below_trans HB2.out (Go.Joins.below_draws _ _ _) (Nat.le_refl _), by assumption, by assumption⟩
                        case measure => simp [intOf]; omega
                      · have heb : (y.toList == d.s.toList) = false := by simpa using he
                        go_wp2_with fail
                        go_quiet (fail)
                        go_wp2
                        go_roundw
                        case rel => exact ⟨j + 1, false, by omega, rfl, by go_num, by rw [HSN.out]; simp [eqS, he], by first | exact HB2.out | exact below_trans HB2.out (Go.Joins.below_draws _ _ _) (Nat.le_refl _), by assumption, by assumption⟩
                        case measure => simp [intOf]; omega
                    · have HBT : Hid (wr.cell? ⟨w.heap.size, 1, none⟩ = some (.slice (some ⟨g, off, none⟩) n cap)) := bt2
                      have HFK : Hid (fst (fchk l) (k + 1) = 7) := by
                        rw [fst_one HF.out, HKF.out, HFC.out, if_pos (any_more HA.out (by omega))]
                        exact rfl
                      go_wp2
                      go_roundw
                      case rel => exact ⟨k + 1, 7, by omega, rfl, by go_num, HFK.out, HB2.out, HBT.out⟩
                      case measure => simp [intOf]; omega
                  · obtain rfl : j = k := by omega
                    have HBT : Hid (wr.cell? ⟨w.heap.size, 1, none⟩ = some (.slice (some ⟨g, off, none⟩) n cap)) := bt2
                    cases a
                    · have HFK : Hid (fst (fchk l) (j + 1) = 0) := by
                        rw [fst_one HF.out, HKF.out, HFC.out, if_neg (by rw [HA.out]; simp)]
                        exact rfl
                      go_wp2
                      go_roundw
                      case rel => exact ⟨j + 1, 0, by omega, rfl, by go_num, HFK.out, HB2.out, HBT.out⟩
                      case measure => simp [intOf]; omega
                    · have HFK : Hid (fst (fchk l) (j + 1) = 7) := by
                        rw [fst_one HF.out, HKF.out, HFC.out, if_pos HA.out]
                        exact rfl
                      go_wp2
                      go_roundw
                      case rel => exact ⟨j + 1, 7, by omega, rfl, by go_num, HFK.out, HB2.out, HBT.out⟩
                      case measure => simp [intOf]; omega
              · have HFK : Hid (fst (fchk l) (k + 1) = 3) := by
                  rw [fst_one HF.out, HKF.out]
                  unfold fck
                  rw [if_neg (by simp [HNF.out]), if_pos (by omega)]
                  exact rfl
                have HBT : Hid (W1.cell? ⟨w.heap.size, 1, none⟩ = some (.slice (some ⟨g, off, none⟩) n cap)) := dt
                go_wp2_with (go_at_call 21; refine (in_any _ _ _ false (Say.no hkk) _).mono ?_; rintro e W1 ⟨rfl, rfl⟩)
                go_loop [3, 6] (fun e i => e = .int .i64 3 ∧ i = .int .i64 0) (fun _ i => 1)
                case atStart => exact ⟨rfl, rfl⟩
                case round =>
                  obtain ⟨rfl, rfl⟩ := hrel
                  go_wp2
                  all_goals
                    go_roundw
                    case rel => exact ⟨k + 1, 3, by omega, rfl, by go_num, HFK.out, HW1.out, HBT.out⟩
                    case measure => simp [intOf]; omega
            · have HFK : Hid (fst (fchk l) (k + 1) = nf) := by
                rw [fst_one HF.out, HKF.out]
                unfold fck
                rw [if_pos (by rw [HNF.out]; exact hnf0), HNF.out]
                exact rfl
              have HBT : Hid (W1.cell? ⟨w.heap.size, 1, none⟩ = some (.slice (some ⟨g, off, none⟩) n cap)) := dt
              have hrb : (nf == 0) = false := by simpa using hnf0
              go_wp2
              go_loop [3, 6] (fun e i => e = .int .i64 nf ∧ i = .int .i64 0) (fun _ i => 1)
              case atStart => exact ⟨rfl, rfl⟩
              case round =>
                obtain ⟨rfl, rfl⟩ := hrel
                go_wp2
                all_goals
                  go_roundw
                  case rel => exact ⟨k + 1, nf, by omega, rfl, by go_num, HFK.out, HW1.out, HBT.out⟩
                  case measure => simp [intOf]; omega
          · have hrb : (E == 0) = false := by simpa using hE
            clear hf hB
            have HTE : Hid (T = E) := by rw [HX.out, fst_stay (by rw [HF.out]; exact hE) (by omega : k ≤ n), HF.out]; exact rfl
            go_wp2
            go_ret
            exact ⟨ret_int HTE.out.symm, HB.out⟩
        · obtain rfl : k = n := by omega
          clear hf hB
          have HTE : Hid (T = E) := by rw [HX.out, HF.out]; exact rfl
          go_wp2
          go_ret
          exact ⟨ret_int HTE.out.symm, HB.out⟩
  · have HX : Hid (T = c) := by rw [← HT.out]; unfold tchk; simp only; rw [if_pos (by rw [HC.out]; exact hc0), HC.out]; exact rfl
    have hrb : (c == 0) = false := by simpa using hc0
    have hrd : (c != 0) = true := by simpa using hc0
    go_enter Try.func35, Try.ntmps35
    go_wp2_with (go_at_call 41; refine (H1.out _).mono ?_; rintro e w2 ⟨rfl, rfl⟩)
    go_loop [3, 4] (fun e i => e = .int .i64 c ∧ i = .int .i64 0) (fun _ i => 1)
    case atStart => exact ⟨rfl, rfl⟩
    case round =>
      obtain ⟨rfl, rfl⟩ := hrel
      go_wp2
      all_goals
        go_ret
        exact ⟨ret_int HX.out.symm, (Below.refl _ w).alloc (Nat.le_refl _) _⟩
end Go.Proofs.Ythenkpeibkpmkab
