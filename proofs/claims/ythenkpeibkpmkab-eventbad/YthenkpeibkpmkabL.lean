/-
  What the document says of values of a type.
-/
import Derived.Test.YthenkpeibkpmkabK
namespace Go.Proofs.Ythenkpeibkpmkab
open Go.ChangeShapes Go.WideShapes Go.ChangeAt Go.RowKit
set_option linter.unusedVariables false
set_option linter.unusedSimpArgs false
set_option maxHeartbeats 8000000 in
theorem ffault_any (t : Ty) (v : Value) (u : Value) (l : List Vl) (w : World) (hv : FieldsAt w v t.fs) (hu : ValsAt w u l) :
    Calls Try.prog 23 #[.agg #[.string t.s, v], u] w fun e w' => e = .returned (.int .i64 (fit t l)) ∧ Below w.heap.size w w' := by
  obtain ⟨s, fs⟩ := t
  obtain ⟨T, hT⟩ : ∃ T, tchk ⟨s, fs⟩ = T := ⟨_, rfl⟩
  obtain ⟨A, hA⟩ : ∃ A, fst (vat l) l.length = A := ⟨_, rfl⟩
  obtain ⟨R, hR⟩ : ∃ R, fit ⟨s, fs⟩ l = R := ⟨_, rfl⟩
  simp only at hv
  have HV : Hid (FieldsAt w v fs) := hv
  have H1 : Hid (∀ W, Below w.heap.size w W → Calls Try.prog 35 #[.agg #[.string s, v]] W fun e w' => e = .returned (.int .i64 T) ∧ Below W.heap.size W w') := fun W hb => by rw [← hT]; exact tfault_any ⟨s, fs⟩ _ _ (HV.out.below hb)
  obtain ⟨n, hn⟩ : ∃ n, fs.length = n := ⟨_, rfl⟩
  obtain ⟨m, hm⟩ : ∃ m, l.length = m := ⟨_, rfl⟩
  have HR : Hid (R = if T ≠ 0 then T else if A ≠ 0 then A else if m ≠ n then 13 else fst (kat l fs) m) := by rw [← hR]; unfold fit; simp only; rw [hT, hA, hn, hm]; exact rfl
  have HN : Hid (fs.length = n ∧ l.length = m) := ⟨hn, hm⟩
  have HA : Hid (fst (vat l) m = A) := by rw [← hm]; exact hA
  rw [hR]
  obtain ⟨p, cap, hsh, _, _, hfc⟩ := hv
  obtain ⟨p2, cap2, hsh2, _, hmx2, hvc⟩ := hu
  rw [hn] at hsh
  rw [hm] at hsh2
  subst hsh hsh2
  have HFC : Hid (0 < fs.length → ∃ g off, p = some ⟨g, off, none⟩ ∧ ∀ j (hj : j < fs.length), g < w.heap.size ∧ w.cell? ⟨g, off + j * 2, none⟩ = some (.string fs[j].s) ∧ w.cell? ⟨g, off + j * 2 + 1, none⟩ = some (.int .i64 fs[j].k)) := hfc
  have HVC : Hid (0 < l.length → ∃ g off, p2 = some ⟨g, off, none⟩ ∧ ∀ j (hj : j < l.length), g < w.heap.size ∧ w.cell? ⟨g, off + j * 3, none⟩ = some (.int .i64 l[j].k) ∧ w.cell? ⟨g, off + j * 3 + 1, none⟩ = some (.int .i64 l[j].n) ∧ w.cell? ⟨g, off + j * 3 + 2, none⟩ = some (.string l[j].s)) := hvc
  have hmx : (m : Int) ≤ 9223372036854775807 := by unfold maxLen at hmx2; omega
  clear hT hA hR hfc hvc hmx2 hn hm
  go_enter Try.func23, Try.ntmps23
  go_wp2_with fail
  refine (H1.out _ ((Below.refl _ w).alloc (Nat.le_refl _) _)).mono ?_
  rintro e w1 ⟨rfl, hb1⟩
  have HB1 : Hid (Below w.heap.size w w1) := below_trans ((Below.refl _ w).alloc (Nat.le_refl _) (.cells #[.string s, .slice p n cap] 44)) hb1 (by simp)
  have c1 : w1.cell? ⟨w.heap.size, 1, none⟩ = some (.slice p n cap) := (hb1.cell (by simp)).trans (cell_new rfl rfl)
  clear hb1
  by_cases hT0 : T = 0
  · subst hT0
    go_wp2
    go_loopw [5, 6] (fun e i wr => ∃ (k : Nat) (E : Int), k ≤ m ∧ e = .int .i64 E ∧ i = .int .i64 (k : Nat) ∧ fst (vat l) k = E ∧ Below w.heap.size w wr ∧ wr.cell? ⟨w.heap.size, 1, none⟩ = some (.slice p n cap)) (fun _ i _ => m + 1 - (intOf i).toNat)
    case atStart => exact ⟨0, 0, by omega, rfl, rfl, rfl, HB1.out, c1⟩
    case round =>
      obtain ⟨k, E, hk, rfl, rfl, hf, hB, bt⟩ := hrel
      have HF : Hid (fst (vat l) k = E) := hf
      have HB : Hid (Below w.heap.size w wr) := hB
      have i1 : (0 : Int) ≤ (k : Int) := by omega
      clear c1 hf
      by_cases hE : E = 0
      · subst hE
        by_cases hlt : k < m
        · have hkd : k < l.length := by have := HN.out; omega
          obtain ⟨g2, off2, hg2, hcl2⟩ := HVC.out (by omega)
          obtain ⟨hgs2, e0, e1, e2⟩ := hcl2 k hkd
          subst hg2
          have HK : Hid (vat l k = vchk l[k]) := vat_at hkd
          obtain ⟨d, hd⟩ : ∃ d, l[k] = d := ⟨_, rfl⟩
          rw [hd] at e0 e1 e2 HK
          obtain ⟨r, hr⟩ : ∃ r, vchk d = r := ⟨_, rfl⟩
          rw [hr] at HK
          have H2 : Hid (∀ W, Calls Try.prog 36 #[.agg #[.int .i64 d.k, .int .i64 d.n, .string d.s]] W fun e w' => e = .returned (.int .i64 r) ∧ Below W.heap.size W w') := fun W => by rw [← hr]; exact vfault_any d _
          have b0 : wr.cell? ⟨g2, off2 + k * 3, none⟩ = some (.int .i64 d.k) := (hB.cell (p := ⟨g2, off2 + k * 3, none⟩) hgs2).trans e0
          have b1 : wr.cell? ⟨g2, off2 + k * 3 + 1, none⟩ = some (.int .i64 d.n) := (hB.cell (p := ⟨g2, off2 + k * 3 + 1, none⟩) hgs2).trans e1
          have b2 : wr.cell? ⟨g2, off2 + k * 3 + 2, none⟩ = some (.string d.s) := (hB.cell (p := ⟨g2, off2 + k * 3 + 2, none⟩) hgs2).trans e2
          have i2 : (k : Int) < (m : Int) := by omega
          clear hcl2 e0 e1 e2 hgs2 hB hkd hd hr
          go_wp2_with fail
          refine (H2.out _).mono ?_
          rintro e w3 ⟨rfl, hb3⟩
          have HB3 : Hid (Below w.heap.size w w3) := below_trans HB.out hb3 HB.out.size
          have HT3 : Hid (w3.cell? ⟨w.heap.size, 1, none⟩ = some (.slice p n cap)) := (hb3.cell (World.block_lt_of_cell? _ _ bt)).trans bt
          clear hb3 b0 b1 b2 bt
          go_wp2
          go_roundw
          case rel => exact ⟨k + 1, r, by omega, rfl, by go_num, (fst_one HF.out).trans HK.out, HB3.out, HT3.out⟩
          case measure => simp [intOf]; omega
        · obtain rfl : k = m := by omega
          have hA0 : A = 0 := HA.out.symm.trans HF.out
          subst hA0
          clear hB HA
          by_cases hmn : k = n
          · subst hmn
            have hx : R = fst (kat l fs) k := by rw [HR.out]; simp
            have HX : Hid (R = fst (kat l fs) k) := hx
            clear hx
            go_wp2
            go_loopw [7] (fun i wr => ∃ j : Nat, j ≤ k ∧ i = .int .i64 (j : Nat) ∧ fst (kat l fs) j = 0 ∧ Below w.heap.size w wr ∧ wr.cell? ⟨w.heap.size, 1, none⟩ = some (.slice p k cap)) (fun i _ => k + 1 - (intOf i).toNat)
            case atStart => exact ⟨0, by omega, rfl, rfl, HB.out, bt⟩
            case round =>
              obtain ⟨j, hj, rfl, hf, hB, bt2⟩ := hrel
              have HF2 : Hid (fst (kat l fs) j = 0) := hf
              have HB2 : Hid (Below w.heap.size w wr) := hB
              clear bt
              by_cases hlt2 : j < k
              · have hkd : j < l.length := by have := HN.out; omega
                have hkf : j < fs.length := by have := HN.out; omega
                obtain ⟨g, off, hg, hcl⟩ := HFC.out (by omega)
                obtain ⟨g2, off2, hg2, hcl2⟩ := HVC.out (by omega)
                obtain ⟨hgs, c0j, c1⟩ := hcl j hkf
                obtain ⟨hgs2, e0, e1, e2⟩ := hcl2 j hkd
                subst hg hg2
                have HK : Hid (kat l fs j = if l[j].k ≠ fs[j].k then 13 else 0) := kat_at hkd hkf
                obtain ⟨y, hy⟩ : ∃ y, fs[j].k = y := ⟨_, rfl⟩
                obtain ⟨d, hd⟩ : ∃ d, l[j] = d := ⟨_, rfl⟩
                rw [hy] at c1 HK
                rw [hd] at e0 e1 e2 HK
                have b0 : wr.cell? ⟨g2, off2 + j * 3, none⟩ = some (.int .i64 d.k) := (hB.cell (p := ⟨g2, off2 + j * 3, none⟩) hgs2).trans e0
                have b1 : wr.cell? ⟨g, off + j * 2 + 1, none⟩ = some (.int .i64 y) := (hB.cell (p := ⟨g, off + j * 2 + 1, none⟩) hgs).trans c1
                have j1 : (0 : Int) ≤ (j : Int) := by omega
                have j2 : (j : Int) < (k : Int) := by omega
                clear hcl hcl2 c0j c1 e0 e1 e2 hgs hgs2 hf hB hkd hkf hy hd
                by_cases hdy : d.k = y
                · have HKE : Hid (kat l fs j = 0) := by rw [HK.out, if_neg (by simp [hdy])]; exact rfl
                  go_wp2_with fail
                  go_quiet (fail)
                  go_wp2
                  go_roundw
                  case rel => exact ⟨j + 1, by omega, by go_num, fst_step HF2.out HKE.out, below_trans HB2.out (Go.Joins.below_draws _ _ _) (Nat.le_refl _), by assumption⟩
                  case measure => simp [intOf]; omega
                · have hb1 : (d.k == y) = false := by simpa using hdy
                  have hb2 : (d.k != y) = true := by simpa using hdy
                  have HKE : Hid (kat l fs j = 13) := by rw [HK.out, if_pos hdy]; exact rfl
                  go_wp2_with fail
                  go_quiet (fail)
                  go_wp2
                  go_ret
                  exact ⟨ret_int (by rw [HX.out, fst_hit HF2.out (by rw [HKE.out]; omega) hlt2, HKE.out]), below_trans HB2.out (Go.Joins.below_draws _ _ _) (Nat.le_refl _)⟩
              · obtain rfl : j = k := by omega
                clear hf hB bt2
                go_wp2
                go_ret
                exact ⟨ret_int (by rw [HX.out, HF2.out]), HB2.out⟩
          · have hb1 : ((k : Int) == (n : Int)) = false := by simp; omega
            have hb2 : ((k : Int) != (n : Int)) = true := by simp; omega
            have hb3 : (k = n) = False := by simpa using hmn
            have hx : R = 13 := by rw [HR.out]; simp [hmn]
            have HX : Hid (R = 13) := hx
            clear hx
            go_wp2
            go_ret
            exact ⟨ret_int HX.out.symm, HB.out⟩
      · have hb1 : (E == 0) = false := by simpa using hE
        have hb2 : (E != 0) = true := by simpa using hE
        have hAE : A = E := by rw [← HA.out, fst_stay (by rw [HF.out]; exact hE) hk, HF.out]
        have hx : R = E := by rw [HR.out, hAE]; simp [hE]
        have HX : Hid (R = E) := hx
        clear hx hAE hB bt
        go_wp2
        all_goals
          go_ret
          exact ⟨ret_int HX.out.symm, HB.out⟩
  · have hb1 : (T == 0) = false := by simpa using hT0
    have hb2 : (T != 0) = true := by simpa using hT0
    have hx : R = T := by rw [HR.out]; simp [hT0]
    have HX : Hid (R = T) := hx
    clear hx c1
    go_wp2
    go_loop [5, 6] (fun e i => e = .int .i64 T ∧ i = .int .i64 0) (fun _ i => 1)
    case atStart => exact ⟨rfl, rfl⟩
    case round =>
      obtain ⟨rfl, rfl⟩ := hrel
      go_wp2
      all_goals
        go_ret
        exact ⟨ret_int HX.out.symm, HB1.out⟩
end Go.Proofs.Ythenkpeibkpmkab
