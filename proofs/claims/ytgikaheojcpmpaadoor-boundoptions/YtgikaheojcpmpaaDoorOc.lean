/-
  The reference's OptionsOf; BoundOptions: the walk.
-/
import Derived.Test.YtgikaheojcpmpaaDoorOb
import Derived.Test.YtgikaheojcpmpaaDoorH
namespace Go.Proofs.YtgikaheojcpmpaaDoor
open Go.ChangeShapes Go.WideShapes Go.ChangeAt Go.RowKit Go.Maps
set_option linter.unusedVariables false
set_option linter.unusedSimpArgs false
set_option maxRecDepth 20000
theorem opR_bnd {o : Nat → Op3} : ∀ {n : Nat}, (∀ i, i < n → optE (o i).r (o i).lo (o i).hi = 0) → ∀ R, opR o n = some R → Bnd 4 35184372088832 R
  | 0, _, R, h => by simp [opR] at h
  | n + 1, ha, R, h => by
    have ih := opR_bnd (o := o) (n := n) (fun i hi => ha i (by omega))
    have hf : Bnd 4 35184372088832 (fw (tzO (o n)) 4) := (fw_small (by decide) ((tz_ok (ha n (by omega))).2.mono (by decide)) (Nat.le_refl 4)).mono (by decide)
    rw [opR] at h
    split at h
    · cases hR : opR o n with
      | none => rw [hR] at h; simp at h; subst h; exact hf
      | some A =>
        rw [hR] at h
        simp at h
        subst h
        intro a b hA hB
        have := ih A hR a b hA hB
        have := hf a b hA hB
        show max (A a b) (fw (tzO (o n)) 4 a b) = 1152921504606846976 ∨ (-35184372088832 ≤ max (A a b) (fw (tzO (o n)) 4 a b) ∧ max (A a b) (fw (tzO (o n)) 4 a b) ≤ 35184372088832)
        omega
    · exact ih R h
theorem pr4 {X Y : Mx} (hx : Bnd 4 35184372088832 X) (hy : Bnd 4 35184372088832 Y) : prE 4 (fun _ => 4) X 4 (fun _ => 4) Y = 0 := by
  unfold prE
  rw [chk_sq (by decide) (fun _ _ => rfl) (fun i hi k hk => by have := hx i k hi hk; unfold inb; omega), chk_sq (by decide) (fun _ _ => rfl) (fun i hi k hk => by have := hy i k hi hk; unfold inb; omega), if_neg (by decide), if_neg (by decide), if_neg (by simp)]
set_option maxHeartbeats 16000000 in
theorem optionsOf_any (v : Value) (n : Nat) (o : Nat → Op3) (w : World) (h : OptsAt w v n o) :
    Calls Tryd.prog 5 #[v] w fun e w' => Ores w w' e n o ∧ Below w.heap.size w w' := by
  obtain ⟨p, cap, rfl, hl, hc, hp⟩ := h
  have hmx : (n : Int) ≤ 9223372036854775807 := by unfold maxLen at hc; omega
  have HP : Hid (0 < n → ∃ g off, p = some ⟨g, off, none⟩ ∧ ∀ i, i < n → w.cell? ⟨g, off + i * 3, none⟩ = some (.int .i64 (o i).r) ∧ w.cell? ⟨g, off + i * 3 + 1, none⟩ = some (.int .i64 (o i).lo) ∧ w.cell? ⟨g, off + i * 3 + 2, none⟩ = some (.int .i64 (o i).hi)) := hp
  clear hp hl hc
  go_enter Tryd.func5, Tryd.ntmps5
  go_wp2_with fail
  go_loopg [4] n (fun gg io wr => ∃ i : Nat, i ≤ n ∧ gg = n - i ∧ io = .int .i64 (i : Nat) ∧ opE o i = 0 ∧ Below w.heap.size w wr)
  case atStart => exact ⟨0, by omega, by omega, rfl, rfl, Below.refl _ _⟩
  case round =>
    obtain ⟨i, hi, rfl, rfl, hf, hBr⟩ := hrel
    have HF := hid hf
    have HBR := hid hBr
    clear hf
    have i1 : (0 : Int) ≤ (i : Int) := by omega
    by_cases hin : i < n
    · have i2 : (i : Int) < (n : Int) := by omega
      obtain ⟨g, off, rfl, hrd⟩ := HP.out (by omega)
      obtain ⟨e1, e2, e3⟩ := hrd i hin
      have a1 := (hBr.cell (p := ⟨g, off + i * 3, none⟩) (World.block_lt_of_cell? _ _ e1)).trans e1
      have a2 := (hBr.cell (p := ⟨g, off + i * 3 + 1, none⟩) (World.block_lt_of_cell? _ _ e2)).trans e2
      have a3 := (hBr.cell (p := ⟨g, off + i * 3 + 2, none⟩) (World.block_lt_of_cell? _ _ e3)).trans e3
      have HS := hid (show opE o (i + 1) = optE (o i).r (o i).lo (o i).hi by rw [opE, HF.out, if_neg (by decide)])
      have HUP : Hid (∀ x, opE o (i + 1) = x → x ≠ 0 → opE o n = x) := fun x hx h0 => by rw [opE_up (by rw [hx]; exact h0) n (by omega), hx]
      generalize (o i).r = r at *
      generalize (o i).lo = lo at *
      generalize (o i).hi = hh at *
      obtain ⟨c, hc⟩ : ∃ c, optE r lo hh = c := ⟨_, rfl⟩
      have HC := hid hc
      rw [hc] at HS
      clear hrd e1 e2 e3 hBr hc
      go_wp2_with fail
      refine (optref_any r lo hh _).mono ?_
      rw [HC.out]
      rintro e w2 ⟨rfl, hB2⟩
      have HB2 := hid (below_then HBR.out hB2 (Nat.le_refl _))
      clear hB2
      by_cases h0 : c = 0
      · subst h0
        go_wp2_with fail
        go_roundg (n - (i + 1))
        case rel => exact ⟨i + 1, by omega, rfl, by go_num, HS.out, HB2.out⟩
        case measure => omega
      · have d : (c != 0) = true := by simpa using h0
        have HR := hid (HUP.out c HS.out h0)
        have H0 := hid h0
        clear h0
        go_wp2_with fail
        go_ret2
        exact ⟨.inl ⟨by rw [HR.out]; exact H0.out, by rw [HR.out]; rfl⟩, HB2.out⟩
    · obtain rfl : i = n := by omega
      have HAL := hid (opE_all HF.out)
      obtain ⟨wo, hwo⟩ : ∃ wo, wo = wr := ⟨_, rfl⟩
      rw [← hwo] at HBR ⊢
      clear hBr hwo
      go_wp2_with fail
      go_loopg [6, 7] i (fun gg ao jo wr => ∃ j : Nat, j ≤ i ∧ gg = i - j ∧ jo = .int .i64 (j : Nat) ∧ Kept w wr ao (opR o j) ∧ Below w.heap.size w wr)
      case atStart => exact ⟨0, by omega, by omega, rfl, rfl, HBR.out⟩
      case round =>
        obtain ⟨j, hj, rfl, rfl, hK, hBr⟩ := hrel
        clear HBR
        have HBR := hid hBr
        have HK := hid hK
        clear hK
        have j1 : (0 : Int) ≤ (j : Int) := by omega
        by_cases hjn : j < i
        · have j2 : (j : Int) < (i : Int) := by omega
          obtain ⟨g, off, rfl, hrd⟩ := HP.out (by omega)
          obtain ⟨e1, e2, e3⟩ := hrd j hjn
          have a1 := (hBr.cell (p := ⟨g, off + j * 3, none⟩) (World.block_lt_of_cell? _ _ e1)).trans e1
          have a2 := (hBr.cell (p := ⟨g, off + j * 3 + 1, none⟩) (World.block_lt_of_cell? _ _ e2)).trans e2
          have a3 := (hBr.cell (p := ⟨g, off + j * 3 + 2, none⟩) (World.block_lt_of_cell? _ _ e3)).trans e3
          have hok := HAL.out j hjn
          obtain ⟨b1, b2, _, _, _⟩ := optE_ok hok
          obtain ⟨rn, hrn⟩ : ∃ rn : Nat, (o j).r = (rn : Int) := ⟨(o j).r.toNat, by omega⟩
          have HCL := hid (fun W => optB_any (o j) rn W hrn hok)
          have HFB : Hid (Bnd 4 35184372088832 (fw (tzO (o j)) 4)) := (fw_small (by decide) ((tz_ok hok).2.mono (by decide)) (Nat.le_refl 4)).mono (by decide)
          have HRB := hid (opR_bnd (o := o) (n := j) (fun k hk => HAL.out k (by omega)))
          rw [hrn] at a1
          have HNX := hid (show opR o (j + 1) = if canB (o j) = true then (match opR o j with | none => some (fw (tzO (o j)) 4) | some A => some (fun a b => max (A a b) (fw (tzO (o j)) 4 a b))) else opR o j from rfl)
          obtain ⟨lo, hlo⟩ : ∃ x, (o j).lo = x := ⟨_, rfl⟩
          obtain ⟨hh, hhh⟩ : ∃ x, (o j).hi = x := ⟨_, rfl⟩
          rw [hlo] at a2 HCL
          rw [hhh] at a3 HCL
          clear hrd e1 e2 e3 hok b1 b2 hrn hBr hlo hhh
          go_wp2_with fail
          refine (HCL.out _).mono ?_
          rintro e w2 ⟨hC, hB2⟩
          have HB2 := hid (below_then HBR.out hB2 (Nat.le_refl _))
          have HK2 := hid (HK.out.later hB2)
          rcases hC with ⟨hcb, V2, rfl, hN2⟩ | ⟨hcb, rfl⟩
          · have HCT := hid hcb
            have HN2 := hid (hN2.from (w0 := w) HBR.out.size)
            obtain ⟨bb, cc, rfl⟩ := new_shape hN2
            clear hcb hN2 hB2 HK
            cases hR : opR o j with
            | none =>
              have hV := HK2.out
              rw [hR] at hV
              obtain rfl : _ = Value.slice none 0 0 := hV
              have HR := hid hR
              clear hR HK2
              go_wp2_with fail
              go_roundg (i - (j + 1))
              case rel => exact ⟨j + 1, by omega, rfl, by go_num, by rw [HNX.out, if_pos HCT.out, HR.out]; exact HN2.out, HB2.out⟩
              case measure => omega
            | some R =>
              have hV := HK2.out
              rw [hR] at hV
              obtain ⟨b0, c0, rfl⟩ := new_shape hV
              have HV : Hid (New w w2 (.slice (some ⟨b0, 0, none⟩) 4 c0) 4 (fun _ => 4) R) := hV
              have HR := hid hR
              have HPR := hid (pr4 (HRB.out R hR) HFB.out)
              clear hR HK2 hV
              go_wp2_with fail
              refine (mergedEither_ok _ _ 4 4 (fun _ => 4) (fun _ => 4) R (fw (tzO (o j)) 4) _ HV.out.mat HN2.out.mat HPR.out).mono ?_
              rintro e w4 ⟨⟨V3, rfl, hN3⟩, hB4⟩
              have HN3 := hid (hN3.from (w0 := w) HB2.out.size)
              have HB4 := hid (below_then HB2.out hB4 (Nat.le_refl _))
              clear hN3 hB4
              go_wp2_with fail
              go_roundg (i - (j + 1))
              case rel => exact ⟨j + 1, by omega, rfl, by go_num, by rw [HNX.out, if_pos HCT.out, HR.out]; exact HN3.out, HB4.out⟩
              case measure => omega
          · have HCF := hid hcb
            clear hcb hB2
            go_wp2_with fail
            go_roundg (i - (j + 1))
            case rel => exact ⟨j + 1, by omega, rfl, by go_num, by rw [HNX.out, if_neg (by rw [HCF.out]; decide)]; exact HK2.out, HB2.out⟩
            case measure => omega
        · obtain rfl : j = i := by omega
          cases hR : opR o j with
          | none =>
            have hV := HK.out
            rw [hR] at hV
            obtain rfl : _ = Value.slice none 0 0 := hV
            have HR := hid hR
            clear hR hBr HK
            go_wp2_with fail
            go_ret2
            exact ⟨.inr (.inl ⟨HF.out, HR.out, rfl⟩), HBR.out⟩
          | some R =>
            have hV := HK.out
            rw [hR] at hV
            obtain ⟨b, cap2, rfl⟩ := new_shape hV
            have HV : Hid (New w wr (.slice (some ⟨b, 0, none⟩) 4 cap2) 4 (fun _ => 4) R) := hV
            have HR := hid hR
            clear hR hBr HK hV
            go_wp2_with fail
            go_ret2
            exact ⟨.inr (.inr ⟨HF.out, R, _, HR.out, rfl, HV.out⟩), HBR.out⟩
end Go.Proofs.YtgikaheojcpmpaaDoor
