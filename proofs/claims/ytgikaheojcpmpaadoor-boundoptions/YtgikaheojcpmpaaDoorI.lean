/-
  Free matrices, by the program and by the reference.
-/
import Derived.Test.YtgikaheojcpmpaaDoorG
import Derived.Test.YtgikaheojcpmpaaDoorC
namespace Go.Proofs.YtgikaheojcpmpaaDoor
open Go.ChangeShapes Go.WideShapes Go.ChangeAt Go.RowKit Go.Maps
set_option linter.unusedVariables false
set_option linter.unusedSimpArgs false
set_option maxRecDepth 20000
set_option maxHeartbeats 8000000 in
theorem freeMatrix_any (n : Nat) (w : World) (hn : n ≤ 12) :
    Calls Tryd.prog 27 #[.int .i64 (n : Int)] w fun e w' => (∃ V, e = .returned V ∧ New w w' V n (fun _ => n) fre) ∧ Below w.heap.size w w' := by
  have HN := hid hn
  have hmx : (n : Int) ≤ 12 := by omega
  obtain ⟨L, hL⟩ : ∃ L : Nat → Nat, L = fun _ => n := ⟨_, rfl⟩
  have HL : Hid (∀ i, L i = n) := fun i => by rw [hL]
  rw [← hL]
  clear hL
  go_enter Tryd.func27, Tryd.ntmps27
  go_wp2_with fail
  go_loopg [3, 4] n (fun gg vo io wr => ∃ i : Nat, i ≤ n ∧ gg = n - i ∧ io = .int .i64 (i : Nat) ∧ (∃ us, Bd wr w.heap.size vo i us L fre) ∧ Below w.heap.size w wr)
  case atStart => exact ⟨0, by omega, by omega, rfl, ⟨fun _ => .slice none 0 0, Bd.nil _ _ _ _ _⟩, Below.refl _ _⟩
  case round =>
    obtain ⟨i, hi, rfl, rfl, ⟨us, hbd⟩, hBr⟩ := hrel
    obtain ⟨p1, c1, rfl, _⟩ := own_shape hbd.own
    have HBD : Hid (Bd wr w.heap.size (.slice p1 i c1) i us L fre) := hbd
    have HBR : Hid (Below w.heap.size w wr) := hBr
    clear hbd hBr
    by_cases hlt : i < n
    · have i1 : (0 : Int) ≤ (i : Int) := by omega
      have i2 : (i : Int) < (n : Int) := by omega
      obtain ⟨wo, hwo⟩ : ∃ wo, wo = wr := ⟨_, rfl⟩
      rw [← hwo] at HBD HBR ⊢
      clear hwo
      go_wp2_with fail
      go_loopg [5, 6] n (fun gg vi ji wi => ∃ j : Nat, j ≤ n ∧ gg = n - j ∧ ji = .int .i64 (j : Nat) ∧ Rw wi wo.heap.size vi j (fre i) ∧ Below wo.heap.size wo wi)
      case atStart => exact ⟨0, by omega, by omega, rfl, Rw.nil _ _ _, Below.refl _ _⟩
      case round =>
        obtain ⟨j, hj, rfl, rfl, hrw, hB2⟩ := hrel
        obtain ⟨p2, c2, rfl, _⟩ := own_shape hrw
        have HRI : Hid (Rw wr wo.heap.size (.slice p2 j c2) j (fre i)) := hrw
        have HB2 : Hid (Below wo.heap.size wo wr) := hB2
        clear hrw hB2
        by_cases hjm : j < n
        · have j1 : (0 : Int) ≤ (j : Int) := by omega
          have j2 : (j : Int) < (n : Int) := by omega
          by_cases hij : i = j
          · have HX := hid (show fre i j = 0 by simp [fre, hij])
            have d : ((i : Int) == (j : Int)) = true := by simp; omega
            clear hij
            go_wp2_with (at_builtin; refine wp_appI (by rfl) _ _ (by rfl) wo.heap.size (.slice p2 j c2) j (fre i) (by rfl) (own_later HRI.out (below_new _ _)) ⟨wr.heap.size, 0, none⟩ (by rfl) (by rw [HX.out]; exact cell_new _ _ _) (by omega) (by have := HB2.out.size; simp; omega) ?_; intro v' w5 h1 h2; obtain ⟨p3, c3, rfl, _⟩ := own_shape h1; have HN1 := hid h1; have HN2 := hid h2; clear h1 h2)
            go_roundg (n - (j + 1))
            case rel => exact ⟨j + 1, by omega, rfl, by go_num, HN1.out, (HB2.out.alloc HB2.out.size _).grown HN2.out (by have := HB2.out.size; simp; omega) (fun k hk => HRI.out.fresh k hk)⟩
            case measure => omega
          · have HX := hid (show fre i j = 1152921504606846976 by simp [fre, hij])
            have d : ((i : Int) == (j : Int)) = false := by simp; omega
            clear hij
            go_wp2_with (at_builtin; refine wp_appI (by rfl) _ _ (by rfl) wo.heap.size (.slice p2 j c2) j (fre i) (by rfl) (own_later HRI.out (below_new _ _)) ⟨wr.heap.size, 0, none⟩ (by rfl) (by rw [HX.out]; exact cell_new _ _ _) (by omega) (by have := HB2.out.size; simp; omega) ?_; intro v' w5 h1 h2; obtain ⟨p3, c3, rfl, _⟩ := own_shape h1; have HN1 := hid h1; have HN2 := hid h2; clear h1 h2)
            go_roundg (n - (j + 1))
            case rel => exact ⟨j + 1, by omega, rfl, by go_num, HN1.out, (HB2.out.alloc HB2.out.size _).grown HN2.out (by have := HB2.out.size; simp; omega) (fun k hk => HRI.out.fresh k hk)⟩
            case measure => omega
        · obtain rfl : j = n := by omega
          have HBB := hid (below_then HBR.out HB2.out (Nat.le_refl _))
          have hsz1 : w.heap.size ≤ wo.heap.size := HBR.out.size
          have hsz2 : wo.heap.size ≤ wr.heap.size := HB2.out.size
          have hn24 : (i + 1) * 24 ≤ 140737488355328 := by omega
          go_wp2_with (at_builtin; refine wp_appR (by rfl) _ _ (by rfl) w.heap.size (.slice p1 i c1) i us L fre (by rfl) ((HBD.out.later HB2.out).later (below_new _ _)) (.slice p2 j c2) ⟨wr.heap.size, 0, none⟩ (by rfl) (cell_new _ _ _) (by rw [HL.out]; exact own_base (own_later HRI.out (below_new _ _)) hsz1) (fun x hx => ⟨fun c => by have h1 := HRI.out.fresh x hx; have h2 := (own_lt HBD.out.own c).2; omega, fun k hk c => by have h1 := HRI.out.fresh x hx; have h2 := (own_lt (HBD.out.row k hk) c).2; omega⟩) hn24 (by simp; omega) ?_; intro v' w5 h1 h2 h3; obtain ⟨p3, c3, rfl, _⟩ := own_shape h1.own; have HN1 := hid h1; have HN2 := hid h2; have HN3 := hid h3; clear h1 h2 h3)
          go_roundg (j - (i + 1))
          case rel => exact ⟨i + 1, by omega, rfl, by go_num, ⟨_, HN1.out⟩, (HBB.out.alloc (by omega) _).grown HN2.out (by simp; omega) (fun k hk => HN3.out k hk)⟩
          case measure => omega
    · obtain rfl : i = n := by omega
      go_wp2_with fail
      go_ret
      exact ⟨⟨_, rfl, HBD.out.new⟩, HBR.out⟩
end Go.Proofs.YtgikaheojcpmpaaDoor
