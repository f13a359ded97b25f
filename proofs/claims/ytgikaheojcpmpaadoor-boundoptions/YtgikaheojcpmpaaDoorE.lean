/-
  A copy of a matrix, by the reference.
-/
import Derived.Test.YtgikaheojcpmpaaDoorD
namespace Go.Proofs.YtgikaheojcpmpaaDoor
open Go.ChangeShapes Go.WideShapes Go.ChangeAt Go.RowKit Go.Maps
set_option linter.unusedVariables false
set_option linter.unusedSimpArgs false
set_option maxRecDepth 20000
/-- Bounds of what came in. -/
def Fit (n : Nat) (L : Nat → Nat) : Prop := n * 24 ≤ 140737488355328 ∧ ∀ i, i < n → L i * 8 ≤ 140737488355328
theorem cell_new (w : World) (u : Value) (t : TypeId) : (w.alloc (.cells #[u] t)).cell? ((⟨w.heap.size, 0, none⟩ : Addr).add 0) = some u := by
  rw [Addr.add_mid]; go_simp
theorem below_new (w : World) (o : Obj) : Below w.heap.size w (w.alloc o) := (Below.refl _ _).alloc (Nat.le_refl _) o
theorem Rw.fresh {w : World} {B : Nat} {v : Value} {k : Nat} {z : Nat → Int} (h : Rw w B v k z) : ∀ x, v.ownBlock = some x → B ≤ x := fun x hx => (own_lt h hx).1
set_option maxHeartbeats 8000000 in
theorem matrixCopy_any (v : Value) (n : Nat) (L : Nat → Nat) (Z : Nat → Nat → Int) (w : World) (h : MatAt w v n L Z) (hfit : Fit n L) :
    Calls Tryd.prog 31 #[v] w fun e w' => (∃ V, e = .returned V ∧ New w w' V n L Z) ∧ Below w.heap.size w w' := by
  have HM : Hid (MatAt w v n L Z) := h
  obtain ⟨p, cap, rfl, hl, hc, hp⟩ := h
  have hmx : (n : Int) ≤ 9223372036854775807 := by unfold maxLen at hc; omega
  have HP : Hid (0 < n → ∃ g off, p = some ⟨g, off, none⟩ ∧ ∀ i, i < n → ∃ u, w.cell? ⟨g, off + i, none⟩ = some u ∧ RowAt w u (L i) (Z i)) := hp
  have HFT : Hid (Fit n L) := hfit
  clear hp hl hc hfit
  go_enter Tryd.func31, Tryd.ntmps31
  go_wp2_with fail
  go_loopg [3, 4] n (fun gg vo io wr => ∃ i : Nat, i ≤ n ∧ gg = n - i ∧ io = .int .i64 (i : Nat) ∧ (∃ us, Bd wr w.heap.size vo i us L Z) ∧ Below w.heap.size w wr)
  case atStart => exact ⟨0, by omega, by omega, rfl, ⟨fun _ => .slice none 0 0, Bd.nil _ _ _ _ _⟩, Below.refl _ _⟩
  case round =>
    obtain ⟨i, hi, rfl, rfl, ⟨us, hbd⟩, hBr⟩ := hrel
    obtain ⟨p1, c1, rfl, _⟩ := own_shape hbd.own
    have HBD : Hid (Bd wr w.heap.size (.slice p1 i c1) i us L Z) := hbd
    have HBR : Hid (Below w.heap.size w wr) := hBr
    clear hbd
    by_cases hlt : i < n
    · obtain ⟨g, off, rfl, hrd⟩ := HP.out (by omega)
      obtain ⟨u, hu, hr⟩ := hrd i hlt
      have a0 := (hBr.cell (p := ⟨g, off + i, none⟩) (World.block_lt_of_cell? _ _ hu)).trans hu
      have HRW : Hid (RowAt wr u (L i) (Z i)) := hr.later hBr
      have hgb : g < wr.heap.size := World.block_lt_of_cell? _ _ a0
      obtain ⟨q0, c0, rfl, hl0, hc0, _⟩ := hr
      have i1 : (0 : Int) ≤ (i : Int) := by omega
      have i2 : (i : Int) < (n : Int) := by omega
      have hm8 : L i * 8 ≤ 140737488355328 := HFT.out.2 i hlt
      obtain ⟨m, hm⟩ : ∃ m, L i = m := ⟨_, rfl⟩
      have HLM : Hid (L i = m) := hm
      rw [hm] at HRW a0 hm8
      have hmm : (m : Int) ≤ 9223372036854775807 := by omega
      clear hrd hBr hm hu hl0 hc0
      obtain ⟨wo, hwo⟩ : ∃ wo, wo = wr := ⟨_, rfl⟩
      rw [← hwo] at HRW HBD HBR a0 hgb ⊢
      clear hwo
      have HA0 : Hid (wo.cell? ⟨g, off + i, none⟩ = some (.slice q0 m c0)) := a0
      clear a0
      go_wp2_with fail
      go_loopg [5, 6] m (fun gg vi ji wi => ∃ j : Nat, j ≤ m ∧ gg = m - j ∧ ji = .int .i64 (j : Nat) ∧ Rw wi wo.heap.size vi j (Z i) ∧ Below wo.heap.size wo wi)
      case atStart => exact ⟨0, by omega, by omega, rfl, Rw.nil _ _ _, Below.refl _ _⟩
      case round =>
        obtain ⟨j, hj, rfl, rfl, hrw, hB2⟩ := hrel
        obtain ⟨p2, c2, rfl, _⟩ := own_shape hrw
        have HRI : Hid (Rw wr wo.heap.size (.slice p2 j c2) j (Z i)) := hrw
        have HB2 : Hid (Below wo.heap.size wo wr) := hB2
        have a0 : wr.cell? ⟨g, off + i, none⟩ = some (.slice q0 m c0) := (hB2.cell (p := ⟨g, off + i, none⟩) hgb).trans HA0.out
        clear hrw
        by_cases hjm : j < m
        · obtain ⟨q0', c0', e, _, _, hq⟩ := HRW.out.later hB2
          simp only [Value.slice.injEq] at e
          obtain ⟨rfl, _, rfl⟩ := e
          obtain ⟨g1, o1, rfl, hc1⟩ := hq (by omega)
          have a1 := hc1 j hjm
          have j1 : (0 : Int) ≤ (j : Int) := by omega
          have j2 : (j : Int) < (m : Int) := by omega
          have HX : Hid (∀ x, Z i j = x → (wr.alloc (.cells #[.int .i64 x] 3)).cell? ((⟨wr.heap.size, 0, none⟩ : Addr).add 0) = some (.int .i64 (Z i j))) := fun x hx => by rw [hx]; exact cell_new _ _ _
          obtain ⟨x, hx⟩ : ∃ x, Z i j = x := ⟨_, rfl⟩
          have HX2 := hid (HX.out x hx)
          rw [hx] at a1
          clear hc1 hq hx HX hB2
          go_wp2_with (at_builtin; refine wp_appI (by rfl) _ _ (by rfl) wo.heap.size (.slice p2 j c2) j (Z i) (by rfl) (own_later HRI.out (below_new _ _)) ⟨wr.heap.size, 0, none⟩ (by rfl) HX2.out (by omega) (by have := HB2.out.size; simp; omega) ?_; intro v' w5 h1 h2; obtain ⟨p3, c3, rfl, _⟩ := own_shape h1; have HN1 := hid h1; have HN2 := hid h2; clear h1 h2)
          go_roundg (m - (j + 1))
          case rel => exact ⟨j + 1, by omega, rfl, by go_num, HN1.out, (HB2.out.alloc HB2.out.size _).grown HN2.out (by have := HB2.out.size; simp; omega) (fun k hk => HRI.out.fresh k hk)⟩
          case measure => omega
        · obtain rfl : j = m := by omega
          clear hB2
          have HBB := hid (below_then HBR.out HB2.out (Nat.le_refl _))
          have hsz1 : w.heap.size ≤ wo.heap.size := HBR.out.size
          have hsz2 : wo.heap.size ≤ wr.heap.size := HB2.out.size
          have hn24 : (i + 1) * 24 ≤ 140737488355328 := by have := HFT.out.1; omega
          go_wp2_with (at_builtin; refine wp_appR (by rfl) _ _ (by rfl) w.heap.size (.slice p1 i c1) i us L Z (by rfl) ((HBD.out.later HB2.out).later (below_new _ _)) (.slice p2 j c2) ⟨wr.heap.size, 0, none⟩ (by rfl) (cell_new _ _ _) (by rw [HLM.out]; exact own_base (own_later HRI.out (below_new _ _)) hsz1) (fun x hx => ⟨fun c => by have h1 := HRI.out.fresh x hx; have h2 := (own_lt HBD.out.own c).2; omega, fun k hk c => by have h1 := HRI.out.fresh x hx; have h2 := (own_lt (HBD.out.row k hk) c).2; omega⟩) hn24 (by simp; omega) ?_; intro v' w5 h1 h2 h3; obtain ⟨p3, c3, rfl, _⟩ := own_shape h1.own; have HN1 := hid h1; have HN2 := hid h2; have HN3 := hid h3; clear h1 h2 h3)
          go_roundg (n - (i + 1))
          case rel => exact ⟨i + 1, by omega, rfl, by go_num, ⟨_, HN1.out⟩, (HBB.out.alloc (by omega) _).grown HN2.out (by simp; omega) (fun k hk => HN3.out k hk)⟩
          case measure => omega
    · obtain rfl : i = n := by omega
      clear hBr
      go_wp2_with fail
      go_ret
      exact ⟨⟨_, rfl, HBD.out.new⟩, HBR.out⟩
end Go.Proofs.YtgikaheojcpmpaaDoor
