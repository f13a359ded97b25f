/-
  BoundFrees: the walk.
-/
import Derived.Test.YtgikaheojcpmpaaI
import Derived.Test.YtgikaheojcpmpaaH
namespace Go.Proofs.Ytgikaheojcpmpaa
open Go.ChangeShapes Go.WideShapes Go.ChangeAt Go.RowKit Go.Maps
set_option linter.unusedVariables false
set_option linter.unusedSimpArgs false
set_option maxRecDepth 20000
theorem mat_nil (w : World) (L : Nat → Nat) (Z : Nat → Nat → Int) : MatAt w (.slice none 0 0) 0 L Z := ⟨none, 0, rfl, Nat.le_refl _, Nat.zero_le _, fun h => by omega⟩
theorem below_dn {w : World} {m : Nat} {w' : World} (h : w' = w.drewN m) : Below w.heap.size w w' := by subst h; exact below_drewN (Below.refl _ _) _
set_option maxHeartbeats 4000000 in
theorem boundFrees_walk (n : Int) (w : World) :
    Calls Try.prog 4 #[.int .i64 n] w fun e w' => e = .returned (.bool true) ∧ Below w.heap.size w w' := by
  by_cases hn : n < 0 ∨ 12 < n
  · have HN := hid hn
    clear hn
    go_enter Try.func4, Try.ntmps4
    go_wp2_with fail
    refine (freeP_bad n _ HN.out).mono ?_
    rintro e w ⟨rfl, rfl⟩
    go_wp2_with fail
    refine (freeOf_bad n _ HN.out).mono ?_
    rintro e w ⟨rfl, rfl⟩
    go_wp2_with fail
    refine (sameRows_any _ _ 0 (fun _ => 0) (fun _ _ => 0) _ (mat_nil _ _ _) (mat_nil _ _ _)).mono ?_
    rintro e w1 ⟨rfl, m, hB⟩
    have HB := hid (below_dn hB)
    clear hB
    go_wp2_with fail
    go_ret
    exact ⟨rfl, HB.out⟩
  · obtain ⟨k, rfl⟩ := Int.eq_ofNat_of_zero_le (by omega : 0 ≤ n)
    have HN : Hid (k ≤ 12) := by show k ≤ 12; omega
    clear hn
    go_enter Try.func4, Try.ntmps4
    go_wp2_with fail
    refine (freeP_any k _ HN.out).mono ?_
    rintro e w1 ⟨⟨V, rfl, hN⟩, hB⟩
    have H1 := hid hN
    have HB1 := hid hB
    clear hN hB
    go_wp2_with fail
    refine (freeOf_any k _ HN.out).mono ?_
    rintro e w2 ⟨⟨U, rfl, hN⟩, hB⟩
    have H2 := hid hN
    have HB2 := hid hB
    clear hN hB
    go_wp2_with fail
    refine (sameRows_any V U k (fun _ => k) fre _ (H1.out.mat.later HB2.out) H2.out.mat).mono ?_
    rintro e w3 ⟨rfl, m, hB⟩
    have HB := hid (below_then (below_then HB1.out HB2.out (Nat.le_refl _)) (below_dn hB) (Nat.le_refl _))
    clear hB
    go_wp2_with fail
    go_ret
    exact ⟨rfl, HB.out⟩
end Go.Proofs.Ytgikaheojcpmpaa
