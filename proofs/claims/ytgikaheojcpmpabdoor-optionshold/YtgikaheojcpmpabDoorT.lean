/-
  The reference's rounds.
-/
import Derived.Test.YtgikaheojcpmpabDoorP2
import Derived.Test.YtgikaheojcpmpabDoorE
import Derived.BigRegion
namespace Go.Proofs.YtgikaheojcpmpabDoor
open Go.ChangeShapes Go.WideShapes Go.ChangeAt Go.RowKit Go.Maps
set_option linter.unusedVariables false
set_option linter.unusedSimpArgs false
set_option maxRecDepth 20000
/-- What is at hand of an own matrix at three places. -/
theorem OwnM.at3 {w : World} {B b n : Nat} {G C : Nat → Nat} {Z : Nat → Nat → Int} (h : OwnM w B b n (fun _ => n) G C Z) {i k j : Nat} (hi : i < n) (hk : k < n) (hj : j < n) :
    w.cell? ⟨b, i, none⟩ = some (.slice (some ⟨G i, 0, none⟩) n (C i)) ∧ w.cell? ⟨b, k, none⟩ = some (.slice (some ⟨G k, 0, none⟩) n (C k)) ∧ w.cell? ⟨G i, k, none⟩ = some (.int .i64 (Z i k)) ∧ w.cell? ⟨G k, j, none⟩ = some (.int .i64 (Z k j)) ∧ w.cell? ⟨G i, j, none⟩ = some (.int .i64 (Z i j)) ∧ w.frozen? ⟨G i, j, none⟩ = false := by
  obtain ⟨q1, e1, f1⟩ := h.top i hi
  obtain ⟨q2, e2, f2⟩ := h.top k hk
  rw [f1 (by omega)] at e1
  rw [f2 (by omega)] at e2
  exact ⟨e1, e2, (h.row i hi (by omega)).cell hk, (h.row k hk (by omega)).cell hj, (h.row i hi (by omega)).cell hj, (h.row i hi (by omega)).frozen j⟩
/-- What the reference's rounds answer. -/
def Tres (w w' : World) (e : Ending) (n : Nat) (r : Option Mx) : Prop :=
  match r with
  | none => e = .returned (.tuple #[.slice none 0 0, .bool false])
  | some R => ∃ V, e = .returned (.tuple #[V, .bool true]) ∧ New w w' V n (fun _ => n) R
theorem stp_big {S : Mx × Bool} {i k j : Nat} (h : S.1 i k = 1152921504606846976 ∨ S.1 k j = 1152921504606846976) : stp S i k j = S := by unfold stp; rw [if_pos h]
theorem stp_less {S : Mx × Bool} {i k j : Nat} (h1 : ¬ S.1 i k = 1152921504606846976) (h2 : ¬ S.1 k j = 1152921504606846976) (h : RowKit.wrap64 (S.1 i k + S.1 k j) < S.1 i j) : stp S i k j = (upd S.1 i j (RowKit.wrap64 (S.1 i k + S.1 k j)), true) := by
  unfold stp; rw [if_neg (by omega), if_pos h]
theorem stp_same {S : Mx × Bool} {i k j : Nat} (h1 : ¬ S.1 i k = 1152921504606846976) (h2 : ¬ S.1 k j = 1152921504606846976) (h : ¬ RowKit.wrap64 (S.1 i k + S.1 k j) < S.1 i j) : stp S i k j = S := by
  unfold stp; rw [if_neg (by omega), if_neg h]
end Go.Proofs.YtgikaheojcpmpabDoor
