/-
  The closure that tells what one point less another is at most.
-/
import Derived.Test.YtgikaheojcpmpabDoorE
import Derived.Test.YtgikaheojcpmpabDoorG
import Derived.BigRegion
namespace Go.Proofs.YtgikaheojcpmpabDoor
open Go.ChangeShapes Go.WideShapes Go.ChangeAt Go.RowKit Go.Maps
set_option linter.unusedVariables false
set_option linter.unusedSimpArgs false
set_option maxRecDepth 20000
/-- One bound more. -/
def am (pm : Nat → Nat) (Z : Nat → Nat → Int) (p q : Nat) (m : Int) : Nat → Nat → Int := upd Z (pm p) (pm q) (min (Z (pm p) (pm q)) m)
/-- Where the points stand, and the matrix that is told. -/
structure Env (w : World) (B bA bM b cap : Nat) (G C pm : Nat → Nat) (K : List (Addr × Value)) (Z : Nat → Nat → Int) : Prop where
  own : OwnM w B b 4 (fun _ => 4) G C Z
  ar : ∀ k, k < 4 → w.cell? ⟨bA, k, none⟩ = some (.int .i64 (pm k : Nat))
  mv : w.cell? ⟨bM, 0, none⟩ = some (.slice (some ⟨b, 0, none⟩) 4 cap)
  lt : ∀ k, k < 4 → pm k < 4
  nA : ∀ i, i < 4 → G i ≠ bA
  nM : ∀ i, i < 4 → G i ≠ bM
  kp : ∀ x, x ∈ K → w.cell? x.1 = some x.2 ∧ ∀ i, i < 4 → G i ≠ x.1.block
theorem Env.below {w w' : World} {B bA bM b cap : Nat} {G C pm : Nat → Nat} {K : List (Addr × Value)} {Z : Nat → Nat → Int} (h : Env w B bA bM b cap G C pm K Z) (hb : Below w.heap.size w w') : Env w' B bA bM b cap G C pm K Z :=
  ⟨h.own.of_below hb, fun k hk => (hb.cell (p := ⟨bA, k, none⟩) (World.block_lt_of_cell? _ _ (h.ar k hk))).trans (h.ar k hk), (hb.cell (p := ⟨bM, 0, none⟩) (World.block_lt_of_cell? _ _ h.mv)).trans h.mv, h.lt, h.nA, h.nM, fun x hx => ⟨(hb.cell (p := x.1) (World.block_lt_of_cell? _ _ (h.kp x hx).1)).trans (h.kp x hx).1, (h.kp x hx).2⟩⟩
theorem Env.put {w : World} {B bA bM b cap : Nat} {G C pm : Nat → Nat} {K : List (Addr × Value)} {Z : Nat → Nat → Int} (h : Env w B bA bM b cap G C pm K Z) (r i k : Nat) (hi : i < 4) (hk : k < 4) (x : Int) : Env ((w.drewN r).setCell ⟨G i, k, none⟩ (.int .i64 x)) B bA bM b cap G C pm K (upd Z i k x) :=
  ⟨(h.own.drewN r).set hi hk x, fun j hj => cellS (W := w.drewN r) (h.ar j hj) (fun e => h.nA i hi e.symm), cellS (W := w.drewN r) h.mv (fun e => h.nM i hi e.symm), h.lt, h.nA, h.nM, fun y hy => ⟨cellS (W := w.drewN r) (h.kp y hy).1 (fun e => (h.kp y hy).2 i hi e.symm), (h.kp y hy).2⟩⟩
theorem Env.add {w : World} {B bA bM b cap : Nat} {G C pm : Nat → Nat} {K : List (Addr × Value)} {Z : Nat → Nat → Int} (h : Env w B bA bM b cap G C pm K Z) (x : Addr × Value) (h1 : w.cell? x.1 = some x.2) (h2 : ∀ i, i < 4 → G i ≠ x.1.block) : Env w B bA bM b cap G C pm (x :: K) Z :=
  ⟨h.own, h.ar, h.mv, h.lt, h.nA, h.nM, fun y hy => by
    rcases List.mem_cons.1 hy with rfl | hy
    · exact ⟨h1, h2⟩
    · exact h.kp y hy⟩
theorem Env.rest {w : World} {B bA bM b cap : Nat} {G C pm : Nat → Nat} {K : List (Addr × Value)} {Z : Nat → Nat → Int} {x : Addr × Value} (h : Env w B bA bM b cap G C pm (x :: K) Z) : Env w B bA bM b cap G C pm K Z :=
  ⟨h.own, h.ar, h.mv, h.lt, h.nA, h.nM, fun y hy => h.kp y (List.mem_cons_of_mem _ hy)⟩
set_option maxHeartbeats 8000000 in
theorem atMost_any (B bA bM b cap : Nat) (G C pm : Nat → Nat) (K : List (Addr × Value)) (Z : Nat → Nat → Int) (p q : Nat) (m : Int) (w : World) (h : Env w B bA bM b cap G C pm K Z) (hp : p < 4) (hq : q < 4) (hcap : 4 ≤ cap) :
    Calls Tryd.prog 26 #[.int .i64 (p : Int), .int .i64 (q : Int), .int .i64 m, .pointer (some ⟨bA, 0, none⟩), .pointer (some ⟨bM, 0, none⟩)] w fun e w' => e = .returned (.tuple #[]) ∧ Env w' B bA bM b cap G C pm K (am pm Z p q m) ∧ Below B w w' := by
  have HE := hid h
  have p1 : (0 : Int) ≤ (p : Int) := by omega
  have p2 : (p : Int) < 4 := by omega
  have q1 : (0 : Int) ≤ (q : Int) := by omega
  have q2 : (q : Int) < 4 := by omega
  have a1 := h.ar p hp
  have a2 := h.ar q hq
  have a3 := h.mv
  have l1 := h.lt p hp
  have l2 := h.lt q hq
  obtain ⟨i, hi⟩ : ∃ i, pm p = i := ⟨_, rfl⟩
  obtain ⟨k, hk⟩ : ∃ k, pm q = k := ⟨_, rfl⟩
  rw [hi] at a1 l1
  rw [hk] at a2 l2
  have i1 : (0 : Int) ≤ (i : Int) := by omega
  have i2 : (i : Int) < 4 := by omega
  have k1 : (0 : Int) ≤ (k : Int) := by omega
  have k2 : (k : Int) < 4 := by omega
  obtain ⟨q0, c1, hc1⟩ := h.own.top i l1
  rw [hc1 (by decide)] at c1
  have c2 := (h.own.row i l1 (by decide)).cell (k := k) l2
  have c3 := (h.own.row i l1 (by decide)).frozen k
  have hcp := (h.own.cp i l1).1
  have HPT := hid (fun (r : Nat) (x : Int) => HE.out.put r i k l1 l2 x)
  have HBE := hid (fun (r : Nat) (x : Int) => (below_drewN (Below.refl B w) r).setCell (p := ⟨G i, k, none⟩) (h.own.gB i l1 (by decide)) (.int .i64 x))
  have HAM := hid (show am pm Z p q m = upd Z i k (min (Z i k) m) by unfold am; rw [hi, hk])
  obtain ⟨gi, hgi⟩ : ∃ g, G i = g := ⟨_, rfl⟩
  obtain ⟨ci, hci⟩ : ∃ g, C i = g := ⟨_, rfl⟩
  obtain ⟨x, hx⟩ : ∃ g, Z i k = g := ⟨_, rfl⟩
  rw [hgi, hci] at c1
  rw [hgi, hx] at c2
  rw [hgi] at c3 HPT HBE
  rw [hci] at hcp
  rw [hx] at HAM
  clear hgi hci hx hc1 h hi hk
  by_cases hm : m < x
  · have HV := hid (show min x m = m by omega)
    go_enter Tryd.func26, Tryd.ntmps26
    go_wp2_with fail
    go_quiet (fail)
    go_wp2_with fail
    go_region
    all_goals
      go_wp2_with fail
      refine bodyPost_end (results_none rfl _ _ _) rfl ?_
      rw [HAM.out, HV.out]
      exact ⟨rfl, HPT.out _ _, HBE.out _ _⟩
  · have hm2 : x ≤ m := by omega
    have HV := hid (show min x m = x by omega)
    go_enter Tryd.func26, Tryd.ntmps26
    go_wp2_with fail
    go_quiet (fail)
    go_wp2_with fail
    go_region
    all_goals
      go_wp2_with fail
      refine bodyPost_end (results_none rfl _ _ _) rfl ?_
      rw [HAM.out, HV.out]
      exact ⟨rfl, HPT.out _ _, HBE.out _ _⟩
end Go.Proofs.YtgikaheojcpmpabDoor
