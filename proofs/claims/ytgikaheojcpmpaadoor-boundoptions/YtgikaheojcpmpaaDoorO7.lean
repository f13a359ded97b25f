/-
  The reference: a point lies ahead of another one.
-/
import Derived.Test.YtgikaheojcpmpaaDoorO6
import Derived.Test.YtgikaheojcpmpaaDoorI
import Derived.Test.YtgikaheojcpmpaaDoorT
namespace Go.Proofs.YtgikaheojcpmpaaDoor
open Go.ChangeShapes Go.WideShapes Go.ChangeAt Go.RowKit Go.Maps
set_option linter.unusedVariables false
set_option linter.unusedSimpArgs false
set_option maxRecDepth 20000
/-- Cells that are kept. -/
def Kc (w : World) (G : Nat → Nat) (K : List (Addr × Value)) : Prop := ∀ z, z ∈ K → w.cell? z.1 = some z.2 ∧ ∀ i, i < 4 → G i ≠ z.1.block
theorem Kc.later {w w' : World} {G : Nat → Nat} {K : List (Addr × Value)} (h : Kc w G K) (hb : Below w.heap.size w w') : Kc w' G K := fun z hz => ⟨(hb.cell (p := z.1) (World.block_lt_of_cell? _ _ (h z hz).1)).trans (h z hz).1, (h z hz).2⟩
def rF (v : Nat) : Nat := if v = 13 then 0 else apF v
def rT (v : Nat) : Nat := if v = 13 then 2 else apT v
def refZ (v : Nat) (pm : Nat → Nat) (lo hi : Int) : Mx :=
  if hi = -1 then am pm (tellZ v pm (am pm (am pm fre 0 1 0) 2 3 0)) (rF v) (rT v) (-lo)
  else am pm (am pm (tellZ v pm (am pm (am pm fre 0 1 0) 2 3 0)) (rF v) (rT v) (-lo)) (rT v) (rF v) hi
theorem Tres.from {w0 w w' : World} {e : Ending} {n : Nat} {r : Option Mx} (h : Tres w w' e n r) (hs : w0.heap.size ≤ w.heap.size) : Tres w0 w' e n r := by
  cases r with
  | none => exact h
  | some R =>
    obtain ⟨V, h1, h2⟩ := h
    exact ⟨V, h1, h2.from hs⟩
set_option maxHeartbeats 8000000 in
theorem refAhead_any (B b cap : Nat) (G C : Nat → Nat) (K : List (Addr × Value)) (Z : Mx) (x y : Nat) (n : Int) (w : World) (h : OwnM w B b 4 (fun _ => 4) G C Z) (hK : Kc w G K) (hx : x < 4) (hy : y < 4) (h1 : 0 ≤ n) (h2 : n ≤ 1073741824) :
    Calls Tryd.prog 28 #[.slice (some ⟨b, 0, none⟩) 4 cap, .int .i64 (x : Int), .int .i64 (y : Int), .int .i64 n] w fun e w' => e = .returned (.tuple #[]) ∧ OwnM w' B b 4 (fun _ => 4) G C (am pmI Z x y (-n)) ∧ Kc w' G K ∧ Below B w w' := by
  have HO := hid h
  have HK := hid hK
  have x1 : (0 : Int) ≤ (x : Int) := by omega
  have x2 : (x : Int) < 4 := by omega
  have y1 : (0 : Int) ≤ (y : Int) := by omega
  have y2 : (y : Int) < 4 := by omega
  obtain ⟨q0, c1, hc1⟩ := h.top x hx
  rw [hc1 (by decide)] at c1
  have c2 := (h.row x hx (by decide)).cell (k := y) hy
  have c3 := (h.row x hx (by decide)).frozen y
  have hcp := (h.cp x hx).1
  have hneg : IntKind.i64.wrap (-n) = -n := by go_unwrap
  have hneg2 : RowKit.wrap64 (-n) = -n := by unfold RowKit.wrap64; omega
  have HST := hid (fun (v : Int) => HO.out.set (k := y) hx hy v)
  have HKS : Hid (∀ v, Kc (w.setCell ⟨G x, y, none⟩ v) G K) := fun v z hz => ⟨cellS (hK z hz).1 (fun e => (hK z hz).2 x hx e.symm), (hK z hz).2⟩
  have HSE := hid (fun (v : Int) => (Below.refl B w).setCell (p := ⟨G x, y, none⟩) (h.gB x hx (by decide)) (.int .i64 v))
  have HAM := hid (show am pmI Z x y (-n) = upd Z x y (min (Z x y) (-n)) from rfl)
  have HZX : Hid (upd Z x y (Z x y) = Z) := by
    show upd Z x y (Z x y) = Z
    funext a b
    unfold upd
    split
    · rename_i e; obtain ⟨rfl, rfl⟩ := e; rfl
    · rfl
  obtain ⟨gi, hgi⟩ : ∃ g, G x = g := ⟨_, rfl⟩
  obtain ⟨ci, hci⟩ : ∃ g, C x = g := ⟨_, rfl⟩
  obtain ⟨v, hv⟩ : ∃ g, Z x y = g := ⟨_, rfl⟩
  rw [hgi, hci] at c1
  rw [hgi, hv] at c2
  rw [hgi] at c3 HST HSE HKS
  rw [hci] at hcp
  rw [hv] at HAM HZX
  clear hgi hci hv hc1 h hK h1 h2
  by_cases q : -n < v
  · have HV := hid (show min v (-n) = -n by omega)
    have d : decide (-n < v) = true := by simpa using q
    go_enter Tryd.func28, Tryd.ntmps28
    go_wp2_with fail
    refine bodyPost_end (results_none rfl _ _ _) rfl ?_
    rw [HAM.out, HV.out]
    exact ⟨rfl, HST.out _, HKS.out _, HSE.out _⟩
  · have HV := hid (show min v (-n) = v by omega)
    have d : decide (-n < v) = false := by simpa using q
    go_enter Tryd.func28, Tryd.ntmps28
    go_wp2_with fail
    refine bodyPost_end (results_none rfl _ _ _) rfl ?_
    rw [HAM.out, HV.out, HZX.out]
    exact ⟨rfl, HO.out, HK.out, Below.refl _ _⟩
end Go.Proofs.YtgikaheojcpmpaaDoor
