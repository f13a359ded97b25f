/-
  Upright relations, and what lies apart.
-/
import Derived.Test.YtgikaheojcpmpabDoorO1
import Derived.Deep.MidRow
namespace Go.Proofs.YtgikaheojcpmpabDoor
open Go.ChangeShapes Go.WideShapes Go.ChangeAt Go.RowKit Go.Maps
set_option linter.unusedVariables false
set_option linter.unusedSimpArgs false
set_option maxRecDepth 20000
set_option maxHeartbeats 4000000 in
theorem inverse_any (r : Nat) (v : Int) (w : World) (h1 : 1 ≤ r) (h2 : r ≤ 13) (hz : 0 < w.heap.size) (hc : w.cell? ⟨0, r, none⟩ = some (.int .i64 v)) :
    Calls Tryd.prog 9 #[.int .i64 (r : Int)] w fun e w' => e = .returned (.tuple #[.int .i64 v, .int .i64 0]) ∧ Below w.heap.size w w' := by
  have a1 : (1 : Int) ≤ (r : Int) := by omega
  have a2 : (r : Int) ≤ 13 := by omega
  have a3 : (0 : Int) ≤ (r : Int) := by omega
  have a4 : (r : Int) < 14 := by omega
  go_enter Tryd.func9, Tryd.ntmps9
  go_wp2
  go_ret2
  exact ⟨rfl, by go_grown⟩
theorem res2c {P : Program} {fn : Func} {p a : Tmp} {ty : TypeId} (h : fn.results = #[.tmp a, .cell p ty]) (tmps : Array Value) (w : World) (g : Nat) (cs : List Value) (d : TypeDesc)
    (hp : tmps.getD p undef = .pointer (some ⟨g, 0, none⟩)) (hc : w.rangeAt g 0 cs) (hu : P.underlying ty = some d) (hd : d.isRow = true) (hi : (P.info? ty).map (·.size) = some cs.length) :
    (results fn tmps).run P w = .ok (.tuple #[tmps.getD a undef, .agg cs.toArray]) w := by
  have hp' : tmps[p]?.getD undef = .pointer (some ⟨g, 0, none⟩) := by simpa using hp
  simp [results, h, hp', asAddr, run_loadVar_mid w g 0 ty cs d hc hu hd hi]
theorem range4 {w : World} {m : Nat} {x y z u a b c d : Value} (h0 : w.cell? ⟨m, 0, none⟩ = some x) (h1 : w.cell? ⟨m, 1, none⟩ = some y) (h2 : w.cell? ⟨m, 2, none⟩ = some z) (h3 : w.cell? ⟨m, 3, none⟩ = some u) :
    ((((w.setCell ⟨m, 0, none⟩ a).setCell ⟨m, 1, none⟩ b).setCell ⟨m, 2, none⟩ c).setCell ⟨m, 3, none⟩ d).rangeAt m 0 [a, b, c, d] := by
  intro j v hv
  match j, hv with
  | 0, hv => simp at hv; subst hv; simp [go_sem, h0, h1, h2, h3]
  | 1, hv => simp at hv; subst hv; simp [go_sem, h0, h1, h2, h3]
  | 2, hv => simp at hv; subst hv; simp [go_sem, h0, h1, h2, h3]
  | 3, hv => simp at hv; subst hv; simp [go_sem, h0, h1, h2, h3]
theorem below4 {w w1 : World} {n : Nat} {a b c d : Value} (h : Below n w w1) (m : Nat) (hm : n ≤ m) : Below n w ((((w1.setCell ⟨m, 0, none⟩ a).setCell ⟨m, 1, none⟩ b).setCell ⟨m, 2, none⟩ c).setCell ⟨m, 3, none⟩ d) :=
  (((h.setCell (p := ⟨m, 0, none⟩) hm _).setCell (p := ⟨m, 1, none⟩) hm _).setCell (p := ⟨m, 2, none⟩) hm _).setCell (p := ⟨m, 3, none⟩) hm _
abbrev fourV (a b c d : Int) : Value := .agg #[.int .i64 a, .int .i64 b, .int .i64 c, .int .i64 d]
theorem size4 : (Tryd.prog.info? 55).map (·.size) = some 4 := by kernel_rfl
set_option maxHeartbeats 8000000 in
theorem upright_swap (r : Nat) (v : Nat) (w : World) (h1 : 1 ≤ r) (h2 : r ≤ 13) (hz : 0 < w.heap.size) (hc : w.cell? ⟨0, r, none⟩ = some (.int .i64 (v : Int))) (hv : v < r) :
    Calls Tryd.prog 25 #[.int .i64 (r : Int)] w fun e w' => e = .returned (.tuple #[.int .i64 (v : Int), fourV 2 3 0 1]) ∧ Below w.heap.size w w' := by
  have hb1 := below_new w (.cells #[.int .i64 0, .int .i64 0, .int .i64 0, .int .i64 0] 55)
  have HC := hid ((hb1.cell (p := ⟨0, r, none⟩) hz).trans hc)
  have HZ := hid (show 0 < (w.alloc (.cells #[.int .i64 0, .int .i64 0, .int .i64 0, .int .i64 0] 55)).heap.size by first | (simp; done) | (simp; omega))
  have HB := hid hb1
  have q1 : (v : Int) < (r : Int) := by omega
  have HX : Hid (∀ k, k < 4 → (w.alloc (.cells #[.int .i64 0, .int .i64 0, .int .i64 0, .int .i64 0] 55)).cell? ⟨w.heap.size, k, none⟩ = some (.int .i64 0) ∧ (w.alloc (.cells #[.int .i64 0, .int .i64 0, .int .i64 0, .int .i64 0] 55)).frozen? ⟨w.heap.size, k, none⟩ = false) := fun k hk => by
    rcases (by omega : k = 0 ∨ k = 1 ∨ k = 2 ∨ k = 3) with rfl | rfl | rfl | rfl <;> exact ⟨by go_simp, by go_simp⟩
  have H12 := hid (And.intro h1 h2)
  clear hb1 hc hz h1 h2 hv
  go_enter Tryd.func25, Tryd.ntmps25
  go_wp2_with fail
  refine (inverse_any r v _ H12.out.1 H12.out.2 HZ.out HC.out).mono ?_
  rintro e w1 ⟨rfl, hB1⟩
  have hlt : w.heap.size < (w.alloc (.cells #[.int .i64 0, .int .i64 0, .int .i64 0, .int .i64 0] 55)).heap.size := by simp
  have c0 := (hB1.cell (p := ⟨w.heap.size, 0, none⟩) hlt).trans (HX.out 0 (by decide)).1
  have c1 := (hB1.cell (p := ⟨w.heap.size, 1, none⟩) hlt).trans (HX.out 1 (by decide)).1
  have c2 := (hB1.cell (p := ⟨w.heap.size, 2, none⟩) hlt).trans (HX.out 2 (by decide)).1
  have c3 := (hB1.cell (p := ⟨w.heap.size, 3, none⟩) hlt).trans (HX.out 3 (by decide)).1
  have f0 := (hB1.frozen (p := ⟨w.heap.size, 0, none⟩) hlt).trans (HX.out 0 (by decide)).2
  have f1 := (hB1.frozen (p := ⟨w.heap.size, 1, none⟩) hlt).trans (HX.out 1 (by decide)).2
  have f2 := (hB1.frozen (p := ⟨w.heap.size, 2, none⟩) hlt).trans (HX.out 2 (by decide)).2
  have f3 := (hB1.frozen (p := ⟨w.heap.size, 3, none⟩) hlt).trans (HX.out 3 (by decide)).2
  have HR := hid (range4 (a := .int .i64 2) (b := .int .i64 3) (c := .int .i64 0) (d := .int .i64 1) c0 c1 c2 c3)
  have HB1 := hid (HB.out.trans (hB1.mono (by simp)))
  clear hB1 hlt HX
  go_wp2
  refine bodyPost_ret (res2c (g := w.heap.size) (cs := [.int .i64 2, .int .i64 3, .int .i64 0, .int .i64 1]) rfl _ _ _ (by rfl) HR.out Tryd.underlying55 rfl size4) rfl ?_
  exact ⟨rfl, below4 HB1.out _ (Nat.le_refl _)⟩
set_option maxHeartbeats 8000000 in
theorem upright_id (r : Nat) (v : Nat) (w : World) (h1 : 1 ≤ r) (h2 : r ≤ 13) (hz : 0 < w.heap.size) (hc : w.cell? ⟨0, r, none⟩ = some (.int .i64 (v : Int))) (hv : r ≤ v) :
    Calls Tryd.prog 25 #[.int .i64 (r : Int)] w fun e w' => e = .returned (.tuple #[.int .i64 (r : Int), fourV 0 1 2 3]) ∧ Below w.heap.size w w' := by
  have hb1 := below_new w (.cells #[.int .i64 0, .int .i64 0, .int .i64 0, .int .i64 0] 55)
  have HC := hid ((hb1.cell (p := ⟨0, r, none⟩) hz).trans hc)
  have HZ := hid (show 0 < (w.alloc (.cells #[.int .i64 0, .int .i64 0, .int .i64 0, .int .i64 0] 55)).heap.size by first | (simp; done) | (simp; omega))
  have HB := hid hb1
  have q1 : (r : Int) ≤ (v : Int) := by omega
  have q2 : ¬ (v : Int) < (r : Int) := by omega
  have HX : Hid (∀ k, k < 4 → (w.alloc (.cells #[.int .i64 0, .int .i64 0, .int .i64 0, .int .i64 0] 55)).cell? ⟨w.heap.size, k, none⟩ = some (.int .i64 0) ∧ (w.alloc (.cells #[.int .i64 0, .int .i64 0, .int .i64 0, .int .i64 0] 55)).frozen? ⟨w.heap.size, k, none⟩ = false) := fun k hk => by
    rcases (by omega : k = 0 ∨ k = 1 ∨ k = 2 ∨ k = 3) with rfl | rfl | rfl | rfl <;> exact ⟨by go_simp, by go_simp⟩
  have H12 := hid (And.intro h1 h2)
  clear hb1 hc hz h1 h2 hv
  go_enter Tryd.func25, Tryd.ntmps25
  go_wp2_with fail
  refine (inverse_any r v _ H12.out.1 H12.out.2 HZ.out HC.out).mono ?_
  rintro e w1 ⟨rfl, hB1⟩
  have hlt : w.heap.size < (w.alloc (.cells #[.int .i64 0, .int .i64 0, .int .i64 0, .int .i64 0] 55)).heap.size := by simp
  have c0 := (hB1.cell (p := ⟨w.heap.size, 0, none⟩) hlt).trans (HX.out 0 (by decide)).1
  have c1 := (hB1.cell (p := ⟨w.heap.size, 1, none⟩) hlt).trans (HX.out 1 (by decide)).1
  have c2 := (hB1.cell (p := ⟨w.heap.size, 2, none⟩) hlt).trans (HX.out 2 (by decide)).1
  have c3 := (hB1.cell (p := ⟨w.heap.size, 3, none⟩) hlt).trans (HX.out 3 (by decide)).1
  have f0 := (hB1.frozen (p := ⟨w.heap.size, 0, none⟩) hlt).trans (HX.out 0 (by decide)).2
  have f1 := (hB1.frozen (p := ⟨w.heap.size, 1, none⟩) hlt).trans (HX.out 1 (by decide)).2
  have f2 := (hB1.frozen (p := ⟨w.heap.size, 2, none⟩) hlt).trans (HX.out 2 (by decide)).2
  have f3 := (hB1.frozen (p := ⟨w.heap.size, 3, none⟩) hlt).trans (HX.out 3 (by decide)).2
  have HR := hid (range4 (a := .int .i64 0) (b := .int .i64 1) (c := .int .i64 2) (d := .int .i64 3) c0 c1 c2 c3)
  have HB1 := hid (HB.out.trans (hB1.mono (by simp)))
  clear hB1 hlt HX
  go_wp2
  refine bodyPost_ret (res2c (g := w.heap.size) (cs := [.int .i64 0, .int .i64 1, .int .i64 2, .int .i64 3]) rfl _ _ _ (by rfl) HR.out Tryd.underlying55 rfl size4) rfl ?_
  exact ⟨rfl, below4 HB1.out _ (Nat.le_refl _)⟩
def apF (v : Nat) : Nat := if v = 1 ∨ v = 3 ∨ v = 7 then 1 else 2
def apT (v : Nat) : Nat := if v = 1 ∨ v = 3 then 2 else if v = 5 then 1 else if v = 7 then 3 else 0
set_option maxHeartbeats 4000000 in
theorem apart_any (v : Nat) (w : World) (hv : v = 1 ∨ v = 3 ∨ v = 5 ∨ v = 7 ∨ v = 9 ∨ v = 11 ∨ v = 13) :
    Calls Tryd.prog 28 #[.int .i64 (v : Int)] w fun e w' => e = .returned (.tuple #[.int .i64 (apF v : Int), .int .i64 (apT v : Int)]) ∧ w' = w := by
  rcases hv with rfl | rfl | rfl | rfl | rfl | rfl | rfl
  all_goals
    go_enter Tryd.func28, Tryd.ntmps28
    go_wp2
    go_ret2
    exact ⟨rfl, rfl⟩
end Go.Proofs.YtgikaheojcpmpabDoor
