/-
  What an upright relation says of the points.
-/
import Derived.Test.YtgikaheojcpmpabDoorO1
namespace Go.Proofs.YtgikaheojcpmpabDoor
open Go.ChangeShapes Go.WideShapes Go.ChangeAt Go.RowKit Go.Maps
set_option linter.unusedVariables false
set_option linter.unusedSimpArgs false
set_option maxRecDepth 20000
abbrev cloV (bA bM : Nat) : Value := .func (.func 26) #[] #[.pointer (some ⟨bA, 0, none⟩), .pointer (some ⟨bM, 0, none⟩)]
set_option maxHeartbeats 4000000 in
theorem ahead1_any (B bA bM b cap : Nat) (G C pm : Nat → Nat) (K : List (Addr × Value)) (Z : Nat → Nat → Int) (bF p q : Nat) (w : World) (h : Env w B bA bM b cap G C pm ((⟨bF, 0, none⟩, cloV bA bM) :: K) Z) (hp : p < 4) (hq : q < 4) (hcap : 4 ≤ cap) :
    Calls Tryd.prog 33 #[.int .i64 (p : Int), .int .i64 (q : Int), .pointer (some ⟨bF, 0, none⟩)] w fun e w' => e = .returned (.tuple #[]) ∧ Env w' B bA bM b cap G C pm ((⟨bF, 0, none⟩, cloV bA bM) :: K) (am pm Z p q (-1)) ∧ Below B w w' := by
  have HE := hid h
  have c0 : w.cell? ⟨bF, 0, none⟩ = some (cloV bA bM) := (h.kp _ (List.mem_cons_self ..)).1
  clear h
  go_enter Tryd.func33, Tryd.ntmps33
  go_wp2_with fail
  refine (atMost_any B bA bM b cap G C pm _ Z p q (-1) _ HE.out hp hq hcap).mono ?_
  rintro e w1 ⟨rfl, hE1, hB1⟩
  have HE1 := hid hE1
  have HB1 := hid hB1
  clear hE1 hB1 c0
  go_wp2_with fail
  refine bodyPost_end (results_none rfl _ _ _) rfl ?_
  exact ⟨rfl, HE1.out, HB1.out⟩
set_option maxHeartbeats 4000000 in
theorem alike1_any (B bA bM b cap : Nat) (G C pm : Nat → Nat) (K : List (Addr × Value)) (Z : Nat → Nat → Int) (bF p q : Nat) (w : World) (h : Env w B bA bM b cap G C pm ((⟨bF, 0, none⟩, cloV bA bM) :: K) Z) (hp : p < 4) (hq : q < 4) (hcap : 4 ≤ cap) :
    Calls Tryd.prog 34 #[.int .i64 (p : Int), .int .i64 (q : Int), .pointer (some ⟨bF, 0, none⟩)] w fun e w' => e = .returned (.tuple #[]) ∧ Env w' B bA bM b cap G C pm ((⟨bF, 0, none⟩, cloV bA bM) :: K) (am pm (am pm Z p q 0) q p 0) ∧ Below B w w' := by
  have HE := hid h
  have c0 : w.cell? ⟨bF, 0, none⟩ = some (cloV bA bM) := (h.kp _ (List.mem_cons_self ..)).1
  clear h
  go_enter Tryd.func34, Tryd.ntmps34
  go_wp2_with fail
  refine (atMost_any B bA bM b cap G C pm _ Z p q 0 _ HE.out hp hq hcap).mono ?_
  rintro e w1 ⟨rfl, hE1, hB1⟩
  have HE1 := hid hE1
  have HB1 := hid hB1
  have c1 : w1.cell? ⟨bF, 0, none⟩ = some (cloV bA bM) := (hE1.kp _ (List.mem_cons_self ..)).1
  clear hE1 hB1 c0
  go_wp2_with fail
  refine (atMost_any B bA bM b cap G C pm _ _ q p 0 _ HE1.out hq hp hcap).mono ?_
  rintro e w2 ⟨rfl, hE2, hB2⟩
  have HE2 := hid hE2
  have HB2 := hid (HB1.out.trans hB2)
  clear hE2 hB2 c1
  go_wp2_with fail
  refine bodyPost_end (results_none rfl _ _ _) rfl ?_
  exact ⟨rfl, HE2.out, HB2.out⟩
set_option maxHeartbeats 8000000 in
theorem tell1_any (B bA bM b cap : Nat) (G C pm : Nat → Nat) (K : List (Addr × Value)) (Z : Nat → Nat → Int) (w : World) (h : Env w B bA bM b cap G C pm K Z) (hB : B ≤ w.heap.size) (hcap : 4 ≤ cap) :
    Calls Tryd.prog 27 #[.int .i64 1, cloV bA bM] w fun e w' => e = .returned (.tuple #[]) ∧ Env w' B bA bM b cap G C pm K (am pm Z 1 2 (-1)) ∧ Below B w w' := by
  have hlt : ∀ i, i < 4 → G i < w.heap.size := fun i hi => (h.own.row i hi (by decide)).lt
  have HE0 : Hid (Env (w.alloc (.cells #[cloV bA bM] 58)) B bA bM b cap G C pm ((⟨w.heap.size, 0, none⟩, cloV bA bM) :: K) Z) := (h.below (below_new _ _)).add (⟨w.heap.size, 0, none⟩, cloV bA bM) (by show (w.alloc (.cells #[cloV bA bM] 58)).cell? ⟨w.heap.size, 0, none⟩ = _; go_simp) (fun i hi => by have := hlt i hi; show G i ≠ w.heap.size; omega)
  have HB0 : Hid (Below B w (w.alloc (.cells #[cloV bA bM] 58))) := (Below.refl _ _).alloc hB _
  clear h hlt
  go_enter Tryd.func27, Tryd.ntmps27
  go_wp2_with fail
  refine (ahead1_any B bA bM b cap G C pm K _ w.heap.size 1 2 _ HE0.out (by decide) (by decide) hcap).mono ?_
  rintro e w1 ⟨rfl, hE, hBB⟩
  have HE1 := hid hE
  have HB1 := hid (HB0.out.trans hBB)
  clear hE hBB
  go_wp2_with fail
  refine bodyPost_end (results_none rfl _ _ _) rfl ?_
  exact ⟨rfl, HE1.out.rest, HB1.out⟩
set_option maxHeartbeats 8000000 in
theorem tell3_any (B bA bM b cap : Nat) (G C pm : Nat → Nat) (K : List (Addr × Value)) (Z : Nat → Nat → Int) (w : World) (h : Env w B bA bM b cap G C pm K Z) (hB : B ≤ w.heap.size) (hcap : 4 ≤ cap) :
    Calls Tryd.prog 27 #[.int .i64 3, cloV bA bM] w fun e w' => e = .returned (.tuple #[]) ∧ Env w' B bA bM b cap G C pm K (am pm (am pm (am pm (am pm Z 1 2 0) 2 1 0) 0 2 (-1)) 1 3 (-1)) ∧ Below B w w' := by
  have hlt : ∀ i, i < 4 → G i < w.heap.size := fun i hi => (h.own.row i hi (by decide)).lt
  have HE0 : Hid (Env (w.alloc (.cells #[cloV bA bM] 58)) B bA bM b cap G C pm ((⟨w.heap.size, 0, none⟩, cloV bA bM) :: K) Z) := (h.below (below_new _ _)).add (⟨w.heap.size, 0, none⟩, cloV bA bM) (by show (w.alloc (.cells #[cloV bA bM] 58)).cell? ⟨w.heap.size, 0, none⟩ = _; go_simp) (fun i hi => by have := hlt i hi; show G i ≠ w.heap.size; omega)
  have HB0 : Hid (Below B w (w.alloc (.cells #[cloV bA bM] 58))) := (Below.refl _ _).alloc hB _
  clear h hlt
  go_enter Tryd.func27, Tryd.ntmps27
  go_wp2_with fail
  refine (alike1_any B bA bM b cap G C pm K _ w.heap.size 1 2 _ HE0.out (by decide) (by decide) hcap).mono ?_
  rintro e w1 ⟨rfl, hE, hBB⟩
  have HE1 := hid hE
  have HB1 := hid (HB0.out.trans hBB)
  clear hE hBB
  go_wp2_with fail
  refine (ahead1_any B bA bM b cap G C pm K _ w.heap.size 0 2 _ HE1.out (by decide) (by decide) hcap).mono ?_
  rintro e w2 ⟨rfl, hE, hBB⟩
  have HE2 := hid hE
  have HB2 := hid (HB1.out.trans hBB)
  clear hE hBB
  go_wp2_with fail
  refine (ahead1_any B bA bM b cap G C pm K _ w.heap.size 1 3 _ HE2.out (by decide) (by decide) hcap).mono ?_
  rintro e w3 ⟨rfl, hE, hBB⟩
  have HE3 := hid hE
  have HB3 := hid (HB2.out.trans hBB)
  clear hE hBB
  go_wp2_with fail
  refine bodyPost_end (results_none rfl _ _ _) rfl ?_
  exact ⟨rfl, HE3.out.rest, HB3.out⟩
set_option maxHeartbeats 8000000 in
theorem tell5_any (B bA bM b cap : Nat) (G C pm : Nat → Nat) (K : List (Addr × Value)) (Z : Nat → Nat → Int) (w : World) (h : Env w B bA bM b cap G C pm K Z) (hB : B ≤ w.heap.size) (hcap : 4 ≤ cap) :
    Calls Tryd.prog 27 #[.int .i64 5, cloV bA bM] w fun e w' => e = .returned (.tuple #[]) ∧ Env w' B bA bM b cap G C pm K (am pm (am pm (am pm Z 0 2 (-1)) 2 1 (-1)) 1 3 (-1)) ∧ Below B w w' := by
  have hlt : ∀ i, i < 4 → G i < w.heap.size := fun i hi => (h.own.row i hi (by decide)).lt
  have HE0 : Hid (Env (w.alloc (.cells #[cloV bA bM] 58)) B bA bM b cap G C pm ((⟨w.heap.size, 0, none⟩, cloV bA bM) :: K) Z) := (h.below (below_new _ _)).add (⟨w.heap.size, 0, none⟩, cloV bA bM) (by show (w.alloc (.cells #[cloV bA bM] 58)).cell? ⟨w.heap.size, 0, none⟩ = _; go_simp) (fun i hi => by have := hlt i hi; show G i ≠ w.heap.size; omega)
  have HB0 : Hid (Below B w (w.alloc (.cells #[cloV bA bM] 58))) := (Below.refl _ _).alloc hB _
  clear h hlt
  go_enter Tryd.func27, Tryd.ntmps27
  go_wp2_with fail
  refine (ahead1_any B bA bM b cap G C pm K _ w.heap.size 0 2 _ HE0.out (by decide) (by decide) hcap).mono ?_
  rintro e w1 ⟨rfl, hE, hBB⟩
  have HE1 := hid hE
  have HB1 := hid (HB0.out.trans hBB)
  clear hE hBB
  go_wp2_with fail
  refine (ahead1_any B bA bM b cap G C pm K _ w.heap.size 2 1 _ HE1.out (by decide) (by decide) hcap).mono ?_
  rintro e w2 ⟨rfl, hE, hBB⟩
  have HE2 := hid hE
  have HB2 := hid (HB1.out.trans hBB)
  clear hE hBB
  go_wp2_with fail
  refine (ahead1_any B bA bM b cap G C pm K _ w.heap.size 1 3 _ HE2.out (by decide) (by decide) hcap).mono ?_
  rintro e w3 ⟨rfl, hE, hBB⟩
  have HE3 := hid hE
  have HB3 := hid (HB2.out.trans hBB)
  clear hE hBB
  go_wp2_with fail
  refine bodyPost_end (results_none rfl _ _ _) rfl ?_
  exact ⟨rfl, HE3.out.rest, HB3.out⟩
set_option maxHeartbeats 8000000 in
theorem tell7_any (B bA bM b cap : Nat) (G C pm : Nat → Nat) (K : List (Addr × Value)) (Z : Nat → Nat → Int) (w : World) (h : Env w B bA bM b cap G C pm K Z) (hB : B ≤ w.heap.size) (hcap : 4 ≤ cap) :
    Calls Tryd.prog 27 #[.int .i64 7, cloV bA bM] w fun e w' => e = .returned (.tuple #[]) ∧ Env w' B bA bM b cap G C pm K (am pm (am pm (am pm Z 0 2 0) 2 0 0) 1 3 (-1)) ∧ Below B w w' := by
  have hlt : ∀ i, i < 4 → G i < w.heap.size := fun i hi => (h.own.row i hi (by decide)).lt
  have HE0 : Hid (Env (w.alloc (.cells #[cloV bA bM] 58)) B bA bM b cap G C pm ((⟨w.heap.size, 0, none⟩, cloV bA bM) :: K) Z) := (h.below (below_new _ _)).add (⟨w.heap.size, 0, none⟩, cloV bA bM) (by show (w.alloc (.cells #[cloV bA bM] 58)).cell? ⟨w.heap.size, 0, none⟩ = _; go_simp) (fun i hi => by have := hlt i hi; show G i ≠ w.heap.size; omega)
  have HB0 : Hid (Below B w (w.alloc (.cells #[cloV bA bM] 58))) := (Below.refl _ _).alloc hB _
  clear h hlt
  go_enter Tryd.func27, Tryd.ntmps27
  go_wp2_with fail
  refine (alike1_any B bA bM b cap G C pm K _ w.heap.size 0 2 _ HE0.out (by decide) (by decide) hcap).mono ?_
  rintro e w1 ⟨rfl, hE, hBB⟩
  have HE1 := hid hE
  have HB1 := hid (HB0.out.trans hBB)
  clear hE hBB
  go_wp2_with fail
  refine (ahead1_any B bA bM b cap G C pm K _ w.heap.size 1 3 _ HE1.out (by decide) (by decide) hcap).mono ?_
  rintro e w2 ⟨rfl, hE, hBB⟩
  have HE2 := hid hE
  have HB2 := hid (HB1.out.trans hBB)
  clear hE hBB
  go_wp2_with fail
  refine bodyPost_end (results_none rfl _ _ _) rfl ?_
  exact ⟨rfl, HE2.out.rest, HB2.out⟩
set_option maxHeartbeats 8000000 in
theorem tell9_any (B bA bM b cap : Nat) (G C pm : Nat → Nat) (K : List (Addr × Value)) (Z : Nat → Nat → Int) (w : World) (h : Env w B bA bM b cap G C pm K Z) (hB : B ≤ w.heap.size) (hcap : 4 ≤ cap) :
    Calls Tryd.prog 27 #[.int .i64 9, cloV bA bM] w fun e w' => e = .returned (.tuple #[]) ∧ Env w' B bA bM b cap G C pm K (am pm (am pm Z 2 0 (-1)) 1 3 (-1)) ∧ Below B w w' := by
  have hlt : ∀ i, i < 4 → G i < w.heap.size := fun i hi => (h.own.row i hi (by decide)).lt
  have HE0 : Hid (Env (w.alloc (.cells #[cloV bA bM] 58)) B bA bM b cap G C pm ((⟨w.heap.size, 0, none⟩, cloV bA bM) :: K) Z) := (h.below (below_new _ _)).add (⟨w.heap.size, 0, none⟩, cloV bA bM) (by show (w.alloc (.cells #[cloV bA bM] 58)).cell? ⟨w.heap.size, 0, none⟩ = _; go_simp) (fun i hi => by have := hlt i hi; show G i ≠ w.heap.size; omega)
  have HB0 : Hid (Below B w (w.alloc (.cells #[cloV bA bM] 58))) := (Below.refl _ _).alloc hB _
  clear h hlt
  go_enter Tryd.func27, Tryd.ntmps27
  go_wp2_with fail
  refine (ahead1_any B bA bM b cap G C pm K _ w.heap.size 2 0 _ HE0.out (by decide) (by decide) hcap).mono ?_
  rintro e w1 ⟨rfl, hE, hBB⟩
  have HE1 := hid hE
  have HB1 := hid (HB0.out.trans hBB)
  clear hE hBB
  go_wp2_with fail
  refine (ahead1_any B bA bM b cap G C pm K _ w.heap.size 1 3 _ HE1.out (by decide) (by decide) hcap).mono ?_
  rintro e w2 ⟨rfl, hE, hBB⟩
  have HE2 := hid hE
  have HB2 := hid (HB1.out.trans hBB)
  clear hE hBB
  go_wp2_with fail
  refine bodyPost_end (results_none rfl _ _ _) rfl ?_
  exact ⟨rfl, HE2.out.rest, HB2.out⟩
set_option maxHeartbeats 8000000 in
theorem tell11_any (B bA bM b cap : Nat) (G C pm : Nat → Nat) (K : List (Addr × Value)) (Z : Nat → Nat → Int) (w : World) (h : Env w B bA bM b cap G C pm K Z) (hB : B ≤ w.heap.size) (hcap : 4 ≤ cap) :
    Calls Tryd.prog 27 #[.int .i64 11, cloV bA bM] w fun e w' => e = .returned (.tuple #[]) ∧ Env w' B bA bM b cap G C pm K (am pm (am pm (am pm Z 2 0 (-1)) 1 3 0) 3 1 0) ∧ Below B w w' := by
  have hlt : ∀ i, i < 4 → G i < w.heap.size := fun i hi => (h.own.row i hi (by decide)).lt
  have HE0 : Hid (Env (w.alloc (.cells #[cloV bA bM] 58)) B bA bM b cap G C pm ((⟨w.heap.size, 0, none⟩, cloV bA bM) :: K) Z) := (h.below (below_new _ _)).add (⟨w.heap.size, 0, none⟩, cloV bA bM) (by show (w.alloc (.cells #[cloV bA bM] 58)).cell? ⟨w.heap.size, 0, none⟩ = _; go_simp) (fun i hi => by have := hlt i hi; show G i ≠ w.heap.size; omega)
  have HB0 : Hid (Below B w (w.alloc (.cells #[cloV bA bM] 58))) := (Below.refl _ _).alloc hB _
  clear h hlt
  go_enter Tryd.func27, Tryd.ntmps27
  go_wp2_with fail
  refine (ahead1_any B bA bM b cap G C pm K _ w.heap.size 2 0 _ HE0.out (by decide) (by decide) hcap).mono ?_
  rintro e w1 ⟨rfl, hE, hBB⟩
  have HE1 := hid hE
  have HB1 := hid (HB0.out.trans hBB)
  clear hE hBB
  go_wp2_with fail
  refine (alike1_any B bA bM b cap G C pm K _ w.heap.size 1 3 _ HE1.out (by decide) (by decide) hcap).mono ?_
  rintro e w2 ⟨rfl, hE, hBB⟩
  have HE2 := hid hE
  have HB2 := hid (HB1.out.trans hBB)
  clear hE hBB
  go_wp2_with fail
  refine bodyPost_end (results_none rfl _ _ _) rfl ?_
  exact ⟨rfl, HE2.out.rest, HB2.out⟩
set_option maxHeartbeats 8000000 in
theorem tell13_any (B bA bM b cap : Nat) (G C pm : Nat → Nat) (K : List (Addr × Value)) (Z : Nat → Nat → Int) (w : World) (h : Env w B bA bM b cap G C pm K Z) (hB : B ≤ w.heap.size) (hcap : 4 ≤ cap) :
    Calls Tryd.prog 27 #[.int .i64 13, cloV bA bM] w fun e w' => e = .returned (.tuple #[]) ∧ Env w' B bA bM b cap G C pm K (am pm (am pm (am pm (am pm Z 0 2 0) 2 0 0) 1 3 0) 3 1 0) ∧ Below B w w' := by
  have hlt : ∀ i, i < 4 → G i < w.heap.size := fun i hi => (h.own.row i hi (by decide)).lt
  have HE0 : Hid (Env (w.alloc (.cells #[cloV bA bM] 58)) B bA bM b cap G C pm ((⟨w.heap.size, 0, none⟩, cloV bA bM) :: K) Z) := (h.below (below_new _ _)).add (⟨w.heap.size, 0, none⟩, cloV bA bM) (by show (w.alloc (.cells #[cloV bA bM] 58)).cell? ⟨w.heap.size, 0, none⟩ = _; go_simp) (fun i hi => by have := hlt i hi; show G i ≠ w.heap.size; omega)
  have HB0 : Hid (Below B w (w.alloc (.cells #[cloV bA bM] 58))) := (Below.refl _ _).alloc hB _
  clear h hlt
  go_enter Tryd.func27, Tryd.ntmps27
  go_wp2_with fail
  refine (alike1_any B bA bM b cap G C pm K _ w.heap.size 0 2 _ HE0.out (by decide) (by decide) hcap).mono ?_
  rintro e w1 ⟨rfl, hE, hBB⟩
  have HE1 := hid hE
  have HB1 := hid (HB0.out.trans hBB)
  clear hE hBB
  go_wp2_with fail
  refine (alike1_any B bA bM b cap G C pm K _ w.heap.size 1 3 _ HE1.out (by decide) (by decide) hcap).mono ?_
  rintro e w2 ⟨rfl, hE, hBB⟩
  have HE2 := hid hE
  have HB2 := hid (HB1.out.trans hBB)
  clear hE hBB
  go_wp2_with fail
  refine bodyPost_end (results_none rfl _ _ _) rfl ?_
  exact ⟨rfl, HE2.out.rest, HB2.out⟩
end Go.Proofs.YtgikaheojcpmpabDoor
