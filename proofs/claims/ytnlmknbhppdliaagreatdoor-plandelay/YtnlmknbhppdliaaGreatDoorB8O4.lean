/-
  What an option tells.
-/
import Derived.Test.YtnlmknbhppdliaaGreatDoorB8A
set_option maxHeartbeats 64000000
namespace Go.Proofs.YtnlmknbhppdliaaGreatDoor.B8
open Go.ChangeShapes Go.WideShapes Go.ChangeAt Go.RowKit Go.Maps
set_option linter.unusedVariables false
set_option linter.unusedSimpArgs false
set_option maxRecDepth 20000
def tellZ (v : Nat) (pm : Nat → Nat) (Z : Nat → Nat → Int) : Nat → Nat → Int :=
  if v = 1 then (am pm Z 1 2 (-1))
  else if v = 3 then (am pm (am pm (am pm (am pm Z 1 2 0) 2 1 0) 0 2 (-1)) 1 3 (-1))
  else if v = 5 then (am pm (am pm (am pm Z 0 2 (-1)) 2 1 (-1)) 1 3 (-1))
  else if v = 7 then (am pm (am pm (am pm Z 0 2 0) 2 0 0) 1 3 (-1))
  else if v = 9 then (am pm (am pm Z 2 0 (-1)) 1 3 (-1))
  else if v = 11 then (am pm (am pm (am pm Z 2 0 (-1)) 1 3 0) 3 1 0)
  else (am pm (am pm (am pm (am pm Z 0 2 0) 2 0 0) 1 3 0) 3 1 0)
def toldZ (v : Nat) (pm : Nat → Nat) (lo hi : Int) : Nat → Nat → Int :=
  if hi = -1 then am pm (tellZ v pm (am pm (am pm fre 0 1 0) 2 3 0)) (apF v) (apT v) (-lo)
  else am pm (am pm (tellZ v pm (am pm (am pm fre 0 1 0) 2 3 0)) (apF v) (apT v) (-lo)) (apT v) (apF v) hi
theorem zA1 {w w1 w2 : World} {r lo hi : Int} {pm G C : Nat → Nat} {b cap : Nat} (hO : OwnM w1 (w.alloc (.cells #[.int .i64 r, .int .i64 lo, .int .i64 hi] 63)).heap.size b 4 (fun _ => 4) G C fre) (hB1 : Below (w.alloc (.cells #[.int .i64 r, .int .i64 lo, .int .i64 hi] 63)).heap.size (w.alloc (.cells #[.int .i64 r, .int .i64 lo, .int .i64 hi] 63)) w1)
   (hB2 : Below (w1.alloc (.cells #[.slice (some ⟨b, 0, none⟩) 4 cap] 130)).heap.size (w1.alloc (.cells #[.slice (some ⟨b, 0, none⟩) 4 cap] 130)) w2) (hpm : ∀ k, k < 4 → pm k < 4) :
   Env (w2.alloc (.cells #[.int .i64 (pm 0 : Nat), .int .i64 (pm 1 : Nat), .int .i64 (pm 2 : Nat), .int .i64 (pm 3 : Nat)] 239)) w.heap.size w2.heap.size w1.heap.size b cap G C pm [(⟨w.heap.size, 0, none⟩, .int .i64 r), (⟨w.heap.size, 1, none⟩, .int .i64 lo), (⟨w.heap.size, 2, none⟩, .int .i64 hi)] fre ∧
   Below w.heap.size w (w2.alloc (.cells #[.int .i64 (pm 0 : Nat), .int .i64 (pm 1 : Nat), .int .i64 (pm 2 : Nat), .int .i64 (pm 3 : Nat)] 239)) := by
 have s0 : (w.alloc (.cells #[.int .i64 r, .int .i64 lo, .int .i64 hi] 63)).heap.size = w.heap.size + 1 := by simp
 have s1 : w.heap.size + 1 ≤ w1.heap.size := by have := hB1.size; omega
 have s2 : w1.heap.size + 1 ≤ w2.heap.size := by have := hB2.size; simp at this; omega
 have b1 := zAI w1 (.cells #[.slice (some ⟨b, 0, none⟩) 4 cap] 130)
 have b2 := zAI w2 (.cells #[.int .i64 (pm 0 : Nat), .int .i64 (pm 1 : Nat), .int .i64 (pm 2 : Nat), .int .i64 (pm 3 : Nat)] 239)
 have b12 : Below w1.heap.size w1 w2 := b1.trans (hB2.mono (by simp))
 have b13 : Below w1.heap.size w1 (w2.alloc (.cells #[.int .i64 (pm 0 : Nat), .int .i64 (pm 1 : Nat), .int .i64 (pm 2 : Nat), .int .i64 (pm 3 : Nat)] 239)) := b12.trans (b2.mono (by omega))
 have hg : ∀ i, i < 4 → G i < w1.heap.size := fun i hi => (hO.row i hi (by decide)).lt
 have hg2 : ∀ i, i < 4 → w.heap.size + 1 ≤ G i := fun i hi => by have := hO.gB i hi (by decide); omega
 have bx : Below (w.alloc (.cells #[.int .i64 r, .int .i64 lo, .int .i64 hi] 63)).heap.size (w.alloc (.cells #[.int .i64 r, .int .i64 lo, .int .i64 hi] 63)) (w2.alloc (.cells #[.int .i64 (pm 0 : Nat), .int .i64 (pm 1 : Nat), .int .i64 (pm 2 : Nat), .int .i64 (pm 3 : Nat)] 239)) := hB1.trans (b13.mono (by omega))
 refine ⟨⟨(hO.of_below b13).base (by omega), fun k hk => ?_, ?_, hpm, fun i hi => by have := hg i hi; omega, fun i hi => by have := hg i hi; omega, fun x hx => ?_⟩, ?_⟩
 . rcases (by omega : k = 0 ∨ k = 1 ∨ k = 2 ∨ k = 3) with rfl | rfl | rfl | rfl <;> go_simp
 . have h1 : w2.cell? ⟨w1.heap.size, 0, none⟩ = some (.slice (some ⟨b, 0, none⟩) 4 cap) := (hB2.cell (p := ⟨w1.heap.size, 0, none⟩) (by simp)).trans (by go_simp)
   exact (b2.cell (p := ⟨w1.heap.size, 0, none⟩) (by show w1.heap.size < w2.heap.size; omega)).trans h1
 . simp only [List.mem_cons, List.not_mem_nil, or_false] at hx
   rcases hx with rfl | rfl | rfl
   . exact ⟨(bx.cell (p := ⟨w.heap.size, 0, none⟩) (by show w.heap.size < (w.alloc (.cells #[.int .i64 r, .int .i64 lo, .int .i64 hi] 63)).heap.size; omega)).trans (by go_simp), fun i hi => by have := hg2 i hi; show G i ≠ w.heap.size; omega⟩
   . exact ⟨(bx.cell (p := ⟨w.heap.size, 1, none⟩) (by show w.heap.size < (w.alloc (.cells #[.int .i64 r, .int .i64 lo, .int .i64 hi] 63)).heap.size; omega)).trans (by go_simp), fun i hi => by have := hg2 i hi; show G i ≠ w.heap.size; omega⟩
   . exact ⟨(bx.cell (p := ⟨w.heap.size, 2, none⟩) (by show w.heap.size < (w.alloc (.cells #[.int .i64 r, .int .i64 lo, .int .i64 hi] 63)).heap.size; omega)).trans (by go_simp), fun i hi => by have := hg2 i hi; show G i ≠ w.heap.size; omega⟩
 . exact (zAI w (.cells #[.int .i64 r, .int .i64 lo, .int .i64 hi] 63)).trans (bx.mono (by omega))
theorem zD0 (r lo hi : Int) (pm : Nat → Nat) (w : World) (hU : ∀ W, Below w.heap.size w W → Calls Tryz.prog 165 #[.int .i64 r] W fun e w' => e = .returned (.tuple #[.int .i64 1, zBS (pm 0 : Nat) (pm 1 : Nat) (pm 2 : Nat) (pm 3 : Nat)]) ∧ Below W.heap.size W w') (hpm : ∀ k, k < 4 → pm k < 4) (h1 : 0 ≤ lo) (h2 : lo ≤ 1073741824) (hhi : hi = -1) :
  Calls Tryz.prog 148 #[.agg #[.int .i64 r, .int .i64 lo, .int .i64 hi]] w fun e w' => (∃ V, e = .returned V ∧ New w w' V 4 (fun _ => 4) (toldZ 1 pm lo hi)) ∧ Below w.heap.size w w' := by
 have HU := hid hU
 have HPM := hid hpm
 have hneg : IntKind.i64.wrap (-lo) = -lo := by go_unwrap
 have hneg2 : RowKit.wrap64 (-lo) = -lo := by unfold RowKit.wrap64; omega
 have HTZ := hid (show toldZ 1 pm lo hi = (am pm (tellZ 1 pm (am pm (am pm fre 0 1 0) 2 3 0)) 1 2 (-lo)) by unfold toldZ; rw [if_pos hhi]; rfl)
 have HB0 := hid (zAI w (.cells #[.int .i64 r, .int .i64 lo, .int .i64 hi] 63))
 have s0 : (w.alloc (.cells #[.int .i64 r, .int .i64 lo, .int .i64 hi] 63)).heap.size = w.heap.size + 1 := by simp
 have HS0 := hid s0
 have HHI := hid hhi
 clear hU hpm h1 h2 s0 hhi
 go_enter Tryz.func148, Tryz.ntmps148
 go_wp2_with fail
 refine (zAW 4 _ (by decide)).mono ?_
 rintro e w1 ⟨⟨V, rfl, hN⟩, hB1⟩
 obtain ⟨p3, cap, b, G, C, rfl, hp3, hcap, hcm, hO⟩ := hN
 obtain rfl := hp3 (by decide)
 have HO := hid hO
 have HB1 := hid hB1
 have HCP := hid (And.intro hcap hcm)
 have k0 : ∀ o, (w1.alloc o).cell? ⟨w.heap.size, 0, none⟩ = some (.int .i64 r) := fun o => by
  have h1 : w1.cell? ⟨w.heap.size, 0, none⟩ = some (.int .i64 r) := (hB1.cell (p := ⟨w.heap.size, 0, none⟩) (by show w.heap.size < (w.alloc (.cells #[.int .i64 r, .int .i64 lo, .int .i64 hi] 63)).heap.size; rw [HS0.out]; omega)).trans (by go_simp)
  exact ((zAI w1 o).cell (p := ⟨w.heap.size, 0, none⟩) (World.block_lt_of_cell? _ _ h1)).trans h1
 have HW1 := hid (HB0.out.trans (hB1.mono (by rw [HS0.out]; omega)))
 clear hO hB1 hp3 hcap hcm
 go_wp2_with fail
 refine (HU.out _ (HW1.out.alloc HW1.out.size _)).mono ?_
 rintro e w2 ⟨rfl, hB2⟩
 obtain ⟨hE, hBW⟩ := zA1 (pm := pm) (cap := cap) HO.out HB1.out hB2 HPM.out
 have HE0 := hid hE
 have HBW0 := hid hBW
 clear hE hBW hB2 k0
 go_wp2_with fail
 refine (zAF w.heap.size w2.heap.size w1.heap.size b cap G C pm _ _ 0 1 0 _ HE0.out (by decide) (by decide) HCP.out.1).mono ?_
 rintro e x1 ⟨rfl, hE, hBB⟩
 have HE1 := hid hE
 have HBW1 := hid (HBW0.out.trans hBB)
 clear hE hBB
 go_wp2_with fail
 refine (zAF w.heap.size w2.heap.size w1.heap.size b cap G C pm _ _ 2 3 0 _ HE1.out (by decide) (by decide) HCP.out.1).mono ?_
 rintro e x2 ⟨rfl, hE, hBB⟩
 have HE2 := hid hE
 have HBW2 := hid (HBW1.out.trans hBB)
 clear hE hBB
 go_wp2_with fail
 refine (zF0 w.heap.size w2.heap.size w1.heap.size b cap G C pm _ _ _ HE2.out HBW2.out.size HCP.out.1).mono ?_
 rintro e x3 ⟨rfl, hE, hBB⟩
 have HE3 := hid hE
 have HBW3 := hid (HBW2.out.trans hBB)
 clear hE hBB
 go_wp2_with fail
 have cl : x3.cell? ⟨w.heap.size, 1, none⟩ = some (.int .i64 lo) := (HE3.out.kp (⟨w.heap.size, 1, none⟩, .int .i64 lo) (by simp)).1
 refine (zAV 1 _ (by decide)).mono ?_
 rintro e x3 ⟨rfl, rfl⟩
 go_wp2_with fail
 refine (zAF w.heap.size w2.heap.size w1.heap.size b cap G C pm _ _ 1 2 (-lo) _ HE3.out (by decide) (by decide) HCP.out.1).mono ?_
 rintro e x4 ⟨rfl, hE, hBB⟩
 have HE4 := hid hE
 have HBW4 := hid (HBW3.out.trans hBB)
 have ch : x4.cell? ⟨w.heap.size, 2, none⟩ = some (.int .i64 hi) := (hE.kp (⟨w.heap.size, 2, none⟩, .int .i64 hi) (by simp)).1
 clear cl
 have dh : (hi != -1) = false := by simpa using HHI.out
 clear hE hBB
 have cm : x4.cell? ⟨w1.heap.size, 0, none⟩ = some (.slice (some ⟨b, 0, none⟩) 4 cap) := HE4.out.mv
 go_wp2_with fail
 go_ret
 rw [HTZ.out]
 exact ⟨⟨_, rfl, _, cap, b, G, C, rfl, fun _ => rfl, HCP.out.1, HCP.out.2, HE4.out.own⟩, HBW4.out⟩
theorem zDS (r lo hi : Int) (pm : Nat → Nat) (w : World) (hU : ∀ W, Below w.heap.size w W → Calls Tryz.prog 165 #[.int .i64 r] W fun e w' => e = .returned (.tuple #[.int .i64 1, zBS (pm 0 : Nat) (pm 1 : Nat) (pm 2 : Nat) (pm 3 : Nat)]) ∧ Below W.heap.size W w') (hpm : ∀ k, k < 4 → pm k < 4) (h1 : 0 ≤ lo) (h2 : lo ≤ 1073741824) (hhi : hi ≠ -1) :
  Calls Tryz.prog 148 #[.agg #[.int .i64 r, .int .i64 lo, .int .i64 hi]] w fun e w' => (∃ V, e = .returned V ∧ New w w' V 4 (fun _ => 4) (toldZ 1 pm lo hi)) ∧ Below w.heap.size w w' := by
 have HU := hid hU
 have HPM := hid hpm
 have hneg : IntKind.i64.wrap (-lo) = -lo := by go_unwrap
 have hneg2 : RowKit.wrap64 (-lo) = -lo := by unfold RowKit.wrap64; omega
 have HTZ := hid (show toldZ 1 pm lo hi = (am pm (am pm (tellZ 1 pm (am pm (am pm fre 0 1 0) 2 3 0)) 1 2 (-lo)) 2 1 hi) by unfold toldZ; rw [if_neg hhi]; rfl)
 have HB0 := hid (zAI w (.cells #[.int .i64 r, .int .i64 lo, .int .i64 hi] 63))
 have s0 : (w.alloc (.cells #[.int .i64 r, .int .i64 lo, .int .i64 hi] 63)).heap.size = w.heap.size + 1 := by simp
 have HS0 := hid s0
 have HHI := hid hhi
 clear hU hpm h1 h2 s0 hhi
 go_enter Tryz.func148, Tryz.ntmps148
 go_wp2_with fail
 refine (zAW 4 _ (by decide)).mono ?_
 rintro e w1 ⟨⟨V, rfl, hN⟩, hB1⟩
 obtain ⟨p3, cap, b, G, C, rfl, hp3, hcap, hcm, hO⟩ := hN
 obtain rfl := hp3 (by decide)
 have HO := hid hO
 have HB1 := hid hB1
 have HCP := hid (And.intro hcap hcm)
 have k0 : ∀ o, (w1.alloc o).cell? ⟨w.heap.size, 0, none⟩ = some (.int .i64 r) := fun o => by
  have h1 : w1.cell? ⟨w.heap.size, 0, none⟩ = some (.int .i64 r) := (hB1.cell (p := ⟨w.heap.size, 0, none⟩) (by show w.heap.size < (w.alloc (.cells #[.int .i64 r, .int .i64 lo, .int .i64 hi] 63)).heap.size; rw [HS0.out]; omega)).trans (by go_simp)
  exact ((zAI w1 o).cell (p := ⟨w.heap.size, 0, none⟩) (World.block_lt_of_cell? _ _ h1)).trans h1
 have HW1 := hid (HB0.out.trans (hB1.mono (by rw [HS0.out]; omega)))
 clear hO hB1 hp3 hcap hcm
 go_wp2_with fail
 refine (HU.out _ (HW1.out.alloc HW1.out.size _)).mono ?_
 rintro e w2 ⟨rfl, hB2⟩
 obtain ⟨hE, hBW⟩ := zA1 (pm := pm) (cap := cap) HO.out HB1.out hB2 HPM.out
 have HE0 := hid hE
 have HBW0 := hid hBW
 clear hE hBW hB2 k0
 go_wp2_with fail
 refine (zAF w.heap.size w2.heap.size w1.heap.size b cap G C pm _ _ 0 1 0 _ HE0.out (by decide) (by decide) HCP.out.1).mono ?_
 rintro e x1 ⟨rfl, hE, hBB⟩
 have HE1 := hid hE
 have HBW1 := hid (HBW0.out.trans hBB)
 clear hE hBB
 go_wp2_with fail
 refine (zAF w.heap.size w2.heap.size w1.heap.size b cap G C pm _ _ 2 3 0 _ HE1.out (by decide) (by decide) HCP.out.1).mono ?_
 rintro e x2 ⟨rfl, hE, hBB⟩
 have HE2 := hid hE
 have HBW2 := hid (HBW1.out.trans hBB)
 clear hE hBB
 go_wp2_with fail
 refine (zF0 w.heap.size w2.heap.size w1.heap.size b cap G C pm _ _ _ HE2.out HBW2.out.size HCP.out.1).mono ?_
 rintro e x3 ⟨rfl, hE, hBB⟩
 have HE3 := hid hE
 have HBW3 := hid (HBW2.out.trans hBB)
 clear hE hBB
 go_wp2_with fail
 have cl : x3.cell? ⟨w.heap.size, 1, none⟩ = some (.int .i64 lo) := (HE3.out.kp (⟨w.heap.size, 1, none⟩, .int .i64 lo) (by simp)).1
 refine (zAV 1 _ (by decide)).mono ?_
 rintro e x3 ⟨rfl, rfl⟩
 go_wp2_with fail
 refine (zAF w.heap.size w2.heap.size w1.heap.size b cap G C pm _ _ 1 2 (-lo) _ HE3.out (by decide) (by decide) HCP.out.1).mono ?_
 rintro e x4 ⟨rfl, hE, hBB⟩
 have HE4 := hid hE
 have HBW4 := hid (HBW3.out.trans hBB)
 have ch : x4.cell? ⟨w.heap.size, 2, none⟩ = some (.int .i64 hi) := (hE.kp (⟨w.heap.size, 2, none⟩, .int .i64 hi) (by simp)).1
 clear cl
 have dh : (hi != -1) = true := by simpa using HHI.out
 clear hE hBB
 go_wp2_with fail
 refine (zAF w.heap.size w2.heap.size w1.heap.size b cap G C pm _ _ 2 1 hi _ HE4.out (by decide) (by decide) HCP.out.1).mono ?_
 rintro e x5 ⟨rfl, hE, hBB⟩
 have HE5 := hid hE
 have HBW5 := hid (HBW4.out.trans hBB)
 clear hE hBB
 have cm : x5.cell? ⟨w1.heap.size, 0, none⟩ = some (.slice (some ⟨b, 0, none⟩) 4 cap) := HE5.out.mv
 go_wp2_with fail
 go_ret
 rw [HTZ.out]
 exact ⟨⟨_, rfl, _, cap, b, G, C, rfl, fun _ => rfl, HCP.out.1, HCP.out.2, HE5.out.own⟩, HBW5.out⟩
theorem zD7 (r lo hi : Int) (pm : Nat → Nat) (w : World) (hU : ∀ W, Below w.heap.size w W → Calls Tryz.prog 165 #[.int .i64 r] W fun e w' => e = .returned (.tuple #[.int .i64 3, zBS (pm 0 : Nat) (pm 1 : Nat) (pm 2 : Nat) (pm 3 : Nat)]) ∧ Below W.heap.size W w') (hpm : ∀ k, k < 4 → pm k < 4) (h1 : 0 ≤ lo) (h2 : lo ≤ 1073741824) (hhi : hi = -1) :
  Calls Tryz.prog 148 #[.agg #[.int .i64 r, .int .i64 lo, .int .i64 hi]] w fun e w' => (∃ V, e = .returned V ∧ New w w' V 4 (fun _ => 4) (toldZ 3 pm lo hi)) ∧ Below w.heap.size w w' := by
 have HU := hid hU
 have HPM := hid hpm
 have hneg : IntKind.i64.wrap (-lo) = -lo := by go_unwrap
 have hneg2 : RowKit.wrap64 (-lo) = -lo := by unfold RowKit.wrap64; omega
 have HTZ := hid (show toldZ 3 pm lo hi = (am pm (tellZ 3 pm (am pm (am pm fre 0 1 0) 2 3 0)) 1 2 (-lo)) by unfold toldZ; rw [if_pos hhi]; rfl)
 have HB0 := hid (zAI w (.cells #[.int .i64 r, .int .i64 lo, .int .i64 hi] 63))
 have s0 : (w.alloc (.cells #[.int .i64 r, .int .i64 lo, .int .i64 hi] 63)).heap.size = w.heap.size + 1 := by simp
 have HS0 := hid s0
 have HHI := hid hhi
 clear hU hpm h1 h2 s0 hhi
 go_enter Tryz.func148, Tryz.ntmps148
 go_wp2_with fail
 refine (zAW 4 _ (by decide)).mono ?_
 rintro e w1 ⟨⟨V, rfl, hN⟩, hB1⟩
 obtain ⟨p3, cap, b, G, C, rfl, hp3, hcap, hcm, hO⟩ := hN
 obtain rfl := hp3 (by decide)
 have HO := hid hO
 have HB1 := hid hB1
 have HCP := hid (And.intro hcap hcm)
 have k0 : ∀ o, (w1.alloc o).cell? ⟨w.heap.size, 0, none⟩ = some (.int .i64 r) := fun o => by
  have h1 : w1.cell? ⟨w.heap.size, 0, none⟩ = some (.int .i64 r) := (hB1.cell (p := ⟨w.heap.size, 0, none⟩) (by show w.heap.size < (w.alloc (.cells #[.int .i64 r, .int .i64 lo, .int .i64 hi] 63)).heap.size; rw [HS0.out]; omega)).trans (by go_simp)
  exact ((zAI w1 o).cell (p := ⟨w.heap.size, 0, none⟩) (World.block_lt_of_cell? _ _ h1)).trans h1
 have HW1 := hid (HB0.out.trans (hB1.mono (by rw [HS0.out]; omega)))
 clear hO hB1 hp3 hcap hcm
 go_wp2_with fail
 refine (HU.out _ (HW1.out.alloc HW1.out.size _)).mono ?_
 rintro e w2 ⟨rfl, hB2⟩
 obtain ⟨hE, hBW⟩ := zA1 (pm := pm) (cap := cap) HO.out HB1.out hB2 HPM.out
 have HE0 := hid hE
 have HBW0 := hid hBW
 clear hE hBW hB2 k0
 go_wp2_with fail
 refine (zAF w.heap.size w2.heap.size w1.heap.size b cap G C pm _ _ 0 1 0 _ HE0.out (by decide) (by decide) HCP.out.1).mono ?_
 rintro e x1 ⟨rfl, hE, hBB⟩
 have HE1 := hid hE
 have HBW1 := hid (HBW0.out.trans hBB)
 clear hE hBB
 go_wp2_with fail
 refine (zAF w.heap.size w2.heap.size w1.heap.size b cap G C pm _ _ 2 3 0 _ HE1.out (by decide) (by decide) HCP.out.1).mono ?_
 rintro e x2 ⟨rfl, hE, hBB⟩
 have HE2 := hid hE
 have HBW2 := hid (HBW1.out.trans hBB)
 clear hE hBB
 go_wp2_with fail
 refine (zFM w.heap.size w2.heap.size w1.heap.size b cap G C pm _ _ _ HE2.out HBW2.out.size HCP.out.1).mono ?_
 rintro e x3 ⟨rfl, hE, hBB⟩
 have HE3 := hid hE
 have HBW3 := hid (HBW2.out.trans hBB)
 clear hE hBB
 go_wp2_with fail
 have cl : x3.cell? ⟨w.heap.size, 1, none⟩ = some (.int .i64 lo) := (HE3.out.kp (⟨w.heap.size, 1, none⟩, .int .i64 lo) (by simp)).1
 refine (zAV 3 _ (by decide)).mono ?_
 rintro e x3 ⟨rfl, rfl⟩
 go_wp2_with fail
 refine (zAF w.heap.size w2.heap.size w1.heap.size b cap G C pm _ _ 1 2 (-lo) _ HE3.out (by decide) (by decide) HCP.out.1).mono ?_
 rintro e x4 ⟨rfl, hE, hBB⟩
 have HE4 := hid hE
 have HBW4 := hid (HBW3.out.trans hBB)
 have ch : x4.cell? ⟨w.heap.size, 2, none⟩ = some (.int .i64 hi) := (hE.kp (⟨w.heap.size, 2, none⟩, .int .i64 hi) (by simp)).1
 clear cl
 have dh : (hi != -1) = false := by simpa using HHI.out
 clear hE hBB
 have cm : x4.cell? ⟨w1.heap.size, 0, none⟩ = some (.slice (some ⟨b, 0, none⟩) 4 cap) := HE4.out.mv
 go_wp2_with fail
 go_ret
 rw [HTZ.out]
 exact ⟨⟨_, rfl, _, cap, b, G, C, rfl, fun _ => rfl, HCP.out.1, HCP.out.2, HE4.out.own⟩, HBW4.out⟩
theorem zD2 (r lo hi : Int) (pm : Nat → Nat) (w : World) (hU : ∀ W, Below w.heap.size w W → Calls Tryz.prog 165 #[.int .i64 r] W fun e w' => e = .returned (.tuple #[.int .i64 3, zBS (pm 0 : Nat) (pm 1 : Nat) (pm 2 : Nat) (pm 3 : Nat)]) ∧ Below W.heap.size W w') (hpm : ∀ k, k < 4 → pm k < 4) (h1 : 0 ≤ lo) (h2 : lo ≤ 1073741824) (hhi : hi ≠ -1) :
  Calls Tryz.prog 148 #[.agg #[.int .i64 r, .int .i64 lo, .int .i64 hi]] w fun e w' => (∃ V, e = .returned V ∧ New w w' V 4 (fun _ => 4) (toldZ 3 pm lo hi)) ∧ Below w.heap.size w w' := by
 have HU := hid hU
 have HPM := hid hpm
 have hneg : IntKind.i64.wrap (-lo) = -lo := by go_unwrap
 have hneg2 : RowKit.wrap64 (-lo) = -lo := by unfold RowKit.wrap64; omega
 have HTZ := hid (show toldZ 3 pm lo hi = (am pm (am pm (tellZ 3 pm (am pm (am pm fre 0 1 0) 2 3 0)) 1 2 (-lo)) 2 1 hi) by unfold toldZ; rw [if_neg hhi]; rfl)
 have HB0 := hid (zAI w (.cells #[.int .i64 r, .int .i64 lo, .int .i64 hi] 63))
 have s0 : (w.alloc (.cells #[.int .i64 r, .int .i64 lo, .int .i64 hi] 63)).heap.size = w.heap.size + 1 := by simp
 have HS0 := hid s0
 have HHI := hid hhi
 clear hU hpm h1 h2 s0 hhi
 go_enter Tryz.func148, Tryz.ntmps148
 go_wp2_with fail
 refine (zAW 4 _ (by decide)).mono ?_
 rintro e w1 ⟨⟨V, rfl, hN⟩, hB1⟩
 obtain ⟨p3, cap, b, G, C, rfl, hp3, hcap, hcm, hO⟩ := hN
 obtain rfl := hp3 (by decide)
 have HO := hid hO
 have HB1 := hid hB1
 have HCP := hid (And.intro hcap hcm)
 have k0 : ∀ o, (w1.alloc o).cell? ⟨w.heap.size, 0, none⟩ = some (.int .i64 r) := fun o => by
  have h1 : w1.cell? ⟨w.heap.size, 0, none⟩ = some (.int .i64 r) := (hB1.cell (p := ⟨w.heap.size, 0, none⟩) (by show w.heap.size < (w.alloc (.cells #[.int .i64 r, .int .i64 lo, .int .i64 hi] 63)).heap.size; rw [HS0.out]; omega)).trans (by go_simp)
  exact ((zAI w1 o).cell (p := ⟨w.heap.size, 0, none⟩) (World.block_lt_of_cell? _ _ h1)).trans h1
 have HW1 := hid (HB0.out.trans (hB1.mono (by rw [HS0.out]; omega)))
 clear hO hB1 hp3 hcap hcm
 go_wp2_with fail
 refine (HU.out _ (HW1.out.alloc HW1.out.size _)).mono ?_
 rintro e w2 ⟨rfl, hB2⟩
 obtain ⟨hE, hBW⟩ := zA1 (pm := pm) (cap := cap) HO.out HB1.out hB2 HPM.out
 have HE0 := hid hE
 have HBW0 := hid hBW
 clear hE hBW hB2 k0
 go_wp2_with fail
 refine (zAF w.heap.size w2.heap.size w1.heap.size b cap G C pm _ _ 0 1 0 _ HE0.out (by decide) (by decide) HCP.out.1).mono ?_
 rintro e x1 ⟨rfl, hE, hBB⟩
 have HE1 := hid hE
 have HBW1 := hid (HBW0.out.trans hBB)
 clear hE hBB
 go_wp2_with fail
 refine (zAF w.heap.size w2.heap.size w1.heap.size b cap G C pm _ _ 2 3 0 _ HE1.out (by decide) (by decide) HCP.out.1).mono ?_
 rintro e x2 ⟨rfl, hE, hBB⟩
 have HE2 := hid hE
 have HBW2 := hid (HBW1.out.trans hBB)
 clear hE hBB
 go_wp2_with fail
 refine (zFM w.heap.size w2.heap.size w1.heap.size b cap G C pm _ _ _ HE2.out HBW2.out.size HCP.out.1).mono ?_
 rintro e x3 ⟨rfl, hE, hBB⟩
 have HE3 := hid hE
 have HBW3 := hid (HBW2.out.trans hBB)
 clear hE hBB
 go_wp2_with fail
 have cl : x3.cell? ⟨w.heap.size, 1, none⟩ = some (.int .i64 lo) := (HE3.out.kp (⟨w.heap.size, 1, none⟩, .int .i64 lo) (by simp)).1
 refine (zAV 3 _ (by decide)).mono ?_
 rintro e x3 ⟨rfl, rfl⟩
 go_wp2_with fail
 refine (zAF w.heap.size w2.heap.size w1.heap.size b cap G C pm _ _ 1 2 (-lo) _ HE3.out (by decide) (by decide) HCP.out.1).mono ?_
 rintro e x4 ⟨rfl, hE, hBB⟩
 have HE4 := hid hE
 have HBW4 := hid (HBW3.out.trans hBB)
 have ch : x4.cell? ⟨w.heap.size, 2, none⟩ = some (.int .i64 hi) := (hE.kp (⟨w.heap.size, 2, none⟩, .int .i64 hi) (by simp)).1
 clear cl
 have dh : (hi != -1) = true := by simpa using HHI.out
 clear hE hBB
 go_wp2_with fail
 refine (zAF w.heap.size w2.heap.size w1.heap.size b cap G C pm _ _ 2 1 hi _ HE4.out (by decide) (by decide) HCP.out.1).mono ?_
 rintro e x5 ⟨rfl, hE, hBB⟩
 have HE5 := hid hE
 have HBW5 := hid (HBW4.out.trans hBB)
 clear hE hBB
 have cm : x5.cell? ⟨w1.heap.size, 0, none⟩ = some (.slice (some ⟨b, 0, none⟩) 4 cap) := HE5.out.mv
 go_wp2_with fail
 go_ret
 rw [HTZ.out]
 exact ⟨⟨_, rfl, _, cap, b, G, C, rfl, fun _ => rfl, HCP.out.1, HCP.out.2, HE5.out.own⟩, HBW5.out⟩
theorem zDV (r lo hi : Int) (pm : Nat → Nat) (w : World) (hU : ∀ W, Below w.heap.size w W → Calls Tryz.prog 165 #[.int .i64 r] W fun e w' => e = .returned (.tuple #[.int .i64 5, zBS (pm 0 : Nat) (pm 1 : Nat) (pm 2 : Nat) (pm 3 : Nat)]) ∧ Below W.heap.size W w') (hpm : ∀ k, k < 4 → pm k < 4) (h1 : 0 ≤ lo) (h2 : lo ≤ 1073741824) (hhi : hi = -1) :
  Calls Tryz.prog 148 #[.agg #[.int .i64 r, .int .i64 lo, .int .i64 hi]] w fun e w' => (∃ V, e = .returned V ∧ New w w' V 4 (fun _ => 4) (toldZ 5 pm lo hi)) ∧ Below w.heap.size w w' := by
 have HU := hid hU
 have HPM := hid hpm
 have hneg : IntKind.i64.wrap (-lo) = -lo := by go_unwrap
 have hneg2 : RowKit.wrap64 (-lo) = -lo := by unfold RowKit.wrap64; omega
 have HTZ := hid (show toldZ 5 pm lo hi = (am pm (tellZ 5 pm (am pm (am pm fre 0 1 0) 2 3 0)) 2 1 (-lo)) by unfold toldZ; rw [if_pos hhi]; rfl)
 have HB0 := hid (zAI w (.cells #[.int .i64 r, .int .i64 lo, .int .i64 hi] 63))
 have s0 : (w.alloc (.cells #[.int .i64 r, .int .i64 lo, .int .i64 hi] 63)).heap.size = w.heap.size + 1 := by simp
 have HS0 := hid s0
 have HHI := hid hhi
 clear hU hpm h1 h2 s0 hhi
 go_enter Tryz.func148, Tryz.ntmps148
 go_wp2_with fail
 refine (zAW 4 _ (by decide)).mono ?_
 rintro e w1 ⟨⟨V, rfl, hN⟩, hB1⟩
 obtain ⟨p3, cap, b, G, C, rfl, hp3, hcap, hcm, hO⟩ := hN
 obtain rfl := hp3 (by decide)
 have HO := hid hO
 have HB1 := hid hB1
 have HCP := hid (And.intro hcap hcm)
 have k0 : ∀ o, (w1.alloc o).cell? ⟨w.heap.size, 0, none⟩ = some (.int .i64 r) := fun o => by
  have h1 : w1.cell? ⟨w.heap.size, 0, none⟩ = some (.int .i64 r) := (hB1.cell (p := ⟨w.heap.size, 0, none⟩) (by show w.heap.size < (w.alloc (.cells #[.int .i64 r, .int .i64 lo, .int .i64 hi] 63)).heap.size; rw [HS0.out]; omega)).trans (by go_simp)
  exact ((zAI w1 o).cell (p := ⟨w.heap.size, 0, none⟩) (World.block_lt_of_cell? _ _ h1)).trans h1
 have HW1 := hid (HB0.out.trans (hB1.mono (by rw [HS0.out]; omega)))
 clear hO hB1 hp3 hcap hcm
 go_wp2_with fail
 refine (HU.out _ (HW1.out.alloc HW1.out.size _)).mono ?_
 rintro e w2 ⟨rfl, hB2⟩
 obtain ⟨hE, hBW⟩ := zA1 (pm := pm) (cap := cap) HO.out HB1.out hB2 HPM.out
 have HE0 := hid hE
 have HBW0 := hid hBW
 clear hE hBW hB2 k0
 go_wp2_with fail
 refine (zAF w.heap.size w2.heap.size w1.heap.size b cap G C pm _ _ 0 1 0 _ HE0.out (by decide) (by decide) HCP.out.1).mono ?_
 rintro e x1 ⟨rfl, hE, hBB⟩
 have HE1 := hid hE
 have HBW1 := hid (HBW0.out.trans hBB)
 clear hE hBB
 go_wp2_with fail
 refine (zAF w.heap.size w2.heap.size w1.heap.size b cap G C pm _ _ 2 3 0 _ HE1.out (by decide) (by decide) HCP.out.1).mono ?_
 rintro e x2 ⟨rfl, hE, hBB⟩
 have HE2 := hid hE
 have HBW2 := hid (HBW1.out.trans hBB)
 clear hE hBB
 go_wp2_with fail
 refine (zFB w.heap.size w2.heap.size w1.heap.size b cap G C pm _ _ _ HE2.out HBW2.out.size HCP.out.1).mono ?_
 rintro e x3 ⟨rfl, hE, hBB⟩
 have HE3 := hid hE
 have HBW3 := hid (HBW2.out.trans hBB)
 clear hE hBB
 go_wp2_with fail
 have cl : x3.cell? ⟨w.heap.size, 1, none⟩ = some (.int .i64 lo) := (HE3.out.kp (⟨w.heap.size, 1, none⟩, .int .i64 lo) (by simp)).1
 refine (zAV 5 _ (by decide)).mono ?_
 rintro e x3 ⟨rfl, rfl⟩
 go_wp2_with fail
 refine (zAF w.heap.size w2.heap.size w1.heap.size b cap G C pm _ _ 2 1 (-lo) _ HE3.out (by decide) (by decide) HCP.out.1).mono ?_
 rintro e x4 ⟨rfl, hE, hBB⟩
 have HE4 := hid hE
 have HBW4 := hid (HBW3.out.trans hBB)
 have ch : x4.cell? ⟨w.heap.size, 2, none⟩ = some (.int .i64 hi) := (hE.kp (⟨w.heap.size, 2, none⟩, .int .i64 hi) (by simp)).1
 clear cl
 have dh : (hi != -1) = false := by simpa using HHI.out
 clear hE hBB
 have cm : x4.cell? ⟨w1.heap.size, 0, none⟩ = some (.slice (some ⟨b, 0, none⟩) 4 cap) := HE4.out.mv
 go_wp2_with fail
 go_ret
 rw [HTZ.out]
 exact ⟨⟨_, rfl, _, cap, b, G, C, rfl, fun _ => rfl, HCP.out.1, HCP.out.2, HE4.out.own⟩, HBW4.out⟩
theorem zD5 (r lo hi : Int) (pm : Nat → Nat) (w : World) (hU : ∀ W, Below w.heap.size w W → Calls Tryz.prog 165 #[.int .i64 r] W fun e w' => e = .returned (.tuple #[.int .i64 5, zBS (pm 0 : Nat) (pm 1 : Nat) (pm 2 : Nat) (pm 3 : Nat)]) ∧ Below W.heap.size W w') (hpm : ∀ k, k < 4 → pm k < 4) (h1 : 0 ≤ lo) (h2 : lo ≤ 1073741824) (hhi : hi ≠ -1) :
  Calls Tryz.prog 148 #[.agg #[.int .i64 r, .int .i64 lo, .int .i64 hi]] w fun e w' => (∃ V, e = .returned V ∧ New w w' V 4 (fun _ => 4) (toldZ 5 pm lo hi)) ∧ Below w.heap.size w w' := by
 have HU := hid hU
 have HPM := hid hpm
 have hneg : IntKind.i64.wrap (-lo) = -lo := by go_unwrap
 have hneg2 : RowKit.wrap64 (-lo) = -lo := by unfold RowKit.wrap64; omega
 have HTZ := hid (show toldZ 5 pm lo hi = (am pm (am pm (tellZ 5 pm (am pm (am pm fre 0 1 0) 2 3 0)) 2 1 (-lo)) 1 2 hi) by unfold toldZ; rw [if_neg hhi]; rfl)
 have HB0 := hid (zAI w (.cells #[.int .i64 r, .int .i64 lo, .int .i64 hi] 63))
 have s0 : (w.alloc (.cells #[.int .i64 r, .int .i64 lo, .int .i64 hi] 63)).heap.size = w.heap.size + 1 := by simp
 have HS0 := hid s0
 have HHI := hid hhi
 clear hU hpm h1 h2 s0 hhi
 go_enter Tryz.func148, Tryz.ntmps148
 go_wp2_with fail
 refine (zAW 4 _ (by decide)).mono ?_
 rintro e w1 ⟨⟨V, rfl, hN⟩, hB1⟩
 obtain ⟨p3, cap, b, G, C, rfl, hp3, hcap, hcm, hO⟩ := hN
 obtain rfl := hp3 (by decide)
 have HO := hid hO
 have HB1 := hid hB1
 have HCP := hid (And.intro hcap hcm)
 have k0 : ∀ o, (w1.alloc o).cell? ⟨w.heap.size, 0, none⟩ = some (.int .i64 r) := fun o => by
  have h1 : w1.cell? ⟨w.heap.size, 0, none⟩ = some (.int .i64 r) := (hB1.cell (p := ⟨w.heap.size, 0, none⟩) (by show w.heap.size < (w.alloc (.cells #[.int .i64 r, .int .i64 lo, .int .i64 hi] 63)).heap.size; rw [HS0.out]; omega)).trans (by go_simp)
  exact ((zAI w1 o).cell (p := ⟨w.heap.size, 0, none⟩) (World.block_lt_of_cell? _ _ h1)).trans h1
 have HW1 := hid (HB0.out.trans (hB1.mono (by rw [HS0.out]; omega)))
 clear hO hB1 hp3 hcap hcm
 go_wp2_with fail
 refine (HU.out _ (HW1.out.alloc HW1.out.size _)).mono ?_
 rintro e w2 ⟨rfl, hB2⟩
 obtain ⟨hE, hBW⟩ := zA1 (pm := pm) (cap := cap) HO.out HB1.out hB2 HPM.out
 have HE0 := hid hE
 have HBW0 := hid hBW
 clear hE hBW hB2 k0
 go_wp2_with fail
 refine (zAF w.heap.size w2.heap.size w1.heap.size b cap G C pm _ _ 0 1 0 _ HE0.out (by decide) (by decide) HCP.out.1).mono ?_
 rintro e x1 ⟨rfl, hE, hBB⟩
 have HE1 := hid hE
 have HBW1 := hid (HBW0.out.trans hBB)
 clear hE hBB
 go_wp2_with fail
 refine (zAF w.heap.size w2.heap.size w1.heap.size b cap G C pm _ _ 2 3 0 _ HE1.out (by decide) (by decide) HCP.out.1).mono ?_
 rintro e x2 ⟨rfl, hE, hBB⟩
 have HE2 := hid hE
 have HBW2 := hid (HBW1.out.trans hBB)
 clear hE hBB
 go_wp2_with fail
 refine (zFB w.heap.size w2.heap.size w1.heap.size b cap G C pm _ _ _ HE2.out HBW2.out.size HCP.out.1).mono ?_
 rintro e x3 ⟨rfl, hE, hBB⟩
 have HE3 := hid hE
 have HBW3 := hid (HBW2.out.trans hBB)
 clear hE hBB
 go_wp2_with fail
 have cl : x3.cell? ⟨w.heap.size, 1, none⟩ = some (.int .i64 lo) := (HE3.out.kp (⟨w.heap.size, 1, none⟩, .int .i64 lo) (by simp)).1
 refine (zAV 5 _ (by decide)).mono ?_
 rintro e x3 ⟨rfl, rfl⟩
 go_wp2_with fail
 refine (zAF w.heap.size w2.heap.size w1.heap.size b cap G C pm _ _ 2 1 (-lo) _ HE3.out (by decide) (by decide) HCP.out.1).mono ?_
 rintro e x4 ⟨rfl, hE, hBB⟩
 have HE4 := hid hE
 have HBW4 := hid (HBW3.out.trans hBB)
 have ch : x4.cell? ⟨w.heap.size, 2, none⟩ = some (.int .i64 hi) := (hE.kp (⟨w.heap.size, 2, none⟩, .int .i64 hi) (by simp)).1
 clear cl
 have dh : (hi != -1) = true := by simpa using HHI.out
 clear hE hBB
 go_wp2_with fail
 refine (zAF w.heap.size w2.heap.size w1.heap.size b cap G C pm _ _ 1 2 hi _ HE4.out (by decide) (by decide) HCP.out.1).mono ?_
 rintro e x5 ⟨rfl, hE, hBB⟩
 have HE5 := hid hE
 have HBW5 := hid (HBW4.out.trans hBB)
 clear hE hBB
 have cm : x5.cell? ⟨w1.heap.size, 0, none⟩ = some (.slice (some ⟨b, 0, none⟩) 4 cap) := HE5.out.mv
 go_wp2_with fail
 go_ret
 rw [HTZ.out]
 exact ⟨⟨_, rfl, _, cap, b, G, C, rfl, fun _ => rfl, HCP.out.1, HCP.out.2, HE5.out.own⟩, HBW5.out⟩
theorem zD6 (r lo hi : Int) (pm : Nat → Nat) (w : World) (hU : ∀ W, Below w.heap.size w W → Calls Tryz.prog 165 #[.int .i64 r] W fun e w' => e = .returned (.tuple #[.int .i64 7, zBS (pm 0 : Nat) (pm 1 : Nat) (pm 2 : Nat) (pm 3 : Nat)]) ∧ Below W.heap.size W w') (hpm : ∀ k, k < 4 → pm k < 4) (h1 : 0 ≤ lo) (h2 : lo ≤ 1073741824) (hhi : hi = -1) :
  Calls Tryz.prog 148 #[.agg #[.int .i64 r, .int .i64 lo, .int .i64 hi]] w fun e w' => (∃ V, e = .returned V ∧ New w w' V 4 (fun _ => 4) (toldZ 7 pm lo hi)) ∧ Below w.heap.size w w' := by
 have HU := hid hU
 have HPM := hid hpm
 have hneg : IntKind.i64.wrap (-lo) = -lo := by go_unwrap
 have hneg2 : RowKit.wrap64 (-lo) = -lo := by unfold RowKit.wrap64; omega
 have HTZ := hid (show toldZ 7 pm lo hi = (am pm (tellZ 7 pm (am pm (am pm fre 0 1 0) 2 3 0)) 1 3 (-lo)) by unfold toldZ; rw [if_pos hhi]; rfl)
 have HB0 := hid (zAI w (.cells #[.int .i64 r, .int .i64 lo, .int .i64 hi] 63))
 have s0 : (w.alloc (.cells #[.int .i64 r, .int .i64 lo, .int .i64 hi] 63)).heap.size = w.heap.size + 1 := by simp
 have HS0 := hid s0
 have HHI := hid hhi
 clear hU hpm h1 h2 s0 hhi
 go_enter Tryz.func148, Tryz.ntmps148
 go_wp2_with fail
 refine (zAW 4 _ (by decide)).mono ?_
 rintro e w1 ⟨⟨V, rfl, hN⟩, hB1⟩
 obtain ⟨p3, cap, b, G, C, rfl, hp3, hcap, hcm, hO⟩ := hN
 obtain rfl := hp3 (by decide)
 have HO := hid hO
 have HB1 := hid hB1
 have HCP := hid (And.intro hcap hcm)
 have k0 : ∀ o, (w1.alloc o).cell? ⟨w.heap.size, 0, none⟩ = some (.int .i64 r) := fun o => by
  have h1 : w1.cell? ⟨w.heap.size, 0, none⟩ = some (.int .i64 r) := (hB1.cell (p := ⟨w.heap.size, 0, none⟩) (by show w.heap.size < (w.alloc (.cells #[.int .i64 r, .int .i64 lo, .int .i64 hi] 63)).heap.size; rw [HS0.out]; omega)).trans (by go_simp)
  exact ((zAI w1 o).cell (p := ⟨w.heap.size, 0, none⟩) (World.block_lt_of_cell? _ _ h1)).trans h1
 have HW1 := hid (HB0.out.trans (hB1.mono (by rw [HS0.out]; omega)))
 clear hO hB1 hp3 hcap hcm
 go_wp2_with fail
 refine (HU.out _ (HW1.out.alloc HW1.out.size _)).mono ?_
 rintro e w2 ⟨rfl, hB2⟩
 obtain ⟨hE, hBW⟩ := zA1 (pm := pm) (cap := cap) HO.out HB1.out hB2 HPM.out
 have HE0 := hid hE
 have HBW0 := hid hBW
 clear hE hBW hB2 k0
 go_wp2_with fail
 refine (zAF w.heap.size w2.heap.size w1.heap.size b cap G C pm _ _ 0 1 0 _ HE0.out (by decide) (by decide) HCP.out.1).mono ?_
 rintro e x1 ⟨rfl, hE, hBB⟩
 have HE1 := hid hE
 have HBW1 := hid (HBW0.out.trans hBB)
 clear hE hBB
 go_wp2_with fail
 refine (zAF w.heap.size w2.heap.size w1.heap.size b cap G C pm _ _ 2 3 0 _ HE1.out (by decide) (by decide) HCP.out.1).mono ?_
 rintro e x2 ⟨rfl, hE, hBB⟩
 have HE2 := hid hE
 have HBW2 := hid (HBW1.out.trans hBB)
 clear hE hBB
 go_wp2_with fail
 refine (zFC w.heap.size w2.heap.size w1.heap.size b cap G C pm _ _ _ HE2.out HBW2.out.size HCP.out.1).mono ?_
 rintro e x3 ⟨rfl, hE, hBB⟩
 have HE3 := hid hE
 have HBW3 := hid (HBW2.out.trans hBB)
 clear hE hBB
 go_wp2_with fail
 have cl : x3.cell? ⟨w.heap.size, 1, none⟩ = some (.int .i64 lo) := (HE3.out.kp (⟨w.heap.size, 1, none⟩, .int .i64 lo) (by simp)).1
 refine (zAV 7 _ (by decide)).mono ?_
 rintro e x3 ⟨rfl, rfl⟩
 go_wp2_with fail
 refine (zAF w.heap.size w2.heap.size w1.heap.size b cap G C pm _ _ 1 3 (-lo) _ HE3.out (by decide) (by decide) HCP.out.1).mono ?_
 rintro e x4 ⟨rfl, hE, hBB⟩
 have HE4 := hid hE
 have HBW4 := hid (HBW3.out.trans hBB)
 have ch : x4.cell? ⟨w.heap.size, 2, none⟩ = some (.int .i64 hi) := (hE.kp (⟨w.heap.size, 2, none⟩, .int .i64 hi) (by simp)).1
 clear cl
 have dh : (hi != -1) = false := by simpa using HHI.out
 clear hE hBB
 have cm : x4.cell? ⟨w1.heap.size, 0, none⟩ = some (.slice (some ⟨b, 0, none⟩) 4 cap) := HE4.out.mv
 go_wp2_with fail
 go_ret
 rw [HTZ.out]
 exact ⟨⟨_, rfl, _, cap, b, G, C, rfl, fun _ => rfl, HCP.out.1, HCP.out.2, HE4.out.own⟩, HBW4.out⟩
theorem zDO (r lo hi : Int) (pm : Nat → Nat) (w : World) (hU : ∀ W, Below w.heap.size w W → Calls Tryz.prog 165 #[.int .i64 r] W fun e w' => e = .returned (.tuple #[.int .i64 7, zBS (pm 0 : Nat) (pm 1 : Nat) (pm 2 : Nat) (pm 3 : Nat)]) ∧ Below W.heap.size W w') (hpm : ∀ k, k < 4 → pm k < 4) (h1 : 0 ≤ lo) (h2 : lo ≤ 1073741824) (hhi : hi ≠ -1) :
  Calls Tryz.prog 148 #[.agg #[.int .i64 r, .int .i64 lo, .int .i64 hi]] w fun e w' => (∃ V, e = .returned V ∧ New w w' V 4 (fun _ => 4) (toldZ 7 pm lo hi)) ∧ Below w.heap.size w w' := by
 have HU := hid hU
 have HPM := hid hpm
 have hneg : IntKind.i64.wrap (-lo) = -lo := by go_unwrap
 have hneg2 : RowKit.wrap64 (-lo) = -lo := by unfold RowKit.wrap64; omega
 have HTZ := hid (show toldZ 7 pm lo hi = (am pm (am pm (tellZ 7 pm (am pm (am pm fre 0 1 0) 2 3 0)) 1 3 (-lo)) 3 1 hi) by unfold toldZ; rw [if_neg hhi]; rfl)
 have HB0 := hid (zAI w (.cells #[.int .i64 r, .int .i64 lo, .int .i64 hi] 63))
 have s0 : (w.alloc (.cells #[.int .i64 r, .int .i64 lo, .int .i64 hi] 63)).heap.size = w.heap.size + 1 := by simp
 have HS0 := hid s0
 have HHI := hid hhi
 clear hU hpm h1 h2 s0 hhi
 go_enter Tryz.func148, Tryz.ntmps148
 go_wp2_with fail
 refine (zAW 4 _ (by decide)).mono ?_
 rintro e w1 ⟨⟨V, rfl, hN⟩, hB1⟩
 obtain ⟨p3, cap, b, G, C, rfl, hp3, hcap, hcm, hO⟩ := hN
 obtain rfl := hp3 (by decide)
 have HO := hid hO
 have HB1 := hid hB1
 have HCP := hid (And.intro hcap hcm)
 have k0 : ∀ o, (w1.alloc o).cell? ⟨w.heap.size, 0, none⟩ = some (.int .i64 r) := fun o => by
  have h1 : w1.cell? ⟨w.heap.size, 0, none⟩ = some (.int .i64 r) := (hB1.cell (p := ⟨w.heap.size, 0, none⟩) (by show w.heap.size < (w.alloc (.cells #[.int .i64 r, .int .i64 lo, .int .i64 hi] 63)).heap.size; rw [HS0.out]; omega)).trans (by go_simp)
  exact ((zAI w1 o).cell (p := ⟨w.heap.size, 0, none⟩) (World.block_lt_of_cell? _ _ h1)).trans h1
 have HW1 := hid (HB0.out.trans (hB1.mono (by rw [HS0.out]; omega)))
 clear hO hB1 hp3 hcap hcm
 go_wp2_with fail
 refine (HU.out _ (HW1.out.alloc HW1.out.size _)).mono ?_
 rintro e w2 ⟨rfl, hB2⟩
 obtain ⟨hE, hBW⟩ := zA1 (pm := pm) (cap := cap) HO.out HB1.out hB2 HPM.out
 have HE0 := hid hE
 have HBW0 := hid hBW
 clear hE hBW hB2 k0
 go_wp2_with fail
 refine (zAF w.heap.size w2.heap.size w1.heap.size b cap G C pm _ _ 0 1 0 _ HE0.out (by decide) (by decide) HCP.out.1).mono ?_
 rintro e x1 ⟨rfl, hE, hBB⟩
 have HE1 := hid hE
 have HBW1 := hid (HBW0.out.trans hBB)
 clear hE hBB
 go_wp2_with fail
 refine (zAF w.heap.size w2.heap.size w1.heap.size b cap G C pm _ _ 2 3 0 _ HE1.out (by decide) (by decide) HCP.out.1).mono ?_
 rintro e x2 ⟨rfl, hE, hBB⟩
 have HE2 := hid hE
 have HBW2 := hid (HBW1.out.trans hBB)
 clear hE hBB
 go_wp2_with fail
 refine (zFC w.heap.size w2.heap.size w1.heap.size b cap G C pm _ _ _ HE2.out HBW2.out.size HCP.out.1).mono ?_
 rintro e x3 ⟨rfl, hE, hBB⟩
 have HE3 := hid hE
 have HBW3 := hid (HBW2.out.trans hBB)
 clear hE hBB
 go_wp2_with fail
 have cl : x3.cell? ⟨w.heap.size, 1, none⟩ = some (.int .i64 lo) := (HE3.out.kp (⟨w.heap.size, 1, none⟩, .int .i64 lo) (by simp)).1
 refine (zAV 7 _ (by decide)).mono ?_
 rintro e x3 ⟨rfl, rfl⟩
 go_wp2_with fail
 refine (zAF w.heap.size w2.heap.size w1.heap.size b cap G C pm _ _ 1 3 (-lo) _ HE3.out (by decide) (by decide) HCP.out.1).mono ?_
 rintro e x4 ⟨rfl, hE, hBB⟩
 have HE4 := hid hE
 have HBW4 := hid (HBW3.out.trans hBB)
 have ch : x4.cell? ⟨w.heap.size, 2, none⟩ = some (.int .i64 hi) := (hE.kp (⟨w.heap.size, 2, none⟩, .int .i64 hi) (by simp)).1
 clear cl
 have dh : (hi != -1) = true := by simpa using HHI.out
 clear hE hBB
 go_wp2_with fail
 refine (zAF w.heap.size w2.heap.size w1.heap.size b cap G C pm _ _ 3 1 hi _ HE4.out (by decide) (by decide) HCP.out.1).mono ?_
 rintro e x5 ⟨rfl, hE, hBB⟩
 have HE5 := hid hE
 have HBW5 := hid (HBW4.out.trans hBB)
 clear hE hBB
 have cm : x5.cell? ⟨w1.heap.size, 0, none⟩ = some (.slice (some ⟨b, 0, none⟩) 4 cap) := HE5.out.mv
 go_wp2_with fail
 go_ret
 rw [HTZ.out]
 exact ⟨⟨_, rfl, _, cap, b, G, C, rfl, fun _ => rfl, HCP.out.1, HCP.out.2, HE5.out.own⟩, HBW5.out⟩
theorem zD4 (r lo hi : Int) (pm : Nat → Nat) (w : World) (hU : ∀ W, Below w.heap.size w W → Calls Tryz.prog 165 #[.int .i64 r] W fun e w' => e = .returned (.tuple #[.int .i64 9, zBS (pm 0 : Nat) (pm 1 : Nat) (pm 2 : Nat) (pm 3 : Nat)]) ∧ Below W.heap.size W w') (hpm : ∀ k, k < 4 → pm k < 4) (h1 : 0 ≤ lo) (h2 : lo ≤ 1073741824) (hhi : hi = -1) :
  Calls Tryz.prog 148 #[.agg #[.int .i64 r, .int .i64 lo, .int .i64 hi]] w fun e w' => (∃ V, e = .returned V ∧ New w w' V 4 (fun _ => 4) (toldZ 9 pm lo hi)) ∧ Below w.heap.size w w' := by
 have HU := hid hU
 have HPM := hid hpm
 have hneg : IntKind.i64.wrap (-lo) = -lo := by go_unwrap
 have hneg2 : RowKit.wrap64 (-lo) = -lo := by unfold RowKit.wrap64; omega
 have HTZ := hid (show toldZ 9 pm lo hi = (am pm (tellZ 9 pm (am pm (am pm fre 0 1 0) 2 3 0)) 2 0 (-lo)) by unfold toldZ; rw [if_pos hhi]; rfl)
 have HB0 := hid (zAI w (.cells #[.int .i64 r, .int .i64 lo, .int .i64 hi] 63))
 have s0 : (w.alloc (.cells #[.int .i64 r, .int .i64 lo, .int .i64 hi] 63)).heap.size = w.heap.size + 1 := by simp
 have HS0 := hid s0
 have HHI := hid hhi
 clear hU hpm h1 h2 s0 hhi
 go_enter Tryz.func148, Tryz.ntmps148
 go_wp2_with fail
 refine (zAW 4 _ (by decide)).mono ?_
 rintro e w1 ⟨⟨V, rfl, hN⟩, hB1⟩
 obtain ⟨p3, cap, b, G, C, rfl, hp3, hcap, hcm, hO⟩ := hN
 obtain rfl := hp3 (by decide)
 have HO := hid hO
 have HB1 := hid hB1
 have HCP := hid (And.intro hcap hcm)
 have k0 : ∀ o, (w1.alloc o).cell? ⟨w.heap.size, 0, none⟩ = some (.int .i64 r) := fun o => by
  have h1 : w1.cell? ⟨w.heap.size, 0, none⟩ = some (.int .i64 r) := (hB1.cell (p := ⟨w.heap.size, 0, none⟩) (by show w.heap.size < (w.alloc (.cells #[.int .i64 r, .int .i64 lo, .int .i64 hi] 63)).heap.size; rw [HS0.out]; omega)).trans (by go_simp)
  exact ((zAI w1 o).cell (p := ⟨w.heap.size, 0, none⟩) (World.block_lt_of_cell? _ _ h1)).trans h1
 have HW1 := hid (HB0.out.trans (hB1.mono (by rw [HS0.out]; omega)))
 clear hO hB1 hp3 hcap hcm
 go_wp2_with fail
 refine (HU.out _ (HW1.out.alloc HW1.out.size _)).mono ?_
 rintro e w2 ⟨rfl, hB2⟩
 obtain ⟨hE, hBW⟩ := zA1 (pm := pm) (cap := cap) HO.out HB1.out hB2 HPM.out
 have HE0 := hid hE
 have HBW0 := hid hBW
 clear hE hBW hB2 k0
 go_wp2_with fail
 refine (zAF w.heap.size w2.heap.size w1.heap.size b cap G C pm _ _ 0 1 0 _ HE0.out (by decide) (by decide) HCP.out.1).mono ?_
 rintro e x1 ⟨rfl, hE, hBB⟩
 have HE1 := hid hE
 have HBW1 := hid (HBW0.out.trans hBB)
 clear hE hBB
 go_wp2_with fail
 refine (zAF w.heap.size w2.heap.size w1.heap.size b cap G C pm _ _ 2 3 0 _ HE1.out (by decide) (by decide) HCP.out.1).mono ?_
 rintro e x2 ⟨rfl, hE, hBB⟩
 have HE2 := hid hE
 have HBW2 := hid (HBW1.out.trans hBB)
 clear hE hBB
 go_wp2_with fail
 refine (zF1 w.heap.size w2.heap.size w1.heap.size b cap G C pm _ _ _ HE2.out HBW2.out.size HCP.out.1).mono ?_
 rintro e x3 ⟨rfl, hE, hBB⟩
 have HE3 := hid hE
 have HBW3 := hid (HBW2.out.trans hBB)
 clear hE hBB
 go_wp2_with fail
 have cl : x3.cell? ⟨w.heap.size, 1, none⟩ = some (.int .i64 lo) := (HE3.out.kp (⟨w.heap.size, 1, none⟩, .int .i64 lo) (by simp)).1
 refine (zAV 9 _ (by decide)).mono ?_
 rintro e x3 ⟨rfl, rfl⟩
 go_wp2_with fail
 refine (zAF w.heap.size w2.heap.size w1.heap.size b cap G C pm _ _ 2 0 (-lo) _ HE3.out (by decide) (by decide) HCP.out.1).mono ?_
 rintro e x4 ⟨rfl, hE, hBB⟩
 have HE4 := hid hE
 have HBW4 := hid (HBW3.out.trans hBB)
 have ch : x4.cell? ⟨w.heap.size, 2, none⟩ = some (.int .i64 hi) := (hE.kp (⟨w.heap.size, 2, none⟩, .int .i64 hi) (by simp)).1
 clear cl
 have dh : (hi != -1) = false := by simpa using HHI.out
 clear hE hBB
 have cm : x4.cell? ⟨w1.heap.size, 0, none⟩ = some (.slice (some ⟨b, 0, none⟩) 4 cap) := HE4.out.mv
 go_wp2_with fail
 go_ret
 rw [HTZ.out]
 exact ⟨⟨_, rfl, _, cap, b, G, C, rfl, fun _ => rfl, HCP.out.1, HCP.out.2, HE4.out.own⟩, HBW4.out⟩
theorem zDR (r lo hi : Int) (pm : Nat → Nat) (w : World) (hU : ∀ W, Below w.heap.size w W → Calls Tryz.prog 165 #[.int .i64 r] W fun e w' => e = .returned (.tuple #[.int .i64 9, zBS (pm 0 : Nat) (pm 1 : Nat) (pm 2 : Nat) (pm 3 : Nat)]) ∧ Below W.heap.size W w') (hpm : ∀ k, k < 4 → pm k < 4) (h1 : 0 ≤ lo) (h2 : lo ≤ 1073741824) (hhi : hi ≠ -1) :
  Calls Tryz.prog 148 #[.agg #[.int .i64 r, .int .i64 lo, .int .i64 hi]] w fun e w' => (∃ V, e = .returned V ∧ New w w' V 4 (fun _ => 4) (toldZ 9 pm lo hi)) ∧ Below w.heap.size w w' := by
 have HU := hid hU
 have HPM := hid hpm
 have hneg : IntKind.i64.wrap (-lo) = -lo := by go_unwrap
 have hneg2 : RowKit.wrap64 (-lo) = -lo := by unfold RowKit.wrap64; omega
 have HTZ := hid (show toldZ 9 pm lo hi = (am pm (am pm (tellZ 9 pm (am pm (am pm fre 0 1 0) 2 3 0)) 2 0 (-lo)) 0 2 hi) by unfold toldZ; rw [if_neg hhi]; rfl)
 have HB0 := hid (zAI w (.cells #[.int .i64 r, .int .i64 lo, .int .i64 hi] 63))
 have s0 : (w.alloc (.cells #[.int .i64 r, .int .i64 lo, .int .i64 hi] 63)).heap.size = w.heap.size + 1 := by simp
 have HS0 := hid s0
 have HHI := hid hhi
 clear hU hpm h1 h2 s0 hhi
 go_enter Tryz.func148, Tryz.ntmps148
 go_wp2_with fail
 refine (zAW 4 _ (by decide)).mono ?_
 rintro e w1 ⟨⟨V, rfl, hN⟩, hB1⟩
 obtain ⟨p3, cap, b, G, C, rfl, hp3, hcap, hcm, hO⟩ := hN
 obtain rfl := hp3 (by decide)
 have HO := hid hO
 have HB1 := hid hB1
 have HCP := hid (And.intro hcap hcm)
 have k0 : ∀ o, (w1.alloc o).cell? ⟨w.heap.size, 0, none⟩ = some (.int .i64 r) := fun o => by
  have h1 : w1.cell? ⟨w.heap.size, 0, none⟩ = some (.int .i64 r) := (hB1.cell (p := ⟨w.heap.size, 0, none⟩) (by show w.heap.size < (w.alloc (.cells #[.int .i64 r, .int .i64 lo, .int .i64 hi] 63)).heap.size; rw [HS0.out]; omega)).trans (by go_simp)
  exact ((zAI w1 o).cell (p := ⟨w.heap.size, 0, none⟩) (World.block_lt_of_cell? _ _ h1)).trans h1
 have HW1 := hid (HB0.out.trans (hB1.mono (by rw [HS0.out]; omega)))
 clear hO hB1 hp3 hcap hcm
 go_wp2_with fail
 refine (HU.out _ (HW1.out.alloc HW1.out.size _)).mono ?_
 rintro e w2 ⟨rfl, hB2⟩
 obtain ⟨hE, hBW⟩ := zA1 (pm := pm) (cap := cap) HO.out HB1.out hB2 HPM.out
 have HE0 := hid hE
 have HBW0 := hid hBW
 clear hE hBW hB2 k0
 go_wp2_with fail
 refine (zAF w.heap.size w2.heap.size w1.heap.size b cap G C pm _ _ 0 1 0 _ HE0.out (by decide) (by decide) HCP.out.1).mono ?_
 rintro e x1 ⟨rfl, hE, hBB⟩
 have HE1 := hid hE
 have HBW1 := hid (HBW0.out.trans hBB)
 clear hE hBB
 go_wp2_with fail
 refine (zAF w.heap.size w2.heap.size w1.heap.size b cap G C pm _ _ 2 3 0 _ HE1.out (by decide) (by decide) HCP.out.1).mono ?_
 rintro e x2 ⟨rfl, hE, hBB⟩
 have HE2 := hid hE
 have HBW2 := hid (HBW1.out.trans hBB)
 clear hE hBB
 go_wp2_with fail
 refine (zF1 w.heap.size w2.heap.size w1.heap.size b cap G C pm _ _ _ HE2.out HBW2.out.size HCP.out.1).mono ?_
 rintro e x3 ⟨rfl, hE, hBB⟩
 have HE3 := hid hE
 have HBW3 := hid (HBW2.out.trans hBB)
 clear hE hBB
 go_wp2_with fail
 have cl : x3.cell? ⟨w.heap.size, 1, none⟩ = some (.int .i64 lo) := (HE3.out.kp (⟨w.heap.size, 1, none⟩, .int .i64 lo) (by simp)).1
 refine (zAV 9 _ (by decide)).mono ?_
 rintro e x3 ⟨rfl, rfl⟩
 go_wp2_with fail
 refine (zAF w.heap.size w2.heap.size w1.heap.size b cap G C pm _ _ 2 0 (-lo) _ HE3.out (by decide) (by decide) HCP.out.1).mono ?_
 rintro e x4 ⟨rfl, hE, hBB⟩
 have HE4 := hid hE
 have HBW4 := hid (HBW3.out.trans hBB)
 have ch : x4.cell? ⟨w.heap.size, 2, none⟩ = some (.int .i64 hi) := (hE.kp (⟨w.heap.size, 2, none⟩, .int .i64 hi) (by simp)).1
 clear cl
 have dh : (hi != -1) = true := by simpa using HHI.out
 clear hE hBB
 go_wp2_with fail
 refine (zAF w.heap.size w2.heap.size w1.heap.size b cap G C pm _ _ 0 2 hi _ HE4.out (by decide) (by decide) HCP.out.1).mono ?_
 rintro e x5 ⟨rfl, hE, hBB⟩
 have HE5 := hid hE
 have HBW5 := hid (HBW4.out.trans hBB)
 clear hE hBB
 have cm : x5.cell? ⟨w1.heap.size, 0, none⟩ = some (.slice (some ⟨b, 0, none⟩) 4 cap) := HE5.out.mv
 go_wp2_with fail
 go_ret
 rw [HTZ.out]
 exact ⟨⟨_, rfl, _, cap, b, G, C, rfl, fun _ => rfl, HCP.out.1, HCP.out.2, HE5.out.own⟩, HBW5.out⟩
theorem zC0 (r lo hi : Int) (pm : Nat → Nat) (w : World) (hU : ∀ W, Below w.heap.size w W → Calls Tryz.prog 165 #[.int .i64 r] W fun e w' => e = .returned (.tuple #[.int .i64 11, zBS (pm 0 : Nat) (pm 1 : Nat) (pm 2 : Nat) (pm 3 : Nat)]) ∧ Below W.heap.size W w') (hpm : ∀ k, k < 4 → pm k < 4) (h1 : 0 ≤ lo) (h2 : lo ≤ 1073741824) (hhi : hi = -1) :
  Calls Tryz.prog 148 #[.agg #[.int .i64 r, .int .i64 lo, .int .i64 hi]] w fun e w' => (∃ V, e = .returned V ∧ New w w' V 4 (fun _ => 4) (toldZ 11 pm lo hi)) ∧ Below w.heap.size w w' := by
 have HU := hid hU
 have HPM := hid hpm
 have hneg : IntKind.i64.wrap (-lo) = -lo := by go_unwrap
 have hneg2 : RowKit.wrap64 (-lo) = -lo := by unfold RowKit.wrap64; omega
 have HTZ := hid (show toldZ 11 pm lo hi = (am pm (tellZ 11 pm (am pm (am pm fre 0 1 0) 2 3 0)) 2 0 (-lo)) by unfold toldZ; rw [if_pos hhi]; rfl)
 have HB0 := hid (zAI w (.cells #[.int .i64 r, .int .i64 lo, .int .i64 hi] 63))
 have s0 : (w.alloc (.cells #[.int .i64 r, .int .i64 lo, .int .i64 hi] 63)).heap.size = w.heap.size + 1 := by simp
 have HS0 := hid s0
 have HHI := hid hhi
 clear hU hpm h1 h2 s0 hhi
 go_enter Tryz.func148, Tryz.ntmps148
 go_wp2_with fail
 refine (zAW 4 _ (by decide)).mono ?_
 rintro e w1 ⟨⟨V, rfl, hN⟩, hB1⟩
 obtain ⟨p3, cap, b, G, C, rfl, hp3, hcap, hcm, hO⟩ := hN
 obtain rfl := hp3 (by decide)
 have HO := hid hO
 have HB1 := hid hB1
 have HCP := hid (And.intro hcap hcm)
 have k0 : ∀ o, (w1.alloc o).cell? ⟨w.heap.size, 0, none⟩ = some (.int .i64 r) := fun o => by
  have h1 : w1.cell? ⟨w.heap.size, 0, none⟩ = some (.int .i64 r) := (hB1.cell (p := ⟨w.heap.size, 0, none⟩) (by show w.heap.size < (w.alloc (.cells #[.int .i64 r, .int .i64 lo, .int .i64 hi] 63)).heap.size; rw [HS0.out]; omega)).trans (by go_simp)
  exact ((zAI w1 o).cell (p := ⟨w.heap.size, 0, none⟩) (World.block_lt_of_cell? _ _ h1)).trans h1
 have HW1 := hid (HB0.out.trans (hB1.mono (by rw [HS0.out]; omega)))
 clear hO hB1 hp3 hcap hcm
 go_wp2_with fail
 refine (HU.out _ (HW1.out.alloc HW1.out.size _)).mono ?_
 rintro e w2 ⟨rfl, hB2⟩
 obtain ⟨hE, hBW⟩ := zA1 (pm := pm) (cap := cap) HO.out HB1.out hB2 HPM.out
 have HE0 := hid hE
 have HBW0 := hid hBW
 clear hE hBW hB2 k0
 go_wp2_with fail
 refine (zAF w.heap.size w2.heap.size w1.heap.size b cap G C pm _ _ 0 1 0 _ HE0.out (by decide) (by decide) HCP.out.1).mono ?_
 rintro e x1 ⟨rfl, hE, hBB⟩
 have HE1 := hid hE
 have HBW1 := hid (HBW0.out.trans hBB)
 clear hE hBB
 go_wp2_with fail
 refine (zAF w.heap.size w2.heap.size w1.heap.size b cap G C pm _ _ 2 3 0 _ HE1.out (by decide) (by decide) HCP.out.1).mono ?_
 rintro e x2 ⟨rfl, hE, hBB⟩
 have HE2 := hid hE
 have HBW2 := hid (HBW1.out.trans hBB)
 clear hE hBB
 go_wp2_with fail
 refine (zDX w.heap.size w2.heap.size w1.heap.size b cap G C pm _ _ _ HE2.out HBW2.out.size HCP.out.1).mono ?_
 rintro e x3 ⟨rfl, hE, hBB⟩
 have HE3 := hid hE
 have HBW3 := hid (HBW2.out.trans hBB)
 clear hE hBB
 go_wp2_with fail
 have cl : x3.cell? ⟨w.heap.size, 1, none⟩ = some (.int .i64 lo) := (HE3.out.kp (⟨w.heap.size, 1, none⟩, .int .i64 lo) (by simp)).1
 refine (zAV 11 _ (by decide)).mono ?_
 rintro e x3 ⟨rfl, rfl⟩
 go_wp2_with fail
 refine (zAF w.heap.size w2.heap.size w1.heap.size b cap G C pm _ _ 2 0 (-lo) _ HE3.out (by decide) (by decide) HCP.out.1).mono ?_
 rintro e x4 ⟨rfl, hE, hBB⟩
 have HE4 := hid hE
 have HBW4 := hid (HBW3.out.trans hBB)
 have ch : x4.cell? ⟨w.heap.size, 2, none⟩ = some (.int .i64 hi) := (hE.kp (⟨w.heap.size, 2, none⟩, .int .i64 hi) (by simp)).1
 clear cl
 have dh : (hi != -1) = false := by simpa using HHI.out
 clear hE hBB
 have cm : x4.cell? ⟨w1.heap.size, 0, none⟩ = some (.slice (some ⟨b, 0, none⟩) 4 cap) := HE4.out.mv
 go_wp2_with fail
 go_ret
 rw [HTZ.out]
 exact ⟨⟨_, rfl, _, cap, b, G, C, rfl, fun _ => rfl, HCP.out.1, HCP.out.2, HE4.out.own⟩, HBW4.out⟩
theorem zC7 (r lo hi : Int) (pm : Nat → Nat) (w : World) (hU : ∀ W, Below w.heap.size w W → Calls Tryz.prog 165 #[.int .i64 r] W fun e w' => e = .returned (.tuple #[.int .i64 11, zBS (pm 0 : Nat) (pm 1 : Nat) (pm 2 : Nat) (pm 3 : Nat)]) ∧ Below W.heap.size W w') (hpm : ∀ k, k < 4 → pm k < 4) (h1 : 0 ≤ lo) (h2 : lo ≤ 1073741824) (hhi : hi ≠ -1) :
  Calls Tryz.prog 148 #[.agg #[.int .i64 r, .int .i64 lo, .int .i64 hi]] w fun e w' => (∃ V, e = .returned V ∧ New w w' V 4 (fun _ => 4) (toldZ 11 pm lo hi)) ∧ Below w.heap.size w w' := by
 have HU := hid hU
 have HPM := hid hpm
 have hneg : IntKind.i64.wrap (-lo) = -lo := by go_unwrap
 have hneg2 : RowKit.wrap64 (-lo) = -lo := by unfold RowKit.wrap64; omega
 have HTZ := hid (show toldZ 11 pm lo hi = (am pm (am pm (tellZ 11 pm (am pm (am pm fre 0 1 0) 2 3 0)) 2 0 (-lo)) 0 2 hi) by unfold toldZ; rw [if_neg hhi]; rfl)
 have HB0 := hid (zAI w (.cells #[.int .i64 r, .int .i64 lo, .int .i64 hi] 63))
 have s0 : (w.alloc (.cells #[.int .i64 r, .int .i64 lo, .int .i64 hi] 63)).heap.size = w.heap.size + 1 := by simp
 have HS0 := hid s0
 have HHI := hid hhi
 clear hU hpm h1 h2 s0 hhi
 go_enter Tryz.func148, Tryz.ntmps148
 go_wp2_with fail
 refine (zAW 4 _ (by decide)).mono ?_
 rintro e w1 ⟨⟨V, rfl, hN⟩, hB1⟩
 obtain ⟨p3, cap, b, G, C, rfl, hp3, hcap, hcm, hO⟩ := hN
 obtain rfl := hp3 (by decide)
 have HO := hid hO
 have HB1 := hid hB1
 have HCP := hid (And.intro hcap hcm)
 have k0 : ∀ o, (w1.alloc o).cell? ⟨w.heap.size, 0, none⟩ = some (.int .i64 r) := fun o => by
  have h1 : w1.cell? ⟨w.heap.size, 0, none⟩ = some (.int .i64 r) := (hB1.cell (p := ⟨w.heap.size, 0, none⟩) (by show w.heap.size < (w.alloc (.cells #[.int .i64 r, .int .i64 lo, .int .i64 hi] 63)).heap.size; rw [HS0.out]; omega)).trans (by go_simp)
  exact ((zAI w1 o).cell (p := ⟨w.heap.size, 0, none⟩) (World.block_lt_of_cell? _ _ h1)).trans h1
 have HW1 := hid (HB0.out.trans (hB1.mono (by rw [HS0.out]; omega)))
 clear hO hB1 hp3 hcap hcm
 go_wp2_with fail
 refine (HU.out _ (HW1.out.alloc HW1.out.size _)).mono ?_
 rintro e w2 ⟨rfl, hB2⟩
 obtain ⟨hE, hBW⟩ := zA1 (pm := pm) (cap := cap) HO.out HB1.out hB2 HPM.out
 have HE0 := hid hE
 have HBW0 := hid hBW
 clear hE hBW hB2 k0
 go_wp2_with fail
 refine (zAF w.heap.size w2.heap.size w1.heap.size b cap G C pm _ _ 0 1 0 _ HE0.out (by decide) (by decide) HCP.out.1).mono ?_
 rintro e x1 ⟨rfl, hE, hBB⟩
 have HE1 := hid hE
 have HBW1 := hid (HBW0.out.trans hBB)
 clear hE hBB
 go_wp2_with fail
 refine (zAF w.heap.size w2.heap.size w1.heap.size b cap G C pm _ _ 2 3 0 _ HE1.out (by decide) (by decide) HCP.out.1).mono ?_
 rintro e x2 ⟨rfl, hE, hBB⟩
 have HE2 := hid hE
 have HBW2 := hid (HBW1.out.trans hBB)
 clear hE hBB
 go_wp2_with fail
 refine (zDX w.heap.size w2.heap.size w1.heap.size b cap G C pm _ _ _ HE2.out HBW2.out.size HCP.out.1).mono ?_
 rintro e x3 ⟨rfl, hE, hBB⟩
 have HE3 := hid hE
 have HBW3 := hid (HBW2.out.trans hBB)
 clear hE hBB
 go_wp2_with fail
 have cl : x3.cell? ⟨w.heap.size, 1, none⟩ = some (.int .i64 lo) := (HE3.out.kp (⟨w.heap.size, 1, none⟩, .int .i64 lo) (by simp)).1
 refine (zAV 11 _ (by decide)).mono ?_
 rintro e x3 ⟨rfl, rfl⟩
 go_wp2_with fail
 refine (zAF w.heap.size w2.heap.size w1.heap.size b cap G C pm _ _ 2 0 (-lo) _ HE3.out (by decide) (by decide) HCP.out.1).mono ?_
 rintro e x4 ⟨rfl, hE, hBB⟩
 have HE4 := hid hE
 have HBW4 := hid (HBW3.out.trans hBB)
 have ch : x4.cell? ⟨w.heap.size, 2, none⟩ = some (.int .i64 hi) := (hE.kp (⟨w.heap.size, 2, none⟩, .int .i64 hi) (by simp)).1
 clear cl
 have dh : (hi != -1) = true := by simpa using HHI.out
 clear hE hBB
 go_wp2_with fail
 refine (zAF w.heap.size w2.heap.size w1.heap.size b cap G C pm _ _ 0 2 hi _ HE4.out (by decide) (by decide) HCP.out.1).mono ?_
 rintro e x5 ⟨rfl, hE, hBB⟩
 have HE5 := hid hE
 have HBW5 := hid (HBW4.out.trans hBB)
 clear hE hBB
 have cm : x5.cell? ⟨w1.heap.size, 0, none⟩ = some (.slice (some ⟨b, 0, none⟩) 4 cap) := HE5.out.mv
 go_wp2_with fail
 go_ret
 rw [HTZ.out]
 exact ⟨⟨_, rfl, _, cap, b, G, C, rfl, fun _ => rfl, HCP.out.1, HCP.out.2, HE5.out.own⟩, HBW5.out⟩
theorem zGJ (r lo hi : Int) (pm : Nat → Nat) (w : World) (hU : ∀ W, Below w.heap.size w W → Calls Tryz.prog 165 #[.int .i64 r] W fun e w' => e = .returned (.tuple #[.int .i64 13, zBS (pm 0 : Nat) (pm 1 : Nat) (pm 2 : Nat) (pm 3 : Nat)]) ∧ Below W.heap.size W w') (hpm : ∀ k, k < 4 → pm k < 4) (h1 : 0 ≤ lo) (h2 : lo ≤ 1073741824) (hhi : hi = -1) :
  Calls Tryz.prog 148 #[.agg #[.int .i64 r, .int .i64 lo, .int .i64 hi]] w fun e w' => (∃ V, e = .returned V ∧ New w w' V 4 (fun _ => 4) (toldZ 13 pm lo hi)) ∧ Below w.heap.size w w' := by
 have HU := hid hU
 have HPM := hid hpm
 have hneg : IntKind.i64.wrap (-lo) = -lo := by go_unwrap
 have hneg2 : RowKit.wrap64 (-lo) = -lo := by unfold RowKit.wrap64; omega
 have HTZ := hid (show toldZ 13 pm lo hi = (am pm (tellZ 13 pm (am pm (am pm fre 0 1 0) 2 3 0)) 2 0 (-lo)) by unfold toldZ; rw [if_pos hhi]; rfl)
 have HB0 := hid (zAI w (.cells #[.int .i64 r, .int .i64 lo, .int .i64 hi] 63))
 have s0 : (w.alloc (.cells #[.int .i64 r, .int .i64 lo, .int .i64 hi] 63)).heap.size = w.heap.size + 1 := by simp
 have HS0 := hid s0
 have HHI := hid hhi
 clear hU hpm h1 h2 s0 hhi
 go_enter Tryz.func148, Tryz.ntmps148
 go_wp2_with fail
 refine (zAW 4 _ (by decide)).mono ?_
 rintro e w1 ⟨⟨V, rfl, hN⟩, hB1⟩
 obtain ⟨p3, cap, b, G, C, rfl, hp3, hcap, hcm, hO⟩ := hN
 obtain rfl := hp3 (by decide)
 have HO := hid hO
 have HB1 := hid hB1
 have HCP := hid (And.intro hcap hcm)
 have k0 : ∀ o, (w1.alloc o).cell? ⟨w.heap.size, 0, none⟩ = some (.int .i64 r) := fun o => by
  have h1 : w1.cell? ⟨w.heap.size, 0, none⟩ = some (.int .i64 r) := (hB1.cell (p := ⟨w.heap.size, 0, none⟩) (by show w.heap.size < (w.alloc (.cells #[.int .i64 r, .int .i64 lo, .int .i64 hi] 63)).heap.size; rw [HS0.out]; omega)).trans (by go_simp)
  exact ((zAI w1 o).cell (p := ⟨w.heap.size, 0, none⟩) (World.block_lt_of_cell? _ _ h1)).trans h1
 have HW1 := hid (HB0.out.trans (hB1.mono (by rw [HS0.out]; omega)))
 clear hO hB1 hp3 hcap hcm
 go_wp2_with fail
 refine (HU.out _ (HW1.out.alloc HW1.out.size _)).mono ?_
 rintro e w2 ⟨rfl, hB2⟩
 obtain ⟨hE, hBW⟩ := zA1 (pm := pm) (cap := cap) HO.out HB1.out hB2 HPM.out
 have HE0 := hid hE
 have HBW0 := hid hBW
 clear hE hBW hB2 k0
 go_wp2_with fail
 refine (zAF w.heap.size w2.heap.size w1.heap.size b cap G C pm _ _ 0 1 0 _ HE0.out (by decide) (by decide) HCP.out.1).mono ?_
 rintro e x1 ⟨rfl, hE, hBB⟩
 have HE1 := hid hE
 have HBW1 := hid (HBW0.out.trans hBB)
 clear hE hBB
 go_wp2_with fail
 refine (zAF w.heap.size w2.heap.size w1.heap.size b cap G C pm _ _ 2 3 0 _ HE1.out (by decide) (by decide) HCP.out.1).mono ?_
 rintro e x2 ⟨rfl, hE, hBB⟩
 have HE2 := hid hE
 have HBW2 := hid (HBW1.out.trans hBB)
 clear hE hBB
 go_wp2_with fail
 refine (zD3 w.heap.size w2.heap.size w1.heap.size b cap G C pm _ _ _ HE2.out HBW2.out.size HCP.out.1).mono ?_
 rintro e x3 ⟨rfl, hE, hBB⟩
 have HE3 := hid hE
 have HBW3 := hid (HBW2.out.trans hBB)
 clear hE hBB
 go_wp2_with fail
 have cl : x3.cell? ⟨w.heap.size, 1, none⟩ = some (.int .i64 lo) := (HE3.out.kp (⟨w.heap.size, 1, none⟩, .int .i64 lo) (by simp)).1
 refine (zAV 13 _ (by decide)).mono ?_
 rintro e x3 ⟨rfl, rfl⟩
 go_wp2_with fail
 refine (zAF w.heap.size w2.heap.size w1.heap.size b cap G C pm _ _ 2 0 (-lo) _ HE3.out (by decide) (by decide) HCP.out.1).mono ?_
 rintro e x4 ⟨rfl, hE, hBB⟩
 have HE4 := hid hE
 have HBW4 := hid (HBW3.out.trans hBB)
 have ch : x4.cell? ⟨w.heap.size, 2, none⟩ = some (.int .i64 hi) := (hE.kp (⟨w.heap.size, 2, none⟩, .int .i64 hi) (by simp)).1
 clear cl
 have dh : (hi != -1) = false := by simpa using HHI.out
 clear hE hBB
 have cm : x4.cell? ⟨w1.heap.size, 0, none⟩ = some (.slice (some ⟨b, 0, none⟩) 4 cap) := HE4.out.mv
 go_wp2_with fail
 go_ret
 rw [HTZ.out]
 exact ⟨⟨_, rfl, _, cap, b, G, C, rfl, fun _ => rfl, HCP.out.1, HCP.out.2, HE4.out.own⟩, HBW4.out⟩
theorem zGS (r lo hi : Int) (pm : Nat → Nat) (w : World) (hU : ∀ W, Below w.heap.size w W → Calls Tryz.prog 165 #[.int .i64 r] W fun e w' => e = .returned (.tuple #[.int .i64 13, zBS (pm 0 : Nat) (pm 1 : Nat) (pm 2 : Nat) (pm 3 : Nat)]) ∧ Below W.heap.size W w') (hpm : ∀ k, k < 4 → pm k < 4) (h1 : 0 ≤ lo) (h2 : lo ≤ 1073741824) (hhi : hi ≠ -1) :
  Calls Tryz.prog 148 #[.agg #[.int .i64 r, .int .i64 lo, .int .i64 hi]] w fun e w' => (∃ V, e = .returned V ∧ New w w' V 4 (fun _ => 4) (toldZ 13 pm lo hi)) ∧ Below w.heap.size w w' := by
 have HU := hid hU
 have HPM := hid hpm
 have hneg : IntKind.i64.wrap (-lo) = -lo := by go_unwrap
 have hneg2 : RowKit.wrap64 (-lo) = -lo := by unfold RowKit.wrap64; omega
 have HTZ := hid (show toldZ 13 pm lo hi = (am pm (am pm (tellZ 13 pm (am pm (am pm fre 0 1 0) 2 3 0)) 2 0 (-lo)) 0 2 hi) by unfold toldZ; rw [if_neg hhi]; rfl)
 have HB0 := hid (zAI w (.cells #[.int .i64 r, .int .i64 lo, .int .i64 hi] 63))
 have s0 : (w.alloc (.cells #[.int .i64 r, .int .i64 lo, .int .i64 hi] 63)).heap.size = w.heap.size + 1 := by simp
 have HS0 := hid s0
 have HHI := hid hhi
 clear hU hpm h1 h2 s0 hhi
 go_enter Tryz.func148, Tryz.ntmps148
 go_wp2_with fail
 refine (zAW 4 _ (by decide)).mono ?_
 rintro e w1 ⟨⟨V, rfl, hN⟩, hB1⟩
 obtain ⟨p3, cap, b, G, C, rfl, hp3, hcap, hcm, hO⟩ := hN
 obtain rfl := hp3 (by decide)
 have HO := hid hO
 have HB1 := hid hB1
 have HCP := hid (And.intro hcap hcm)
 have k0 : ∀ o, (w1.alloc o).cell? ⟨w.heap.size, 0, none⟩ = some (.int .i64 r) := fun o => by
  have h1 : w1.cell? ⟨w.heap.size, 0, none⟩ = some (.int .i64 r) := (hB1.cell (p := ⟨w.heap.size, 0, none⟩) (by show w.heap.size < (w.alloc (.cells #[.int .i64 r, .int .i64 lo, .int .i64 hi] 63)).heap.size; rw [HS0.out]; omega)).trans (by go_simp)
  exact ((zAI w1 o).cell (p := ⟨w.heap.size, 0, none⟩) (World.block_lt_of_cell? _ _ h1)).trans h1
 have HW1 := hid (HB0.out.trans (hB1.mono (by rw [HS0.out]; omega)))
 clear hO hB1 hp3 hcap hcm
 go_wp2_with fail
 refine (HU.out _ (HW1.out.alloc HW1.out.size _)).mono ?_
 rintro e w2 ⟨rfl, hB2⟩
 obtain ⟨hE, hBW⟩ := zA1 (pm := pm) (cap := cap) HO.out HB1.out hB2 HPM.out
 have HE0 := hid hE
 have HBW0 := hid hBW
 clear hE hBW hB2 k0
 go_wp2_with fail
 refine (zAF w.heap.size w2.heap.size w1.heap.size b cap G C pm _ _ 0 1 0 _ HE0.out (by decide) (by decide) HCP.out.1).mono ?_
 rintro e x1 ⟨rfl, hE, hBB⟩
 have HE1 := hid hE
 have HBW1 := hid (HBW0.out.trans hBB)
 clear hE hBB
 go_wp2_with fail
 refine (zAF w.heap.size w2.heap.size w1.heap.size b cap G C pm _ _ 2 3 0 _ HE1.out (by decide) (by decide) HCP.out.1).mono ?_
 rintro e x2 ⟨rfl, hE, hBB⟩
 have HE2 := hid hE
 have HBW2 := hid (HBW1.out.trans hBB)
 clear hE hBB
 go_wp2_with fail
 refine (zD3 w.heap.size w2.heap.size w1.heap.size b cap G C pm _ _ _ HE2.out HBW2.out.size HCP.out.1).mono ?_
 rintro e x3 ⟨rfl, hE, hBB⟩
 have HE3 := hid hE
 have HBW3 := hid (HBW2.out.trans hBB)
 clear hE hBB
 go_wp2_with fail
 have cl : x3.cell? ⟨w.heap.size, 1, none⟩ = some (.int .i64 lo) := (HE3.out.kp (⟨w.heap.size, 1, none⟩, .int .i64 lo) (by simp)).1
 refine (zAV 13 _ (by decide)).mono ?_
 rintro e x3 ⟨rfl, rfl⟩
 go_wp2_with fail
 refine (zAF w.heap.size w2.heap.size w1.heap.size b cap G C pm _ _ 2 0 (-lo) _ HE3.out (by decide) (by decide) HCP.out.1).mono ?_
 rintro e x4 ⟨rfl, hE, hBB⟩
 have HE4 := hid hE
 have HBW4 := hid (HBW3.out.trans hBB)
 have ch : x4.cell? ⟨w.heap.size, 2, none⟩ = some (.int .i64 hi) := (hE.kp (⟨w.heap.size, 2, none⟩, .int .i64 hi) (by simp)).1
 clear cl
 have dh : (hi != -1) = true := by simpa using HHI.out
 clear hE hBB
 go_wp2_with fail
 refine (zAF w.heap.size w2.heap.size w1.heap.size b cap G C pm _ _ 0 2 hi _ HE4.out (by decide) (by decide) HCP.out.1).mono ?_
 rintro e x5 ⟨rfl, hE, hBB⟩
 have HE5 := hid hE
 have HBW5 := hid (HBW4.out.trans hBB)
 clear hE hBB
 have cm : x5.cell? ⟨w1.heap.size, 0, none⟩ = some (.slice (some ⟨b, 0, none⟩) 4 cap) := HE5.out.mv
 go_wp2_with fail
 go_ret
 rw [HTZ.out]
 exact ⟨⟨_, rfl, _, cap, b, G, C, rfl, fun _ => rfl, HCP.out.1, HCP.out.2, HE5.out.own⟩, HBW5.out⟩
end Go.Proofs.YtnlmknbhppdliaaGreatDoor.B8
