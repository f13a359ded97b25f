/-
  An option of a not, in raw numbers. Appends to rows of a rule of raw numbers. The loops of a code.
-/
import Derived.Deep.CutRange
import Derived.Deep.CutBlock
import Derived.Deep.LoopGhost
import Derived.Test.YtnlmknbhppdliaaGreatDoorRe
import Derived.Test.YtnlmknbhppdliaaGreatDoorXo
import Derived.Test.YtnlmknbhppdliaaGreatDoorRf
set_option maxHeartbeats 64000000
namespace Go.Proofs.YtnlmknbhppdliaaGreatDoor.Chk
open Go.ChangeShapes Go.WideShapes Go.ChangeAt Go.RowKit Go.Maps
set_option linter.unusedVariables false
set_option linter.unusedSimpArgs false
set_option maxRecDepth 20000
theorem bRl_at : ∀ q, q < 8 → (#[Value.int .i64 1, .int .i64 9, .int .i64 3, .int .i64 5, .int .i64 8, .int .i64 13, .int .i64 8, .int .i64 2] : Array Value)[q]? = some (.int .i64 (([1, 9, 3, 5, 8, 13, 8, 2] : List Int).getD q 0)) := fun q hq => by
  rcases (by omega : q = 0 ∨ q = 1 ∨ q = 2 ∨ q = 3 ∨ q = 4 ∨ q = 5 ∨ q = 6 ∨ q = 7) with rfl | rfl | rfl | rfl | rfl | rfl | rfl | rfl <;> rfl
theorem bRl_in : ∀ q, q < 8 → 1 ≤ ([1, 9, 3, 5, 8, 13, 8, 2] : List Int).getD q 0 ∧ ([1, 9, 3, 5, 8, 13, 8, 2] : List Int).getD q 0 ≤ 13 := by decide
theorem zGX (c : Cst) (hc : c.ok) (w : World) : Calls Tryz.prog 39 #[.agg #[.int .i64 c.ty, .int .i64 c.co, .int .i64 c.n, .int .i64 c.wi, .int .i64 c.si]] w fun e w' => e = .returned (.agg #[.int .i64 (bnO c).r, .int .i64 (bnO c).lo, .int .i64 (bnO c).hi]) ∧ Below w.heap.size w w' := by
 have hq8 := zAQ c.wi (m := 8) (by decide)
 obtain ⟨q, hq⟩ : ∃ q : Nat, pkd c.wi 8 = (q : Int) := ⟨(pkd c.wi 8).toNat, by omega⟩
 have hql : q < 8 := by omega
 have hx0 : bRl c.wi = ([1, 9, 3, 5, 8, 13, 8, 2] : List Int).getD q 0 := by unfold bRl; rw [hq, Int.toNat_natCast]
 have hxb := bRl_in q hql
 have hxa := bRl_at q hql
 obtain ⟨x5, hx5⟩ : ∃ x, ([1, 9, 3, 5, 8, 13, 8, 2] : List Int).getD q 0 = x := ⟨_, rfl⟩
 rw [hx5] at hx0 hxb hxa
 have HX5 := hid hxa
 obtain ⟨rr, hrr⟩ : ∃ x, x5 - 1 = x := ⟨_, rfl⟩
 have HPW := hid (fun W => zAF c.wi 8 W hc.wi.1 hc.wi.2 (by decide) (by decide))
 rw [hq] at HPW
 have HOP := hid (fun W => zC8 rr c.si c.co W (by omega) (by omega) hc.si.1 hc.si.2 hc.co.1 hc.co.2)
 have hlo := zG4 rr c.si
 have hlo0 := zC5 c.si
 unfold bnO
 rw [hx0, hrr]
 simp only
 obtain ⟨r0, hr0⟩ : ∃ x, opRl rr = x := ⟨_, rfl⟩
 obtain ⟨lo, hl0⟩ : ∃ x, opLo rr c.si = x := ⟨_, rfl⟩
 obtain ⟨hi, hh0⟩ : ∃ x, opHi c.si c.co = x := ⟨_, rfl⟩
 rw [hr0, hl0, hh0] at HOP
 rw [hl0] at hlo
 rw [hr0, hl0, hh0]
 obtain ⟨hf, hhf⟩ : ∃ x, (if hi < 0 then lo + 5 else hi) = x := ⟨_, rfl⟩
 have HHF := hid hhf
 rw [hhf]
 have m1 : IntKind.i64.wrap (x5 - 1) = rr := by rw [← hrr]; go_unwrap
 have HM5 : Hid (RowKit.wrap64 (lo + 5) = lo + 5) := by show _ = _; unfold RowKit.wrap64; omega
 have hB0 := bxs2 w [.int .i64 c.ty, .int .i64 c.co, .int .i64 c.n, .int .i64 c.wi, .int .i64 c.si] [.int .i64 0, .int .i64 0, .int .i64 0] 117 63
 have HB := hid (hp2 hB0)
 have HBD := hid ((hp2 hB0).next (Below.drew (Below.refl _ _)))
 have i1 : (0 : Int) ≤ (q : Int) := by omega
 have i2 : (q : Int) < 8 := by omega
 clear hq8 hq hx0 hxb hxa hx5 hrr hlo hlo0 hr0 hl0 hh0 hB0 hc hhf
 go_enter Tryz.func39, Tryz.ntmps39
 go_wp2_with fail
 refine zAV (by kernel_rfl) (fun i w9 v => ([(fun w9 v => ∃ (b : Nat), v = .slice (some ⟨b, 0, none⟩) 8 8 ∧ w9.heap[b]? = some (.cells #[.int .i64 1, .int .i64 9, .int .i64 3, .int .i64 5, .int .i64 8, .int .i64 13, .int .i64 8, .int .i64 2] 3 (0, 0))), (fun w9 v => v = .pointer (some ⟨w.heap.size, 3, none⟩)), (fun w9 v => v = .int .i64 c.wi), (fun w9 v => v = .int .i64 (q : Nat)), (fun w9 v => ∃ (b : Nat), v = .pointer (some ⟨b, q, none⟩) ∧ w9.heap[b]? = some (.cells #[.int .i64 1, .int .i64 9, .int .i64 3, .int .i64 5, .int .i64 8, .int .i64 13, .int .i64 8, .int .i64 2] 3 (0, 0))), (fun w9 v => v = .int .i64 x5), (fun w9 v => v = .int .i64 rr), (fun w9 v => v = .pointer (some ⟨w.heap.size, 4, none⟩)), (fun w9 v => v = .int .i64 c.si), (fun w9 v => v = .pointer (some ⟨w.heap.size, 1, none⟩)), (fun w9 v => v = .int .i64 c.co), (fun w9 v => v = .agg #[.int .i64 r0, .int .i64 lo, .int .i64 hi]), (fun w9 v => ∃ (b : Nat), v = .pointer (some ⟨b, 0, none⟩) ∧ w9.heap[b]? = some (.cells #[.int .i64 0, .int .i64 0, .int .i64 0] 63 (0, 0)) ∧ w.heap.size + 1 < b)] : List (World → Value → Prop)).getD i (fun _ _ => True) w9 v) (fun W => Hp w W [(w.heap.size, [.int .i64 c.ty, .int .i64 c.co, .int .i64 c.n, .int .i64 c.wi, .int .i64 c.si], 117), (w.heap.size + 1, [.int .i64 0, .int .i64 0, .int .i64 0], 63)]) 24 13 rfl rfl (by kernel_rfl) (by kernel_rfl) (fun W W' => Below W.heap.size W W') ?hmon (HBD.out) (zAC.cons ?o0 (zAC.cons ?o1 (zAC.cons ?o2 (zAC.cons ?o3 (zAC.cons ?o4 (zAC.cons ?o5 (zAC.cons ?o6 (zAC.cons ?o7 (zAC.cons ?o8 (zAC.cons ?o9 (zAC.cons ?o10 (zAC.cons ?o11 (zAC.cons ?o12 zAC.nil))))))))))))) ?hend
 case hmon =>
  intro q W W' v hb h
  rcases q with _ | _ | _ | _ | _ | _ | _ | _ | _ | _ | _ | _ | _ | q
  . obtain ⟨b, e, h1⟩ := h; exact ⟨b, e, (hb.block _ (zAD h1)).trans h1⟩
  . exact h
  . exact h
  . exact h
  . obtain ⟨b, e, h1⟩ := h; exact ⟨b, e, (hb.block _ (zAD h1)).trans h1⟩
  . exact h
  . exact h
  . exact h
  . exact h
  . exact h
  . exact h
  . exact h
  . obtain ⟨b, e, h1, h2⟩ := h; exact ⟨b, e, (hb.block _ (zAD h1)).trans h1, h2⟩
  . exact h
 case o0 =>
  intro a W hB hd ho
  have hal : Below W.heap.size W (W.alloc (.cells #[.int .i64 1, .int .i64 9, .int .i64 3, .int .i64 5, .int .i64 8, .int .i64 13, .int .i64 8, .int .i64 2] 3)) := (Below.refl _ _).alloc (Nat.le_refl _) _
  refine zBT 67 8 _ rfl #[(0, .int .i64 1), (1, .int .i64 9), (2, .int .i64 3), (3, .int .i64 5), (4, .int .i64 8), (5, .int .i64 13), (6, .int .i64 8), (7, .int .i64 2)] (by simp [ev_c]) (.slice (some ⟨W.heap.size, 0, none⟩) 8 8) (W.alloc (.cells #[.int .i64 1, .int .i64 9, .int .i64 3, .int .i64 5, .int .i64 8, .int .i64 13, .int .i64 8, .int .i64 2] 3)) (by kernel_rfl) ⟨_, rfl, ⟨W.heap.size, rfl, heap_alloc_new _ _⟩, hB.next hal, hal⟩
 case o1 =>
  intro a W hB hd ho
  have e1 : a.eval (.tmp 1) = .pointer (some ⟨w.heap.size, 0, none⟩) := ho 1 (by kernel_rfl)
  exact zAK (.pointer (some ⟨w.heap.size, 3, none⟩)) (by unfold execOp; simp only [ev_c, e1]; go_simp) ⟨_, rfl, rfl, hB, Below.refl _ _⟩
 case o2 =>
  intro a W hB hd ho
  have e5 : a.eval (.tmp 5) = .pointer (some ⟨w.heap.size, 3, none⟩) := hd 1 5 (by kernel_rfl)
  have c9 : W.cell? ⟨w.heap.size, 3, none⟩ = some (.int .i64 c.wi) := hB.c 0 (by simp) 3
  exact zAK (.int .i64 c.wi) (by unfold execOp; simp only [ev_c, e5]; go_simp) ⟨_, rfl, rfl, hB, Below.refl _ _⟩
 case o3 =>
  intro a W hB hd ho
  have e6 : a.eval (.tmp 6) = .int .i64 c.wi := hd 2 6 (by kernel_rfl)
  refine zA0 9 zHA _ _ rfl #[.int .i64 c.wi, .int .i64 8] (by simp [ev_c, e6]) _ (HPW.out W) ?_
  rintro e W' ⟨rfl, rfl⟩
  exact ⟨_, rfl, _, rfl, rfl, hB, Below.refl _ _⟩
 case o4 =>
  intro a W hB hd ho
  obtain ⟨b, e4, h1⟩ : ∃ (b : Nat), a.eval (.tmp 4) = .slice (some ⟨b, 0, none⟩) 8 8 ∧ W.heap[b]? = some (.cells #[.int .i64 1, .int .i64 9, .int .i64 3, .int .i64 5, .int .i64 8, .int .i64 13, .int .i64 8, .int .i64 2] 3 (0, 0)) := hd 0 4 (by kernel_rfl)
  have e7 : a.eval (.tmp 7) = .int .i64 (q : Nat) := hd 3 7 (by kernel_rfl)
  exact zAK (.pointer (some ⟨b, q, none⟩)) (by unfold execOp; simp only [ev_c, e4, e7]; go_simp) ⟨_, rfl, ⟨b, rfl, h1⟩, hB, Below.refl _ _⟩
 case o5 =>
  intro a W hB hd ho
  obtain ⟨b, e8, h1⟩ : ∃ (b : Nat), a.eval (.tmp 8) = .pointer (some ⟨b, q, none⟩) ∧ W.heap[b]? = some (.cells #[.int .i64 1, .int .i64 9, .int .i64 3, .int .i64 5, .int .i64 8, .int .i64 13, .int .i64 8, .int .i64 2] 3 (0, 0)) := hd 4 8 (by kernel_rfl)
  have c9 : W.cell? ⟨b, q, none⟩ = some (.int .i64 x5) := by
    rw [zAB h1]
    exact HX5.out
  exact zAK (.int .i64 x5) (by unfold execOp; simp only [ev_c, e8]; go_simp) ⟨_, rfl, rfl, hB, Below.refl _ _⟩
 case o6 =>
  intro a W hB hd ho
  have e9 : a.eval (.tmp 9) = .int .i64 x5 := hd 5 9 (by kernel_rfl)
  exact zAK (.int .i64 rr) (by unfold execOp; simp only [ev_c, e9]; go_simp) ⟨_, rfl, rfl, hB, Below.refl _ _⟩
 case o7 =>
  intro a W hB hd ho
  have e1 : a.eval (.tmp 1) = .pointer (some ⟨w.heap.size, 0, none⟩) := ho 1 (by kernel_rfl)
  exact zAK (.pointer (some ⟨w.heap.size, 4, none⟩)) (by unfold execOp; simp only [ev_c, e1]; go_simp) ⟨_, rfl, rfl, hB, Below.refl _ _⟩
 case o8 =>
  intro a W hB hd ho
  have e11 : a.eval (.tmp 11) = .pointer (some ⟨w.heap.size, 4, none⟩) := hd 7 11 (by kernel_rfl)
  have c9 : W.cell? ⟨w.heap.size, 4, none⟩ = some (.int .i64 c.si) := hB.c 0 (by simp) 4
  exact zAK (.int .i64 c.si) (by unfold execOp; simp only [ev_c, e11]; go_simp) ⟨_, rfl, rfl, hB, Below.refl _ _⟩
 case o9 =>
  intro a W hB hd ho
  have e1 : a.eval (.tmp 1) = .pointer (some ⟨w.heap.size, 0, none⟩) := ho 1 (by kernel_rfl)
  exact zAK (.pointer (some ⟨w.heap.size, 1, none⟩)) (by unfold execOp; simp only [ev_c, e1]; go_simp) ⟨_, rfl, rfl, hB, Below.refl _ _⟩
 case o10 =>
  intro a W hB hd ho
  have e13 : a.eval (.tmp 13) = .pointer (some ⟨w.heap.size, 1, none⟩) := hd 9 13 (by kernel_rfl)
  have c9 : W.cell? ⟨w.heap.size, 1, none⟩ = some (.int .i64 c.co) := hB.c 0 (by simp) 1
  exact zAK (.int .i64 c.co) (by unfold execOp; simp only [ev_c, e13]; go_simp) ⟨_, rfl, rfl, hB, Below.refl _ _⟩
 case o11 =>
  intro a W hB hd ho
  have e10 : a.eval (.tmp 10) = .int .i64 rr := hd 6 10 (by kernel_rfl)
  have e12 : a.eval (.tmp 12) = .int .i64 c.si := hd 8 12 (by kernel_rfl)
  have e14 : a.eval (.tmp 14) = .int .i64 c.co := hd 10 14 (by kernel_rfl)
  refine zA0 40 zGM _ _ rfl #[.int .i64 rr, .int .i64 c.si, .int .i64 c.co] (by simp [e10, e12, e14]) _ (HOP.out W) ?_
  rintro e W' ⟨rfl, hb⟩
  exact ⟨_, rfl, _, rfl, rfl, hB.next hb, hb⟩
 case o12 =>
  intro a W hB hd ho
  have hal : Below W.heap.size W (W.alloc (.cells #[.int .i64 0, .int .i64 0, .int .i64 0] 63)) := (Below.refl _ _).alloc (Nat.le_refl _) _
  exact zFQ 63 rfl [.int .i64 0, .int .i64 0, .int .i64 0] (by kernel_rfl) ⟨_, rfl, ⟨W.heap.size, rfl, heap_alloc_new _ _, by have := zAD (hB.b 1 (by simp)); simpa using this⟩, hB.next hal, hal⟩
 case hend =>
  intro vs W o ho hB hT
  have e1 : vs 1 = .pointer (some ⟨w.heap.size, 3, none⟩) := hT 1 (by decide)
  have e2 : vs 2 = .int .i64 c.wi := hT 2 (by decide)
  have e3 : vs 3 = .int .i64 (q : Nat) := hT 3 (by decide)
  have e5 : vs 5 = .int .i64 x5 := hT 5 (by decide)
  have e6 : vs 6 = .int .i64 rr := hT 6 (by decide)
  have e7 : vs 7 = .pointer (some ⟨w.heap.size, 4, none⟩) := hT 7 (by decide)
  have e8 : vs 8 = .int .i64 c.si := hT 8 (by decide)
  have e9 : vs 9 = .pointer (some ⟨w.heap.size, 1, none⟩) := hT 9 (by decide)
  have e10 : vs 10 = .int .i64 c.co := hT 10 (by decide)
  have e11 : vs 11 = .agg #[.int .i64 r0, .int .i64 lo, .int .i64 hi] := hT 11 (by decide)
  obtain ⟨b, e12, h1, h2⟩ : ∃ (b : Nat), vs 12 = .pointer (some ⟨b, 0, none⟩) ∧ W.heap[b]? = some (.cells #[.int .i64 0, .int .i64 0, .int .i64 0] 63 (0, 0)) ∧ w.heap.size + 1 < b := hT 12 (by decide)
  cases (show some _ = some o from ho)
  simp only [List.toList_toArray, List.take_succ_cons, List.take_zero, fill, if_true, Act.put, List.setIfInBounds_toArray, List.set_cons_zero, List.set_cons_succ, e1, e2, e3, e5, e6, e7, e8, e9, e10, e11, e12]
  refine op_st 63 _ _ rfl b 0 [.int .i64 0, .int .i64 0, .int .i64 0] 63 (.agg #[.int .i64 r0, .int .i64 lo, .int .i64 hi]) [.int .i64 r0, .int .i64 lo, .int .i64 hi] (by rfl) (by rfl) (by rfl) h1 (by simp) (by kernel_rfl) (by rfl) ?_
  intro w5 hblk hfr
  have HP5 : Hid (Hp w w5 [(w.heap.size, [.int .i64 c.ty, .int .i64 c.co, .int .i64 c.n, .int .i64 c.wi, .int .i64 c.si], 117), (w.heap.size + 1, [.int .i64 0, .int .i64 0, .int .i64 0], 63)]) := hB.fr hfr (by omega) (fun i hi => by rcases i with _ | _ | i; (show w.heap.size ≠ b; omega); (show w.heap.size + 1 ≠ b; omega); exact absurd hi (by simp))
  have HW5 : Hid (w5.heap[b]? = some (.cells #[.int .i64 r0, .int .i64 lo, .int .i64 hi] 63 (0, 0))) := hblk
  have HBB := hid h2
  generalize vs 0 = v0
  generalize vs 4 = v4
  clear hblk hfr h1 h2 hB hT e1 e2 e3 e5 e6 e7 e8 e9 e10 e11 e12 vs
  have f1 : w5.cell? ⟨b, 1, none⟩ = some (.int .i64 lo) := zAB HW5.out 1
  have f2 : w5.cell? ⟨b, 2, none⟩ = some (.int .i64 hi) := zAB HW5.out 2
  by_cases hh : hi < 0
  . have g1 : decide (hi < 0) = true := by simpa using hh
    have HF : Hid (hf = lo + 5) := by show _ = _; rw [← HHF.out, if_pos hh]
    clear hh
    go_wp2_with (first
     | ((with_reducible show wpList _ _ _ (Oper.mk _ (.store 3 _ _) _ _ _ _ :: _) _ _); refine zAT 3 b 2 [.int .i64 r0, .int .i64 lo, .int .i64 hi] 63 (.int .i64 (RowKit.wrap64 (lo + 5))) [.int .i64 (RowKit.wrap64 (lo + 5))] HW5.out ?_; intro w6 hblk hfr; rw [HM5.out] at hblk; have HW6 : Hid (w6.heap[b]? = some (.cells #[.int .i64 r0, .int .i64 lo, .int .i64 (lo + 5)] 63 (0, 0))) := hblk; have HP6 : Hid (Hp w w6 [(w.heap.size, [.int .i64 c.ty, .int .i64 c.co, .int .i64 c.n, .int .i64 c.wi, .int .i64 c.si], 117), (w.heap.size + 1, [.int .i64 0, .int .i64 0, .int .i64 0], 63)]) := HP5.out.fr hfr (by have := HBB.out; omega) (fun i hi => by have := HBB.out; rcases i with _ | _ | i; (show w.heap.size ≠ b; omega); (show w.heap.size + 1 ≠ b; omega); exact absurd hi (by simp)); clear hblk hfr)
     | ((with_reducible show wpList _ _ _ (Oper.mk _ (.load 63 _) _ _ _ _ :: _) _ _); refine wpList_load_mid (by rfl) 63 _ (by rfl) b 0 (by rfl) [.int .i64 r0, .int .i64 lo, .int .i64 (lo + 5)] _ (zAJ HW6.out) Tryz.underlying63 rfl (by kernel_rfl) ?_)
     | ((with_reducible show wpList _ _ _ (Oper.mk _ (.store 63 _ _) _ _ _ _ :: _) _ _); refine zAY 63 (w.heap.size + 1) 0 [.int .i64 0, .int .i64 0, .int .i64 0] 63 [.int .i64 r0, .int .i64 lo, .int .i64 (lo + 5)] (HP6.out.b 1 (by simp)) ?_; intro w7 hblk hfr; have HW7 := hid hblk; have HBE : Hid (Below w.heap.size w w7) := zAG HP6.out.bel hfr (by omega); clear hblk hfr))
    exact zAR (w.heap.size + 1) [.int .i64 r0, .int .i64 lo, .int .i64 (lo + 5)] 63 _ HW7.out rfl rfl (by rfl) Tryz.underlying63 rfl (by kernel_rfl) ⟨by rw [HF.out], HBE.out⟩
  . have g1 : decide (hi < 0) = false := by simpa using hh
    have HF : Hid (hf = hi) := by show _ = _; rw [← HHF.out, if_neg hh]
    clear hh
    go_wp2_with (first
     | ((with_reducible show wpList _ _ _ (Oper.mk _ (.load 63 _) _ _ _ _ :: _) _ _); refine wpList_load_mid (by rfl) 63 _ (by rfl) b 0 (by rfl) [.int .i64 r0, .int .i64 lo, .int .i64 hi] _ (zAJ HW5.out) Tryz.underlying63 rfl (by kernel_rfl) ?_)
     | ((with_reducible show wpList _ _ _ (Oper.mk _ (.store 63 _ _) _ _ _ _ :: _) _ _); refine zAY 63 (w.heap.size + 1) 0 [.int .i64 0, .int .i64 0, .int .i64 0] 63 [.int .i64 r0, .int .i64 lo, .int .i64 hi] (HP5.out.b 1 (by simp)) ?_; intro w7 hblk hfr; have HW7 := hid hblk; have HBE : Hid (Below w.heap.size w w7) := zAG HP5.out.bel hfr (by omega); clear hblk hfr))
    exact zAR (w.heap.size + 1) [.int .i64 r0, .int .i64 lo, .int .i64 hi] 63 _ HW7.out rfl rfl (by rfl) Tryz.underlying63 rfl (by kernel_rfl) ⟨by rw [HF.out], HBE.out⟩
theorem zB1 {P : Program} {ops : Array Oper} {rest : List Oper} {o : Oper} {a : Act} {W : World} {Q : Exit → Act → World → Prop} (hgd : o.guard = none) (s x : Operand) (T : TypeId) (ho : o.op = .call { callee := .builtin .append, args := #[s, x], argTypes := #[T, T] }) (n : Nat) (τ : Nat → Prop) (e z bytes : Nat) (i0 : TypeInfo) (zv : Value) (hu : P.underlying T = some (.slice e)) (hi : P.info? e = some i0) (hz : i0.zero = some zv) (hz1 : i0.size = z) (hz2 : i0.bytes = bytes) (hzc : zv.cells.size = z) (hz0 : 0 < z) (hby : bytes ≤ 1000)
  (v : Value) (l : List (List Dat)) (hs : a.eval s = v) (hr : RwT W n τ e z v l) (hbase : n ≤ W.heap.size) (b : Nat) (us : List Value) (hx : a.eval x = .slice (some ⟨b, 0, none⟩) 1 1) (hb : W.heap[b]? = some (.cells us.toArray e (0, 0))) (hl : us.length = z) (h1 : us.all (·.oneCell') = true) (d : List Dat) (hd : KT W n τ d us) (het : ¬ τ e) (h10 : l.length ≤ 10) (m : Nat) (hm : l.length + 1 = m)
  (h : ∀ p' cap' W', RwT W' n τ e z (.slice p' m cap') (l ++ [d]) → W.grownBy W' v.ownBlock → ((Value.slice p' m cap').ownBlock = v.ownBlock ∨ (Value.slice p' m cap').ownBlock = some W.heap.size) → wpList P ops Q rest (a.put o.dst (.slice p' m cap')) W') : wpList P ops Q (o :: rest) a W :=
 wpList_plain hgd fun K hK => zCI s x T ho n τ e z bytes i0 zv hu hi hz hz1 hz2 hzc hz0 hby v l hs hr hbase b us hx hb hl h1 d hd het h10 m hm (fun p' cap' W' r1 r2 r3 => hK _ _ (h p' cap' W' r1 r2 r3))
abbrev mnC (c : Int) (f a b : ByteArray) (k : Int) (v : Value) (l r : Opd) (w n : Int) : List Value := [.int .i64 c, .string f, .string a, .string b, .int .i64 k, v, .int .i64 l.k, .int .i64 l.vk, .int .i64 l.vi, .string l.vt, .string l.va, .string l.fd, .int .i64 r.k, .int .i64 r.vk, .int .i64 r.vi, .string r.vt, .string r.va, .string r.fd, .int .i64 w, .int .i64 n]
abbrev mnV (c : Int) (f a b : ByteArray) (k : Int) (v : Value) (l r : Opd) (w n : Int) : Value := .agg #[.int .i64 c, .string f, .string a, .string b, .int .i64 k, v, .int .i64 l.k, .int .i64 l.vk, .int .i64 l.vi, .string l.vt, .string l.va, .string l.fd, .int .i64 r.k, .int .i64 r.vk, .int .i64 r.vi, .string r.vt, .string r.va, .string r.fd, .int .i64 w, .int .i64 n]
def mn0 : List Value := mnC 0 (txt []) (txt []) (txt []) 0 (.slice none 0 0) opd0 opd0 0 0
def Stp (p : Prop) : Prop := p
theorem stp {p : Prop} (h : Stp p) : p := h
theorem zFG (x : Int) (h1 : 0 ≤ x) (h2 : x ≤ 1000) : RowKit.wrap64 x = x := by unfold RowKit.wrap64; omega
theorem bond_wr (ll r1 N : Nat) (h1 : ll < N) (h2 : r1 < N) (h3 : N ≤ 3) (h4 : 2 ≤ N) : RowKit.wrap64 ((ll : Int) + 1) = (ll : Int) + 1 ∧ RowKit.wrap64 ((N : Int) - 1) = (N : Int) - 1 ∧ RowKit.wrap64 ((ll : Int) + 1 + (r1 : Int)) = (ll : Int) + 1 + (r1 : Int) ∧ ¬ (N : Int) = 0 := ⟨zFG _ (by omega) (by omega), zFG _ (by omega) (by omega), zFG _ (by omega) (by omega), by omega⟩
theorem zJM (a b : Nat) (h : a < b) : (0 : Int) ≤ (a : Int) ∧ (a : Int) < (b : Int) := ⟨by omega, by omega⟩
theorem nat_wr (m : Nat) (h : m ≤ 900) : RowKit.wrap64 ((m : Int) + 1) = ((m + 1 : Nat) : Int) := by rw [zFG _ (by omega) (by omega)]; omega
theorem wp_bsB {P : Program} {ops : Array Oper} {rest : List Oper} {o : Oper} {a : Act} {w : World} {Q : Exit → Act → World → Prop} (hgd : o.guard = none) (t : TypeId) (n : Nat) (parts : Array (Nat × Operand)) (ho : o.op = .buildSlice t n parts) (vals : Array (Nat × Value)) (hp : (parts.map fun x => (x.1, a.eval x.2)) = vals) (cs : List Value) (U : TypeId) (hv : ∀ w, (Instr.buildSlice t n vals).run P w = .ok (.slice (some ⟨w.heap.size, 0, none⟩) n n) (w.alloc (.cells cs.toArray U)))
  (h : ∀ b w', w'.heap[b]? = some (.cells cs.toArray U (0, 0)) → w.heap.size ≤ b → Below w.heap.size w w' → wpList P ops Q rest (a.put o.dst (.slice (some ⟨b, 0, none⟩) n n)) w') : wpList P ops Q (o :: rest) a w := by
 refine wpList_plain hgd fun K hK => ?_
 unfold Oper.wp execOp
 simp only [ho, Sem.run_bind, hp, hv, Result.andThen_ok, Sem.run_pure]
 exact hK _ _ (h _ _ (heap_alloc_new _ _) (Nat.le_refl _) ((Below.refl _ _).alloc (Nat.le_refl _) _))
theorem pos_of (q : Int) (h : 0 ≤ q) (h0 : q ≠ 0) : decide (0 < q) = true := decide_eq_true (by omega)
theorem infS : (Tryz.prog.info? 9).map (fun i => (i.zero, i.size, i.bytes)) = some (some (.string ByteArray.empty), 1, 16) := by kernel_rfl
theorem inP : ∃ i0, Tryz.prog.info? 48 = some i0 ∧ i0.zero = some zP ∧ i0.size = 18 ∧ i0.bytes = 224 := info_parts zJN
theorem inM : ∃ i0, Tryz.prog.info? 78 = some i0 ∧ i0.zero = some zM ∧ i0.size = 20 ∧ i0.bytes = 248 := info_parts infoM
theorem inK : ∃ i0, Tryz.prog.info? 66 = some i0 ∧ i0.zero = some (.agg #[.string ByteArray.empty, .slice none 0 0, .string ByteArray.empty]) ∧ i0.size = 3 ∧ i0.bytes = 56 := info_parts infoK
theorem inQ : ∃ i0, Tryz.prog.info? 63 = some i0 ∧ i0.zero = some (.agg #[.int .i64 0, .int .i64 0, .int .i64 0]) ∧ i0.size = 3 ∧ i0.bytes = 24 := info_parts infoQ
theorem inS : ∃ i0, Tryz.prog.info? 9 = some i0 ∧ i0.zero = some (.string ByteArray.empty) ∧ i0.size = 1 ∧ i0.bytes = 16 := info_parts infS
theorem cst0_ok : cst0.ok := ⟨by unfold zBE cst0; decide, by unfold zBE cst0; decide, by unfold zBE cst0; decide, by unfold zBE cst0; decide, by unfold zBE cst0; decide⟩
theorem zGP {l : List Cst} (h : ∀ c, c ∈ l → c.ok) (k : Nat) : (l.getD k cst0).ok := by
  by_cases c : k < l.length
  . exact h _ (zC3 c)
  . rw [List.getD_eq_getElem?_getD, List.getElem?_eq_none (by omega)]; exact cst0_ok
theorem rdCs {w : World} {c : Cst} {vs : List Value} (h : RdL w (zBC c) vs) : vs = [.int .i64 c.ty, .int .i64 c.co, .int .i64 c.n, .int .i64 c.wi, .int .i64 c.si] := by
  obtain ⟨v0, r0, rfl, h0, h⟩ := RdL.one h
  obtain ⟨v1, r1, rfl, h1, h⟩ := RdL.one h
  obtain ⟨v2, r2, rfl, h2, h⟩ := RdL.one h
  obtain ⟨v3, r3, rfl, h3, h⟩ := RdL.one h
  obtain ⟨v4, r4, rfl, h4, h⟩ := RdL.one h
  rw [zAN h0, zAN h1, zAN h2, zAN h3, zAN h4, RdL.none h]
theorem rdBd {w : World} {c : Bd6} {vs : List Value} (h : RdL w (zDG c) vs) : vs = [.int .i64 c.l, .int .i64 c.r, .int .i64 c.rl, .int .i64 c.lo, .int .i64 c.hi, .int .i64 c.ot] := by
  obtain ⟨v0, r0, rfl, h0, h⟩ := RdL.one h
  obtain ⟨v1, r1, rfl, h1, h⟩ := RdL.one h
  obtain ⟨v2, r2, rfl, h2, h⟩ := RdL.one h
  obtain ⟨v3, r3, rfl, h3, h⟩ := RdL.one h
  obtain ⟨v4, r4, rfl, h4, h⟩ := RdL.one h
  obtain ⟨v5, r5, rfl, h5, h⟩ := RdL.one h
  rw [zAN h0, zAN h1, zAN h2, zAN h3, zAN h4, zAN h5, RdL.none h]
theorem cs_at {w : World} {p : Option Addr} {l : List Cst} (h : At zBC 5 w p l) {k : Nat} (hk : k < l.length) : ∃ g off, p = some ⟨g, off, none⟩ ∧ ∀ W, Below w.heap.size w W → W.rangeAt g (off + k * 5) [.int .i64 (l.getD k cst0).ty, .int .i64 (l.getD k cst0).co, .int .i64 (l.getD k cst0).n, .int .i64 (l.getD k cst0).wi, .int .i64 (l.getD k cst0).si] := by
  obtain ⟨g, off, e, hr⟩ := h (by omega)
  refine ⟨g, off, e, fun W hW => ?_⟩
  obtain ⟨us, h1, h2⟩ := hr W hW k hk
  have h3 := rdCs h2
  subst h3
  have : l.getD k cst0 = l[k] := by rw [List.getD_eq_getElem?_getD, List.getElem?_eq_getElem hk]; rfl
  rw [this]
  exact h1
theorem bd_at {w : World} {p : Option Addr} {l : List Bd6} (h : At zDG 6 w p l) {k : Nat} (hk : k < l.length) : ∃ g off, p = some ⟨g, off, none⟩ ∧ ∀ W, Below w.heap.size w W → W.rangeAt g (off + k * 6) [.int .i64 (l.getD k bd0).l, .int .i64 (l.getD k bd0).r, .int .i64 (l.getD k bd0).rl, .int .i64 (l.getD k bd0).lo, .int .i64 (l.getD k bd0).hi, .int .i64 (l.getD k bd0).ot] := by
  obtain ⟨g, off, e, hr⟩ := h (by omega)
  refine ⟨g, off, e, fun W hW => ?_⟩
  obtain ⟨us, h1, h2⟩ := hr W hW k hk
  have h3 := rdBd h2
  subst h3
  have : l.getD k bd0 = l[k] := by rw [List.getD_eq_getElem?_getD, List.getElem?_eq_getElem hk]; rfl
  rw [this]
  exact h1
theorem zJO {W : World} {n b : Nat} {l r : ByteArray} {o : Op3} (hb : n ≤ b) (h : W.heap[b]? = some (.cells #[.int .i64 o.r, .int .i64 o.lo, .int .i64 o.hi] 63 (0, 0))) : KT W n isQ (encK ⟨l, [o], r⟩) [.string l, .slice (some ⟨b, 0, none⟩) 1 1, .string r] := fun W' hW =>
  .cons (.lit _) (.cons (zB4 (l := [o].map encQ) (cs := [.int .i64 o.r, .int .i64 o.lo, .int .i64 o.hi]) ((hW b _ hb rfl ⟨_, h⟩).trans h) (by simp) (by simp [maxLen]) (zAX [.int .i64 o.r, .int .i64 o.lo, .int .i64 o.hi])) (.cons (.lit _) (RdL.nil _)))
theorem kt_link2 {W : World} {n : Nat} {τ : Nat → Prop} {l r : ByteArray} {v : Value} {o q : Op3} (h : RwT W n τ 63 3 v [encQ o, encQ q]) : KT W n isQ (encK ⟨l, [o, q], r⟩) [.string l, v, .string r] := by
 obtain ⟨xs, h1, h2⟩ := h
 have hx : xs = [.int .i64 o.r, .int .i64 o.lo, .int .i64 o.hi, .int .i64 q.r, .int .i64 q.lo, .int .i64 q.hi] := by
  obtain ⟨us, rs, e, a, b⟩ := RdL.split (ds := encQ o) (es := encQ q ++ []) h2.rd
  obtain ⟨us2, rs2, e2, a2, b2⟩ := RdL.split (ds := encQ q) (es := []) b
  rw [e, e2, rdQ a, rdQ a2, RdL.none b2]
  rfl
 subst hx
 intro W' hW
 have h3 := zDW (w' := W') h1 fun i hi => hW i _ (zHH h1 hi).2 rfl (zHH h1 hi).1
 exact .cons (.lit _) (.cons (rd_own h3 (zAX [.int .i64 o.r, .int .i64 o.lo, .int .i64 o.hi, .int .i64 q.r, .int .i64 q.lo, .int .i64 q.hi])) (.cons (.lit _) (RdL.nil _)))
theorem bd0_ok : bd0.ok := ⟨by unfold zBE bd0; decide, by unfold zBE bd0; decide, by unfold zBE bd0; decide, by unfold zBE bd0; decide, by unfold zBE bd0; decide, by unfold zBE bd0; decide⟩
theorem ok_getB {l : List Bd6} (h : ∀ c, c ∈ l → c.ok) (k : Nat) : (l.getD k bd0).ok := by
  by_cases c : k < l.length
  . exact h _ (zC3 c)
  . rw [List.getD_eq_getElem?_getD, List.getElem?_eq_none (by omega)]; exact bd0_ok
theorem zGF {W : World} {n b e z : Nat} {τ : Nat → Prop} {d : List Dat} {us : List Value} (hb : n ≤ b) (h : W.heap[b]? = some (.cells us.toArray e (0, 0))) (hz : us.length = z) (hd : KT W n τ d us) : RwT W n τ e z (.slice (some ⟨b, 0, none⟩) 1 1) [d] :=
  ⟨us, ⟨by simpa using hz, .inr ⟨b, 1, us.toArray, rfl, hb, h, Nat.le_refl _, by decide, by simpa using hz, by rw [← hz]; simp⟩⟩, by simpa using hd⟩
theorem nm_at {w : World} {n : Nat} {τ : Nat → Prop} {v : Value} {l : List ByteArray} (h : RwT w n τ 9 1 v (l.map encS)) {q : Nat} (hq : q < l.length) : ∃ g off cap, v = .slice (some ⟨g, off, none⟩) l.length cap ∧ ∀ W, Below w.heap.size w W → W.cell? ⟨g, off + q, none⟩ = some (.string (l.getD q (txt []))) := by
  obtain ⟨p, cap, e, _, hat⟩ := zAL lenS h.rd
  obtain ⟨g, off, rfl, hr⟩ := hat (by omega)
  refine ⟨g, off, cap, e, fun W hW => ?_⟩
  obtain ⟨us, h1, h2⟩ := hr W hW q hq
  have h3 := rdS h2
  subst h3
  have := h1 0 _ rfl
  rw [List.getD_eq_getElem?_getD, List.getElem?_eq_getElem hq]
  simpa using this
theorem nm_all {w : World} {n : Nat} {τ : Nat → Prop} {v : Value} {l : List ByteArray} (h : RwT w n τ 9 1 v (l.map encS)) (h0 : 0 < l.length) : ∃ g off cap, v = .slice (some ⟨g, off, none⟩) l.length cap ∧ ∀ q, q < l.length → ∀ W, Below w.heap.size w W → W.cell? ⟨g, off + q, none⟩ = some (.string (l.getD q (txt []))) := by
  obtain ⟨p, cap, e, _, hat⟩ := zAL lenS h.rd
  obtain ⟨g, off, rfl, hr⟩ := hat h0
  refine ⟨g, off, cap, e, fun q hq W hW => ?_⟩
  obtain ⟨us, h1, h2⟩ := hr W hW q hq
  have h3 := rdS h2
  subst h3
  have := h1 0 _ rfl
  rw [List.getD_eq_getElem?_getD, List.getElem?_eq_getElem hq]
  simpa using this
theorem pwW_mod (c : Cst) : (pkd c.wi 4).tmod 3 = pwW c := by
  have := zAQ c.wi (m := 4) (by decide)
  unfold pwW
  rcases (by omega : pkd c.wi 4 = 0 ∨ pkd c.wi 4 = 1 ∨ pkd c.wi 4 = 2 ∨ pkd c.wi 4 = 3) with h | h | h | h <;> rw [h] <;> rfl
abbrev isR (t : Nat) : Prop := t ≠ 56 ∧ t ≠ 28
structure Fin (w0 w : World) (r : Rl) (wv tv mv kv ev : Value) : Prop where
  bel : Below w0.heap.size w0 w
  zb : w.heap[w0.heap.size + 1]? = some (.cells (rlC (txt []) (.slice none 0 0) (.slice none 0 0) (.slice none 0 0) (.slice none 0 0) (txt []) (.slice none 0 0)).toArray 56 (0, 0))
  ub : w.heap[w0.heap.size + 2]? = some (.cells (rlC r.n wv tv mv kv r.e.ty ev).toArray 56 (0, 0))
  r1 : RwT w w0.heap.size isC 48 18 wv (r.w.map encP)
  r2 : RwT w w0.heap.size isC 48 18 tv (r.t.map encP)
  r3 : RwT w w0.heap.size isC 78 20 mv (r.m.map encM)
  r4 : RwT w w0.heap.size isQ 66 3 kv (r.k.map encK)
  r5 : RwT w w0.heap.size isC 44 6 ev (r.e.v.map encO)
section
variable {w0 w w6 : World} {pc : List Value} {r : Rl} {kn al : List ByteArray} {wv tv mv kv nv av ev : Value}
theorem Ru.fin (h : Ru w0 w pc r kn al wv tv mv kv nv av) (e : Em) (he : e = ⟨txt [], []⟩) : Fin w0 w { r with e := e } wv tv mv kv (.slice none 0 0) := by
  subst he
  exact ⟨h.bel, h.zb, h.ub, h.r1, h.r2, h.r3, h.r4, RwT.nil _ _ _ _ _⟩
theorem Ru.emit (h : Ru w0 w pc r kn al wv tv mv kv nv av) {b : Nat} {o : Opd} {ety : ByteArray} (hf : Fr (fun i => i = w0.heap.size + 2) w w6) (hu : w6.heap[w0.heap.size + 2]? = some (.cells (rlC r.n wv tv mv kv ety (.slice (some ⟨b, 0, none⟩) 1 1)).toArray 56 (0, 0))) (hb : w.heap[b]? = some (.cells (opC o).toArray 44 (0, 0))) (hbn : w0.heap.size ≤ b) : Fin w0 w6 { r with e := ⟨ety, [o]⟩ } wv tv mv kv (.slice (some ⟨b, 0, none⟩) 1 1) := by
  have hb6 : w6.heap[b]? = some (.cells (opC o).toArray 44 (0, 0)) := (hf.block b (zAD hb) (fun c => TB.ne ⟨_, hb⟩ h.tu (by decide) c)).trans hb
  refine ⟨zAG h.bel hf (by omega), (hf.block _ (zAD h.zb) (by show w0.heap.size + 1 ≠ w0.heap.size + 2; omega)).trans h.zb, hu, h.r1.set hf h.tu (by decide) (by decide), h.r2.set hf h.tu (by decide) (by decide), h.r3.set hf h.tu (by decide) (by decide), h.r4.set hf h.tu (by decide) (by decide), zGF hbn hb6 rfl (KT.lits _ _ _ (opC o))⟩
theorem Fin.val {b : Nat} {o o' : Opd} {ety : ByteArray} (h : Fin w0 w { r with e := ⟨ety, [o]⟩ } wv tv mv kv (.slice (some ⟨b, 0, none⟩) 1 1)) (hf : Fr (fun i => i = b) w w6) (hb : w6.heap[b]? = some (.cells (opC o').toArray 44 (0, 0))) : Fin w0 w6 { r with e := ⟨ety, [o']⟩ } wv tv mv kv (.slice (some ⟨b, 0, none⟩) 1 1) := by
  have ht := h.r5.tb (i := b) rfl
  have n1 : w0.heap.size + 1 ≠ b := fun c => TB.ne ⟨_, h.zb⟩ ht.1 (by decide) c
  have n2 : w0.heap.size + 2 ≠ b := fun c => TB.ne ⟨_, h.ub⟩ ht.1 (by decide) c
  refine ⟨zAG h.bel hf ht.2, (hf.block _ (zAD h.zb) n1).trans h.zb, (hf.block _ (zAD h.ub) n2).trans h.ub, h.r1.set hf ht.1 (by decide) (by decide), h.r2.set hf ht.1 (by decide) (by decide), h.r3.set hf ht.1 (by decide) (by decide), h.r4.set hf ht.1 (by decide) (by decide), zGF ht.2 hb rfl (KT.lits _ _ _ (opC o'))⟩
theorem RwT.rdN {n e z : Nat} {τ : Nat → Prop} {v : Value} {l : List (List Dat)} (h : RwT w n τ e z v l) (he : isR e) (ht : ∀ t, τ t → isR t) (W : World) (hW : ∀ i t, n ≤ i → isR t → TB w t i → W.heap[i]? = w.heap[i]?) : Rd W (.row e z l) v :=
  h.rdW W (fun i hi => hW i e (h.tb hi).2 he (h.tb hi).1) (fun i t hi hq hb => hW i t hi (ht t hq) hb)
theorem Fin.kt (h : Fin w0 w r wv tv mv kv ev) : KT w w0.heap.size isR (encR r) (rlC r.n wv tv mv kv r.e.ty ev) := fun W hW =>
  .cons (.lit _) (.cons (h.r1.rdN (by decide) (fun t c => by rw [c]; decide) W hW) (.cons (h.r2.rdN (by decide) (fun t c => by rw [c]; decide) W hW) (.cons (h.r3.rdN (by decide) (fun t c => by rw [c]; decide) W hW) (.cons (h.r4.rdN (by decide) (fun t c => by rw [c]; decide) W hW) (.cons (.lit _) (.cons (h.r5.rdN (by decide) (fun t c => by rw [c]; decide) W hW) (RdL.nil _)))))))
end
def lps : Code → List Code
  | .loop c => [.loop c]
  | .seq a b => lps a ++ lps b
  | .block _ c => lps c
  | .scope c => lps c
  | .cond _ a b => lps a ++ lps b
  | _ => []
noncomputable def lpn (f : Func) (k : Nat) : Code := ((f.body.map lps).getD []).getD k .skip
end Go.Proofs.YtnlmknbhppdliaaGreatDoor.Chk
