/-
  A condition of raw numbers.
-/
import Derived.Test.YtnlmknbhppdliaaGreatDoorKt
import Derived.Test.YtnlmknbhppdliaaGreatDoorDo
import Derived.Test.YtnlmknbhppdliaaGreatDoorV4K
set_option maxHeartbeats 64000000
namespace Go.Proofs.YtnlmknbhppdliaaGreatDoor.Chk
open Go.ChangeShapes Go.WideShapes Go.ChangeAt Go.RowKit Go.Maps
set_option linter.unusedVariables false
set_option linter.unusedSimpArgs false
set_option maxRecDepth 20000
theorem ent_own : ∀ args w, (callFunc 21 args).run Tryz.prog w = .ok (.enter 21 args) w := enters_of Tryz.func21 (by kernel_rfl) rfl
theorem zB8 : ∀ args w, (callFunc 20 args).run Tryz.prog w = .ok (.enter 20 args) w := enters_of Tryz.func20 (by kernel_rfl) rfl
theorem zBS : ∀ args w, (callFunc 19 args).run Tryz.prog w = .ok (.enter 19 args) w := enters_of Tryz.func19 (by kernel_rfl) rfl
theorem zHA : ∀ args w, (callFunc 9 args).run Tryz.prog w = .ok (.enter 9 args) w := enters_of Tryz.func9 (by kernel_rfl) rfl
theorem zIM {w : World} {ds : List Dat} {cs : List Value} (h : RdL w ds cs) : RdL w (ds ++ []) cs := by rw [List.append_nil]; exact h
theorem hp2 {w W : World} {c1 c2 : List Value} {t1 t2 : TypeId} (h : Bxs w W [(c1, t1), (c2, t2)]) : Hp w W [(w.heap.size, c1, t1), (w.heap.size + 1, c2, t2)] := ⟨h.bel, fun i hi => by
  rcases i with _ | _ | i
  . exact h.b 0 (by simp)
  . exact h.b 1 (by simp)
  . exact absurd hi (by simp)⟩
theorem zGU (ty co n wi si : Int) (hn1 : -9223372036854775808 ≤ n) (hn2 : n ≤ 9223372036854775807) (hc1 : -9223372036854775808 ≤ co) (hc2 : co ≤ 9223372036854775807) (at_ : Nat) (h2 : at_ = 2) (w : World) (kp : Option Addr) (kc : Nat) :
  Calls Tryz.prog 66 #[.agg #[.int .i64 ty, .int .i64 co, .int .i64 n, .int .i64 wi, .int .i64 si], .int .i64 (at_ : Nat), .slice kp 0 kc] w fun e w' => ∃ cs : List Value, e = .returned (.agg cs.toArray) ∧ (∀ W, (∀ i, w.heap.size ≤ i → TB w' 46 i → W.heap[i]? = w'.heap[i]?) → RdL W (encC (cn0)) cs) ∧ Below w.heap.size w w' := by
 subst h2
 have hB := bxs2 w [.int .i64 ty, .int .i64 co, .int .i64 n, .int .i64 wi, .int .i64 si] [.int .i64 0, .slice none 0 0, .int .i64 0, .int .i64 0, .int .i64 0, .string ⟨#[]⟩, .string ⟨#[]⟩, .string ⟨#[]⟩, .int .i64 0, .int .i64 0, .int .i64 0, .string ⟨#[]⟩, .string ⟨#[]⟩, .string ⟨#[]⟩] 117 46
 have HZ := hid (hB.b 1 (by simp))
 have HB := hid hB.bel
 clear hB
 go_enter Tryz.func66, Tryz.ntmps66
 go_wp2_with ((with_reducible refine gSq ?_); refine zAY 46 (w.heap.size + 1) 0 _ 46 [.int .i64 0, .slice none 0 0, .int .i64 0, .int .i64 0, .int .i64 0, .string ⟨#[]⟩, .string ⟨#[]⟩, .string ⟨#[]⟩, .int .i64 0, .int .i64 0, .int .i64 0, .string ⟨#[]⟩, .string ⟨#[]⟩, .string ⟨#[]⟩] HZ.out ?_; intro w2 hblk hfr; have HW2 := hid hblk; have HBE : Hid (Below w.heap.size w w2) := zAG HB.out hfr (by omega); clear hblk hfr)
 exact zAR (w.heap.size + 1) [.int .i64 0, .slice none 0 0, .int .i64 0, .int .i64 0, .int .i64 0, .string ⟨#[]⟩, .string ⟨#[]⟩, .string ⟨#[]⟩, .int .i64 0, .int .i64 0, .int .i64 0, .string ⟨#[]⟩, .string ⟨#[]⟩, .string ⟨#[]⟩] 46 _ HW2.out rfl rfl (by rfl) Tryz.underlying46 rfl (by kernel_rfl) ⟨_, rfl, fun _ _ => zA7 0 opd0 opd0, HBE.out⟩
theorem zIW (ty co n wi si : Int) (hn1 : -9223372036854775808 ≤ n) (hn2 : n ≤ 9223372036854775807) (hc1 : -9223372036854775808 ≤ co) (hc2 : co ≤ 9223372036854775807) (at_ : Nat) (h2 : at_ ≠ 2) (hco : pkd co 9 = 0) (w : World) (kp : Option Addr) (kc : Nat) :
  Calls Tryz.prog 66 #[.agg #[.int .i64 ty, .int .i64 co, .int .i64 n, .int .i64 wi, .int .i64 si], .int .i64 (at_ : Nat), .slice kp 0 kc] w fun e w' => ∃ cs : List Value, e = .returned (.agg cs.toArray) ∧ (∀ W, (∀ i, w.heap.size ≤ i → TB w' 46 i → W.heap[i]? = w'.heap[i]?) → RdL W (encC (cmpC 6 (numO (pkd n 6)) nO)) cs) ∧ Below w.heap.size w w' := by
 have d2 : ((at_ : Int) == 2) = false := by first | (simp; done) | (simp; omega)
 have d2b : ¬ (at_ : Int) = 2 := by omega
 have d2c : (at_ = 2) = False := by simp [h2]
 obtain ⟨k, hk⟩ : ∃ k, pkd n 6 = k := ⟨_, rfl⟩
 have HP6 := hid (fun W => zAF n 6 W hn1 hn2 (by decide) (by decide))
 have HP9 := hid (fun W => zAF co 9 W hc1 hc2 (by decide) (by decide))
 rw [hk] at HP6
 try rw [hk]
 rw [hco] at HP9
 have hB := bxs2 w [.int .i64 ty, .int .i64 co, .int .i64 n, .int .i64 wi, .int .i64 si] [.int .i64 0, .slice none 0 0, .int .i64 0, .int .i64 0, .int .i64 0, .string ⟨#[]⟩, .string ⟨#[]⟩, .string ⟨#[]⟩, .int .i64 0, .int .i64 0, .int .i64 0, .string ⟨#[]⟩, .string ⟨#[]⟩, .string ⟨#[]⟩] 117 46
 have HB := hid hB
 have a2 : (0 : Int) ≤ 0 := by omega
 clear hB hn1 hn2 hc1 hc2 hk hco d2b
 go_enter Tryz.func66, Tryz.ntmps66
 go_wp2_with (first
  | (go_at_call 21; refine (zA3 _ _).mono ?_; rintro e w1 ⟨rfl, hb1⟩; have HB1 := hid (HB.out.next hb1); clear hb1)
  | ((with_reducible refine gSq ?_); refine zAT 44 w1.heap.size 0 [.int .i64 0, .int .i64 0, .int .i64 0, .string ⟨#[]⟩, .string ⟨#[]⟩, .string ⟨#[]⟩] 44 (opV (ownO ⟨#[110]⟩)) [.int .i64 2, .int .i64 0, .int .i64 0, .string ⟨#[]⟩, .string ⟨#[]⟩, .string ⟨#[110]⟩] (heap_alloc_new _ _) ?_; intro w2 hblk hfr; have HW2 := hid hblk; have HB12 : Hid (Below w1.heap.size w1 w2) := zAI hfr; have c2 : w2.cell? ⟨w.heap.size, 2, none⟩ = some (.int .i64 n) := (HB1.out.next HB12.out).c 0 (by simp) 2; clear hblk hfr)
  | (go_at_call_of 9 (Value.int IntKind.i64 n); refine (HP6.out _).mono ?_; rintro e w2 ⟨rfl, rfl⟩)
  | (go_at_call 20; refine (zAO _ _).mono ?_; rintro e w3 ⟨rfl, hb3⟩; have HB3 := hid hb3; clear hb3)
  | ((with_reducible refine gSq ?_); refine zAT 44 w3.heap.size 0 [.int .i64 0, .int .i64 0, .int .i64 0, .string ⟨#[]⟩, .string ⟨#[]⟩, .string ⟨#[]⟩] 44 (opV (numO k)) [.int .i64 1, .int .i64 1, .int .i64 (k), .string ⟨#[]⟩, .string ⟨#[]⟩, .string ⟨#[]⟩] (heap_alloc_new _ _) ?_; intro w4 hblk hfr; have HW4 := hid hblk; have HB34 : Hid (Below w3.heap.size w3 w4) := zAI hfr; have hp0 : Hp w w4 [(w.heap.size, [.int .i64 ty, .int .i64 co, .int .i64 n, .int .i64 wi, .int .i64 si], 117), (w.heap.size + 1, [.int .i64 0, .slice none 0 0, .int .i64 0, .int .i64 0, .int .i64 0, .string ⟨#[]⟩, .string ⟨#[]⟩, .string ⟨#[]⟩, .int .i64 0, .int .i64 0, .int .i64 0, .string ⟨#[]⟩, .string ⟨#[]⟩, .string ⟨#[]⟩], 46), (w1.heap.size, [.int .i64 2, .int .i64 0, .int .i64 0, .string ⟨#[]⟩, .string ⟨#[]⟩, .string ⟨#[110]⟩], 44), (w3.heap.size, [.int .i64 1, .int .i64 1, .int .i64 (k), .string ⟨#[]⟩, .string ⟨#[]⟩, .string ⟨#[]⟩], 44)] := Hp.add (Hp.add (l := [(w.heap.size, [.int .i64 ty, .int .i64 co, .int .i64 n, .int .i64 wi, .int .i64 si], 117), (w.heap.size + 1, [.int .i64 0, .slice none 0 0, .int .i64 0, .int .i64 0, .int .i64 0, .string ⟨#[]⟩, .string ⟨#[]⟩, .string ⟨#[]⟩, .int .i64 0, .int .i64 0, .int .i64 0, .string ⟨#[]⟩, .string ⟨#[]⟩, .string ⟨#[]⟩], 46)]) (hp2 HB1.out) HB12.out HW2.out) (zAA HB3.out HB34.out HB3.out.size) HW4.out; have HP := hid hp0; have c1 : w4.cell? ⟨w.heap.size, 1, none⟩ = some (.int .i64 co) := HP.out.c 0 (by simp) 1; clear hblk hfr hp0)
  | (go_at_call_of 9 (Value.int IntKind.i64 co); refine (HP9.out _).mono ?_; rintro e w4 ⟨rfl, rfl⟩))
 clear HW2 HB12 HB3 HW4 HB34 c1 c2 HB1 HB HP6 HP9
 generalize w1.heap.size = b7 at HP ⊢
 generalize w3.heap.size = b9 at HP ⊢
 have HPD := hid (HP.out.next (Below.drew (Below.refl _ _)))
 refine zAV (by kernel_rfl) (fun i w v => ([(fun w v => v = .int .i64 k), (fun w v => v = .agg #[.int .i64 1, .int .i64 1, .int .i64 (k), .string ⟨#[]⟩, .string ⟨#[]⟩, .string ⟨#[]⟩]), (fun w v => v = .agg #[.int .i64 2, .int .i64 0, .int .i64 0, .string ⟨#[]⟩, .string ⟨#[]⟩, .string ⟨#[110]⟩]), (fun w v => v = .agg #[.int .i64 6, .slice none 0 0, .int .i64 1, .int .i64 1, .int .i64 (k), .string ⟨#[]⟩, .string ⟨#[]⟩, .string ⟨#[]⟩, .int .i64 2, .int .i64 0, .int .i64 0, .string ⟨#[]⟩, .string ⟨#[]⟩, .string ⟨#[110]⟩])] : List (World → Value → Prop)).getD i (fun _ _ => True) w v) (fun W => Hp w W [(w.heap.size, [.int .i64 ty, .int .i64 co, .int .i64 n, .int .i64 wi, .int .i64 si], 117), (w.heap.size + 1, [.int .i64 0, .slice none 0 0, .int .i64 0, .int .i64 0, .int .i64 0, .string ⟨#[]⟩, .string ⟨#[]⟩, .string ⟨#[]⟩, .int .i64 0, .int .i64 0, .int .i64 0, .string ⟨#[]⟩, .string ⟨#[]⟩, .string ⟨#[]⟩], 46), (b7, [.int .i64 2, .int .i64 0, .int .i64 0, .string ⟨#[]⟩, .string ⟨#[]⟩, .string ⟨#[110]⟩], 44), (b9, [.int .i64 1, .int .i64 1, .int .i64 (k), .string ⟨#[]⟩, .string ⟨#[]⟩, .string ⟨#[]⟩], 44)]) 86 4 rfl rfl (by kernel_rfl) (by kernel_rfl) (fun W W' => Below W.heap.size W W') ?hmon (HPD.out) (zAC.cons ?o0 (zAC.cons ?o1 (zAC.cons ?o2 (zAC.cons ?o3 zAC.nil)))) ?hend
 case hmon =>
  intro q W W' v hb h
  rcases q with _ | _ | _ | _ | q
  . exact h
  . exact h
  . exact h
  . exact h
  . exact h
 case o0 =>
  intro a W hB hd ho
  have e8 : a.eval (.tmp 8) = .int .i64 k := ho 8 (by kernel_rfl)
  exact zA1 _ (by simp) _ e8 ⟨_, rfl, rfl, hB, Below.refl _ _⟩
 case o1 =>
  intro a W hB hd ho
  have e36 : a.eval (.tmp 36) = .int .i64 k := hd 0 36 (by kernel_rfl)
  refine zA0 20 zB8 _ _ rfl #[.int .i64 k] (by simp [ev_c, e36]) _ (zAO k W) ?_
  rintro e W' ⟨rfl, hb⟩
  exact ⟨_, rfl, _, rfl, rfl, hB.next hb, hb⟩
 case o2 =>
  intro a W hB hd ho
  have e7 : a.eval (.tmp 7) = .pointer (some ⟨b7, 0, none⟩) := ho 7 (by kernel_rfl)
  exact zBZ 44 _ rfl _ _ e7 [.int .i64 2, .int .i64 0, .int .i64 0, .string ⟨#[]⟩, .string ⟨#[]⟩, .string ⟨#[110]⟩] _ (hB.r 2 (by simp)) Tryz.underlying44 rfl (by kernel_rfl) ⟨_, rfl, rfl, hB, Below.refl _ _⟩
 case o3 =>
  intro a W hB hd ho
  have e37 : a.eval (.tmp 37) = opV (numO k) := hd 1 37 (by kernel_rfl)
  have e38 : a.eval (.tmp 38) = opV nO := hd 2 38 (by kernel_rfl)
  refine zA0 19 zBS _ _ rfl #[.int .i64 6, opV (numO k), opV nO] (by simp [ev_c, e37, e38]) _ (compare_any 6 (numO k) nO W) ?_
  rintro e W' ⟨rfl, hb⟩
  exact ⟨_, rfl, _, rfl, rfl, hB.next hb, hb⟩
 case hend =>
  intro vs W o ho hB hT
  have e0 : vs 0 = .int .i64 k := hT 0 (by decide)
  have e1 : vs 1 = .agg #[.int .i64 1, .int .i64 1, .int .i64 (k), .string ⟨#[]⟩, .string ⟨#[]⟩, .string ⟨#[]⟩] := hT 1 (by decide)
  have e2 : vs 2 = .agg #[.int .i64 2, .int .i64 0, .int .i64 0, .string ⟨#[]⟩, .string ⟨#[]⟩, .string ⟨#[110]⟩] := hT 2 (by decide)
  have e3 : vs 3 = .agg #[.int .i64 6, .slice none 0 0, .int .i64 1, .int .i64 1, .int .i64 (k), .string ⟨#[]⟩, .string ⟨#[]⟩, .string ⟨#[]⟩, .int .i64 2, .int .i64 0, .int .i64 0, .string ⟨#[]⟩, .string ⟨#[]⟩, .string ⟨#[110]⟩] := hT 3 (by decide)
  cases (show some _ = some o from ho)
  simp only [List.toList_toArray, List.take_succ_cons, List.take_zero, fill, if_true, Act.put, List.setIfInBounds_toArray, List.set_cons_zero, List.set_cons_succ, e0, e1, e2, e3]
  refine op_st 46 _ _ rfl (w.heap.size + 1) 0 [.int .i64 0, .slice none 0 0, .int .i64 0, .int .i64 0, .int .i64 0, .string ⟨#[]⟩, .string ⟨#[]⟩, .string ⟨#[]⟩, .int .i64 0, .int .i64 0, .int .i64 0, .string ⟨#[]⟩, .string ⟨#[]⟩, .string ⟨#[]⟩] 46 (.agg #[.int .i64 6, .slice none 0 0, .int .i64 1, .int .i64 1, .int .i64 (k), .string ⟨#[]⟩, .string ⟨#[]⟩, .string ⟨#[]⟩, .int .i64 2, .int .i64 0, .int .i64 0, .string ⟨#[]⟩, .string ⟨#[]⟩, .string ⟨#[110]⟩]) [.int .i64 6, .slice none 0 0, .int .i64 1, .int .i64 1, .int .i64 (k), .string ⟨#[]⟩, .string ⟨#[]⟩, .string ⟨#[]⟩, .int .i64 2, .int .i64 0, .int .i64 0, .string ⟨#[]⟩, .string ⟨#[]⟩, .string ⟨#[110]⟩] (by rfl) (by rfl) (by rfl) (hB.b 1 (by simp)) (by simp) (by kernel_rfl) (by rfl) ?_
  intro w5 hblk hfr
  have HW5 := hid hblk
  have HBE : Hid (Below w.heap.size w w5) := zAG hB.bel hfr (by omega)
  clear hblk hfr
  go_wp2_with fail
  exact zAR (w.heap.size + 1) [.int .i64 6, .slice none 0 0, .int .i64 1, .int .i64 1, .int .i64 (k), .string ⟨#[]⟩, .string ⟨#[]⟩, .string ⟨#[]⟩, .int .i64 2, .int .i64 0, .int .i64 0, .string ⟨#[]⟩, .string ⟨#[]⟩, .string ⟨#[110]⟩] 46 _ HW5.out rfl rfl (by rfl) Tryz.underlying46 rfl (by kernel_rfl) ⟨_, rfl, fun _ _ => zA7 6 (numO k) nO, HBE.out⟩
theorem zI9 (ty co n wi si : Int) (hn1 : -9223372036854775808 ≤ n) (hn2 : n ≤ 9223372036854775807) (hc1 : -9223372036854775808 ≤ co) (hc2 : co ≤ 9223372036854775807) (at_ : Nat) (h2 : at_ ≠ 2) (hco : pkd co 9 = 1) (w : World) (kp : Option Addr) (kc : Nat) :
  Calls Tryz.prog 66 #[.agg #[.int .i64 ty, .int .i64 co, .int .i64 n, .int .i64 wi, .int .i64 si], .int .i64 (at_ : Nat), .slice kp 0 kc] w fun e w' => ∃ cs : List Value, e = .returned (.agg cs.toArray) ∧ (∀ W, (∀ i, w.heap.size ≤ i → TB w' 46 i → W.heap[i]? = w'.heap[i]?) → RdL W (encC (cmpC 4 nO (numO (pkd n 6)))) cs) ∧ Below w.heap.size w w' := by
 have d2 : ((at_ : Int) == 2) = false := by first | (simp; done) | (simp; omega)
 have d2b : ¬ (at_ : Int) = 2 := by omega
 have d2c : (at_ = 2) = False := by simp [h2]
 obtain ⟨k, hk⟩ : ∃ k, pkd n 6 = k := ⟨_, rfl⟩
 have HP6 := hid (fun W => zAF n 6 W hn1 hn2 (by decide) (by decide))
 have HP9 := hid (fun W => zAF co 9 W hc1 hc2 (by decide) (by decide))
 rw [hk] at HP6
 try rw [hk]
 rw [hco] at HP9
 have hB := bxs2 w [.int .i64 ty, .int .i64 co, .int .i64 n, .int .i64 wi, .int .i64 si] [.int .i64 0, .slice none 0 0, .int .i64 0, .int .i64 0, .int .i64 0, .string ⟨#[]⟩, .string ⟨#[]⟩, .string ⟨#[]⟩, .int .i64 0, .int .i64 0, .int .i64 0, .string ⟨#[]⟩, .string ⟨#[]⟩, .string ⟨#[]⟩] 117 46
 have HB := hid hB
 have a2 : (0 : Int) ≤ 0 := by omega
 clear hB hn1 hn2 hc1 hc2 hk hco d2b
 go_enter Tryz.func66, Tryz.ntmps66
 go_wp2_with (first
  | (go_at_call 21; refine (zA3 _ _).mono ?_; rintro e w1 ⟨rfl, hb1⟩; have HB1 := hid (HB.out.next hb1); clear hb1)
  | ((with_reducible refine gSq ?_); refine zAT 44 w1.heap.size 0 [.int .i64 0, .int .i64 0, .int .i64 0, .string ⟨#[]⟩, .string ⟨#[]⟩, .string ⟨#[]⟩] 44 (opV (ownO ⟨#[110]⟩)) [.int .i64 2, .int .i64 0, .int .i64 0, .string ⟨#[]⟩, .string ⟨#[]⟩, .string ⟨#[110]⟩] (heap_alloc_new _ _) ?_; intro w2 hblk hfr; have HW2 := hid hblk; have HB12 : Hid (Below w1.heap.size w1 w2) := zAI hfr; have c2 : w2.cell? ⟨w.heap.size, 2, none⟩ = some (.int .i64 n) := (HB1.out.next HB12.out).c 0 (by simp) 2; clear hblk hfr)
  | (go_at_call_of 9 (Value.int IntKind.i64 n); refine (HP6.out _).mono ?_; rintro e w2 ⟨rfl, rfl⟩)
  | (go_at_call 20; refine (zAO _ _).mono ?_; rintro e w3 ⟨rfl, hb3⟩; have HB3 := hid hb3; clear hb3)
  | ((with_reducible refine gSq ?_); refine zAT 44 w3.heap.size 0 [.int .i64 0, .int .i64 0, .int .i64 0, .string ⟨#[]⟩, .string ⟨#[]⟩, .string ⟨#[]⟩] 44 (opV (numO k)) [.int .i64 1, .int .i64 1, .int .i64 (k), .string ⟨#[]⟩, .string ⟨#[]⟩, .string ⟨#[]⟩] (heap_alloc_new _ _) ?_; intro w4 hblk hfr; have HW4 := hid hblk; have HB34 : Hid (Below w3.heap.size w3 w4) := zAI hfr; have hp0 : Hp w w4 [(w.heap.size, [.int .i64 ty, .int .i64 co, .int .i64 n, .int .i64 wi, .int .i64 si], 117), (w.heap.size + 1, [.int .i64 0, .slice none 0 0, .int .i64 0, .int .i64 0, .int .i64 0, .string ⟨#[]⟩, .string ⟨#[]⟩, .string ⟨#[]⟩, .int .i64 0, .int .i64 0, .int .i64 0, .string ⟨#[]⟩, .string ⟨#[]⟩, .string ⟨#[]⟩], 46), (w1.heap.size, [.int .i64 2, .int .i64 0, .int .i64 0, .string ⟨#[]⟩, .string ⟨#[]⟩, .string ⟨#[110]⟩], 44), (w3.heap.size, [.int .i64 1, .int .i64 1, .int .i64 (k), .string ⟨#[]⟩, .string ⟨#[]⟩, .string ⟨#[]⟩], 44)] := Hp.add (Hp.add (l := [(w.heap.size, [.int .i64 ty, .int .i64 co, .int .i64 n, .int .i64 wi, .int .i64 si], 117), (w.heap.size + 1, [.int .i64 0, .slice none 0 0, .int .i64 0, .int .i64 0, .int .i64 0, .string ⟨#[]⟩, .string ⟨#[]⟩, .string ⟨#[]⟩, .int .i64 0, .int .i64 0, .int .i64 0, .string ⟨#[]⟩, .string ⟨#[]⟩, .string ⟨#[]⟩], 46)]) (hp2 HB1.out) HB12.out HW2.out) (zAA HB3.out HB34.out HB3.out.size) HW4.out; have HP := hid hp0; have c1 : w4.cell? ⟨w.heap.size, 1, none⟩ = some (.int .i64 co) := HP.out.c 0 (by simp) 1; clear hblk hfr hp0)
  | (go_at_call_of 9 (Value.int IntKind.i64 co); refine (HP9.out _).mono ?_; rintro e w4 ⟨rfl, rfl⟩)
  | ((with_reducible show wpList _ _ _ (Oper.mk (some 42) _ _ _ _ _ :: _) _ _); refine wpList_load_mid (by rfl) 44 _ (by rfl) w1.heap.size 0 (by rfl) [.int .i64 2, .int .i64 0, .int .i64 0, .string ⟨#[]⟩, .string ⟨#[]⟩, .string ⟨#[110]⟩] _ (HP.out.r 2 (by simp)) Tryz.underlying44 rfl (by kernel_rfl) ?_)
  | ((with_reducible show wpList _ _ _ (Oper.mk (some 43) _ _ _ _ _ :: _) _ _); refine wpList_load_mid (by rfl) 44 _ (by rfl) w3.heap.size 0 (by rfl) [.int .i64 1, .int .i64 1, .int .i64 (k), .string ⟨#[]⟩, .string ⟨#[]⟩, .string ⟨#[]⟩] _ (HP.out.r 3 (by simp)) Tryz.underlying44 rfl (by kernel_rfl) ?_)
  | (go_at_call 19; refine (compare_any 4 nO (numO k) _).mono ?_; rintro e w5 ⟨rfl, hb5⟩; have HP5 := hid (HP.out.next hb5); clear hb5)
  | ((with_reducible show wpList _ _ _ (Oper.mk _ (.store 46 _ _) _ _ _ _ :: _) _ _); refine zAY 46 (w.heap.size + 1) 0 [.int .i64 0, .slice none 0 0, .int .i64 0, .int .i64 0, .int .i64 0, .string ⟨#[]⟩, .string ⟨#[]⟩, .string ⟨#[]⟩, .int .i64 0, .int .i64 0, .int .i64 0, .string ⟨#[]⟩, .string ⟨#[]⟩, .string ⟨#[]⟩] 46 [.int .i64 4, .slice none 0 0, .int .i64 2, .int .i64 0, .int .i64 0, .string ⟨#[]⟩, .string ⟨#[]⟩, .string ⟨#[110]⟩, .int .i64 1, .int .i64 1, .int .i64 (k), .string ⟨#[]⟩, .string ⟨#[]⟩, .string ⟨#[]⟩] (HP5.out.b 1 (by simp)) ?_; intro w6 hblk hfr; have HW6 := hid hblk; have HBE : Hid (Below w.heap.size w w6) := zAG HP5.out.bel hfr (by omega); clear hblk hfr))
 exact zAR (w.heap.size + 1) [.int .i64 4, .slice none 0 0, .int .i64 2, .int .i64 0, .int .i64 0, .string ⟨#[]⟩, .string ⟨#[]⟩, .string ⟨#[110]⟩, .int .i64 1, .int .i64 1, .int .i64 (k), .string ⟨#[]⟩, .string ⟨#[]⟩, .string ⟨#[]⟩] 46 _ HW6.out rfl rfl (by rfl) Tryz.underlying46 rfl (by kernel_rfl) ⟨_, rfl, fun _ _ => zA7 4 nO (numO k), HBE.out⟩
theorem zKS (ty co n wi si : Int) (hn1 : -9223372036854775808 ≤ n) (hn2 : n ≤ 9223372036854775807) (hc1 : -9223372036854775808 ≤ co) (hc2 : co ≤ 9223372036854775807) (at_ : Nat) (h2 : at_ ≠ 2) (hco : pkd co 9 = 2) (w : World) (kp : Option Addr) (kc : Nat) :
  Calls Tryz.prog 66 #[.agg #[.int .i64 ty, .int .i64 co, .int .i64 n, .int .i64 wi, .int .i64 si], .int .i64 (at_ : Nat), .slice kp 0 kc] w fun e w' => ∃ cs : List Value, e = .returned (.agg cs.toArray) ∧ (∀ W, (∀ i, w.heap.size ≤ i → TB w' 46 i → W.heap[i]? = w'.heap[i]?) → RdL W (encC (cmpC 5 nO (numO (pkd n 6)))) cs) ∧ Below w.heap.size w w' := by
 have d2 : ((at_ : Int) == 2) = false := by first | (simp; done) | (simp; omega)
 have d2b : ¬ (at_ : Int) = 2 := by omega
 have d2c : (at_ = 2) = False := by simp [h2]
 obtain ⟨k, hk⟩ : ∃ k, pkd n 6 = k := ⟨_, rfl⟩
 have HP6 := hid (fun W => zAF n 6 W hn1 hn2 (by decide) (by decide))
 have HP9 := hid (fun W => zAF co 9 W hc1 hc2 (by decide) (by decide))
 rw [hk] at HP6
 try rw [hk]
 rw [hco] at HP9
 have hB := bxs2 w [.int .i64 ty, .int .i64 co, .int .i64 n, .int .i64 wi, .int .i64 si] [.int .i64 0, .slice none 0 0, .int .i64 0, .int .i64 0, .int .i64 0, .string ⟨#[]⟩, .string ⟨#[]⟩, .string ⟨#[]⟩, .int .i64 0, .int .i64 0, .int .i64 0, .string ⟨#[]⟩, .string ⟨#[]⟩, .string ⟨#[]⟩] 117 46
 have HB := hid hB
 have a2 : (0 : Int) ≤ 0 := by omega
 clear hB hn1 hn2 hc1 hc2 hk hco d2b
 go_enter Tryz.func66, Tryz.ntmps66
 go_wp2_with (first
  | (go_at_call 21; refine (zA3 _ _).mono ?_; rintro e w1 ⟨rfl, hb1⟩; have HB1 := hid (HB.out.next hb1); clear hb1)
  | ((with_reducible refine gSq ?_); refine zAT 44 w1.heap.size 0 [.int .i64 0, .int .i64 0, .int .i64 0, .string ⟨#[]⟩, .string ⟨#[]⟩, .string ⟨#[]⟩] 44 (opV (ownO ⟨#[110]⟩)) [.int .i64 2, .int .i64 0, .int .i64 0, .string ⟨#[]⟩, .string ⟨#[]⟩, .string ⟨#[110]⟩] (heap_alloc_new _ _) ?_; intro w2 hblk hfr; have HW2 := hid hblk; have HB12 : Hid (Below w1.heap.size w1 w2) := zAI hfr; have c2 : w2.cell? ⟨w.heap.size, 2, none⟩ = some (.int .i64 n) := (HB1.out.next HB12.out).c 0 (by simp) 2; clear hblk hfr)
  | (go_at_call_of 9 (Value.int IntKind.i64 n); refine (HP6.out _).mono ?_; rintro e w2 ⟨rfl, rfl⟩)
  | (go_at_call 20; refine (zAO _ _).mono ?_; rintro e w3 ⟨rfl, hb3⟩; have HB3 := hid hb3; clear hb3)
  | ((with_reducible refine gSq ?_); refine zAT 44 w3.heap.size 0 [.int .i64 0, .int .i64 0, .int .i64 0, .string ⟨#[]⟩, .string ⟨#[]⟩, .string ⟨#[]⟩] 44 (opV (numO k)) [.int .i64 1, .int .i64 1, .int .i64 (k), .string ⟨#[]⟩, .string ⟨#[]⟩, .string ⟨#[]⟩] (heap_alloc_new _ _) ?_; intro w4 hblk hfr; have HW4 := hid hblk; have HB34 : Hid (Below w3.heap.size w3 w4) := zAI hfr; have hp0 : Hp w w4 [(w.heap.size, [.int .i64 ty, .int .i64 co, .int .i64 n, .int .i64 wi, .int .i64 si], 117), (w.heap.size + 1, [.int .i64 0, .slice none 0 0, .int .i64 0, .int .i64 0, .int .i64 0, .string ⟨#[]⟩, .string ⟨#[]⟩, .string ⟨#[]⟩, .int .i64 0, .int .i64 0, .int .i64 0, .string ⟨#[]⟩, .string ⟨#[]⟩, .string ⟨#[]⟩], 46), (w1.heap.size, [.int .i64 2, .int .i64 0, .int .i64 0, .string ⟨#[]⟩, .string ⟨#[]⟩, .string ⟨#[110]⟩], 44), (w3.heap.size, [.int .i64 1, .int .i64 1, .int .i64 (k), .string ⟨#[]⟩, .string ⟨#[]⟩, .string ⟨#[]⟩], 44)] := Hp.add (Hp.add (l := [(w.heap.size, [.int .i64 ty, .int .i64 co, .int .i64 n, .int .i64 wi, .int .i64 si], 117), (w.heap.size + 1, [.int .i64 0, .slice none 0 0, .int .i64 0, .int .i64 0, .int .i64 0, .string ⟨#[]⟩, .string ⟨#[]⟩, .string ⟨#[]⟩, .int .i64 0, .int .i64 0, .int .i64 0, .string ⟨#[]⟩, .string ⟨#[]⟩, .string ⟨#[]⟩], 46)]) (hp2 HB1.out) HB12.out HW2.out) (zAA HB3.out HB34.out HB3.out.size) HW4.out; have HP := hid hp0; have c1 : w4.cell? ⟨w.heap.size, 1, none⟩ = some (.int .i64 co) := HP.out.c 0 (by simp) 1; clear hblk hfr hp0)
  | (go_at_call_of 9 (Value.int IntKind.i64 co); refine (HP9.out _).mono ?_; rintro e w4 ⟨rfl, rfl⟩)
  | ((with_reducible show wpList _ _ _ (Oper.mk (some 47) _ _ _ _ _ :: _) _ _); refine wpList_load_mid (by rfl) 44 _ (by rfl) w1.heap.size 0 (by rfl) [.int .i64 2, .int .i64 0, .int .i64 0, .string ⟨#[]⟩, .string ⟨#[]⟩, .string ⟨#[110]⟩] _ (HP.out.r 2 (by simp)) Tryz.underlying44 rfl (by kernel_rfl) ?_)
  | ((with_reducible show wpList _ _ _ (Oper.mk (some 48) _ _ _ _ _ :: _) _ _); refine wpList_load_mid (by rfl) 44 _ (by rfl) w3.heap.size 0 (by rfl) [.int .i64 1, .int .i64 1, .int .i64 (k), .string ⟨#[]⟩, .string ⟨#[]⟩, .string ⟨#[]⟩] _ (HP.out.r 3 (by simp)) Tryz.underlying44 rfl (by kernel_rfl) ?_)
  | (go_at_call 19; refine (compare_any 5 nO (numO k) _).mono ?_; rintro e w5 ⟨rfl, hb5⟩; have HP5 := hid (HP.out.next hb5); clear hb5)
  | ((with_reducible show wpList _ _ _ (Oper.mk _ (.store 46 _ _) _ _ _ _ :: _) _ _); refine zAY 46 (w.heap.size + 1) 0 [.int .i64 0, .slice none 0 0, .int .i64 0, .int .i64 0, .int .i64 0, .string ⟨#[]⟩, .string ⟨#[]⟩, .string ⟨#[]⟩, .int .i64 0, .int .i64 0, .int .i64 0, .string ⟨#[]⟩, .string ⟨#[]⟩, .string ⟨#[]⟩] 46 [.int .i64 5, .slice none 0 0, .int .i64 2, .int .i64 0, .int .i64 0, .string ⟨#[]⟩, .string ⟨#[]⟩, .string ⟨#[110]⟩, .int .i64 1, .int .i64 1, .int .i64 (k), .string ⟨#[]⟩, .string ⟨#[]⟩, .string ⟨#[]⟩] (HP5.out.b 1 (by simp)) ?_; intro w6 hblk hfr; have HW6 := hid hblk; have HBE : Hid (Below w.heap.size w w6) := zAG HP5.out.bel hfr (by omega); clear hblk hfr))
 exact zAR (w.heap.size + 1) [.int .i64 5, .slice none 0 0, .int .i64 2, .int .i64 0, .int .i64 0, .string ⟨#[]⟩, .string ⟨#[]⟩, .string ⟨#[110]⟩, .int .i64 1, .int .i64 1, .int .i64 (k), .string ⟨#[]⟩, .string ⟨#[]⟩, .string ⟨#[]⟩] 46 _ HW6.out rfl rfl (by rfl) Tryz.underlying46 rfl (by kernel_rfl) ⟨_, rfl, fun _ _ => zA7 5 nO (numO k), HBE.out⟩
theorem zKD (ty co n wi si : Int) (hn1 : -9223372036854775808 ≤ n) (hn2 : n ≤ 9223372036854775807) (hc1 : -9223372036854775808 ≤ co) (hc2 : co ≤ 9223372036854775807) (at_ : Nat) (h2 : at_ ≠ 2) (hco : pkd co 9 = 5) (h1 : at_ ≠ 1) (w : World) (kp : Option Addr) (kc : Nat) :
  Calls Tryz.prog 66 #[.agg #[.int .i64 ty, .int .i64 co, .int .i64 n, .int .i64 wi, .int .i64 si], .int .i64 (at_ : Nat), .slice kp 0 kc] w fun e w' => ∃ cs : List Value, e = .returned (.agg cs.toArray) ∧ (∀ W, (∀ i, w.heap.size ≤ i → TB w' 46 i → W.heap[i]? = w'.heap[i]?) → RdL W (encC (cmpC 7 nO (numO (pkd n 6)))) cs) ∧ Below w.heap.size w w' := by
 have d1 : ((at_ : Int) == 1) = false := by simp; omega
 have d1c : (at_ = 1) = False := by simp [h1]
 have d2 : ((at_ : Int) == 2) = false := by first | (simp; done) | (simp; omega)
 have d2b : ¬ (at_ : Int) = 2 := by omega
 have d2c : (at_ = 2) = False := by simp [h2]
 obtain ⟨k, hk⟩ : ∃ k, pkd n 6 = k := ⟨_, rfl⟩
 have HP6 := hid (fun W => zAF n 6 W hn1 hn2 (by decide) (by decide))
 have HP9 := hid (fun W => zAF co 9 W hc1 hc2 (by decide) (by decide))
 rw [hk] at HP6
 try rw [hk]
 rw [hco] at HP9
 have hB := bxs2 w [.int .i64 ty, .int .i64 co, .int .i64 n, .int .i64 wi, .int .i64 si] [.int .i64 0, .slice none 0 0, .int .i64 0, .int .i64 0, .int .i64 0, .string ⟨#[]⟩, .string ⟨#[]⟩, .string ⟨#[]⟩, .int .i64 0, .int .i64 0, .int .i64 0, .string ⟨#[]⟩, .string ⟨#[]⟩, .string ⟨#[]⟩] 117 46
 have HB := hid hB
 have a2 : (0 : Int) ≤ 0 := by omega
 clear hB hn1 hn2 hc1 hc2 hk hco d2b
 go_enter Tryz.func66, Tryz.ntmps66
 go_wp2_with (first
  | (go_at_call 21; refine (zA3 _ _).mono ?_; rintro e w1 ⟨rfl, hb1⟩; have HB1 := hid (HB.out.next hb1); clear hb1)
  | ((with_reducible refine gSq ?_); refine zAT 44 w1.heap.size 0 [.int .i64 0, .int .i64 0, .int .i64 0, .string ⟨#[]⟩, .string ⟨#[]⟩, .string ⟨#[]⟩] 44 (opV (ownO ⟨#[110]⟩)) [.int .i64 2, .int .i64 0, .int .i64 0, .string ⟨#[]⟩, .string ⟨#[]⟩, .string ⟨#[110]⟩] (heap_alloc_new _ _) ?_; intro w2 hblk hfr; have HW2 := hid hblk; have HB12 : Hid (Below w1.heap.size w1 w2) := zAI hfr; have c2 : w2.cell? ⟨w.heap.size, 2, none⟩ = some (.int .i64 n) := (HB1.out.next HB12.out).c 0 (by simp) 2; clear hblk hfr)
  | (go_at_call_of 9 (Value.int IntKind.i64 n); refine (HP6.out _).mono ?_; rintro e w2 ⟨rfl, rfl⟩)
  | (go_at_call 20; refine (zAO _ _).mono ?_; rintro e w3 ⟨rfl, hb3⟩; have HB3 := hid hb3; clear hb3)
  | ((with_reducible refine gSq ?_); refine zAT 44 w3.heap.size 0 [.int .i64 0, .int .i64 0, .int .i64 0, .string ⟨#[]⟩, .string ⟨#[]⟩, .string ⟨#[]⟩] 44 (opV (numO k)) [.int .i64 1, .int .i64 1, .int .i64 (k), .string ⟨#[]⟩, .string ⟨#[]⟩, .string ⟨#[]⟩] (heap_alloc_new _ _) ?_; intro w4 hblk hfr; have HW4 := hid hblk; have HB34 : Hid (Below w3.heap.size w3 w4) := zAI hfr; have hp0 : Hp w w4 [(w.heap.size, [.int .i64 ty, .int .i64 co, .int .i64 n, .int .i64 wi, .int .i64 si], 117), (w.heap.size + 1, [.int .i64 0, .slice none 0 0, .int .i64 0, .int .i64 0, .int .i64 0, .string ⟨#[]⟩, .string ⟨#[]⟩, .string ⟨#[]⟩, .int .i64 0, .int .i64 0, .int .i64 0, .string ⟨#[]⟩, .string ⟨#[]⟩, .string ⟨#[]⟩], 46), (w1.heap.size, [.int .i64 2, .int .i64 0, .int .i64 0, .string ⟨#[]⟩, .string ⟨#[]⟩, .string ⟨#[110]⟩], 44), (w3.heap.size, [.int .i64 1, .int .i64 1, .int .i64 (k), .string ⟨#[]⟩, .string ⟨#[]⟩, .string ⟨#[]⟩], 44)] := Hp.add (Hp.add (l := [(w.heap.size, [.int .i64 ty, .int .i64 co, .int .i64 n, .int .i64 wi, .int .i64 si], 117), (w.heap.size + 1, [.int .i64 0, .slice none 0 0, .int .i64 0, .int .i64 0, .int .i64 0, .string ⟨#[]⟩, .string ⟨#[]⟩, .string ⟨#[]⟩, .int .i64 0, .int .i64 0, .int .i64 0, .string ⟨#[]⟩, .string ⟨#[]⟩, .string ⟨#[]⟩], 46)]) (hp2 HB1.out) HB12.out HW2.out) (zAA HB3.out HB34.out HB3.out.size) HW4.out; have HP := hid hp0; have c1 : w4.cell? ⟨w.heap.size, 1, none⟩ = some (.int .i64 co) := HP.out.c 0 (by simp) 1; clear hblk hfr hp0)
  | (go_at_call_of 9 (Value.int IntKind.i64 co); refine (HP9.out _).mono ?_; rintro e w4 ⟨rfl, rfl⟩)
  | ((with_reducible show wpList _ _ _ (Oper.mk (some 82) _ _ _ _ _ :: _) _ _); refine wpList_load_mid (by rfl) 44 _ (by rfl) w1.heap.size 0 (by rfl) [.int .i64 2, .int .i64 0, .int .i64 0, .string ⟨#[]⟩, .string ⟨#[]⟩, .string ⟨#[110]⟩] _ (HP.out.r 2 (by simp)) Tryz.underlying44 rfl (by kernel_rfl) ?_)
  | ((with_reducible show wpList _ _ _ (Oper.mk (some 83) _ _ _ _ _ :: _) _ _); refine wpList_load_mid (by rfl) 44 _ (by rfl) w3.heap.size 0 (by rfl) [.int .i64 1, .int .i64 1, .int .i64 (k), .string ⟨#[]⟩, .string ⟨#[]⟩, .string ⟨#[]⟩] _ (HP.out.r 3 (by simp)) Tryz.underlying44 rfl (by kernel_rfl) ?_)
  | (go_at_call 19; refine (compare_any 7 nO (numO k) _).mono ?_; rintro e w5 ⟨rfl, hb5⟩; have HP5 := hid (HP.out.next hb5); clear hb5)
  | ((with_reducible show wpList _ _ _ (Oper.mk _ (.store 46 _ _) _ _ _ _ :: _) _ _); refine zAY 46 (w.heap.size + 1) 0 [.int .i64 0, .slice none 0 0, .int .i64 0, .int .i64 0, .int .i64 0, .string ⟨#[]⟩, .string ⟨#[]⟩, .string ⟨#[]⟩, .int .i64 0, .int .i64 0, .int .i64 0, .string ⟨#[]⟩, .string ⟨#[]⟩, .string ⟨#[]⟩] 46 [.int .i64 7, .slice none 0 0, .int .i64 2, .int .i64 0, .int .i64 0, .string ⟨#[]⟩, .string ⟨#[]⟩, .string ⟨#[110]⟩, .int .i64 1, .int .i64 1, .int .i64 (k), .string ⟨#[]⟩, .string ⟨#[]⟩, .string ⟨#[]⟩] (HP5.out.b 1 (by simp)) ?_; intro w6 hblk hfr; have HW6 := hid hblk; have HBE : Hid (Below w.heap.size w w6) := zAG HP5.out.bel hfr (by omega); clear hblk hfr))
 exact zAR (w.heap.size + 1) [.int .i64 7, .slice none 0 0, .int .i64 2, .int .i64 0, .int .i64 0, .string ⟨#[]⟩, .string ⟨#[]⟩, .string ⟨#[110]⟩, .int .i64 1, .int .i64 1, .int .i64 (k), .string ⟨#[]⟩, .string ⟨#[]⟩, .string ⟨#[]⟩] 46 _ HW6.out rfl rfl (by rfl) Tryz.underlying46 rfl (by kernel_rfl) ⟨_, rfl, fun _ _ => zA7 7 nO (numO k), HBE.out⟩
theorem zJK (ty co n wi si : Int) (hn1 : -9223372036854775808 ≤ n) (hn2 : n ≤ 9223372036854775807) (hc1 : -9223372036854775808 ≤ co) (hc2 : co ≤ 9223372036854775807) (at_ : Nat) (h2 : at_ ≠ 2) (j : Nat) (hco : pkd co 9 = (j : Int)) (hj : 6 ≤ j) (w : World) (kp : Option Addr) (kc : Nat) :
  Calls Tryz.prog 66 #[.agg #[.int .i64 ty, .int .i64 co, .int .i64 n, .int .i64 wi, .int .i64 si], .int .i64 (at_ : Nat), .slice kp 0 kc] w fun e w' => ∃ cs : List Value, e = .returned (.agg cs.toArray) ∧ (∀ W, (∀ i, w.heap.size ≤ i → TB w' 46 i → W.heap[i]? = w'.heap[i]?) → RdL W (encC (cn0)) cs) ∧ Below w.heap.size w w' := by
 have q0 : ((j : Int) == 0) = false := by simp; omega
 have r0 : (j = 0) = False := by simp; omega
 have q1 : ((j : Int) == 1) = false := by simp; omega
 have r1 : (j = 1) = False := by simp; omega
 have q2 : ((j : Int) == 2) = false := by simp; omega
 have r2 : (j = 2) = False := by simp; omega
 have q3 : ((j : Int) == 3) = false := by simp; omega
 have r3 : (j = 3) = False := by simp; omega
 have q4 : ((j : Int) == 4) = false := by simp; omega
 have r4 : (j = 4) = False := by simp; omega
 have q5 : ((j : Int) == 5) = false := by simp; omega
 have r5 : (j = 5) = False := by simp; omega
 have d2 : ((at_ : Int) == 2) = false := by first | (simp; done) | (simp; omega)
 have d2b : ¬ (at_ : Int) = 2 := by omega
 have d2c : (at_ = 2) = False := by simp [h2]
 obtain ⟨k, hk⟩ : ∃ k, pkd n 6 = k := ⟨_, rfl⟩
 have HP6 := hid (fun W => zAF n 6 W hn1 hn2 (by decide) (by decide))
 have HP9 := hid (fun W => zAF co 9 W hc1 hc2 (by decide) (by decide))
 rw [hk] at HP6
 try rw [hk]
 rw [hco] at HP9
 have hB := bxs2 w [.int .i64 ty, .int .i64 co, .int .i64 n, .int .i64 wi, .int .i64 si] [.int .i64 0, .slice none 0 0, .int .i64 0, .int .i64 0, .int .i64 0, .string ⟨#[]⟩, .string ⟨#[]⟩, .string ⟨#[]⟩, .int .i64 0, .int .i64 0, .int .i64 0, .string ⟨#[]⟩, .string ⟨#[]⟩, .string ⟨#[]⟩] 117 46
 have HB := hid hB
 have a2 : (0 : Int) ≤ 0 := by omega
 clear hB hn1 hn2 hc1 hc2 hk hco d2b
 go_enter Tryz.func66, Tryz.ntmps66
 go_wp2_with (first
  | (go_at_call 21; refine (zA3 _ _).mono ?_; rintro e w1 ⟨rfl, hb1⟩; have HB1 := hid (HB.out.next hb1); clear hb1)
  | ((with_reducible refine gSq ?_); refine zAT 44 w1.heap.size 0 [.int .i64 0, .int .i64 0, .int .i64 0, .string ⟨#[]⟩, .string ⟨#[]⟩, .string ⟨#[]⟩] 44 (opV (ownO ⟨#[110]⟩)) [.int .i64 2, .int .i64 0, .int .i64 0, .string ⟨#[]⟩, .string ⟨#[]⟩, .string ⟨#[110]⟩] (heap_alloc_new _ _) ?_; intro w2 hblk hfr; have HW2 := hid hblk; have HB12 : Hid (Below w1.heap.size w1 w2) := zAI hfr; have c2 : w2.cell? ⟨w.heap.size, 2, none⟩ = some (.int .i64 n) := (HB1.out.next HB12.out).c 0 (by simp) 2; clear hblk hfr)
  | (go_at_call_of 9 (Value.int IntKind.i64 n); refine (HP6.out _).mono ?_; rintro e w2 ⟨rfl, rfl⟩)
  | (go_at_call 20; refine (zAO _ _).mono ?_; rintro e w3 ⟨rfl, hb3⟩; have HB3 := hid hb3; clear hb3)
  | ((with_reducible refine gSq ?_); refine zAT 44 w3.heap.size 0 [.int .i64 0, .int .i64 0, .int .i64 0, .string ⟨#[]⟩, .string ⟨#[]⟩, .string ⟨#[]⟩] 44 (opV (numO k)) [.int .i64 1, .int .i64 1, .int .i64 (k), .string ⟨#[]⟩, .string ⟨#[]⟩, .string ⟨#[]⟩] (heap_alloc_new _ _) ?_; intro w4 hblk hfr; have HW4 := hid hblk; have HB34 : Hid (Below w3.heap.size w3 w4) := zAI hfr; have hp0 : Hp w w4 [(w.heap.size, [.int .i64 ty, .int .i64 co, .int .i64 n, .int .i64 wi, .int .i64 si], 117), (w.heap.size + 1, [.int .i64 0, .slice none 0 0, .int .i64 0, .int .i64 0, .int .i64 0, .string ⟨#[]⟩, .string ⟨#[]⟩, .string ⟨#[]⟩, .int .i64 0, .int .i64 0, .int .i64 0, .string ⟨#[]⟩, .string ⟨#[]⟩, .string ⟨#[]⟩], 46), (w1.heap.size, [.int .i64 2, .int .i64 0, .int .i64 0, .string ⟨#[]⟩, .string ⟨#[]⟩, .string ⟨#[110]⟩], 44), (w3.heap.size, [.int .i64 1, .int .i64 1, .int .i64 (k), .string ⟨#[]⟩, .string ⟨#[]⟩, .string ⟨#[]⟩], 44)] := Hp.add (Hp.add (l := [(w.heap.size, [.int .i64 ty, .int .i64 co, .int .i64 n, .int .i64 wi, .int .i64 si], 117), (w.heap.size + 1, [.int .i64 0, .slice none 0 0, .int .i64 0, .int .i64 0, .int .i64 0, .string ⟨#[]⟩, .string ⟨#[]⟩, .string ⟨#[]⟩, .int .i64 0, .int .i64 0, .int .i64 0, .string ⟨#[]⟩, .string ⟨#[]⟩, .string ⟨#[]⟩], 46)]) (hp2 HB1.out) HB12.out HW2.out) (zAA HB3.out HB34.out HB3.out.size) HW4.out; have HP := hid hp0; have c1 : w4.cell? ⟨w.heap.size, 1, none⟩ = some (.int .i64 co) := HP.out.c 0 (by simp) 1; clear hblk hfr hp0)
  | (go_at_call_of 9 (Value.int IntKind.i64 co); refine (HP9.out _).mono ?_; rintro e w4 ⟨rfl, rfl⟩)
  | ((with_reducible show wpList _ _ _ (Oper.mk _ (.store 46 _ _) _ _ _ _ :: _) _ _); refine zAY 46 (w.heap.size + 1) 0 [.int .i64 0, .slice none 0 0, .int .i64 0, .int .i64 0, .int .i64 0, .string ⟨#[]⟩, .string ⟨#[]⟩, .string ⟨#[]⟩, .int .i64 0, .int .i64 0, .int .i64 0, .string ⟨#[]⟩, .string ⟨#[]⟩, .string ⟨#[]⟩] 46 [.int .i64 0, .slice none 0 0, .int .i64 0, .int .i64 0, .int .i64 0, .string ⟨#[]⟩, .string ⟨#[]⟩, .string ⟨#[]⟩, .int .i64 0, .int .i64 0, .int .i64 0, .string ⟨#[]⟩, .string ⟨#[]⟩, .string ⟨#[]⟩] (HP.out.b 1 (by simp)) ?_; intro w6 hblk hfr; have HW6 := hid hblk; have HBE : Hid (Below w.heap.size w w6) := zAG HP.out.bel hfr (by omega); clear hblk hfr))
 exact zAR (w.heap.size + 1) [.int .i64 0, .slice none 0 0, .int .i64 0, .int .i64 0, .int .i64 0, .string ⟨#[]⟩, .string ⟨#[]⟩, .string ⟨#[]⟩, .int .i64 0, .int .i64 0, .int .i64 0, .string ⟨#[]⟩, .string ⟨#[]⟩, .string ⟨#[]⟩] 46 _ HW6.out rfl rfl (by rfl) Tryz.underlying46 rfl (by kernel_rfl) ⟨_, rfl, fun _ _ => zA7 0 opd0 opd0, HBE.out⟩
theorem zIR (ty co n wi si : Int) (hn1 : -9223372036854775808 ≤ n) (hn2 : n ≤ 9223372036854775807) (hc1 : -9223372036854775808 ≤ co) (hc2 : co ≤ 9223372036854775807) (at_ : Nat) (h2 : at_ ≠ 2) (hco : pkd co 9 = 5) (h1 : at_ = 1) (w : World) (kp : Option Addr) (kc : Nat) :
  Calls Tryz.prog 66 #[.agg #[.int .i64 ty, .int .i64 co, .int .i64 n, .int .i64 wi, .int .i64 si], .int .i64 (at_ : Nat), .slice kp 0 kc] w fun e w' => ∃ cs : List Value, e = .returned (.agg cs.toArray) ∧ (∀ W, (∀ i, w.heap.size ≤ i → TB w' 46 i → W.heap[i]? = w'.heap[i]?) → RdL W (encC (cmpC 5 (ownO (txt [115])) (⟨1, 2, 0, txt [120], txt [], txt []⟩ : Opd))) cs) ∧ Below w.heap.size w w' := by
 subst h1
 have d2 : (((1 : Nat) : Int) == 2) = false := by first | (simp; done) | (simp; omega)
 have d2b : ¬ ((1 : Nat) : Int) = 2 := by omega
 obtain ⟨k, hk⟩ : ∃ k, pkd n 6 = k := ⟨_, rfl⟩
 have HP6 := hid (fun W => zAF n 6 W hn1 hn2 (by decide) (by decide))
 have HP9 := hid (fun W => zAF co 9 W hc1 hc2 (by decide) (by decide))
 rw [hk] at HP6
 try rw [hk]
 rw [hco] at HP9
 have hB := bxs2 w [.int .i64 ty, .int .i64 co, .int .i64 n, .int .i64 wi, .int .i64 si] [.int .i64 0, .slice none 0 0, .int .i64 0, .int .i64 0, .int .i64 0, .string ⟨#[]⟩, .string ⟨#[]⟩, .string ⟨#[]⟩, .int .i64 0, .int .i64 0, .int .i64 0, .string ⟨#[]⟩, .string ⟨#[]⟩, .string ⟨#[]⟩] 117 46
 have HB := hid hB
 have a2 : (0 : Int) ≤ 0 := by omega
 clear hB hn1 hn2 hc1 hc2 hk hco d2b
 go_enter Tryz.func66, Tryz.ntmps66
 go_wp2_with (first
  | (go_at_call_of 21 (Value.string ⟨#[110]⟩); refine (zA3 _ _).mono ?_; rintro e w1 ⟨rfl, hb1⟩; have HB1 := hid (HB.out.next hb1); clear hb1)
  | ((with_reducible refine gSq ?_); refine zAT 44 w1.heap.size 0 [.int .i64 0, .int .i64 0, .int .i64 0, .string ⟨#[]⟩, .string ⟨#[]⟩, .string ⟨#[]⟩] 44 (opV (ownO ⟨#[110]⟩)) [.int .i64 2, .int .i64 0, .int .i64 0, .string ⟨#[]⟩, .string ⟨#[]⟩, .string ⟨#[110]⟩] (heap_alloc_new _ _) ?_; intro w2 hblk hfr; have HW2 := hid hblk; have HB12 : Hid (Below w1.heap.size w1 w2) := zAI hfr; have c2 : w2.cell? ⟨w.heap.size, 2, none⟩ = some (.int .i64 n) := (HB1.out.next HB12.out).c 0 (by simp) 2; clear hblk hfr)
  | (go_at_call_of 9 (Value.int IntKind.i64 n); refine (HP6.out _).mono ?_; rintro e w2 ⟨rfl, rfl⟩)
  | (go_at_call 20; refine (zAO _ _).mono ?_; rintro e w3 ⟨rfl, hb3⟩; have HB3 := hid hb3; clear hb3)
  | ((with_reducible refine gSq ?_); refine zAT 44 w3.heap.size 0 [.int .i64 0, .int .i64 0, .int .i64 0, .string ⟨#[]⟩, .string ⟨#[]⟩, .string ⟨#[]⟩] 44 (opV (numO k)) [.int .i64 1, .int .i64 1, .int .i64 (k), .string ⟨#[]⟩, .string ⟨#[]⟩, .string ⟨#[]⟩] (heap_alloc_new _ _) ?_; intro w4 hblk hfr; have HW4 := hid hblk; have HB34 : Hid (Below w3.heap.size w3 w4) := zAI hfr; have hp0 : Hp w w4 [(w.heap.size, [.int .i64 ty, .int .i64 co, .int .i64 n, .int .i64 wi, .int .i64 si], 117), (w.heap.size + 1, [.int .i64 0, .slice none 0 0, .int .i64 0, .int .i64 0, .int .i64 0, .string ⟨#[]⟩, .string ⟨#[]⟩, .string ⟨#[]⟩, .int .i64 0, .int .i64 0, .int .i64 0, .string ⟨#[]⟩, .string ⟨#[]⟩, .string ⟨#[]⟩], 46), (w1.heap.size, [.int .i64 2, .int .i64 0, .int .i64 0, .string ⟨#[]⟩, .string ⟨#[]⟩, .string ⟨#[110]⟩], 44), (w3.heap.size, [.int .i64 1, .int .i64 1, .int .i64 (k), .string ⟨#[]⟩, .string ⟨#[]⟩, .string ⟨#[]⟩], 44)] := Hp.add (Hp.add (l := [(w.heap.size, [.int .i64 ty, .int .i64 co, .int .i64 n, .int .i64 wi, .int .i64 si], 117), (w.heap.size + 1, [.int .i64 0, .slice none 0 0, .int .i64 0, .int .i64 0, .int .i64 0, .string ⟨#[]⟩, .string ⟨#[]⟩, .string ⟨#[]⟩, .int .i64 0, .int .i64 0, .int .i64 0, .string ⟨#[]⟩, .string ⟨#[]⟩, .string ⟨#[]⟩], 46)]) (hp2 HB1.out) HB12.out HW2.out) (zAA HB3.out HB34.out HB3.out.size) HW4.out; have HP := hid hp0; have c1 : w4.cell? ⟨w.heap.size, 1, none⟩ = some (.int .i64 co) := HP.out.c 0 (by simp) 1; clear hblk hfr hp0)
  | (go_at_call_of 9 (Value.int IntKind.i64 co); refine (HP9.out _).mono ?_; rintro e w4 ⟨rfl, rfl⟩)
  | (go_at_call_of 21 (Value.string ⟨#[115]⟩); refine (zA3 _ _).mono ?_; rintro e w5 ⟨rfl, hb5⟩; have HP5 := hid (HP.out.next hb5); clear hb5)
  | (go_at_call 19; refine (compare_any 5 (ownO (txt [115])) (⟨1, 2, 0, txt [120], txt [], txt []⟩ : Opd) _).mono ?_; rintro e w6 ⟨rfl, hb6⟩; have HP6' := hid (HP5.out.next hb6); clear hb6)
  | ((with_reducible show wpList _ _ _ (Oper.mk _ (.store 46 _ _) _ _ _ _ :: _) _ _); refine zAY 46 (w.heap.size + 1) 0 [.int .i64 0, .slice none 0 0, .int .i64 0, .int .i64 0, .int .i64 0, .string ⟨#[]⟩, .string ⟨#[]⟩, .string ⟨#[]⟩, .int .i64 0, .int .i64 0, .int .i64 0, .string ⟨#[]⟩, .string ⟨#[]⟩, .string ⟨#[]⟩] 46 [.int .i64 5, .slice none 0 0, .int .i64 2, .int .i64 0, .int .i64 0, .string ⟨#[]⟩, .string ⟨#[]⟩, .string ⟨#[115]⟩, .int .i64 1, .int .i64 2, .int .i64 0, .string ⟨#[120]⟩, .string ⟨#[]⟩, .string ⟨#[]⟩] (HP6'.out.b 1 (by simp)) ?_; intro w7 hblk hfr; have HW6 := hid hblk; have HBE : Hid (Below w.heap.size w w7) := zAG HP6'.out.bel hfr (by omega); clear hblk hfr))
 exact zAR (w.heap.size + 1) [.int .i64 5, .slice none 0 0, .int .i64 2, .int .i64 0, .int .i64 0, .string ⟨#[]⟩, .string ⟨#[]⟩, .string ⟨#[115]⟩, .int .i64 1, .int .i64 2, .int .i64 0, .string ⟨#[120]⟩, .string ⟨#[]⟩, .string ⟨#[]⟩] 46 _ HW6.out rfl rfl (by rfl) Tryz.underlying46 rfl (by kernel_rfl) ⟨_, rfl, fun _ _ => zA7 5 (ownO (txt [115])) (⟨1, 2, 0, txt [120], txt [], txt []⟩ : Opd), HBE.out⟩
theorem zJQ (ty co n wi si : Int) (hn1 : -9223372036854775808 ≤ n) (hn2 : n ≤ 9223372036854775807) (hc1 : -9223372036854775808 ≤ co) (hc2 : co ≤ 9223372036854775807) (at_ : Nat) (h2 : at_ ≠ 2) (hco : pkd co 9 = 3) (w : World) (kp : Option Addr) (kc : Nat) :
  Calls Tryz.prog 66 #[.agg #[.int .i64 ty, .int .i64 co, .int .i64 n, .int .i64 wi, .int .i64 si], .int .i64 (at_ : Nat), .slice kp 0 kc] w fun e w' => ∃ cs : List Value, e = .returned (.agg cs.toArray) ∧ (∀ W, (∀ i, w.heap.size ≤ i → TB w' 46 i → W.heap[i]? = w'.heap[i]?) → RdL W (encC (grpC 2 [cmpC 4 nO (numO (pkd n 6)), cmpC 7 nO (numO 1)])) cs) ∧ Below w.heap.size w w' := by
 have d2 : ((at_ : Int) == 2) = false := by first | (simp; done) | (simp; omega)
 have d2b : ¬ (at_ : Int) = 2 := by omega
 have d2c : (at_ = 2) = False := by simp [h2]
 obtain ⟨k, hk⟩ : ∃ k, pkd n 6 = k := ⟨_, rfl⟩
 have HP6 := hid (fun W => zAF n 6 W hn1 hn2 (by decide) (by decide))
 have HP9 := hid (fun W => zAF co 9 W hc1 hc2 (by decide) (by decide))
 rw [hk] at HP6
 try rw [hk]
 rw [hco] at HP9
 have hB := bxs2 w [.int .i64 ty, .int .i64 co, .int .i64 n, .int .i64 wi, .int .i64 si] [.int .i64 0, .slice none 0 0, .int .i64 0, .int .i64 0, .int .i64 0, .string ⟨#[]⟩, .string ⟨#[]⟩, .string ⟨#[]⟩, .int .i64 0, .int .i64 0, .int .i64 0, .string ⟨#[]⟩, .string ⟨#[]⟩, .string ⟨#[]⟩] 117 46
 have HB := hid hB
 have a2 : (0 : Int) ≤ 0 := by omega
 clear hB hn1 hn2 hc1 hc2 hk hco d2b
 go_enter Tryz.func66, Tryz.ntmps66
 go_wp2_with (first
  | (go_at_call 21; refine (zA3 _ _).mono ?_; rintro e w1 ⟨rfl, hb1⟩; have HB1 := hid (HB.out.next hb1); clear hb1)
  | ((with_reducible refine gSq ?_); refine zAT 44 w1.heap.size 0 [.int .i64 0, .int .i64 0, .int .i64 0, .string ⟨#[]⟩, .string ⟨#[]⟩, .string ⟨#[]⟩] 44 (opV (ownO ⟨#[110]⟩)) [.int .i64 2, .int .i64 0, .int .i64 0, .string ⟨#[]⟩, .string ⟨#[]⟩, .string ⟨#[110]⟩] (heap_alloc_new _ _) ?_; intro w2 hblk hfr; have HW2 := hid hblk; have HB12 : Hid (Below w1.heap.size w1 w2) := zAI hfr; have c2 : w2.cell? ⟨w.heap.size, 2, none⟩ = some (.int .i64 n) := (HB1.out.next HB12.out).c 0 (by simp) 2; clear hblk hfr)
  | (go_at_call_of 9 (Value.int IntKind.i64 n); refine (HP6.out _).mono ?_; rintro e w2 ⟨rfl, rfl⟩)
  | (go_at_call 20; refine (zAO _ _).mono ?_; rintro e w3 ⟨rfl, hb3⟩; have HB3 := hid hb3; clear hb3)
  | ((with_reducible refine gSq ?_); refine zAT 44 w3.heap.size 0 [.int .i64 0, .int .i64 0, .int .i64 0, .string ⟨#[]⟩, .string ⟨#[]⟩, .string ⟨#[]⟩] 44 (opV (numO k)) [.int .i64 1, .int .i64 1, .int .i64 (k), .string ⟨#[]⟩, .string ⟨#[]⟩, .string ⟨#[]⟩] (heap_alloc_new _ _) ?_; intro w4 hblk hfr; have HW4 := hid hblk; have HB34 : Hid (Below w3.heap.size w3 w4) := zAI hfr; have hp0 : Hp w w4 [(w.heap.size, [.int .i64 ty, .int .i64 co, .int .i64 n, .int .i64 wi, .int .i64 si], 117), (w.heap.size + 1, [.int .i64 0, .slice none 0 0, .int .i64 0, .int .i64 0, .int .i64 0, .string ⟨#[]⟩, .string ⟨#[]⟩, .string ⟨#[]⟩, .int .i64 0, .int .i64 0, .int .i64 0, .string ⟨#[]⟩, .string ⟨#[]⟩, .string ⟨#[]⟩], 46), (w1.heap.size, [.int .i64 2, .int .i64 0, .int .i64 0, .string ⟨#[]⟩, .string ⟨#[]⟩, .string ⟨#[110]⟩], 44), (w3.heap.size, [.int .i64 1, .int .i64 1, .int .i64 (k), .string ⟨#[]⟩, .string ⟨#[]⟩, .string ⟨#[]⟩], 44)] := Hp.add (Hp.add (l := [(w.heap.size, [.int .i64 ty, .int .i64 co, .int .i64 n, .int .i64 wi, .int .i64 si], 117), (w.heap.size + 1, [.int .i64 0, .slice none 0 0, .int .i64 0, .int .i64 0, .int .i64 0, .string ⟨#[]⟩, .string ⟨#[]⟩, .string ⟨#[]⟩, .int .i64 0, .int .i64 0, .int .i64 0, .string ⟨#[]⟩, .string ⟨#[]⟩, .string ⟨#[]⟩], 46)]) (hp2 HB1.out) HB12.out HW2.out) (zAA HB3.out HB34.out HB3.out.size) HW4.out; have HP := hid hp0; have c1 : w4.cell? ⟨w.heap.size, 1, none⟩ = some (.int .i64 co) := HP.out.c 0 (by simp) 1; clear hblk hfr hp0)
  | (go_at_call_of 9 (Value.int IntKind.i64 co); refine (HP9.out _).mono ?_; rintro e w4 ⟨rfl, rfl⟩))
 clear HW2 HB12 HB3 HW4 HB34 c1 c2 HB1 HB HP6 HP9
 generalize w1.heap.size = b7 at HP ⊢
 generalize w3.heap.size = b9 at HP ⊢
 have HPD := hid (HP.out.next (Below.drew (Below.refl _ _)))
 refine zAV (by kernel_rfl) (fun i w9 v => ([(fun w9 v => v = .agg #[.int .i64 2, .int .i64 0, .int .i64 0, .string ⟨#[]⟩, .string ⟨#[]⟩, .string ⟨#[110]⟩]), (fun w9 v => v = .int .i64 k), (fun w9 v => v = .agg #[.int .i64 1, .int .i64 1, .int .i64 (k), .string ⟨#[]⟩, .string ⟨#[]⟩, .string ⟨#[]⟩]), (fun w9 v => v = .agg #[.int .i64 4, .slice none 0 0, .int .i64 2, .int .i64 0, .int .i64 0, .string ⟨#[]⟩, .string ⟨#[]⟩, .string ⟨#[110]⟩, .int .i64 1, .int .i64 1, .int .i64 (k), .string ⟨#[]⟩, .string ⟨#[]⟩, .string ⟨#[]⟩]), (fun w9 v => v = .agg #[.int .i64 2, .int .i64 0, .int .i64 0, .string ⟨#[]⟩, .string ⟨#[]⟩, .string ⟨#[110]⟩]), (fun w9 v => v = .agg #[.int .i64 1, .int .i64 1, .int .i64 (1), .string ⟨#[]⟩, .string ⟨#[]⟩, .string ⟨#[]⟩]), (fun w9 v => v = .agg #[.int .i64 7, .slice none 0 0, .int .i64 2, .int .i64 0, .int .i64 0, .string ⟨#[]⟩, .string ⟨#[]⟩, .string ⟨#[110]⟩, .int .i64 1, .int .i64 1, .int .i64 (1), .string ⟨#[]⟩, .string ⟨#[]⟩, .string ⟨#[]⟩]), (fun w9 v => ∃ (b : Nat), v = .slice (some ⟨b, 0, none⟩) 2 2 ∧ w9.heap[b]? = some (.cells #[.int .i64 4, .slice none 0 0, .int .i64 2, .int .i64 0, .int .i64 0, .string ⟨#[]⟩, .string ⟨#[]⟩, .string ⟨#[110]⟩, .int .i64 1, .int .i64 1, .int .i64 (k), .string ⟨#[]⟩, .string ⟨#[]⟩, .string ⟨#[]⟩, .int .i64 7, .slice none 0 0, .int .i64 2, .int .i64 0, .int .i64 0, .string ⟨#[]⟩, .string ⟨#[]⟩, .string ⟨#[110]⟩, .int .i64 1, .int .i64 1, .int .i64 (1), .string ⟨#[]⟩, .string ⟨#[]⟩, .string ⟨#[]⟩] 46 (0, 0)) ∧ w.heap.size + 1 < b), (fun w9 v => ∃ (b : Nat), v = .agg #[.int .i64 2, .slice (some ⟨b, 0, none⟩) 2 2, .int .i64 0, .int .i64 0, .int .i64 0, .string ⟨#[]⟩, .string ⟨#[]⟩, .string ⟨#[]⟩, .int .i64 0, .int .i64 0, .int .i64 0, .string ⟨#[]⟩, .string ⟨#[]⟩, .string ⟨#[]⟩] ∧ w9.heap[b]? = some (.cells #[.int .i64 4, .slice none 0 0, .int .i64 2, .int .i64 0, .int .i64 0, .string ⟨#[]⟩, .string ⟨#[]⟩, .string ⟨#[110]⟩, .int .i64 1, .int .i64 1, .int .i64 (k), .string ⟨#[]⟩, .string ⟨#[]⟩, .string ⟨#[]⟩, .int .i64 7, .slice none 0 0, .int .i64 2, .int .i64 0, .int .i64 0, .string ⟨#[]⟩, .string ⟨#[]⟩, .string ⟨#[110]⟩, .int .i64 1, .int .i64 1, .int .i64 (1), .string ⟨#[]⟩, .string ⟨#[]⟩, .string ⟨#[]⟩] 46 (0, 0)) ∧ w.heap.size + 1 < b)] : List (World → Value → Prop)).getD i (fun _ _ => True) w9 v) (fun W => Hp w W [(w.heap.size, [.int .i64 ty, .int .i64 co, .int .i64 n, .int .i64 wi, .int .i64 si], 117), (w.heap.size + 1, [.int .i64 0, .slice none 0 0, .int .i64 0, .int .i64 0, .int .i64 0, .string ⟨#[]⟩, .string ⟨#[]⟩, .string ⟨#[]⟩, .int .i64 0, .int .i64 0, .int .i64 0, .string ⟨#[]⟩, .string ⟨#[]⟩, .string ⟨#[]⟩], 46), (b7, [.int .i64 2, .int .i64 0, .int .i64 0, .string ⟨#[]⟩, .string ⟨#[]⟩, .string ⟨#[110]⟩], 44), (b9, [.int .i64 1, .int .i64 1, .int .i64 (k), .string ⟨#[]⟩, .string ⟨#[]⟩, .string ⟨#[]⟩], 44)]) 86 9 rfl rfl (by kernel_rfl) (by kernel_rfl) (fun W W' => Below W.heap.size W W') ?hmon (HPD.out) (zAC.cons ?o0 (zAC.cons ?o1 (zAC.cons ?o2 (zAC.cons ?o3 (zAC.cons ?o4 (zAC.cons ?o5 (zAC.cons ?o6 (zAC.cons ?o7 (zAC.cons ?o8 zAC.nil))))))))) ?hend
 case hmon =>
  intro q W W' v hb h
  rcases q with _ | _ | _ | _ | _ | _ | _ | _ | _ | q
  . exact h
  . exact h
  . exact h
  . exact h
  . exact h
  . exact h
  . exact h
  . obtain ⟨b, e, h1, h2⟩ := h; exact ⟨b, e, (hb.block _ (zAD h1)).trans h1, h2⟩
  . obtain ⟨b, e, h1, h2⟩ := h; exact ⟨b, e, (hb.block _ (zAD h1)).trans h1, h2⟩
  . exact h
 case o0 =>
  intro a W hB hd ho
  have e7 : a.eval (.tmp 7) = .pointer (some ⟨b7, 0, none⟩) := ho 7 (by kernel_rfl)
  exact zBZ 44 _ rfl _ _ e7 [.int .i64 2, .int .i64 0, .int .i64 0, .string ⟨#[]⟩, .string ⟨#[]⟩, .string ⟨#[110]⟩] _ (hB.r 2 (by simp)) Tryz.underlying44 rfl (by kernel_rfl) ⟨_, rfl, rfl, hB, Below.refl _ _⟩
 case o1 =>
  intro a W hB hd ho
  have e8 : a.eval (.tmp 8) = .int .i64 k := ho 8 (by kernel_rfl)
  exact zA1 _ (by simp) _ e8 ⟨_, rfl, rfl, hB, Below.refl _ _⟩
 case o2 =>
  intro a W hB hd ho
  have e53 : a.eval (.tmp 53) = .int .i64 k := hd 1 53 (by kernel_rfl)
  refine zA0 20 zB8 _ _ rfl #[.int .i64 k] (by simp [ev_c, e53]) _ (zAO k W) ?_
  rintro e W' ⟨rfl, hb⟩
  exact ⟨_, rfl, _, rfl, rfl, hB.next hb, hb⟩
 case o3 =>
  intro a W hB hd ho
  have e52 : a.eval (.tmp 52) = opV nO := hd 0 52 (by kernel_rfl)
  have e54 : a.eval (.tmp 54) = opV (numO k) := hd 2 54 (by kernel_rfl)
  refine zA0 19 zBS _ _ rfl #[.int .i64 4, opV nO, opV (numO k)] (by simp [ev_c, e52, e54]) _ (compare_any 4 nO (numO k) W) ?_
  rintro e W' ⟨rfl, hb⟩
  exact ⟨_, rfl, _, rfl, rfl, hB.next hb, hb⟩
 case o4 =>
  intro a W hB hd ho
  have e7 : a.eval (.tmp 7) = .pointer (some ⟨b7, 0, none⟩) := ho 7 (by kernel_rfl)
  exact zBZ 44 _ rfl _ _ e7 [.int .i64 2, .int .i64 0, .int .i64 0, .string ⟨#[]⟩, .string ⟨#[]⟩, .string ⟨#[110]⟩] _ (hB.r 2 (by simp)) Tryz.underlying44 rfl (by kernel_rfl) ⟨_, rfl, rfl, hB, Below.refl _ _⟩
 case o5 =>
  intro a W hB hd ho
  refine zA0 20 zB8 _ _ rfl #[.int .i64 1] (by simp [ev_c]) _ (zAO 1 W) ?_
  rintro e W' ⟨rfl, hb⟩
  exact ⟨_, rfl, _, rfl, rfl, hB.next hb, hb⟩
 case o6 =>
  intro a W hB hd ho
  have e56 : a.eval (.tmp 56) = opV nO := hd 4 56 (by kernel_rfl)
  have e57 : a.eval (.tmp 57) = opV (numO 1) := hd 5 57 (by kernel_rfl)
  refine zA0 19 zBS _ _ rfl #[.int .i64 7, opV nO, opV (numO 1)] (by simp [ev_c, e56, e57]) _ (compare_any 7 nO (numO 1) W) ?_
  rintro e W' ⟨rfl, hb⟩
  exact ⟨_, rfl, _, rfl, rfl, hB.next hb, hb⟩
 case o7 =>
  intro a W hB hd ho
  have e55 : a.eval (.tmp 55) = .agg #[.int .i64 4, .slice none 0 0, .int .i64 2, .int .i64 0, .int .i64 0, .string ⟨#[]⟩, .string ⟨#[]⟩, .string ⟨#[110]⟩, .int .i64 1, .int .i64 1, .int .i64 (k), .string ⟨#[]⟩, .string ⟨#[]⟩, .string ⟨#[]⟩] := hd 3 55 (by kernel_rfl)
  have e58 : a.eval (.tmp 58) = .agg #[.int .i64 7, .slice none 0 0, .int .i64 2, .int .i64 0, .int .i64 0, .string ⟨#[]⟩, .string ⟨#[]⟩, .string ⟨#[110]⟩, .int .i64 1, .int .i64 1, .int .i64 (1), .string ⟨#[]⟩, .string ⟨#[]⟩, .string ⟨#[]⟩] := hd 6 58 (by kernel_rfl)
  have hal : Below W.heap.size W (W.alloc (.cells #[.int .i64 4, .slice none 0 0, .int .i64 2, .int .i64 0, .int .i64 0, .string ⟨#[]⟩, .string ⟨#[]⟩, .string ⟨#[110]⟩, .int .i64 1, .int .i64 1, .int .i64 (k), .string ⟨#[]⟩, .string ⟨#[]⟩, .string ⟨#[]⟩, .int .i64 7, .slice none 0 0, .int .i64 2, .int .i64 0, .int .i64 0, .string ⟨#[]⟩, .string ⟨#[]⟩, .string ⟨#[110]⟩, .int .i64 1, .int .i64 1, .int .i64 (1), .string ⟨#[]⟩, .string ⟨#[]⟩, .string ⟨#[]⟩] 46)) := (Below.refl _ _).alloc (Nat.le_refl _) _
  refine zBT 40 2 _ rfl #[(0, .agg #[.int .i64 4, .slice none 0 0, .int .i64 2, .int .i64 0, .int .i64 0, .string ⟨#[]⟩, .string ⟨#[]⟩, .string ⟨#[110]⟩, .int .i64 1, .int .i64 1, .int .i64 (k), .string ⟨#[]⟩, .string ⟨#[]⟩, .string ⟨#[]⟩]), (1, .agg #[.int .i64 7, .slice none 0 0, .int .i64 2, .int .i64 0, .int .i64 0, .string ⟨#[]⟩, .string ⟨#[]⟩, .string ⟨#[110]⟩, .int .i64 1, .int .i64 1, .int .i64 (1), .string ⟨#[]⟩, .string ⟨#[]⟩, .string ⟨#[]⟩])] (by simp [ev_c, e55, e58]) (.slice (some ⟨W.heap.size, 0, none⟩) 2 2) (W.alloc (.cells #[.int .i64 4, .slice none 0 0, .int .i64 2, .int .i64 0, .int .i64 0, .string ⟨#[]⟩, .string ⟨#[]⟩, .string ⟨#[110]⟩, .int .i64 1, .int .i64 1, .int .i64 (k), .string ⟨#[]⟩, .string ⟨#[]⟩, .string ⟨#[]⟩, .int .i64 7, .slice none 0 0, .int .i64 2, .int .i64 0, .int .i64 0, .string ⟨#[]⟩, .string ⟨#[]⟩, .string ⟨#[110]⟩, .int .i64 1, .int .i64 1, .int .i64 (1), .string ⟨#[]⟩, .string ⟨#[]⟩, .string ⟨#[]⟩] 46)) (by kernel_rfl) ⟨_, rfl, ⟨W.heap.size, rfl, heap_alloc_new _ _, (by have := zAD (hB.b 1 (by simp)); simp at this; omega)⟩, hB.next hal, hal⟩
 case o8 =>
  intro a W hB hd ho
  obtain ⟨b, e59, h1, h2⟩ : ∃ (b : Nat), a.eval (.tmp 59) = .slice (some ⟨b, 0, none⟩) 2 2 ∧ W.heap[b]? = some (.cells #[.int .i64 4, .slice none 0 0, .int .i64 2, .int .i64 0, .int .i64 0, .string ⟨#[]⟩, .string ⟨#[]⟩, .string ⟨#[110]⟩, .int .i64 1, .int .i64 1, .int .i64 (k), .string ⟨#[]⟩, .string ⟨#[]⟩, .string ⟨#[]⟩, .int .i64 7, .slice none 0 0, .int .i64 2, .int .i64 0, .int .i64 0, .string ⟨#[]⟩, .string ⟨#[]⟩, .string ⟨#[110]⟩, .int .i64 1, .int .i64 1, .int .i64 (1), .string ⟨#[]⟩, .string ⟨#[]⟩, .string ⟨#[]⟩] 46 (0, 0)) ∧ w.heap.size + 1 < b := hd 7 59 (by kernel_rfl)
  exact zCC 46 _ rfl #[(0, .int .i64 2), (1, .slice (some ⟨b, 0, none⟩) 2 2)] (by simp [ev_c, e59]) (.agg #[.int .i64 2, .slice (some ⟨b, 0, none⟩) 2 2, .int .i64 0, .int .i64 0, .int .i64 0, .string ⟨#[]⟩, .string ⟨#[]⟩, .string ⟨#[]⟩, .int .i64 0, .int .i64 0, .int .i64 0, .string ⟨#[]⟩, .string ⟨#[]⟩, .string ⟨#[]⟩]) (by kernel_rfl) ⟨_, rfl, ⟨b, rfl, h1, h2⟩, hB, Below.refl _ _⟩
 case hend =>
  intro vs W o ho hB hT
  obtain ⟨b, e8, h1, h2⟩ : ∃ (b : Nat), vs 8 = .agg #[.int .i64 2, .slice (some ⟨b, 0, none⟩) 2 2, .int .i64 0, .int .i64 0, .int .i64 0, .string ⟨#[]⟩, .string ⟨#[]⟩, .string ⟨#[]⟩, .int .i64 0, .int .i64 0, .int .i64 0, .string ⟨#[]⟩, .string ⟨#[]⟩, .string ⟨#[]⟩] ∧ W.heap[b]? = some (.cells #[.int .i64 4, .slice none 0 0, .int .i64 2, .int .i64 0, .int .i64 0, .string ⟨#[]⟩, .string ⟨#[]⟩, .string ⟨#[110]⟩, .int .i64 1, .int .i64 1, .int .i64 (k), .string ⟨#[]⟩, .string ⟨#[]⟩, .string ⟨#[]⟩, .int .i64 7, .slice none 0 0, .int .i64 2, .int .i64 0, .int .i64 0, .string ⟨#[]⟩, .string ⟨#[]⟩, .string ⟨#[110]⟩, .int .i64 1, .int .i64 1, .int .i64 (1), .string ⟨#[]⟩, .string ⟨#[]⟩, .string ⟨#[]⟩] 46 (0, 0)) ∧ w.heap.size + 1 < b := hT 8 (by decide)
  cases (show some _ = some o from ho)
  simp only [List.toList_toArray, List.take_succ_cons, List.take_zero, fill, if_true, Act.put, List.setIfInBounds_toArray, List.set_cons_zero, List.set_cons_succ, e8]
  refine op_st 46 _ _ rfl (w.heap.size + 1) 0 [.int .i64 0, .slice none 0 0, .int .i64 0, .int .i64 0, .int .i64 0, .string ⟨#[]⟩, .string ⟨#[]⟩, .string ⟨#[]⟩, .int .i64 0, .int .i64 0, .int .i64 0, .string ⟨#[]⟩, .string ⟨#[]⟩, .string ⟨#[]⟩] 46 (.agg #[.int .i64 2, .slice (some ⟨b, 0, none⟩) 2 2, .int .i64 0, .int .i64 0, .int .i64 0, .string ⟨#[]⟩, .string ⟨#[]⟩, .string ⟨#[]⟩, .int .i64 0, .int .i64 0, .int .i64 0, .string ⟨#[]⟩, .string ⟨#[]⟩, .string ⟨#[]⟩]) [.int .i64 2, .slice (some ⟨b, 0, none⟩) 2 2, .int .i64 0, .int .i64 0, .int .i64 0, .string ⟨#[]⟩, .string ⟨#[]⟩, .string ⟨#[]⟩, .int .i64 0, .int .i64 0, .int .i64 0, .string ⟨#[]⟩, .string ⟨#[]⟩, .string ⟨#[]⟩] (by rfl) (by rfl) (by rfl) (hB.b 1 (by simp)) (by simp) (by kernel_rfl) (by rfl) ?_
  intro w5 hblk hfr
  have HW5 := hid hblk
  have HBE : Hid (Below w.heap.size w w5) := zAG hB.bel hfr (by omega)
  have h5 : w5.heap[b]? = some (.cells #[.int .i64 4, .slice none 0 0, .int .i64 2, .int .i64 0, .int .i64 0, .string ⟨#[]⟩, .string ⟨#[]⟩, .string ⟨#[110]⟩, .int .i64 1, .int .i64 1, .int .i64 (k), .string ⟨#[]⟩, .string ⟨#[]⟩, .string ⟨#[]⟩, .int .i64 7, .slice none 0 0, .int .i64 2, .int .i64 0, .int .i64 0, .string ⟨#[]⟩, .string ⟨#[]⟩, .string ⟨#[110]⟩, .int .i64 1, .int .i64 1, .int .i64 (1), .string ⟨#[]⟩, .string ⟨#[]⟩, .string ⟨#[]⟩] 46 (0, 0)) := (hfr.block b (zAD h1) (by omega)).trans h1
  have HRR : Hid (∀ W, (∀ i, w.heap.size ≤ i → TB w5 46 i → W.heap[i]? = w5.heap[i]?) → RdL W (encC (grpC 2 [cmpC 4 nO (numO k), cmpC 7 nO (numO 1)])) [.int .i64 2, .slice (some ⟨b, 0, none⟩) 2 2, .int .i64 0, .int .i64 0, .int .i64 0, .string ⟨#[]⟩, .string ⟨#[]⟩, .string ⟨#[]⟩, .int .i64 0, .int .i64 0, .int .i64 0, .string ⟨#[]⟩, .string ⟨#[]⟩, .string ⟨#[]⟩]) := fun W hW => .cons (.lit _) (.cons (zB4 (l := [cmpC 4 nO (numO k), cmpC 7 nO (numO 1)].map encC) ((hW b (by omega) ⟨_, h5⟩).trans h5) (by simp) (by simp [maxLen]) (zBU (zA7 4 nO (numO k)) (zIM (zA7 7 nO (numO 1))))) (zAX [.int .i64 0, .int .i64 0, .int .i64 0, .string ⟨#[]⟩, .string ⟨#[]⟩, .string ⟨#[]⟩, .int .i64 0, .int .i64 0, .int .i64 0, .string ⟨#[]⟩, .string ⟨#[]⟩, .string ⟨#[]⟩]))
  clear hblk hfr h5 h1 h2
  go_wp2_with fail
  exact zAR (w.heap.size + 1) [.int .i64 2, .slice (some ⟨b, 0, none⟩) 2 2, .int .i64 0, .int .i64 0, .int .i64 0, .string ⟨#[]⟩, .string ⟨#[]⟩, .string ⟨#[]⟩, .int .i64 0, .int .i64 0, .int .i64 0, .string ⟨#[]⟩, .string ⟨#[]⟩, .string ⟨#[]⟩] 46 _ HW5.out rfl rfl (by rfl) Tryz.underlying46 rfl (by kernel_rfl) ⟨_, rfl, HRR.out, HBE.out⟩
theorem zJS (ty co n wi si : Int) (hn1 : -9223372036854775808 ≤ n) (hn2 : n ≤ 9223372036854775807) (hc1 : -9223372036854775808 ≤ co) (hc2 : co ≤ 9223372036854775807) (at_ : Nat) (h2 : at_ ≠ 2) (hco : pkd co 9 = 4) (w : World) (kp : Option Addr) (kc : Nat) :
  Calls Tryz.prog 66 #[.agg #[.int .i64 ty, .int .i64 co, .int .i64 n, .int .i64 wi, .int .i64 si], .int .i64 (at_ : Nat), .slice kp 0 kc] w fun e w' => ∃ cs : List Value, e = .returned (.agg cs.toArray) ∧ (∀ W, (∀ i, w.heap.size ≤ i → TB w' 46 i → W.heap[i]? = w'.heap[i]?) → RdL W (encC (grpC 1 [cmpC 4 (numO (pkd n 6)) nO, grpC 3 [cmpC 4 nO (numO (pkd n 6))]])) cs) ∧ Below w.heap.size w w' := by
 have d2 : ((at_ : Int) == 2) = false := by first | (simp; done) | (simp; omega)
 have d2b : ¬ (at_ : Int) = 2 := by omega
 have d2c : (at_ = 2) = False := by simp [h2]
 obtain ⟨k, hk⟩ : ∃ k, pkd n 6 = k := ⟨_, rfl⟩
 have HP6 := hid (fun W => zAF n 6 W hn1 hn2 (by decide) (by decide))
 have HP9 := hid (fun W => zAF co 9 W hc1 hc2 (by decide) (by decide))
 rw [hk] at HP6
 try rw [hk]
 rw [hco] at HP9
 have hB := bxs2 w [.int .i64 ty, .int .i64 co, .int .i64 n, .int .i64 wi, .int .i64 si] [.int .i64 0, .slice none 0 0, .int .i64 0, .int .i64 0, .int .i64 0, .string ⟨#[]⟩, .string ⟨#[]⟩, .string ⟨#[]⟩, .int .i64 0, .int .i64 0, .int .i64 0, .string ⟨#[]⟩, .string ⟨#[]⟩, .string ⟨#[]⟩] 117 46
 have HB := hid hB
 have a2 : (0 : Int) ≤ 0 := by omega
 clear hB hn1 hn2 hc1 hc2 hk hco d2b
 go_enter Tryz.func66, Tryz.ntmps66
 go_wp2_with (first
  | (go_at_call 21; refine (zA3 _ _).mono ?_; rintro e w1 ⟨rfl, hb1⟩; have HB1 := hid (HB.out.next hb1); clear hb1)
  | ((with_reducible refine gSq ?_); refine zAT 44 w1.heap.size 0 [.int .i64 0, .int .i64 0, .int .i64 0, .string ⟨#[]⟩, .string ⟨#[]⟩, .string ⟨#[]⟩] 44 (opV (ownO ⟨#[110]⟩)) [.int .i64 2, .int .i64 0, .int .i64 0, .string ⟨#[]⟩, .string ⟨#[]⟩, .string ⟨#[110]⟩] (heap_alloc_new _ _) ?_; intro w2 hblk hfr; have HW2 := hid hblk; have HB12 : Hid (Below w1.heap.size w1 w2) := zAI hfr; have c2 : w2.cell? ⟨w.heap.size, 2, none⟩ = some (.int .i64 n) := (HB1.out.next HB12.out).c 0 (by simp) 2; clear hblk hfr)
  | (go_at_call_of 9 (Value.int IntKind.i64 n); refine (HP6.out _).mono ?_; rintro e w2 ⟨rfl, rfl⟩)
  | (go_at_call 20; refine (zAO _ _).mono ?_; rintro e w3 ⟨rfl, hb3⟩; have HB3 := hid hb3; clear hb3)
  | ((with_reducible refine gSq ?_); refine zAT 44 w3.heap.size 0 [.int .i64 0, .int .i64 0, .int .i64 0, .string ⟨#[]⟩, .string ⟨#[]⟩, .string ⟨#[]⟩] 44 (opV (numO k)) [.int .i64 1, .int .i64 1, .int .i64 (k), .string ⟨#[]⟩, .string ⟨#[]⟩, .string ⟨#[]⟩] (heap_alloc_new _ _) ?_; intro w4 hblk hfr; have HW4 := hid hblk; have HB34 : Hid (Below w3.heap.size w3 w4) := zAI hfr; have hp0 : Hp w w4 [(w.heap.size, [.int .i64 ty, .int .i64 co, .int .i64 n, .int .i64 wi, .int .i64 si], 117), (w.heap.size + 1, [.int .i64 0, .slice none 0 0, .int .i64 0, .int .i64 0, .int .i64 0, .string ⟨#[]⟩, .string ⟨#[]⟩, .string ⟨#[]⟩, .int .i64 0, .int .i64 0, .int .i64 0, .string ⟨#[]⟩, .string ⟨#[]⟩, .string ⟨#[]⟩], 46), (w1.heap.size, [.int .i64 2, .int .i64 0, .int .i64 0, .string ⟨#[]⟩, .string ⟨#[]⟩, .string ⟨#[110]⟩], 44), (w3.heap.size, [.int .i64 1, .int .i64 1, .int .i64 (k), .string ⟨#[]⟩, .string ⟨#[]⟩, .string ⟨#[]⟩], 44)] := Hp.add (Hp.add (l := [(w.heap.size, [.int .i64 ty, .int .i64 co, .int .i64 n, .int .i64 wi, .int .i64 si], 117), (w.heap.size + 1, [.int .i64 0, .slice none 0 0, .int .i64 0, .int .i64 0, .int .i64 0, .string ⟨#[]⟩, .string ⟨#[]⟩, .string ⟨#[]⟩, .int .i64 0, .int .i64 0, .int .i64 0, .string ⟨#[]⟩, .string ⟨#[]⟩, .string ⟨#[]⟩], 46)]) (hp2 HB1.out) HB12.out HW2.out) (zAA HB3.out HB34.out HB3.out.size) HW4.out; have HP := hid hp0; have c1 : w4.cell? ⟨w.heap.size, 1, none⟩ = some (.int .i64 co) := HP.out.c 0 (by simp) 1; clear hblk hfr hp0)
  | (go_at_call_of 9 (Value.int IntKind.i64 co); refine (HP9.out _).mono ?_; rintro e w4 ⟨rfl, rfl⟩))
 clear HW2 HB12 HB3 HW4 HB34 c1 c2 HB1 HB HP6 HP9
 generalize w1.heap.size = b7 at HP ⊢
 generalize w3.heap.size = b9 at HP ⊢
 have HPD := hid (HP.out.next (Below.drew (Below.refl _ _)))
 refine zAV (by kernel_rfl) (fun i w9 v => ([(fun w9 v => v = .agg #[.int .i64 1, .int .i64 1, .int .i64 (k), .string ⟨#[]⟩, .string ⟨#[]⟩, .string ⟨#[]⟩]), (fun w9 v => v = .agg #[.int .i64 2, .int .i64 0, .int .i64 0, .string ⟨#[]⟩, .string ⟨#[]⟩, .string ⟨#[110]⟩]), (fun w9 v => v = .agg #[.int .i64 4, .slice none 0 0, .int .i64 1, .int .i64 1, .int .i64 (k), .string ⟨#[]⟩, .string ⟨#[]⟩, .string ⟨#[]⟩, .int .i64 2, .int .i64 0, .int .i64 0, .string ⟨#[]⟩, .string ⟨#[]⟩, .string ⟨#[110]⟩]), (fun w9 v => v = .agg #[.int .i64 2, .int .i64 0, .int .i64 0, .string ⟨#[]⟩, .string ⟨#[]⟩, .string ⟨#[110]⟩]), (fun w9 v => v = .int .i64 k), (fun w9 v => v = .agg #[.int .i64 1, .int .i64 1, .int .i64 (k), .string ⟨#[]⟩, .string ⟨#[]⟩, .string ⟨#[]⟩]), (fun w9 v => v = .agg #[.int .i64 4, .slice none 0 0, .int .i64 2, .int .i64 0, .int .i64 0, .string ⟨#[]⟩, .string ⟨#[]⟩, .string ⟨#[110]⟩, .int .i64 1, .int .i64 1, .int .i64 (k), .string ⟨#[]⟩, .string ⟨#[]⟩, .string ⟨#[]⟩]), (fun w9 v => ∃ (b1 : Nat), v = .slice (some ⟨b1, 0, none⟩) 1 1 ∧ w9.heap[b1]? = some (.cells #[.int .i64 4, .slice none 0 0, .int .i64 2, .int .i64 0, .int .i64 0, .string ⟨#[]⟩, .string ⟨#[]⟩, .string ⟨#[110]⟩, .int .i64 1, .int .i64 1, .int .i64 (k), .string ⟨#[]⟩, .string ⟨#[]⟩, .string ⟨#[]⟩] 46 (0, 0)) ∧ w.heap.size + 1 < b1), (fun w9 v => ∃ (b1 : Nat), v = .agg #[.int .i64 3, .slice (some ⟨b1, 0, none⟩) 1 1, .int .i64 0, .int .i64 0, .int .i64 0, .string ⟨#[]⟩, .string ⟨#[]⟩, .string ⟨#[]⟩, .int .i64 0, .int .i64 0, .int .i64 0, .string ⟨#[]⟩, .string ⟨#[]⟩, .string ⟨#[]⟩] ∧ w9.heap[b1]? = some (.cells #[.int .i64 4, .slice none 0 0, .int .i64 2, .int .i64 0, .int .i64 0, .string ⟨#[]⟩, .string ⟨#[]⟩, .string ⟨#[110]⟩, .int .i64 1, .int .i64 1, .int .i64 (k), .string ⟨#[]⟩, .string ⟨#[]⟩, .string ⟨#[]⟩] 46 (0, 0)) ∧ w.heap.size + 1 < b1), (fun w9 v => ∃ (b1 b2 : Nat), v = .slice (some ⟨b2, 0, none⟩) 2 2 ∧ w9.heap[b1]? = some (.cells #[.int .i64 4, .slice none 0 0, .int .i64 2, .int .i64 0, .int .i64 0, .string ⟨#[]⟩, .string ⟨#[]⟩, .string ⟨#[110]⟩, .int .i64 1, .int .i64 1, .int .i64 (k), .string ⟨#[]⟩, .string ⟨#[]⟩, .string ⟨#[]⟩] 46 (0, 0)) ∧ w.heap.size + 1 < b1 ∧ w9.heap[b2]? = some (.cells #[.int .i64 4, .slice none 0 0, .int .i64 1, .int .i64 1, .int .i64 (k), .string ⟨#[]⟩, .string ⟨#[]⟩, .string ⟨#[]⟩, .int .i64 2, .int .i64 0, .int .i64 0, .string ⟨#[]⟩, .string ⟨#[]⟩, .string ⟨#[110]⟩, .int .i64 3, .slice (some ⟨b1, 0, none⟩) 1 1, .int .i64 0, .int .i64 0, .int .i64 0, .string ⟨#[]⟩, .string ⟨#[]⟩, .string ⟨#[]⟩, .int .i64 0, .int .i64 0, .int .i64 0, .string ⟨#[]⟩, .string ⟨#[]⟩, .string ⟨#[]⟩] 46 (0, 0)) ∧ w.heap.size + 1 < b2), (fun w9 v => ∃ (b1 b2 : Nat), v = .agg #[.int .i64 1, .slice (some ⟨b2, 0, none⟩) 2 2, .int .i64 0, .int .i64 0, .int .i64 0, .string ⟨#[]⟩, .string ⟨#[]⟩, .string ⟨#[]⟩, .int .i64 0, .int .i64 0, .int .i64 0, .string ⟨#[]⟩, .string ⟨#[]⟩, .string ⟨#[]⟩] ∧ w9.heap[b1]? = some (.cells #[.int .i64 4, .slice none 0 0, .int .i64 2, .int .i64 0, .int .i64 0, .string ⟨#[]⟩, .string ⟨#[]⟩, .string ⟨#[110]⟩, .int .i64 1, .int .i64 1, .int .i64 (k), .string ⟨#[]⟩, .string ⟨#[]⟩, .string ⟨#[]⟩] 46 (0, 0)) ∧ w.heap.size + 1 < b1 ∧ w9.heap[b2]? = some (.cells #[.int .i64 4, .slice none 0 0, .int .i64 1, .int .i64 1, .int .i64 (k), .string ⟨#[]⟩, .string ⟨#[]⟩, .string ⟨#[]⟩, .int .i64 2, .int .i64 0, .int .i64 0, .string ⟨#[]⟩, .string ⟨#[]⟩, .string ⟨#[110]⟩, .int .i64 3, .slice (some ⟨b1, 0, none⟩) 1 1, .int .i64 0, .int .i64 0, .int .i64 0, .string ⟨#[]⟩, .string ⟨#[]⟩, .string ⟨#[]⟩, .int .i64 0, .int .i64 0, .int .i64 0, .string ⟨#[]⟩, .string ⟨#[]⟩, .string ⟨#[]⟩] 46 (0, 0)) ∧ w.heap.size + 1 < b2)] : List (World → Value → Prop)).getD i (fun _ _ => True) w9 v) (fun W => Hp w W [(w.heap.size, [.int .i64 ty, .int .i64 co, .int .i64 n, .int .i64 wi, .int .i64 si], 117), (w.heap.size + 1, [.int .i64 0, .slice none 0 0, .int .i64 0, .int .i64 0, .int .i64 0, .string ⟨#[]⟩, .string ⟨#[]⟩, .string ⟨#[]⟩, .int .i64 0, .int .i64 0, .int .i64 0, .string ⟨#[]⟩, .string ⟨#[]⟩, .string ⟨#[]⟩], 46), (b7, [.int .i64 2, .int .i64 0, .int .i64 0, .string ⟨#[]⟩, .string ⟨#[]⟩, .string ⟨#[110]⟩], 44), (b9, [.int .i64 1, .int .i64 1, .int .i64 (k), .string ⟨#[]⟩, .string ⟨#[]⟩, .string ⟨#[]⟩], 44)]) 86 11 rfl rfl (by kernel_rfl) (by kernel_rfl) (fun W W' => Below W.heap.size W W') ?hmon (HPD.out) (zAC.cons ?o0 (zAC.cons ?o1 (zAC.cons ?o2 (zAC.cons ?o3 (zAC.cons ?o4 (zAC.cons ?o5 (zAC.cons ?o6 (zAC.cons ?o7 (zAC.cons ?o8 (zAC.cons ?o9 (zAC.cons ?o10 zAC.nil))))))))))) ?hend
 case hmon =>
  intro q W W' v hb h
  rcases q with _ | _ | _ | _ | _ | _ | _ | _ | _ | _ | _ | q
  . exact h
  . exact h
  . exact h
  . exact h
  . exact h
  . exact h
  . exact h
  . obtain ⟨b, e, h1, h2⟩ := h; exact ⟨b, e, (hb.block _ (zAD h1)).trans h1, h2⟩
  . obtain ⟨b, e, h1, h2⟩ := h; exact ⟨b, e, (hb.block _ (zAD h1)).trans h1, h2⟩
  . obtain ⟨b, c, e, h1, h2, h3, h4⟩ := h; exact ⟨b, c, e, (hb.block _ (zAD h1)).trans h1, h2, (hb.block _ (zAD h3)).trans h3, h4⟩
  . obtain ⟨b, c, e, h1, h2, h3, h4⟩ := h; exact ⟨b, c, e, (hb.block _ (zAD h1)).trans h1, h2, (hb.block _ (zAD h3)).trans h3, h4⟩
  . exact h
 case o0 =>
  intro a W hB hd ho
  have e9 : a.eval (.tmp 9) = .pointer (some ⟨b9, 0, none⟩) := ho 9 (by kernel_rfl)
  exact zBZ 44 _ rfl _ _ e9 [.int .i64 1, .int .i64 1, .int .i64 (k), .string ⟨#[]⟩, .string ⟨#[]⟩, .string ⟨#[]⟩] _ (hB.r 3 (by simp)) Tryz.underlying44 rfl (by kernel_rfl) ⟨_, rfl, rfl, hB, Below.refl _ _⟩
 case o1 =>
  intro a W hB hd ho
  have e7 : a.eval (.tmp 7) = .pointer (some ⟨b7, 0, none⟩) := ho 7 (by kernel_rfl)
  exact zBZ 44 _ rfl _ _ e7 [.int .i64 2, .int .i64 0, .int .i64 0, .string ⟨#[]⟩, .string ⟨#[]⟩, .string ⟨#[110]⟩] _ (hB.r 2 (by simp)) Tryz.underlying44 rfl (by kernel_rfl) ⟨_, rfl, rfl, hB, Below.refl _ _⟩
 case o2 =>
  intro a W hB hd ho
  have e63 : a.eval (.tmp 63) = opV (numO k) := hd 0 63 (by kernel_rfl)
  have e64 : a.eval (.tmp 64) = opV nO := hd 1 64 (by kernel_rfl)
  refine zA0 19 zBS _ _ rfl #[.int .i64 4, opV (numO k), opV nO] (by simp [ev_c, e63, e64]) _ (compare_any 4 (numO k) nO W) ?_
  rintro e W' ⟨rfl, hb⟩
  exact ⟨_, rfl, _, rfl, rfl, hB.next hb, hb⟩
 case o3 =>
  intro a W hB hd ho
  have e7 : a.eval (.tmp 7) = .pointer (some ⟨b7, 0, none⟩) := ho 7 (by kernel_rfl)
  exact zBZ 44 _ rfl _ _ e7 [.int .i64 2, .int .i64 0, .int .i64 0, .string ⟨#[]⟩, .string ⟨#[]⟩, .string ⟨#[110]⟩] _ (hB.r 2 (by simp)) Tryz.underlying44 rfl (by kernel_rfl) ⟨_, rfl, rfl, hB, Below.refl _ _⟩
 case o4 =>
  intro a W hB hd ho
  have e8 : a.eval (.tmp 8) = .int .i64 k := ho 8 (by kernel_rfl)
  exact zA1 _ (by simp) _ e8 ⟨_, rfl, rfl, hB, Below.refl _ _⟩
 case o5 =>
  intro a W hB hd ho
  have e67 : a.eval (.tmp 67) = .int .i64 k := hd 4 67 (by kernel_rfl)
  refine zA0 20 zB8 _ _ rfl #[.int .i64 k] (by simp [ev_c, e67]) _ (zAO k W) ?_
  rintro e W' ⟨rfl, hb⟩
  exact ⟨_, rfl, _, rfl, rfl, hB.next hb, hb⟩
 case o6 =>
  intro a W hB hd ho
  have e66 : a.eval (.tmp 66) = opV nO := hd 3 66 (by kernel_rfl)
  have e68 : a.eval (.tmp 68) = opV (numO k) := hd 5 68 (by kernel_rfl)
  refine zA0 19 zBS _ _ rfl #[.int .i64 4, opV nO, opV (numO k)] (by simp [ev_c, e66, e68]) _ (compare_any 4 nO (numO k) W) ?_
  rintro e W' ⟨rfl, hb⟩
  exact ⟨_, rfl, _, rfl, rfl, hB.next hb, hb⟩
 case o7 =>
  intro a W hB hd ho
  have e69 : a.eval (.tmp 69) = .agg #[.int .i64 4, .slice none 0 0, .int .i64 2, .int .i64 0, .int .i64 0, .string ⟨#[]⟩, .string ⟨#[]⟩, .string ⟨#[110]⟩, .int .i64 1, .int .i64 1, .int .i64 (k), .string ⟨#[]⟩, .string ⟨#[]⟩, .string ⟨#[]⟩] := hd 6 69 (by kernel_rfl)
  have hal : Below W.heap.size W (W.alloc (.cells #[.int .i64 4, .slice none 0 0, .int .i64 2, .int .i64 0, .int .i64 0, .string ⟨#[]⟩, .string ⟨#[]⟩, .string ⟨#[110]⟩, .int .i64 1, .int .i64 1, .int .i64 (k), .string ⟨#[]⟩, .string ⟨#[]⟩, .string ⟨#[]⟩] 46)) := (Below.refl _ _).alloc (Nat.le_refl _) _
  refine zBT 40 1 _ rfl #[(0, .agg #[.int .i64 4, .slice none 0 0, .int .i64 2, .int .i64 0, .int .i64 0, .string ⟨#[]⟩, .string ⟨#[]⟩, .string ⟨#[110]⟩, .int .i64 1, .int .i64 1, .int .i64 (k), .string ⟨#[]⟩, .string ⟨#[]⟩, .string ⟨#[]⟩])] (by simp [ev_c, e69]) (.slice (some ⟨W.heap.size, 0, none⟩) 1 1) (W.alloc (.cells #[.int .i64 4, .slice none 0 0, .int .i64 2, .int .i64 0, .int .i64 0, .string ⟨#[]⟩, .string ⟨#[]⟩, .string ⟨#[110]⟩, .int .i64 1, .int .i64 1, .int .i64 (k), .string ⟨#[]⟩, .string ⟨#[]⟩, .string ⟨#[]⟩] 46)) (by kernel_rfl) ⟨_, rfl, ⟨W.heap.size, rfl, heap_alloc_new _ _, (by have := zAD (hB.b 1 (by simp)); simp at this; omega)⟩, hB.next hal, hal⟩
 case o8 =>
  intro a W hB hd ho
  obtain ⟨b1, e70, h1, h2⟩ : ∃ (b1 : Nat), a.eval (.tmp 70) = .slice (some ⟨b1, 0, none⟩) 1 1 ∧ W.heap[b1]? = some (.cells #[.int .i64 4, .slice none 0 0, .int .i64 2, .int .i64 0, .int .i64 0, .string ⟨#[]⟩, .string ⟨#[]⟩, .string ⟨#[110]⟩, .int .i64 1, .int .i64 1, .int .i64 (k), .string ⟨#[]⟩, .string ⟨#[]⟩, .string ⟨#[]⟩] 46 (0, 0)) ∧ w.heap.size + 1 < b1 := hd 7 70 (by kernel_rfl)
  exact zCC 46 _ rfl #[(0, .int .i64 3), (1, .slice (some ⟨b1, 0, none⟩) 1 1)] (by simp [ev_c, e70]) (.agg #[.int .i64 3, .slice (some ⟨b1, 0, none⟩) 1 1, .int .i64 0, .int .i64 0, .int .i64 0, .string ⟨#[]⟩, .string ⟨#[]⟩, .string ⟨#[]⟩, .int .i64 0, .int .i64 0, .int .i64 0, .string ⟨#[]⟩, .string ⟨#[]⟩, .string ⟨#[]⟩]) (by kernel_rfl) ⟨_, rfl, ⟨b1, rfl, h1, h2⟩, hB, Below.refl _ _⟩
 case o9 =>
  intro a W hB hd ho
  have e65 : a.eval (.tmp 65) = .agg #[.int .i64 4, .slice none 0 0, .int .i64 1, .int .i64 1, .int .i64 (k), .string ⟨#[]⟩, .string ⟨#[]⟩, .string ⟨#[]⟩, .int .i64 2, .int .i64 0, .int .i64 0, .string ⟨#[]⟩, .string ⟨#[]⟩, .string ⟨#[110]⟩] := hd 2 65 (by kernel_rfl)
  obtain ⟨b1, e71, h1, h2⟩ : ∃ (b1 : Nat), a.eval (.tmp 71) = .agg #[.int .i64 3, .slice (some ⟨b1, 0, none⟩) 1 1, .int .i64 0, .int .i64 0, .int .i64 0, .string ⟨#[]⟩, .string ⟨#[]⟩, .string ⟨#[]⟩, .int .i64 0, .int .i64 0, .int .i64 0, .string ⟨#[]⟩, .string ⟨#[]⟩, .string ⟨#[]⟩] ∧ W.heap[b1]? = some (.cells #[.int .i64 4, .slice none 0 0, .int .i64 2, .int .i64 0, .int .i64 0, .string ⟨#[]⟩, .string ⟨#[]⟩, .string ⟨#[110]⟩, .int .i64 1, .int .i64 1, .int .i64 (k), .string ⟨#[]⟩, .string ⟨#[]⟩, .string ⟨#[]⟩] 46 (0, 0)) ∧ w.heap.size + 1 < b1 := hd 8 71 (by kernel_rfl)
  have hal : Below W.heap.size W (W.alloc (.cells #[.int .i64 4, .slice none 0 0, .int .i64 1, .int .i64 1, .int .i64 (k), .string ⟨#[]⟩, .string ⟨#[]⟩, .string ⟨#[]⟩, .int .i64 2, .int .i64 0, .int .i64 0, .string ⟨#[]⟩, .string ⟨#[]⟩, .string ⟨#[110]⟩, .int .i64 3, .slice (some ⟨b1, 0, none⟩) 1 1, .int .i64 0, .int .i64 0, .int .i64 0, .string ⟨#[]⟩, .string ⟨#[]⟩, .string ⟨#[]⟩, .int .i64 0, .int .i64 0, .int .i64 0, .string ⟨#[]⟩, .string ⟨#[]⟩, .string ⟨#[]⟩] 46)) := (Below.refl _ _).alloc (Nat.le_refl _) _
  refine zBT 40 2 _ rfl #[(0, .agg #[.int .i64 4, .slice none 0 0, .int .i64 1, .int .i64 1, .int .i64 (k), .string ⟨#[]⟩, .string ⟨#[]⟩, .string ⟨#[]⟩, .int .i64 2, .int .i64 0, .int .i64 0, .string ⟨#[]⟩, .string ⟨#[]⟩, .string ⟨#[110]⟩]), (1, .agg #[.int .i64 3, .slice (some ⟨b1, 0, none⟩) 1 1, .int .i64 0, .int .i64 0, .int .i64 0, .string ⟨#[]⟩, .string ⟨#[]⟩, .string ⟨#[]⟩, .int .i64 0, .int .i64 0, .int .i64 0, .string ⟨#[]⟩, .string ⟨#[]⟩, .string ⟨#[]⟩])] (by simp [ev_c, e65, e71]) (.slice (some ⟨W.heap.size, 0, none⟩) 2 2) (W.alloc (.cells #[.int .i64 4, .slice none 0 0, .int .i64 1, .int .i64 1, .int .i64 (k), .string ⟨#[]⟩, .string ⟨#[]⟩, .string ⟨#[]⟩, .int .i64 2, .int .i64 0, .int .i64 0, .string ⟨#[]⟩, .string ⟨#[]⟩, .string ⟨#[110]⟩, .int .i64 3, .slice (some ⟨b1, 0, none⟩) 1 1, .int .i64 0, .int .i64 0, .int .i64 0, .string ⟨#[]⟩, .string ⟨#[]⟩, .string ⟨#[]⟩, .int .i64 0, .int .i64 0, .int .i64 0, .string ⟨#[]⟩, .string ⟨#[]⟩, .string ⟨#[]⟩] 46)) (by kernel_rfl) ⟨_, rfl, ⟨b1, W.heap.size, rfl, (hal.block _ (zAD h1)).trans h1, h2, heap_alloc_new _ _, (by have := zAD (hB.b 1 (by simp)); simp at this; omega)⟩, hB.next hal, hal⟩
 case o10 =>
  intro a W hB hd ho
  obtain ⟨b1, b2, e72, h1, h2, h3, h4⟩ : ∃ (b1 b2 : Nat), a.eval (.tmp 72) = .slice (some ⟨b2, 0, none⟩) 2 2 ∧ W.heap[b1]? = some (.cells #[.int .i64 4, .slice none 0 0, .int .i64 2, .int .i64 0, .int .i64 0, .string ⟨#[]⟩, .string ⟨#[]⟩, .string ⟨#[110]⟩, .int .i64 1, .int .i64 1, .int .i64 (k), .string ⟨#[]⟩, .string ⟨#[]⟩, .string ⟨#[]⟩] 46 (0, 0)) ∧ w.heap.size + 1 < b1 ∧ W.heap[b2]? = some (.cells #[.int .i64 4, .slice none 0 0, .int .i64 1, .int .i64 1, .int .i64 (k), .string ⟨#[]⟩, .string ⟨#[]⟩, .string ⟨#[]⟩, .int .i64 2, .int .i64 0, .int .i64 0, .string ⟨#[]⟩, .string ⟨#[]⟩, .string ⟨#[110]⟩, .int .i64 3, .slice (some ⟨b1, 0, none⟩) 1 1, .int .i64 0, .int .i64 0, .int .i64 0, .string ⟨#[]⟩, .string ⟨#[]⟩, .string ⟨#[]⟩, .int .i64 0, .int .i64 0, .int .i64 0, .string ⟨#[]⟩, .string ⟨#[]⟩, .string ⟨#[]⟩] 46 (0, 0)) ∧ w.heap.size + 1 < b2 := hd 9 72 (by kernel_rfl)
  exact zCC 46 _ rfl #[(0, .int .i64 1), (1, .slice (some ⟨b2, 0, none⟩) 2 2)] (by simp [ev_c, e72]) (.agg #[.int .i64 1, .slice (some ⟨b2, 0, none⟩) 2 2, .int .i64 0, .int .i64 0, .int .i64 0, .string ⟨#[]⟩, .string ⟨#[]⟩, .string ⟨#[]⟩, .int .i64 0, .int .i64 0, .int .i64 0, .string ⟨#[]⟩, .string ⟨#[]⟩, .string ⟨#[]⟩]) (by kernel_rfl) ⟨_, rfl, ⟨b1, b2, rfl, h1, h2, h3, h4⟩, hB, Below.refl _ _⟩
 case hend =>
  intro vs W o ho hB hT
  obtain ⟨b1, b2, e10, h1, h2, h3, h4⟩ : ∃ (b1 b2 : Nat), vs 10 = .agg #[.int .i64 1, .slice (some ⟨b2, 0, none⟩) 2 2, .int .i64 0, .int .i64 0, .int .i64 0, .string ⟨#[]⟩, .string ⟨#[]⟩, .string ⟨#[]⟩, .int .i64 0, .int .i64 0, .int .i64 0, .string ⟨#[]⟩, .string ⟨#[]⟩, .string ⟨#[]⟩] ∧ W.heap[b1]? = some (.cells #[.int .i64 4, .slice none 0 0, .int .i64 2, .int .i64 0, .int .i64 0, .string ⟨#[]⟩, .string ⟨#[]⟩, .string ⟨#[110]⟩, .int .i64 1, .int .i64 1, .int .i64 (k), .string ⟨#[]⟩, .string ⟨#[]⟩, .string ⟨#[]⟩] 46 (0, 0)) ∧ w.heap.size + 1 < b1 ∧ W.heap[b2]? = some (.cells #[.int .i64 4, .slice none 0 0, .int .i64 1, .int .i64 1, .int .i64 (k), .string ⟨#[]⟩, .string ⟨#[]⟩, .string ⟨#[]⟩, .int .i64 2, .int .i64 0, .int .i64 0, .string ⟨#[]⟩, .string ⟨#[]⟩, .string ⟨#[110]⟩, .int .i64 3, .slice (some ⟨b1, 0, none⟩) 1 1, .int .i64 0, .int .i64 0, .int .i64 0, .string ⟨#[]⟩, .string ⟨#[]⟩, .string ⟨#[]⟩, .int .i64 0, .int .i64 0, .int .i64 0, .string ⟨#[]⟩, .string ⟨#[]⟩, .string ⟨#[]⟩] 46 (0, 0)) ∧ w.heap.size + 1 < b2 := hT 10 (by decide)
  cases (show some _ = some o from ho)
  simp only [List.toList_toArray, List.take_succ_cons, List.take_zero, fill, if_true, Act.put, List.setIfInBounds_toArray, List.set_cons_zero, List.set_cons_succ, e10]
  refine op_st 46 _ _ rfl (w.heap.size + 1) 0 [.int .i64 0, .slice none 0 0, .int .i64 0, .int .i64 0, .int .i64 0, .string ⟨#[]⟩, .string ⟨#[]⟩, .string ⟨#[]⟩, .int .i64 0, .int .i64 0, .int .i64 0, .string ⟨#[]⟩, .string ⟨#[]⟩, .string ⟨#[]⟩] 46 (.agg #[.int .i64 1, .slice (some ⟨b2, 0, none⟩) 2 2, .int .i64 0, .int .i64 0, .int .i64 0, .string ⟨#[]⟩, .string ⟨#[]⟩, .string ⟨#[]⟩, .int .i64 0, .int .i64 0, .int .i64 0, .string ⟨#[]⟩, .string ⟨#[]⟩, .string ⟨#[]⟩]) [.int .i64 1, .slice (some ⟨b2, 0, none⟩) 2 2, .int .i64 0, .int .i64 0, .int .i64 0, .string ⟨#[]⟩, .string ⟨#[]⟩, .string ⟨#[]⟩, .int .i64 0, .int .i64 0, .int .i64 0, .string ⟨#[]⟩, .string ⟨#[]⟩, .string ⟨#[]⟩] (by rfl) (by rfl) (by rfl) (hB.b 1 (by simp)) (by simp) (by kernel_rfl) (by rfl) ?_
  intro w5 hblk hfr
  have HW5 := hid hblk
  have HBE : Hid (Below w.heap.size w w5) := zAG hB.bel hfr (by omega)
  have h5 : w5.heap[b1]? = some (.cells #[.int .i64 4, .slice none 0 0, .int .i64 2, .int .i64 0, .int .i64 0, .string ⟨#[]⟩, .string ⟨#[]⟩, .string ⟨#[110]⟩, .int .i64 1, .int .i64 1, .int .i64 (k), .string ⟨#[]⟩, .string ⟨#[]⟩, .string ⟨#[]⟩] 46 (0, 0)) := (hfr.block b1 (zAD h1) (by omega)).trans h1
  have h6 : w5.heap[b2]? = some (.cells #[.int .i64 4, .slice none 0 0, .int .i64 1, .int .i64 1, .int .i64 (k), .string ⟨#[]⟩, .string ⟨#[]⟩, .string ⟨#[]⟩, .int .i64 2, .int .i64 0, .int .i64 0, .string ⟨#[]⟩, .string ⟨#[]⟩, .string ⟨#[110]⟩, .int .i64 3, .slice (some ⟨b1, 0, none⟩) 1 1, .int .i64 0, .int .i64 0, .int .i64 0, .string ⟨#[]⟩, .string ⟨#[]⟩, .string ⟨#[]⟩, .int .i64 0, .int .i64 0, .int .i64 0, .string ⟨#[]⟩, .string ⟨#[]⟩, .string ⟨#[]⟩] 46 (0, 0)) := (hfr.block b2 (zAD h3) (by omega)).trans h3
  have hn : ∀ W, (∀ i, w.heap.size ≤ i → TB w5 46 i → W.heap[i]? = w5.heap[i]?) → RdL W (encC (grpC 3 [cmpC 4 nO (numO k)])) [.int .i64 3, .slice (some ⟨b1, 0, none⟩) 1 1, .int .i64 0, .int .i64 0, .int .i64 0, .string ⟨#[]⟩, .string ⟨#[]⟩, .string ⟨#[]⟩, .int .i64 0, .int .i64 0, .int .i64 0, .string ⟨#[]⟩, .string ⟨#[]⟩, .string ⟨#[]⟩] := fun W hW => .cons (.lit _) (.cons (zB4 (l := [cmpC 4 nO (numO k)].map encC) ((hW b1 (by omega) ⟨_, h5⟩).trans h5) (by simp) (by simp [maxLen]) (zIM (zA7 4 nO (numO k)))) (zAX [.int .i64 0, .int .i64 0, .int .i64 0, .string ⟨#[]⟩, .string ⟨#[]⟩, .string ⟨#[]⟩, .int .i64 0, .int .i64 0, .int .i64 0, .string ⟨#[]⟩, .string ⟨#[]⟩, .string ⟨#[]⟩]))
  have HRR : Hid (∀ W, (∀ i, w.heap.size ≤ i → TB w5 46 i → W.heap[i]? = w5.heap[i]?) → RdL W (encC (grpC 1 [cmpC 4 (numO k) nO, grpC 3 [cmpC 4 nO (numO k)]])) [.int .i64 1, .slice (some ⟨b2, 0, none⟩) 2 2, .int .i64 0, .int .i64 0, .int .i64 0, .string ⟨#[]⟩, .string ⟨#[]⟩, .string ⟨#[]⟩, .int .i64 0, .int .i64 0, .int .i64 0, .string ⟨#[]⟩, .string ⟨#[]⟩, .string ⟨#[]⟩]) := fun W hW => .cons (.lit _) (.cons (zB4 (l := [cmpC 4 (numO k) nO, grpC 3 [cmpC 4 nO (numO k)]].map encC) ((hW b2 (by omega) ⟨_, h6⟩).trans h6) (by simp) (by simp [maxLen]) (zBU (zA7 4 (numO k) nO) (zIM (hn W hW)))) (zAX [.int .i64 0, .int .i64 0, .int .i64 0, .string ⟨#[]⟩, .string ⟨#[]⟩, .string ⟨#[]⟩, .int .i64 0, .int .i64 0, .int .i64 0, .string ⟨#[]⟩, .string ⟨#[]⟩, .string ⟨#[]⟩]))
  clear hblk hfr h5 h1 h2 h3 h4 h6 hn
  go_wp2_with fail
  exact zAR (w.heap.size + 1) [.int .i64 1, .slice (some ⟨b2, 0, none⟩) 2 2, .int .i64 0, .int .i64 0, .int .i64 0, .string ⟨#[]⟩, .string ⟨#[]⟩, .string ⟨#[]⟩, .int .i64 0, .int .i64 0, .int .i64 0, .string ⟨#[]⟩, .string ⟨#[]⟩, .string ⟨#[]⟩] 46 _ HW5.out rfl rfl (by rfl) Tryz.underlying46 rfl (by kernel_rfl) ⟨_, rfl, HRR.out, HBE.out⟩
theorem zGK (ty co n wi si : Int) (hn1 : -9223372036854775808 ≤ n) (hn2 : n ≤ 9223372036854775807) (hc1 : -9223372036854775808 ≤ co) (hc2 : co ≤ 9223372036854775807) (at_ : Nat) (w : World) (kp : Option Addr) (kc : Nat) :
   Calls Tryz.prog 66 #[.agg #[.int .i64 ty, .int .i64 co, .int .i64 n, .int .i64 wi, .int .i64 si], .int .i64 (at_ : Nat), .slice kp 0 kc] w fun e w' => ∃ cs : List Value, e = .returned (.agg cs.toArray) ∧ (∀ W, (∀ i, w.heap.size ≤ i → TB w' 46 i → W.heap[i]? = w'.heap[i]?) → RdL W (encC (whC (pkd co 9).toNat at_ (pkd n 6) (numO (pkd n 6)))) cs) ∧ Below w.heap.size w w' := by
 by_cases h2 : at_ = 2
 . have e : whC (pkd co 9).toNat at_ (pkd n 6) (numO (pkd n 6)) = cn0 := by unfold whC; rw [if_pos h2]
   rw [e]
   exact zGU ty co n wi si hn1 hn2 hc1 hc2 at_ h2 w kp kc
 . obtain ⟨q1, q2⟩ := zAQ co (m := 9) (by decide)
   obtain ⟨j, hj⟩ : ∃ j : Nat, pkd co 9 = (j : Int) := ⟨(pkd co 9).toNat, by omega⟩
   rw [hj, Int.toNat_natCast]
   unfold whC
   rw [if_neg h2]
   rcases (by omega : j = 0 ∨ j = 1 ∨ j = 2 ∨ j = 3 ∨ j = 4 ∨ j = 5 ∨ 6 ≤ j) with rfl | rfl | rfl | rfl | rfl | rfl | h6
   . exact zIW ty co n wi si hn1 hn2 hc1 hc2 at_ h2 hj w kp kc
   . exact zI9 ty co n wi si hn1 hn2 hc1 hc2 at_ h2 hj w kp kc
   . exact zKS ty co n wi si hn1 hn2 hc1 hc2 at_ h2 hj w kp kc
   . exact zJQ ty co n wi si hn1 hn2 hc1 hc2 at_ h2 hj w kp kc
   . exact zJS ty co n wi si hn1 hn2 hc1 hc2 at_ h2 hj w kp kc
   . by_cases h1 : at_ = 1
     . have h := zIR ty co n wi si hn1 hn2 hc1 hc2 at_ h2 hj h1 w kp kc
       simpa [h1] using h
     . have h := zKD ty co n wi si hn1 hn2 hc1 hc2 at_ h2 hj h1 w kp kc
       simpa [h1] using h
   . rw [if_neg (by omega), if_neg (by omega), if_neg (by omega), if_neg (by omega), if_neg (by omega), if_neg (by omega)]
     exact zJK ty co n wi si hn1 hn2 hc1 hc2 at_ h2 j hj h6 w kp kc
theorem zGZ (ty co n wi si : Int) (hn1 : -9223372036854775808 ≤ n) (hn2 : n ≤ 9223372036854775807) (hc1 : -9223372036854775808 ≤ co) (hc2 : co ≤ 9223372036854775807) (at_ : Nat) (h2 : at_ = 2) (w : World) (kg ko km kc q : Nat) (va : ByteArray) (hkm : 0 < km) (hkm3 : km ≤ 3) (hq : pkd n (km : Int) = (q : Int)) (hkc : w.cell? ⟨kg, ko + q, none⟩ = some (.string va)) :
  Calls Tryz.prog 66 #[.agg #[.int .i64 ty, .int .i64 co, .int .i64 n, .int .i64 wi, .int .i64 si], .int .i64 (at_ : Nat), .slice (some ⟨kg, ko, none⟩) km kc] w fun e w' => ∃ cs : List Value, e = .returned (.agg cs.toArray) ∧ (∀ W, (∀ i, w.heap.size ≤ i → TB w' 46 i → W.heap[i]? = w'.heap[i]?) → RdL W (encC (cn0)) cs) ∧ Below w.heap.size w w' := by
 subst h2
 have hB := bxs2 w [.int .i64 ty, .int .i64 co, .int .i64 n, .int .i64 wi, .int .i64 si] [.int .i64 0, .slice none 0 0, .int .i64 0, .int .i64 0, .int .i64 0, .string ⟨#[]⟩, .string ⟨#[]⟩, .string ⟨#[]⟩, .int .i64 0, .int .i64 0, .int .i64 0, .string ⟨#[]⟩, .string ⟨#[]⟩, .string ⟨#[]⟩] 117 46
 have HZ := hid (hB.b 1 (by simp))
 have HB := hid hB.bel
 clear hB
 go_enter Tryz.func66, Tryz.ntmps66
 go_wp2_with ((with_reducible refine gSq ?_); refine zAY 46 (w.heap.size + 1) 0 _ 46 [.int .i64 0, .slice none 0 0, .int .i64 0, .int .i64 0, .int .i64 0, .string ⟨#[]⟩, .string ⟨#[]⟩, .string ⟨#[]⟩, .int .i64 0, .int .i64 0, .int .i64 0, .string ⟨#[]⟩, .string ⟨#[]⟩, .string ⟨#[]⟩] HZ.out ?_; intro w2 hblk hfr; have HW2 := hid hblk; have HBE : Hid (Below w.heap.size w w2) := zAG HB.out hfr (by omega); clear hblk hfr)
 exact zAR (w.heap.size + 1) [.int .i64 0, .slice none 0 0, .int .i64 0, .int .i64 0, .int .i64 0, .string ⟨#[]⟩, .string ⟨#[]⟩, .string ⟨#[]⟩, .int .i64 0, .int .i64 0, .int .i64 0, .string ⟨#[]⟩, .string ⟨#[]⟩, .string ⟨#[]⟩] 46 _ HW2.out rfl rfl (by rfl) Tryz.underlying46 rfl (by kernel_rfl) ⟨_, rfl, fun _ _ => zA7 0 opd0 opd0, HBE.out⟩
theorem zK3 (ty co n wi si : Int) (hn1 : -9223372036854775808 ≤ n) (hn2 : n ≤ 9223372036854775807) (hc1 : -9223372036854775808 ≤ co) (hc2 : co ≤ 9223372036854775807) (at_ : Nat) (h2 : at_ ≠ 2) (hco : pkd co 9 = 0) (w : World) (kg ko km kc q : Nat) (va : ByteArray) (hkm : 0 < km) (hkm3 : km ≤ 3) (hq : pkd n (km : Int) = (q : Int)) (hkc : w.cell? ⟨kg, ko + q, none⟩ = some (.string va)) :
  Calls Tryz.prog 66 #[.agg #[.int .i64 ty, .int .i64 co, .int .i64 n, .int .i64 wi, .int .i64 si], .int .i64 (at_ : Nat), .slice (some ⟨kg, ko, none⟩) km kc] w fun e w' => ∃ cs : List Value, e = .returned (.agg cs.toArray) ∧ (∀ W, (∀ i, w.heap.size ≤ i → TB w' 46 i → W.heap[i]? = w'.heap[i]?) → RdL W (encC (cmpC 6 (numO (pkd n 6)) nO)) cs) ∧ Below w.heap.size w w' := by
 have d2 : ((at_ : Int) == 2) = false := by first | (simp; done) | (simp; omega)
 have d2b : ¬ (at_ : Int) = 2 := by omega
 have d2c : (at_ = 2) = False := by simp [h2]
 obtain ⟨k, hk⟩ : ∃ k, pkd n 6 = k := ⟨_, rfl⟩
 have HP6 := hid (fun W => zAF n 6 W hn1 hn2 (by decide) (by decide))
 have HP9 := hid (fun W => zAF co 9 W hc1 hc2 (by decide) (by decide))
 rw [hk] at HP6
 try rw [hk]
 rw [hco] at HP9
 have hB := bxs2 w [.int .i64 ty, .int .i64 co, .int .i64 n, .int .i64 wi, .int .i64 si] [.int .i64 0, .slice none 0 0, .int .i64 0, .int .i64 0, .int .i64 0, .string ⟨#[]⟩, .string ⟨#[]⟩, .string ⟨#[]⟩, .int .i64 0, .int .i64 0, .int .i64 0, .string ⟨#[]⟩, .string ⟨#[]⟩, .string ⟨#[]⟩] 117 46
 have HB := hid hB
 have a2 : (0 : Int) ≤ 0 := by omega
 have HPM := hid (fun W => zAF n (km : Int) W hn1 hn2 (by omega) (by omega))
 rw [hq] at HPM
 have HKC := hid hkc
 have i1 : (0 : Int) ≤ (q : Int) := by omega
 have i2 : (q : Int) < (km : Int) := by have := (zAQ n (m := (km : Int)) (by omega)).2; omega
 have i3 : q < km := by omega
 have i4 : decide ((0 : Int) < (km : Int)) = true := by simp; omega
 have i5 : ((0 : Int) < (km : Int)) = True := by simp; omega
 have i6 : (0 < km) = True := by simp; omega
 clear hB hn1 hn2 hc1 hc2 hk hco d2b
 clear hq hkc hkm hkm3
 go_enter Tryz.func66, Tryz.ntmps66
 go_wp2_with (first
  | (go_at_call_of 9 (Value.int IntKind.i64 n); refine (HPM.out w4).mono ?_; rintro e w4 ⟨rfl, rfl⟩)
  | ((with_reducible show wpList _ _ _ (Oper.mk (some 30) _ _ _ _ _ :: _) _ _); refine zBM (by rfl) 44 _ (by rfl) #[(0, .int .i64 3), (2, .string va), (3, .string ⟨#[110]⟩)] (by simp [Act.eval, Act.put]) (.agg #[.int .i64 3, .int .i64 0, .int .i64 0, .string ⟨#[]⟩, .string va, .string ⟨#[110]⟩]) (fun w => by kernel_rfl) ?_)
  | ((with_reducible refine gSq ?_); refine zAT 44 w3.heap.size 0 [.int .i64 1, .int .i64 1, .int .i64 (k), .string ⟨#[]⟩, .string ⟨#[]⟩, .string ⟨#[]⟩] 44 (opV (⟨3, 0, 0, txt [], va, txt [110]⟩ : Opd)) [.int .i64 3, .int .i64 0, .int .i64 0, .string ⟨#[]⟩, .string va, .string ⟨#[110]⟩] HW4.out ?_; intro w6 hblk hfr; have hp2 : Hp w w6 [(w.heap.size, [.int .i64 ty, .int .i64 co, .int .i64 n, .int .i64 wi, .int .i64 si], 117), (w.heap.size + 1, [.int .i64 0, .slice none 0 0, .int .i64 0, .int .i64 0, .int .i64 0, .string ⟨#[]⟩, .string ⟨#[]⟩, .string ⟨#[]⟩, .int .i64 0, .int .i64 0, .int .i64 0, .string ⟨#[]⟩, .string ⟨#[]⟩, .string ⟨#[]⟩], 46), (w1.heap.size, [.int .i64 2, .int .i64 0, .int .i64 0, .string ⟨#[]⟩, .string ⟨#[]⟩, .string ⟨#[110]⟩], 44), (w3.heap.size, [.int .i64 3, .int .i64 0, .int .i64 0, .string ⟨#[]⟩, .string va, .string ⟨#[110]⟩], 44)] := ⟨zAG HP0.out.bel hfr (by omega), fun i hi => by rcases i with _ | _ | _ | _ | i; exact (hfr.block _ (zAD (HP0.out.b 0 (by simp))) (by show w.heap.size ≠ w3.heap.size; omega)).trans (HP0.out.b 0 (by simp)); exact (hfr.block _ (zAD (HP0.out.b 1 (by simp))) (by show w.heap.size + 1 ≠ w3.heap.size; omega)).trans (HP0.out.b 1 (by simp)); exact (hfr.block _ (zAD (HP0.out.b 2 (by simp))) (by show w1.heap.size ≠ w3.heap.size; omega)).trans (HP0.out.b 2 (by simp)); exact hblk; exact absurd hi (by simp)⟩; have HP := hid hp2; have c1 : w6.cell? ⟨w.heap.size, 1, none⟩ = some (.int .i64 co) := HP.out.c 0 (by simp) 1; clear hblk hfr hp2)
  | (go_at_call 21; refine (zA3 _ _).mono ?_; rintro e w1 ⟨rfl, hb1⟩; have HB1 := hid (HB.out.next hb1); clear hb1)
  | ((with_reducible refine gSq ?_); refine zAT 44 w1.heap.size 0 [.int .i64 0, .int .i64 0, .int .i64 0, .string ⟨#[]⟩, .string ⟨#[]⟩, .string ⟨#[]⟩] 44 (opV (ownO ⟨#[110]⟩)) [.int .i64 2, .int .i64 0, .int .i64 0, .string ⟨#[]⟩, .string ⟨#[]⟩, .string ⟨#[110]⟩] (heap_alloc_new _ _) ?_; intro w2 hblk hfr; have HW2 := hid hblk; have HB12 : Hid (Below w1.heap.size w1 w2) := zAI hfr; have c2 : w2.cell? ⟨w.heap.size, 2, none⟩ = some (.int .i64 n) := (HB1.out.next HB12.out).c 0 (by simp) 2; clear hblk hfr)
  | (go_at_call_of 9 (Value.int IntKind.i64 n); refine (HP6.out _).mono ?_; rintro e w2 ⟨rfl, rfl⟩)
  | (go_at_call 20; refine (zAO _ _).mono ?_; rintro e w3 ⟨rfl, hb3⟩; have HB3 := hid hb3; clear hb3)
  | ((with_reducible refine gSq ?_); refine zAT 44 w3.heap.size 0 [.int .i64 0, .int .i64 0, .int .i64 0, .string ⟨#[]⟩, .string ⟨#[]⟩, .string ⟨#[]⟩] 44 (opV (numO k)) [.int .i64 1, .int .i64 1, .int .i64 (k), .string ⟨#[]⟩, .string ⟨#[]⟩, .string ⟨#[]⟩] (heap_alloc_new _ _) ?_; intro w4 hblk hfr; have HW4 := hid hblk; have HB34 : Hid (Below w3.heap.size w3 w4) := zAI hfr; have hp0 : Hp w w4 [(w.heap.size, [.int .i64 ty, .int .i64 co, .int .i64 n, .int .i64 wi, .int .i64 si], 117), (w.heap.size + 1, [.int .i64 0, .slice none 0 0, .int .i64 0, .int .i64 0, .int .i64 0, .string ⟨#[]⟩, .string ⟨#[]⟩, .string ⟨#[]⟩, .int .i64 0, .int .i64 0, .int .i64 0, .string ⟨#[]⟩, .string ⟨#[]⟩, .string ⟨#[]⟩], 46), (w1.heap.size, [.int .i64 2, .int .i64 0, .int .i64 0, .string ⟨#[]⟩, .string ⟨#[]⟩, .string ⟨#[110]⟩], 44), (w3.heap.size, [.int .i64 1, .int .i64 1, .int .i64 (k), .string ⟨#[]⟩, .string ⟨#[]⟩, .string ⟨#[]⟩], 44)] := Hp.add (Hp.add (l := [(w.heap.size, [.int .i64 ty, .int .i64 co, .int .i64 n, .int .i64 wi, .int .i64 si], 117), (w.heap.size + 1, [.int .i64 0, .slice none 0 0, .int .i64 0, .int .i64 0, .int .i64 0, .string ⟨#[]⟩, .string ⟨#[]⟩, .string ⟨#[]⟩, .int .i64 0, .int .i64 0, .int .i64 0, .string ⟨#[]⟩, .string ⟨#[]⟩, .string ⟨#[]⟩], 46)]) (hp2 HB1.out) HB12.out HW2.out) (zAA HB3.out HB34.out HB3.out.size) HW4.out; have HP0 := hid hp0; have s1 : w.heap.size + 1 < w1.heap.size := by { have := zAD (HB1.out.b 1 (by simp)); simpa using this }; have s3 : w1.heap.size < w3.heap.size := by { have h8 := zAD HW2.out; have := HB3.out.size; omega }; have c2b : w4.cell? ⟨w.heap.size, 2, none⟩ = some (.int .i64 n) := HP0.out.c 0 (by simp) 2; have ck : w4.cell? ⟨kg, ko + q, none⟩ = some (.string va) := (HP0.out.bel.cell (p := ⟨kg, ko + q, none⟩) (World.block_lt_of_cell? _ _ HKC.out)).trans HKC.out; clear hblk hfr hp0)
  | (go_at_call_of 9 (Value.int IntKind.i64 co); refine (HP9.out _).mono ?_; rintro e w6 ⟨rfl, rfl⟩))
 clear HW2 HB12 HB3 HW4 HB34 c1 c2 HB1 HB HP6 HP9
 clear HP0 s1 s3 c2b ck HPM HKC
 generalize w1.heap.size = b7 at HP ⊢
 generalize w3.heap.size = b9 at HP ⊢
 have HPD := hid (HP.out.next (Below.drew (Below.refl _ _)))
 refine zAV (by kernel_rfl) (fun i w9 v => ([(fun w9 v => v = .int .i64 k), (fun w9 v => v = .agg #[.int .i64 1, .int .i64 1, .int .i64 (k), .string ⟨#[]⟩, .string ⟨#[]⟩, .string ⟨#[]⟩]), (fun w9 v => v = .agg #[.int .i64 2, .int .i64 0, .int .i64 0, .string ⟨#[]⟩, .string ⟨#[]⟩, .string ⟨#[110]⟩]), (fun w9 v => v = .agg #[.int .i64 6, .slice none 0 0, .int .i64 1, .int .i64 1, .int .i64 (k), .string ⟨#[]⟩, .string ⟨#[]⟩, .string ⟨#[]⟩, .int .i64 2, .int .i64 0, .int .i64 0, .string ⟨#[]⟩, .string ⟨#[]⟩, .string ⟨#[110]⟩])] : List (World → Value → Prop)).getD i (fun _ _ => True) w9 v) (fun W => Hp w W [(w.heap.size, [.int .i64 ty, .int .i64 co, .int .i64 n, .int .i64 wi, .int .i64 si], 117), (w.heap.size + 1, [.int .i64 0, .slice none 0 0, .int .i64 0, .int .i64 0, .int .i64 0, .string ⟨#[]⟩, .string ⟨#[]⟩, .string ⟨#[]⟩, .int .i64 0, .int .i64 0, .int .i64 0, .string ⟨#[]⟩, .string ⟨#[]⟩, .string ⟨#[]⟩], 46), (b7, [.int .i64 2, .int .i64 0, .int .i64 0, .string ⟨#[]⟩, .string ⟨#[]⟩, .string ⟨#[110]⟩], 44), (b9, [.int .i64 3, .int .i64 0, .int .i64 0, .string ⟨#[]⟩, .string va, .string ⟨#[110]⟩], 44)]) 86 4 rfl rfl (by kernel_rfl) (by kernel_rfl) (fun W W' => Below W.heap.size W W') ?hmon (HPD.out) (zAC.cons ?o0 (zAC.cons ?o1 (zAC.cons ?o2 (zAC.cons ?o3 zAC.nil)))) ?hend
 case hmon =>
  intro q W W' v hb h
  rcases q with _ | _ | _ | _ | q
  . exact h
  . exact h
  . exact h
  . exact h
  . exact h
 case o0 =>
  intro a W hB hd ho
  have e8 : a.eval (.tmp 8) = .int .i64 k := ho 8 (by kernel_rfl)
  exact zA1 _ (by simp) _ e8 ⟨_, rfl, rfl, hB, Below.refl _ _⟩
 case o1 =>
  intro a W hB hd ho
  have e36 : a.eval (.tmp 36) = .int .i64 k := hd 0 36 (by kernel_rfl)
  refine zA0 20 zB8 _ _ rfl #[.int .i64 k] (by simp [ev_c, e36]) _ (zAO k W) ?_
  rintro e W' ⟨rfl, hb⟩
  exact ⟨_, rfl, _, rfl, rfl, hB.next hb, hb⟩
 case o2 =>
  intro a W hB hd ho
  have e7 : a.eval (.tmp 7) = .pointer (some ⟨b7, 0, none⟩) := ho 7 (by kernel_rfl)
  exact zBZ 44 _ rfl _ _ e7 [.int .i64 2, .int .i64 0, .int .i64 0, .string ⟨#[]⟩, .string ⟨#[]⟩, .string ⟨#[110]⟩] _ (hB.r 2 (by simp)) Tryz.underlying44 rfl (by kernel_rfl) ⟨_, rfl, rfl, hB, Below.refl _ _⟩
 case o3 =>
  intro a W hB hd ho
  have e37 : a.eval (.tmp 37) = opV (numO k) := hd 1 37 (by kernel_rfl)
  have e38 : a.eval (.tmp 38) = opV nO := hd 2 38 (by kernel_rfl)
  refine zA0 19 zBS _ _ rfl #[.int .i64 6, opV (numO k), opV nO] (by simp [ev_c, e37, e38]) _ (compare_any 6 (numO k) nO W) ?_
  rintro e W' ⟨rfl, hb⟩
  exact ⟨_, rfl, _, rfl, rfl, hB.next hb, hb⟩
 case hend =>
  intro vs W o ho hB hT
  have e0 : vs 0 = .int .i64 k := hT 0 (by decide)
  have e1 : vs 1 = .agg #[.int .i64 1, .int .i64 1, .int .i64 (k), .string ⟨#[]⟩, .string ⟨#[]⟩, .string ⟨#[]⟩] := hT 1 (by decide)
  have e2 : vs 2 = .agg #[.int .i64 2, .int .i64 0, .int .i64 0, .string ⟨#[]⟩, .string ⟨#[]⟩, .string ⟨#[110]⟩] := hT 2 (by decide)
  have e3 : vs 3 = .agg #[.int .i64 6, .slice none 0 0, .int .i64 1, .int .i64 1, .int .i64 (k), .string ⟨#[]⟩, .string ⟨#[]⟩, .string ⟨#[]⟩, .int .i64 2, .int .i64 0, .int .i64 0, .string ⟨#[]⟩, .string ⟨#[]⟩, .string ⟨#[110]⟩] := hT 3 (by decide)
  cases (show some _ = some o from ho)
  simp only [List.toList_toArray, List.take_succ_cons, List.take_zero, fill, if_true, Act.put, List.setIfInBounds_toArray, List.set_cons_zero, List.set_cons_succ, e0, e1, e2, e3]
  refine op_st 46 _ _ rfl (w.heap.size + 1) 0 [.int .i64 0, .slice none 0 0, .int .i64 0, .int .i64 0, .int .i64 0, .string ⟨#[]⟩, .string ⟨#[]⟩, .string ⟨#[]⟩, .int .i64 0, .int .i64 0, .int .i64 0, .string ⟨#[]⟩, .string ⟨#[]⟩, .string ⟨#[]⟩] 46 (.agg #[.int .i64 6, .slice none 0 0, .int .i64 1, .int .i64 1, .int .i64 (k), .string ⟨#[]⟩, .string ⟨#[]⟩, .string ⟨#[]⟩, .int .i64 2, .int .i64 0, .int .i64 0, .string ⟨#[]⟩, .string ⟨#[]⟩, .string ⟨#[110]⟩]) [.int .i64 6, .slice none 0 0, .int .i64 1, .int .i64 1, .int .i64 (k), .string ⟨#[]⟩, .string ⟨#[]⟩, .string ⟨#[]⟩, .int .i64 2, .int .i64 0, .int .i64 0, .string ⟨#[]⟩, .string ⟨#[]⟩, .string ⟨#[110]⟩] (by rfl) (by rfl) (by rfl) (hB.b 1 (by simp)) (by simp) (by kernel_rfl) (by rfl) ?_
  intro w5 hblk hfr
  have HW5 := hid hblk
  have HBE : Hid (Below w.heap.size w w5) := zAG hB.bel hfr (by omega)
  clear hblk hfr
  go_wp2_with fail
  exact zAR (w.heap.size + 1) [.int .i64 6, .slice none 0 0, .int .i64 1, .int .i64 1, .int .i64 (k), .string ⟨#[]⟩, .string ⟨#[]⟩, .string ⟨#[]⟩, .int .i64 2, .int .i64 0, .int .i64 0, .string ⟨#[]⟩, .string ⟨#[]⟩, .string ⟨#[110]⟩] 46 _ HW5.out rfl rfl (by rfl) Tryz.underlying46 rfl (by kernel_rfl) ⟨_, rfl, fun _ _ => zA7 6 (numO k) nO, HBE.out⟩
theorem zJ6 (ty co n wi si : Int) (hn1 : -9223372036854775808 ≤ n) (hn2 : n ≤ 9223372036854775807) (hc1 : -9223372036854775808 ≤ co) (hc2 : co ≤ 9223372036854775807) (at_ : Nat) (h2 : at_ ≠ 2) (hco : pkd co 9 = 1) (w : World) (kg ko km kc q : Nat) (va : ByteArray) (hkm : 0 < km) (hkm3 : km ≤ 3) (hq : pkd n (km : Int) = (q : Int)) (hkc : w.cell? ⟨kg, ko + q, none⟩ = some (.string va)) :
  Calls Tryz.prog 66 #[.agg #[.int .i64 ty, .int .i64 co, .int .i64 n, .int .i64 wi, .int .i64 si], .int .i64 (at_ : Nat), .slice (some ⟨kg, ko, none⟩) km kc] w fun e w' => ∃ cs : List Value, e = .returned (.agg cs.toArray) ∧ (∀ W, (∀ i, w.heap.size ≤ i → TB w' 46 i → W.heap[i]? = w'.heap[i]?) → RdL W (encC (cmpC 4 nO (⟨3, 0, 0, txt [], va, txt [110]⟩ : Opd))) cs) ∧ Below w.heap.size w w' := by
 have d2 : ((at_ : Int) == 2) = false := by first | (simp; done) | (simp; omega)
 have d2b : ¬ (at_ : Int) = 2 := by omega
 have d2c : (at_ = 2) = False := by simp [h2]
 obtain ⟨k, hk⟩ : ∃ k, pkd n 6 = k := ⟨_, rfl⟩
 have HP6 := hid (fun W => zAF n 6 W hn1 hn2 (by decide) (by decide))
 have HP9 := hid (fun W => zAF co 9 W hc1 hc2 (by decide) (by decide))
 rw [hk] at HP6
 try rw [hk]
 rw [hco] at HP9
 have hB := bxs2 w [.int .i64 ty, .int .i64 co, .int .i64 n, .int .i64 wi, .int .i64 si] [.int .i64 0, .slice none 0 0, .int .i64 0, .int .i64 0, .int .i64 0, .string ⟨#[]⟩, .string ⟨#[]⟩, .string ⟨#[]⟩, .int .i64 0, .int .i64 0, .int .i64 0, .string ⟨#[]⟩, .string ⟨#[]⟩, .string ⟨#[]⟩] 117 46
 have HB := hid hB
 have a2 : (0 : Int) ≤ 0 := by omega
 have HPM := hid (fun W => zAF n (km : Int) W hn1 hn2 (by omega) (by omega))
 rw [hq] at HPM
 have HKC := hid hkc
 have i1 : (0 : Int) ≤ (q : Int) := by omega
 have i2 : (q : Int) < (km : Int) := by have := (zAQ n (m := (km : Int)) (by omega)).2; omega
 have i3 : q < km := by omega
 have i4 : decide ((0 : Int) < (km : Int)) = true := by simp; omega
 have i5 : ((0 : Int) < (km : Int)) = True := by simp; omega
 have i6 : (0 < km) = True := by simp; omega
 clear hB hn1 hn2 hc1 hc2 hk hco d2b
 clear hq hkc hkm hkm3
 go_enter Tryz.func66, Tryz.ntmps66
 go_wp2_with (first
  | (go_at_call_of 9 (Value.int IntKind.i64 n); refine (HPM.out w4).mono ?_; rintro e w4 ⟨rfl, rfl⟩)
  | ((with_reducible show wpList _ _ _ (Oper.mk (some 30) _ _ _ _ _ :: _) _ _); refine zBM (by rfl) 44 _ (by rfl) #[(0, .int .i64 3), (2, .string va), (3, .string ⟨#[110]⟩)] (by simp [Act.eval, Act.put]) (.agg #[.int .i64 3, .int .i64 0, .int .i64 0, .string ⟨#[]⟩, .string va, .string ⟨#[110]⟩]) (fun w => by kernel_rfl) ?_)
  | ((with_reducible refine gSq ?_); refine zAT 44 w3.heap.size 0 [.int .i64 1, .int .i64 1, .int .i64 (k), .string ⟨#[]⟩, .string ⟨#[]⟩, .string ⟨#[]⟩] 44 (opV (⟨3, 0, 0, txt [], va, txt [110]⟩ : Opd)) [.int .i64 3, .int .i64 0, .int .i64 0, .string ⟨#[]⟩, .string va, .string ⟨#[110]⟩] HW4.out ?_; intro w6 hblk hfr; have hp2 : Hp w w6 [(w.heap.size, [.int .i64 ty, .int .i64 co, .int .i64 n, .int .i64 wi, .int .i64 si], 117), (w.heap.size + 1, [.int .i64 0, .slice none 0 0, .int .i64 0, .int .i64 0, .int .i64 0, .string ⟨#[]⟩, .string ⟨#[]⟩, .string ⟨#[]⟩, .int .i64 0, .int .i64 0, .int .i64 0, .string ⟨#[]⟩, .string ⟨#[]⟩, .string ⟨#[]⟩], 46), (w1.heap.size, [.int .i64 2, .int .i64 0, .int .i64 0, .string ⟨#[]⟩, .string ⟨#[]⟩, .string ⟨#[110]⟩], 44), (w3.heap.size, [.int .i64 3, .int .i64 0, .int .i64 0, .string ⟨#[]⟩, .string va, .string ⟨#[110]⟩], 44)] := ⟨zAG HP0.out.bel hfr (by omega), fun i hi => by rcases i with _ | _ | _ | _ | i; exact (hfr.block _ (zAD (HP0.out.b 0 (by simp))) (by show w.heap.size ≠ w3.heap.size; omega)).trans (HP0.out.b 0 (by simp)); exact (hfr.block _ (zAD (HP0.out.b 1 (by simp))) (by show w.heap.size + 1 ≠ w3.heap.size; omega)).trans (HP0.out.b 1 (by simp)); exact (hfr.block _ (zAD (HP0.out.b 2 (by simp))) (by show w1.heap.size ≠ w3.heap.size; omega)).trans (HP0.out.b 2 (by simp)); exact hblk; exact absurd hi (by simp)⟩; have HP := hid hp2; have c1 : w6.cell? ⟨w.heap.size, 1, none⟩ = some (.int .i64 co) := HP.out.c 0 (by simp) 1; clear hblk hfr hp2)
  | (go_at_call 21; refine (zA3 _ _).mono ?_; rintro e w1 ⟨rfl, hb1⟩; have HB1 := hid (HB.out.next hb1); clear hb1)
  | ((with_reducible refine gSq ?_); refine zAT 44 w1.heap.size 0 [.int .i64 0, .int .i64 0, .int .i64 0, .string ⟨#[]⟩, .string ⟨#[]⟩, .string ⟨#[]⟩] 44 (opV (ownO ⟨#[110]⟩)) [.int .i64 2, .int .i64 0, .int .i64 0, .string ⟨#[]⟩, .string ⟨#[]⟩, .string ⟨#[110]⟩] (heap_alloc_new _ _) ?_; intro w2 hblk hfr; have HW2 := hid hblk; have HB12 : Hid (Below w1.heap.size w1 w2) := zAI hfr; have c2 : w2.cell? ⟨w.heap.size, 2, none⟩ = some (.int .i64 n) := (HB1.out.next HB12.out).c 0 (by simp) 2; clear hblk hfr)
  | (go_at_call_of 9 (Value.int IntKind.i64 n); refine (HP6.out _).mono ?_; rintro e w2 ⟨rfl, rfl⟩)
  | (go_at_call 20; refine (zAO _ _).mono ?_; rintro e w3 ⟨rfl, hb3⟩; have HB3 := hid hb3; clear hb3)
  | ((with_reducible refine gSq ?_); refine zAT 44 w3.heap.size 0 [.int .i64 0, .int .i64 0, .int .i64 0, .string ⟨#[]⟩, .string ⟨#[]⟩, .string ⟨#[]⟩] 44 (opV (numO k)) [.int .i64 1, .int .i64 1, .int .i64 (k), .string ⟨#[]⟩, .string ⟨#[]⟩, .string ⟨#[]⟩] (heap_alloc_new _ _) ?_; intro w4 hblk hfr; have HW4 := hid hblk; have HB34 : Hid (Below w3.heap.size w3 w4) := zAI hfr; have hp0 : Hp w w4 [(w.heap.size, [.int .i64 ty, .int .i64 co, .int .i64 n, .int .i64 wi, .int .i64 si], 117), (w.heap.size + 1, [.int .i64 0, .slice none 0 0, .int .i64 0, .int .i64 0, .int .i64 0, .string ⟨#[]⟩, .string ⟨#[]⟩, .string ⟨#[]⟩, .int .i64 0, .int .i64 0, .int .i64 0, .string ⟨#[]⟩, .string ⟨#[]⟩, .string ⟨#[]⟩], 46), (w1.heap.size, [.int .i64 2, .int .i64 0, .int .i64 0, .string ⟨#[]⟩, .string ⟨#[]⟩, .string ⟨#[110]⟩], 44), (w3.heap.size, [.int .i64 1, .int .i64 1, .int .i64 (k), .string ⟨#[]⟩, .string ⟨#[]⟩, .string ⟨#[]⟩], 44)] := Hp.add (Hp.add (l := [(w.heap.size, [.int .i64 ty, .int .i64 co, .int .i64 n, .int .i64 wi, .int .i64 si], 117), (w.heap.size + 1, [.int .i64 0, .slice none 0 0, .int .i64 0, .int .i64 0, .int .i64 0, .string ⟨#[]⟩, .string ⟨#[]⟩, .string ⟨#[]⟩, .int .i64 0, .int .i64 0, .int .i64 0, .string ⟨#[]⟩, .string ⟨#[]⟩, .string ⟨#[]⟩], 46)]) (hp2 HB1.out) HB12.out HW2.out) (zAA HB3.out HB34.out HB3.out.size) HW4.out; have HP0 := hid hp0; have s1 : w.heap.size + 1 < w1.heap.size := by { have := zAD (HB1.out.b 1 (by simp)); simpa using this }; have s3 : w1.heap.size < w3.heap.size := by { have h8 := zAD HW2.out; have := HB3.out.size; omega }; have c2b : w4.cell? ⟨w.heap.size, 2, none⟩ = some (.int .i64 n) := HP0.out.c 0 (by simp) 2; have ck : w4.cell? ⟨kg, ko + q, none⟩ = some (.string va) := (HP0.out.bel.cell (p := ⟨kg, ko + q, none⟩) (World.block_lt_of_cell? _ _ HKC.out)).trans HKC.out; clear hblk hfr hp0)
  | (go_at_call_of 9 (Value.int IntKind.i64 co); refine (HP9.out _).mono ?_; rintro e w6 ⟨rfl, rfl⟩)
  | ((with_reducible show wpList _ _ _ (Oper.mk (some 42) _ _ _ _ _ :: _) _ _); refine wpList_load_mid (by rfl) 44 _ (by rfl) w1.heap.size 0 (by rfl) [.int .i64 2, .int .i64 0, .int .i64 0, .string ⟨#[]⟩, .string ⟨#[]⟩, .string ⟨#[110]⟩] _ (HP.out.r 2 (by simp)) Tryz.underlying44 rfl (by kernel_rfl) ?_)
  | ((with_reducible show wpList _ _ _ (Oper.mk (some 43) _ _ _ _ _ :: _) _ _); refine wpList_load_mid (by rfl) 44 _ (by rfl) w3.heap.size 0 (by rfl) [.int .i64 3, .int .i64 0, .int .i64 0, .string ⟨#[]⟩, .string va, .string ⟨#[110]⟩] _ (HP.out.r 3 (by simp)) Tryz.underlying44 rfl (by kernel_rfl) ?_)
  | (go_at_call 19; refine (compare_any 4 nO (⟨3, 0, 0, txt [], va, txt [110]⟩ : Opd) _).mono ?_; rintro e w5 ⟨rfl, hb5⟩; have HP5 := hid (HP.out.next hb5); clear hb5)
  | ((with_reducible show wpList _ _ _ (Oper.mk _ (.store 46 _ _) _ _ _ _ :: _) _ _); refine zAY 46 (w.heap.size + 1) 0 [.int .i64 0, .slice none 0 0, .int .i64 0, .int .i64 0, .int .i64 0, .string ⟨#[]⟩, .string ⟨#[]⟩, .string ⟨#[]⟩, .int .i64 0, .int .i64 0, .int .i64 0, .string ⟨#[]⟩, .string ⟨#[]⟩, .string ⟨#[]⟩] 46 [.int .i64 4, .slice none 0 0, .int .i64 2, .int .i64 0, .int .i64 0, .string ⟨#[]⟩, .string ⟨#[]⟩, .string ⟨#[110]⟩, .int .i64 3, .int .i64 0, .int .i64 0, .string ⟨#[]⟩, .string va, .string ⟨#[110]⟩] (HP5.out.b 1 (by simp)) ?_; intro w6 hblk hfr; have HW6 := hid hblk; have HBE : Hid (Below w.heap.size w w6) := zAG HP5.out.bel hfr (by omega); clear hblk hfr))
 exact zAR (w.heap.size + 1) [.int .i64 4, .slice none 0 0, .int .i64 2, .int .i64 0, .int .i64 0, .string ⟨#[]⟩, .string ⟨#[]⟩, .string ⟨#[110]⟩, .int .i64 3, .int .i64 0, .int .i64 0, .string ⟨#[]⟩, .string va, .string ⟨#[110]⟩] 46 _ HW6.out rfl rfl (by rfl) Tryz.underlying46 rfl (by kernel_rfl) ⟨_, rfl, fun _ _ => zA7 4 nO (⟨3, 0, 0, txt [], va, txt [110]⟩ : Opd), HBE.out⟩
theorem zJL (ty co n wi si : Int) (hn1 : -9223372036854775808 ≤ n) (hn2 : n ≤ 9223372036854775807) (hc1 : -9223372036854775808 ≤ co) (hc2 : co ≤ 9223372036854775807) (at_ : Nat) (h2 : at_ ≠ 2) (hco : pkd co 9 = 2) (w : World) (kg ko km kc q : Nat) (va : ByteArray) (hkm : 0 < km) (hkm3 : km ≤ 3) (hq : pkd n (km : Int) = (q : Int)) (hkc : w.cell? ⟨kg, ko + q, none⟩ = some (.string va)) :
  Calls Tryz.prog 66 #[.agg #[.int .i64 ty, .int .i64 co, .int .i64 n, .int .i64 wi, .int .i64 si], .int .i64 (at_ : Nat), .slice (some ⟨kg, ko, none⟩) km kc] w fun e w' => ∃ cs : List Value, e = .returned (.agg cs.toArray) ∧ (∀ W, (∀ i, w.heap.size ≤ i → TB w' 46 i → W.heap[i]? = w'.heap[i]?) → RdL W (encC (cmpC 5 nO (⟨3, 0, 0, txt [], va, txt [110]⟩ : Opd))) cs) ∧ Below w.heap.size w w' := by
 have d2 : ((at_ : Int) == 2) = false := by first | (simp; done) | (simp; omega)
 have d2b : ¬ (at_ : Int) = 2 := by omega
 have d2c : (at_ = 2) = False := by simp [h2]
 obtain ⟨k, hk⟩ : ∃ k, pkd n 6 = k := ⟨_, rfl⟩
 have HP6 := hid (fun W => zAF n 6 W hn1 hn2 (by decide) (by decide))
 have HP9 := hid (fun W => zAF co 9 W hc1 hc2 (by decide) (by decide))
 rw [hk] at HP6
 try rw [hk]
 rw [hco] at HP9
 have hB := bxs2 w [.int .i64 ty, .int .i64 co, .int .i64 n, .int .i64 wi, .int .i64 si] [.int .i64 0, .slice none 0 0, .int .i64 0, .int .i64 0, .int .i64 0, .string ⟨#[]⟩, .string ⟨#[]⟩, .string ⟨#[]⟩, .int .i64 0, .int .i64 0, .int .i64 0, .string ⟨#[]⟩, .string ⟨#[]⟩, .string ⟨#[]⟩] 117 46
 have HB := hid hB
 have a2 : (0 : Int) ≤ 0 := by omega
 have HPM := hid (fun W => zAF n (km : Int) W hn1 hn2 (by omega) (by omega))
 rw [hq] at HPM
 have HKC := hid hkc
 have i1 : (0 : Int) ≤ (q : Int) := by omega
 have i2 : (q : Int) < (km : Int) := by have := (zAQ n (m := (km : Int)) (by omega)).2; omega
 have i3 : q < km := by omega
 have i4 : decide ((0 : Int) < (km : Int)) = true := by simp; omega
 have i5 : ((0 : Int) < (km : Int)) = True := by simp; omega
 have i6 : (0 < km) = True := by simp; omega
 clear hB hn1 hn2 hc1 hc2 hk hco d2b
 clear hq hkc hkm hkm3
 go_enter Tryz.func66, Tryz.ntmps66
 go_wp2_with (first
  | (go_at_call_of 9 (Value.int IntKind.i64 n); refine (HPM.out w4).mono ?_; rintro e w4 ⟨rfl, rfl⟩)
  | ((with_reducible show wpList _ _ _ (Oper.mk (some 30) _ _ _ _ _ :: _) _ _); refine zBM (by rfl) 44 _ (by rfl) #[(0, .int .i64 3), (2, .string va), (3, .string ⟨#[110]⟩)] (by simp [Act.eval, Act.put]) (.agg #[.int .i64 3, .int .i64 0, .int .i64 0, .string ⟨#[]⟩, .string va, .string ⟨#[110]⟩]) (fun w => by kernel_rfl) ?_)
  | ((with_reducible refine gSq ?_); refine zAT 44 w3.heap.size 0 [.int .i64 1, .int .i64 1, .int .i64 (k), .string ⟨#[]⟩, .string ⟨#[]⟩, .string ⟨#[]⟩] 44 (opV (⟨3, 0, 0, txt [], va, txt [110]⟩ : Opd)) [.int .i64 3, .int .i64 0, .int .i64 0, .string ⟨#[]⟩, .string va, .string ⟨#[110]⟩] HW4.out ?_; intro w6 hblk hfr; have hp2 : Hp w w6 [(w.heap.size, [.int .i64 ty, .int .i64 co, .int .i64 n, .int .i64 wi, .int .i64 si], 117), (w.heap.size + 1, [.int .i64 0, .slice none 0 0, .int .i64 0, .int .i64 0, .int .i64 0, .string ⟨#[]⟩, .string ⟨#[]⟩, .string ⟨#[]⟩, .int .i64 0, .int .i64 0, .int .i64 0, .string ⟨#[]⟩, .string ⟨#[]⟩, .string ⟨#[]⟩], 46), (w1.heap.size, [.int .i64 2, .int .i64 0, .int .i64 0, .string ⟨#[]⟩, .string ⟨#[]⟩, .string ⟨#[110]⟩], 44), (w3.heap.size, [.int .i64 3, .int .i64 0, .int .i64 0, .string ⟨#[]⟩, .string va, .string ⟨#[110]⟩], 44)] := ⟨zAG HP0.out.bel hfr (by omega), fun i hi => by rcases i with _ | _ | _ | _ | i; exact (hfr.block _ (zAD (HP0.out.b 0 (by simp))) (by show w.heap.size ≠ w3.heap.size; omega)).trans (HP0.out.b 0 (by simp)); exact (hfr.block _ (zAD (HP0.out.b 1 (by simp))) (by show w.heap.size + 1 ≠ w3.heap.size; omega)).trans (HP0.out.b 1 (by simp)); exact (hfr.block _ (zAD (HP0.out.b 2 (by simp))) (by show w1.heap.size ≠ w3.heap.size; omega)).trans (HP0.out.b 2 (by simp)); exact hblk; exact absurd hi (by simp)⟩; have HP := hid hp2; have c1 : w6.cell? ⟨w.heap.size, 1, none⟩ = some (.int .i64 co) := HP.out.c 0 (by simp) 1; clear hblk hfr hp2)
  | (go_at_call 21; refine (zA3 _ _).mono ?_; rintro e w1 ⟨rfl, hb1⟩; have HB1 := hid (HB.out.next hb1); clear hb1)
  | ((with_reducible refine gSq ?_); refine zAT 44 w1.heap.size 0 [.int .i64 0, .int .i64 0, .int .i64 0, .string ⟨#[]⟩, .string ⟨#[]⟩, .string ⟨#[]⟩] 44 (opV (ownO ⟨#[110]⟩)) [.int .i64 2, .int .i64 0, .int .i64 0, .string ⟨#[]⟩, .string ⟨#[]⟩, .string ⟨#[110]⟩] (heap_alloc_new _ _) ?_; intro w2 hblk hfr; have HW2 := hid hblk; have HB12 : Hid (Below w1.heap.size w1 w2) := zAI hfr; have c2 : w2.cell? ⟨w.heap.size, 2, none⟩ = some (.int .i64 n) := (HB1.out.next HB12.out).c 0 (by simp) 2; clear hblk hfr)
  | (go_at_call_of 9 (Value.int IntKind.i64 n); refine (HP6.out _).mono ?_; rintro e w2 ⟨rfl, rfl⟩)
  | (go_at_call 20; refine (zAO _ _).mono ?_; rintro e w3 ⟨rfl, hb3⟩; have HB3 := hid hb3; clear hb3)
  | ((with_reducible refine gSq ?_); refine zAT 44 w3.heap.size 0 [.int .i64 0, .int .i64 0, .int .i64 0, .string ⟨#[]⟩, .string ⟨#[]⟩, .string ⟨#[]⟩] 44 (opV (numO k)) [.int .i64 1, .int .i64 1, .int .i64 (k), .string ⟨#[]⟩, .string ⟨#[]⟩, .string ⟨#[]⟩] (heap_alloc_new _ _) ?_; intro w4 hblk hfr; have HW4 := hid hblk; have HB34 : Hid (Below w3.heap.size w3 w4) := zAI hfr; have hp0 : Hp w w4 [(w.heap.size, [.int .i64 ty, .int .i64 co, .int .i64 n, .int .i64 wi, .int .i64 si], 117), (w.heap.size + 1, [.int .i64 0, .slice none 0 0, .int .i64 0, .int .i64 0, .int .i64 0, .string ⟨#[]⟩, .string ⟨#[]⟩, .string ⟨#[]⟩, .int .i64 0, .int .i64 0, .int .i64 0, .string ⟨#[]⟩, .string ⟨#[]⟩, .string ⟨#[]⟩], 46), (w1.heap.size, [.int .i64 2, .int .i64 0, .int .i64 0, .string ⟨#[]⟩, .string ⟨#[]⟩, .string ⟨#[110]⟩], 44), (w3.heap.size, [.int .i64 1, .int .i64 1, .int .i64 (k), .string ⟨#[]⟩, .string ⟨#[]⟩, .string ⟨#[]⟩], 44)] := Hp.add (Hp.add (l := [(w.heap.size, [.int .i64 ty, .int .i64 co, .int .i64 n, .int .i64 wi, .int .i64 si], 117), (w.heap.size + 1, [.int .i64 0, .slice none 0 0, .int .i64 0, .int .i64 0, .int .i64 0, .string ⟨#[]⟩, .string ⟨#[]⟩, .string ⟨#[]⟩, .int .i64 0, .int .i64 0, .int .i64 0, .string ⟨#[]⟩, .string ⟨#[]⟩, .string ⟨#[]⟩], 46)]) (hp2 HB1.out) HB12.out HW2.out) (zAA HB3.out HB34.out HB3.out.size) HW4.out; have HP0 := hid hp0; have s1 : w.heap.size + 1 < w1.heap.size := by { have := zAD (HB1.out.b 1 (by simp)); simpa using this }; have s3 : w1.heap.size < w3.heap.size := by { have h8 := zAD HW2.out; have := HB3.out.size; omega }; have c2b : w4.cell? ⟨w.heap.size, 2, none⟩ = some (.int .i64 n) := HP0.out.c 0 (by simp) 2; have ck : w4.cell? ⟨kg, ko + q, none⟩ = some (.string va) := (HP0.out.bel.cell (p := ⟨kg, ko + q, none⟩) (World.block_lt_of_cell? _ _ HKC.out)).trans HKC.out; clear hblk hfr hp0)
  | (go_at_call_of 9 (Value.int IntKind.i64 co); refine (HP9.out _).mono ?_; rintro e w6 ⟨rfl, rfl⟩)
  | ((with_reducible show wpList _ _ _ (Oper.mk (some 47) _ _ _ _ _ :: _) _ _); refine wpList_load_mid (by rfl) 44 _ (by rfl) w1.heap.size 0 (by rfl) [.int .i64 2, .int .i64 0, .int .i64 0, .string ⟨#[]⟩, .string ⟨#[]⟩, .string ⟨#[110]⟩] _ (HP.out.r 2 (by simp)) Tryz.underlying44 rfl (by kernel_rfl) ?_)
  | ((with_reducible show wpList _ _ _ (Oper.mk (some 48) _ _ _ _ _ :: _) _ _); refine wpList_load_mid (by rfl) 44 _ (by rfl) w3.heap.size 0 (by rfl) [.int .i64 3, .int .i64 0, .int .i64 0, .string ⟨#[]⟩, .string va, .string ⟨#[110]⟩] _ (HP.out.r 3 (by simp)) Tryz.underlying44 rfl (by kernel_rfl) ?_)
  | (go_at_call 19; refine (compare_any 5 nO (⟨3, 0, 0, txt [], va, txt [110]⟩ : Opd) _).mono ?_; rintro e w5 ⟨rfl, hb5⟩; have HP5 := hid (HP.out.next hb5); clear hb5)
  | ((with_reducible show wpList _ _ _ (Oper.mk _ (.store 46 _ _) _ _ _ _ :: _) _ _); refine zAY 46 (w.heap.size + 1) 0 [.int .i64 0, .slice none 0 0, .int .i64 0, .int .i64 0, .int .i64 0, .string ⟨#[]⟩, .string ⟨#[]⟩, .string ⟨#[]⟩, .int .i64 0, .int .i64 0, .int .i64 0, .string ⟨#[]⟩, .string ⟨#[]⟩, .string ⟨#[]⟩] 46 [.int .i64 5, .slice none 0 0, .int .i64 2, .int .i64 0, .int .i64 0, .string ⟨#[]⟩, .string ⟨#[]⟩, .string ⟨#[110]⟩, .int .i64 3, .int .i64 0, .int .i64 0, .string ⟨#[]⟩, .string va, .string ⟨#[110]⟩] (HP5.out.b 1 (by simp)) ?_; intro w6 hblk hfr; have HW6 := hid hblk; have HBE : Hid (Below w.heap.size w w6) := zAG HP5.out.bel hfr (by omega); clear hblk hfr))
 exact zAR (w.heap.size + 1) [.int .i64 5, .slice none 0 0, .int .i64 2, .int .i64 0, .int .i64 0, .string ⟨#[]⟩, .string ⟨#[]⟩, .string ⟨#[110]⟩, .int .i64 3, .int .i64 0, .int .i64 0, .string ⟨#[]⟩, .string va, .string ⟨#[110]⟩] 46 _ HW6.out rfl rfl (by rfl) Tryz.underlying46 rfl (by kernel_rfl) ⟨_, rfl, fun _ _ => zA7 5 nO (⟨3, 0, 0, txt [], va, txt [110]⟩ : Opd), HBE.out⟩
theorem zKQ (ty co n wi si : Int) (hn1 : -9223372036854775808 ≤ n) (hn2 : n ≤ 9223372036854775807) (hc1 : -9223372036854775808 ≤ co) (hc2 : co ≤ 9223372036854775807) (at_ : Nat) (h2 : at_ ≠ 2) (hco : pkd co 9 = 5) (h1 : at_ ≠ 1) (w : World) (kg ko km kc q : Nat) (va : ByteArray) (hkm : 0 < km) (hkm3 : km ≤ 3) (hq : pkd n (km : Int) = (q : Int)) (hkc : w.cell? ⟨kg, ko + q, none⟩ = some (.string va)) :
  Calls Tryz.prog 66 #[.agg #[.int .i64 ty, .int .i64 co, .int .i64 n, .int .i64 wi, .int .i64 si], .int .i64 (at_ : Nat), .slice (some ⟨kg, ko, none⟩) km kc] w fun e w' => ∃ cs : List Value, e = .returned (.agg cs.toArray) ∧ (∀ W, (∀ i, w.heap.size ≤ i → TB w' 46 i → W.heap[i]? = w'.heap[i]?) → RdL W (encC (cmpC 7 nO (⟨3, 0, 0, txt [], va, txt [110]⟩ : Opd))) cs) ∧ Below w.heap.size w w' := by
 have d1 : ((at_ : Int) == 1) = false := by simp; omega
 have d1c : (at_ = 1) = False := by simp [h1]
 have d2 : ((at_ : Int) == 2) = false := by first | (simp; done) | (simp; omega)
 have d2b : ¬ (at_ : Int) = 2 := by omega
 have d2c : (at_ = 2) = False := by simp [h2]
 obtain ⟨k, hk⟩ : ∃ k, pkd n 6 = k := ⟨_, rfl⟩
 have HP6 := hid (fun W => zAF n 6 W hn1 hn2 (by decide) (by decide))
 have HP9 := hid (fun W => zAF co 9 W hc1 hc2 (by decide) (by decide))
 rw [hk] at HP6
 try rw [hk]
 rw [hco] at HP9
 have hB := bxs2 w [.int .i64 ty, .int .i64 co, .int .i64 n, .int .i64 wi, .int .i64 si] [.int .i64 0, .slice none 0 0, .int .i64 0, .int .i64 0, .int .i64 0, .string ⟨#[]⟩, .string ⟨#[]⟩, .string ⟨#[]⟩, .int .i64 0, .int .i64 0, .int .i64 0, .string ⟨#[]⟩, .string ⟨#[]⟩, .string ⟨#[]⟩] 117 46
 have HB := hid hB
 have a2 : (0 : Int) ≤ 0 := by omega
 have HPM := hid (fun W => zAF n (km : Int) W hn1 hn2 (by omega) (by omega))
 rw [hq] at HPM
 have HKC := hid hkc
 have i1 : (0 : Int) ≤ (q : Int) := by omega
 have i2 : (q : Int) < (km : Int) := by have := (zAQ n (m := (km : Int)) (by omega)).2; omega
 have i3 : q < km := by omega
 have i4 : decide ((0 : Int) < (km : Int)) = true := by simp; omega
 have i5 : ((0 : Int) < (km : Int)) = True := by simp; omega
 have i6 : (0 < km) = True := by simp; omega
 clear hB hn1 hn2 hc1 hc2 hk hco d2b
 clear hq hkc hkm hkm3
 go_enter Tryz.func66, Tryz.ntmps66
 go_wp2_with (first
  | (go_at_call_of 9 (Value.int IntKind.i64 n); refine (HPM.out w4).mono ?_; rintro e w4 ⟨rfl, rfl⟩)
  | ((with_reducible show wpList _ _ _ (Oper.mk (some 30) _ _ _ _ _ :: _) _ _); refine zBM (by rfl) 44 _ (by rfl) #[(0, .int .i64 3), (2, .string va), (3, .string ⟨#[110]⟩)] (by simp [Act.eval, Act.put]) (.agg #[.int .i64 3, .int .i64 0, .int .i64 0, .string ⟨#[]⟩, .string va, .string ⟨#[110]⟩]) (fun w => by kernel_rfl) ?_)
  | ((with_reducible refine gSq ?_); refine zAT 44 w3.heap.size 0 [.int .i64 1, .int .i64 1, .int .i64 (k), .string ⟨#[]⟩, .string ⟨#[]⟩, .string ⟨#[]⟩] 44 (opV (⟨3, 0, 0, txt [], va, txt [110]⟩ : Opd)) [.int .i64 3, .int .i64 0, .int .i64 0, .string ⟨#[]⟩, .string va, .string ⟨#[110]⟩] HW4.out ?_; intro w6 hblk hfr; have hp2 : Hp w w6 [(w.heap.size, [.int .i64 ty, .int .i64 co, .int .i64 n, .int .i64 wi, .int .i64 si], 117), (w.heap.size + 1, [.int .i64 0, .slice none 0 0, .int .i64 0, .int .i64 0, .int .i64 0, .string ⟨#[]⟩, .string ⟨#[]⟩, .string ⟨#[]⟩, .int .i64 0, .int .i64 0, .int .i64 0, .string ⟨#[]⟩, .string ⟨#[]⟩, .string ⟨#[]⟩], 46), (w1.heap.size, [.int .i64 2, .int .i64 0, .int .i64 0, .string ⟨#[]⟩, .string ⟨#[]⟩, .string ⟨#[110]⟩], 44), (w3.heap.size, [.int .i64 3, .int .i64 0, .int .i64 0, .string ⟨#[]⟩, .string va, .string ⟨#[110]⟩], 44)] := ⟨zAG HP0.out.bel hfr (by omega), fun i hi => by rcases i with _ | _ | _ | _ | i; exact (hfr.block _ (zAD (HP0.out.b 0 (by simp))) (by show w.heap.size ≠ w3.heap.size; omega)).trans (HP0.out.b 0 (by simp)); exact (hfr.block _ (zAD (HP0.out.b 1 (by simp))) (by show w.heap.size + 1 ≠ w3.heap.size; omega)).trans (HP0.out.b 1 (by simp)); exact (hfr.block _ (zAD (HP0.out.b 2 (by simp))) (by show w1.heap.size ≠ w3.heap.size; omega)).trans (HP0.out.b 2 (by simp)); exact hblk; exact absurd hi (by simp)⟩; have HP := hid hp2; have c1 : w6.cell? ⟨w.heap.size, 1, none⟩ = some (.int .i64 co) := HP.out.c 0 (by simp) 1; clear hblk hfr hp2)
  | (go_at_call 21; refine (zA3 _ _).mono ?_; rintro e w1 ⟨rfl, hb1⟩; have HB1 := hid (HB.out.next hb1); clear hb1)
  | ((with_reducible refine gSq ?_); refine zAT 44 w1.heap.size 0 [.int .i64 0, .int .i64 0, .int .i64 0, .string ⟨#[]⟩, .string ⟨#[]⟩, .string ⟨#[]⟩] 44 (opV (ownO ⟨#[110]⟩)) [.int .i64 2, .int .i64 0, .int .i64 0, .string ⟨#[]⟩, .string ⟨#[]⟩, .string ⟨#[110]⟩] (heap_alloc_new _ _) ?_; intro w2 hblk hfr; have HW2 := hid hblk; have HB12 : Hid (Below w1.heap.size w1 w2) := zAI hfr; have c2 : w2.cell? ⟨w.heap.size, 2, none⟩ = some (.int .i64 n) := (HB1.out.next HB12.out).c 0 (by simp) 2; clear hblk hfr)
  | (go_at_call_of 9 (Value.int IntKind.i64 n); refine (HP6.out _).mono ?_; rintro e w2 ⟨rfl, rfl⟩)
  | (go_at_call 20; refine (zAO _ _).mono ?_; rintro e w3 ⟨rfl, hb3⟩; have HB3 := hid hb3; clear hb3)
  | ((with_reducible refine gSq ?_); refine zAT 44 w3.heap.size 0 [.int .i64 0, .int .i64 0, .int .i64 0, .string ⟨#[]⟩, .string ⟨#[]⟩, .string ⟨#[]⟩] 44 (opV (numO k)) [.int .i64 1, .int .i64 1, .int .i64 (k), .string ⟨#[]⟩, .string ⟨#[]⟩, .string ⟨#[]⟩] (heap_alloc_new _ _) ?_; intro w4 hblk hfr; have HW4 := hid hblk; have HB34 : Hid (Below w3.heap.size w3 w4) := zAI hfr; have hp0 : Hp w w4 [(w.heap.size, [.int .i64 ty, .int .i64 co, .int .i64 n, .int .i64 wi, .int .i64 si], 117), (w.heap.size + 1, [.int .i64 0, .slice none 0 0, .int .i64 0, .int .i64 0, .int .i64 0, .string ⟨#[]⟩, .string ⟨#[]⟩, .string ⟨#[]⟩, .int .i64 0, .int .i64 0, .int .i64 0, .string ⟨#[]⟩, .string ⟨#[]⟩, .string ⟨#[]⟩], 46), (w1.heap.size, [.int .i64 2, .int .i64 0, .int .i64 0, .string ⟨#[]⟩, .string ⟨#[]⟩, .string ⟨#[110]⟩], 44), (w3.heap.size, [.int .i64 1, .int .i64 1, .int .i64 (k), .string ⟨#[]⟩, .string ⟨#[]⟩, .string ⟨#[]⟩], 44)] := Hp.add (Hp.add (l := [(w.heap.size, [.int .i64 ty, .int .i64 co, .int .i64 n, .int .i64 wi, .int .i64 si], 117), (w.heap.size + 1, [.int .i64 0, .slice none 0 0, .int .i64 0, .int .i64 0, .int .i64 0, .string ⟨#[]⟩, .string ⟨#[]⟩, .string ⟨#[]⟩, .int .i64 0, .int .i64 0, .int .i64 0, .string ⟨#[]⟩, .string ⟨#[]⟩, .string ⟨#[]⟩], 46)]) (hp2 HB1.out) HB12.out HW2.out) (zAA HB3.out HB34.out HB3.out.size) HW4.out; have HP0 := hid hp0; have s1 : w.heap.size + 1 < w1.heap.size := by { have := zAD (HB1.out.b 1 (by simp)); simpa using this }; have s3 : w1.heap.size < w3.heap.size := by { have h8 := zAD HW2.out; have := HB3.out.size; omega }; have c2b : w4.cell? ⟨w.heap.size, 2, none⟩ = some (.int .i64 n) := HP0.out.c 0 (by simp) 2; have ck : w4.cell? ⟨kg, ko + q, none⟩ = some (.string va) := (HP0.out.bel.cell (p := ⟨kg, ko + q, none⟩) (World.block_lt_of_cell? _ _ HKC.out)).trans HKC.out; clear hblk hfr hp0)
  | (go_at_call_of 9 (Value.int IntKind.i64 co); refine (HP9.out _).mono ?_; rintro e w6 ⟨rfl, rfl⟩)
  | ((with_reducible show wpList _ _ _ (Oper.mk (some 82) _ _ _ _ _ :: _) _ _); refine wpList_load_mid (by rfl) 44 _ (by rfl) w1.heap.size 0 (by rfl) [.int .i64 2, .int .i64 0, .int .i64 0, .string ⟨#[]⟩, .string ⟨#[]⟩, .string ⟨#[110]⟩] _ (HP.out.r 2 (by simp)) Tryz.underlying44 rfl (by kernel_rfl) ?_)
  | ((with_reducible show wpList _ _ _ (Oper.mk (some 83) _ _ _ _ _ :: _) _ _); refine wpList_load_mid (by rfl) 44 _ (by rfl) w3.heap.size 0 (by rfl) [.int .i64 3, .int .i64 0, .int .i64 0, .string ⟨#[]⟩, .string va, .string ⟨#[110]⟩] _ (HP.out.r 3 (by simp)) Tryz.underlying44 rfl (by kernel_rfl) ?_)
  | (go_at_call 19; refine (compare_any 7 nO (⟨3, 0, 0, txt [], va, txt [110]⟩ : Opd) _).mono ?_; rintro e w5 ⟨rfl, hb5⟩; have HP5 := hid (HP.out.next hb5); clear hb5)
  | ((with_reducible show wpList _ _ _ (Oper.mk _ (.store 46 _ _) _ _ _ _ :: _) _ _); refine zAY 46 (w.heap.size + 1) 0 [.int .i64 0, .slice none 0 0, .int .i64 0, .int .i64 0, .int .i64 0, .string ⟨#[]⟩, .string ⟨#[]⟩, .string ⟨#[]⟩, .int .i64 0, .int .i64 0, .int .i64 0, .string ⟨#[]⟩, .string ⟨#[]⟩, .string ⟨#[]⟩] 46 [.int .i64 7, .slice none 0 0, .int .i64 2, .int .i64 0, .int .i64 0, .string ⟨#[]⟩, .string ⟨#[]⟩, .string ⟨#[110]⟩, .int .i64 3, .int .i64 0, .int .i64 0, .string ⟨#[]⟩, .string va, .string ⟨#[110]⟩] (HP5.out.b 1 (by simp)) ?_; intro w6 hblk hfr; have HW6 := hid hblk; have HBE : Hid (Below w.heap.size w w6) := zAG HP5.out.bel hfr (by omega); clear hblk hfr))
 exact zAR (w.heap.size + 1) [.int .i64 7, .slice none 0 0, .int .i64 2, .int .i64 0, .int .i64 0, .string ⟨#[]⟩, .string ⟨#[]⟩, .string ⟨#[110]⟩, .int .i64 3, .int .i64 0, .int .i64 0, .string ⟨#[]⟩, .string va, .string ⟨#[110]⟩] 46 _ HW6.out rfl rfl (by rfl) Tryz.underlying46 rfl (by kernel_rfl) ⟨_, rfl, fun _ _ => zA7 7 nO (⟨3, 0, 0, txt [], va, txt [110]⟩ : Opd), HBE.out⟩
theorem zIY (ty co n wi si : Int) (hn1 : -9223372036854775808 ≤ n) (hn2 : n ≤ 9223372036854775807) (hc1 : -9223372036854775808 ≤ co) (hc2 : co ≤ 9223372036854775807) (at_ : Nat) (h2 : at_ ≠ 2) (j : Nat) (hco : pkd co 9 = (j : Int)) (hj : 6 ≤ j) (w : World) (kg ko km kc q : Nat) (va : ByteArray) (hkm : 0 < km) (hkm3 : km ≤ 3) (hq : pkd n (km : Int) = (q : Int)) (hkc : w.cell? ⟨kg, ko + q, none⟩ = some (.string va)) :
  Calls Tryz.prog 66 #[.agg #[.int .i64 ty, .int .i64 co, .int .i64 n, .int .i64 wi, .int .i64 si], .int .i64 (at_ : Nat), .slice (some ⟨kg, ko, none⟩) km kc] w fun e w' => ∃ cs : List Value, e = .returned (.agg cs.toArray) ∧ (∀ W, (∀ i, w.heap.size ≤ i → TB w' 46 i → W.heap[i]? = w'.heap[i]?) → RdL W (encC (cn0)) cs) ∧ Below w.heap.size w w' := by
 have q0 : ((j : Int) == 0) = false := by simp; omega
 have r0 : (j = 0) = False := by simp; omega
 have q1 : ((j : Int) == 1) = false := by simp; omega
 have r1 : (j = 1) = False := by simp; omega
 have q2 : ((j : Int) == 2) = false := by simp; omega
 have r2 : (j = 2) = False := by simp; omega
 have q3 : ((j : Int) == 3) = false := by simp; omega
 have r3 : (j = 3) = False := by simp; omega
 have q4 : ((j : Int) == 4) = false := by simp; omega
 have r4 : (j = 4) = False := by simp; omega
 have q5 : ((j : Int) == 5) = false := by simp; omega
 have r5 : (j = 5) = False := by simp; omega
 have d2 : ((at_ : Int) == 2) = false := by first | (simp; done) | (simp; omega)
 have d2b : ¬ (at_ : Int) = 2 := by omega
 have d2c : (at_ = 2) = False := by simp [h2]
 obtain ⟨k, hk⟩ : ∃ k, pkd n 6 = k := ⟨_, rfl⟩
 have HP6 := hid (fun W => zAF n 6 W hn1 hn2 (by decide) (by decide))
 have HP9 := hid (fun W => zAF co 9 W hc1 hc2 (by decide) (by decide))
 rw [hk] at HP6
 try rw [hk]
 rw [hco] at HP9
 have hB := bxs2 w [.int .i64 ty, .int .i64 co, .int .i64 n, .int .i64 wi, .int .i64 si] [.int .i64 0, .slice none 0 0, .int .i64 0, .int .i64 0, .int .i64 0, .string ⟨#[]⟩, .string ⟨#[]⟩, .string ⟨#[]⟩, .int .i64 0, .int .i64 0, .int .i64 0, .string ⟨#[]⟩, .string ⟨#[]⟩, .string ⟨#[]⟩] 117 46
 have HB := hid hB
 have a2 : (0 : Int) ≤ 0 := by omega
 have HPM := hid (fun W => zAF n (km : Int) W hn1 hn2 (by omega) (by omega))
 rw [hq] at HPM
 have HKC := hid hkc
 have i1 : (0 : Int) ≤ (q : Int) := by omega
 have i2 : (q : Int) < (km : Int) := by have := (zAQ n (m := (km : Int)) (by omega)).2; omega
 have i3 : q < km := by omega
 have i4 : decide ((0 : Int) < (km : Int)) = true := by simp; omega
 have i5 : ((0 : Int) < (km : Int)) = True := by simp; omega
 have i6 : (0 < km) = True := by simp; omega
 clear hB hn1 hn2 hc1 hc2 hk hco d2b
 clear hq hkc hkm hkm3
 go_enter Tryz.func66, Tryz.ntmps66
 go_wp2_with (first
  | (go_at_call_of 9 (Value.int IntKind.i64 n); refine (HPM.out w4).mono ?_; rintro e w4 ⟨rfl, rfl⟩)
  | ((with_reducible show wpList _ _ _ (Oper.mk (some 30) _ _ _ _ _ :: _) _ _); refine zBM (by rfl) 44 _ (by rfl) #[(0, .int .i64 3), (2, .string va), (3, .string ⟨#[110]⟩)] (by simp [Act.eval, Act.put]) (.agg #[.int .i64 3, .int .i64 0, .int .i64 0, .string ⟨#[]⟩, .string va, .string ⟨#[110]⟩]) (fun w => by kernel_rfl) ?_)
  | ((with_reducible refine gSq ?_); refine zAT 44 w3.heap.size 0 [.int .i64 1, .int .i64 1, .int .i64 (k), .string ⟨#[]⟩, .string ⟨#[]⟩, .string ⟨#[]⟩] 44 (opV (⟨3, 0, 0, txt [], va, txt [110]⟩ : Opd)) [.int .i64 3, .int .i64 0, .int .i64 0, .string ⟨#[]⟩, .string va, .string ⟨#[110]⟩] HW4.out ?_; intro w6 hblk hfr; have hp2 : Hp w w6 [(w.heap.size, [.int .i64 ty, .int .i64 co, .int .i64 n, .int .i64 wi, .int .i64 si], 117), (w.heap.size + 1, [.int .i64 0, .slice none 0 0, .int .i64 0, .int .i64 0, .int .i64 0, .string ⟨#[]⟩, .string ⟨#[]⟩, .string ⟨#[]⟩, .int .i64 0, .int .i64 0, .int .i64 0, .string ⟨#[]⟩, .string ⟨#[]⟩, .string ⟨#[]⟩], 46), (w1.heap.size, [.int .i64 2, .int .i64 0, .int .i64 0, .string ⟨#[]⟩, .string ⟨#[]⟩, .string ⟨#[110]⟩], 44), (w3.heap.size, [.int .i64 3, .int .i64 0, .int .i64 0, .string ⟨#[]⟩, .string va, .string ⟨#[110]⟩], 44)] := ⟨zAG HP0.out.bel hfr (by omega), fun i hi => by rcases i with _ | _ | _ | _ | i; exact (hfr.block _ (zAD (HP0.out.b 0 (by simp))) (by show w.heap.size ≠ w3.heap.size; omega)).trans (HP0.out.b 0 (by simp)); exact (hfr.block _ (zAD (HP0.out.b 1 (by simp))) (by show w.heap.size + 1 ≠ w3.heap.size; omega)).trans (HP0.out.b 1 (by simp)); exact (hfr.block _ (zAD (HP0.out.b 2 (by simp))) (by show w1.heap.size ≠ w3.heap.size; omega)).trans (HP0.out.b 2 (by simp)); exact hblk; exact absurd hi (by simp)⟩; have HP := hid hp2; have c1 : w6.cell? ⟨w.heap.size, 1, none⟩ = some (.int .i64 co) := HP.out.c 0 (by simp) 1; clear hblk hfr hp2)
  | (go_at_call 21; refine (zA3 _ _).mono ?_; rintro e w1 ⟨rfl, hb1⟩; have HB1 := hid (HB.out.next hb1); clear hb1)
  | ((with_reducible refine gSq ?_); refine zAT 44 w1.heap.size 0 [.int .i64 0, .int .i64 0, .int .i64 0, .string ⟨#[]⟩, .string ⟨#[]⟩, .string ⟨#[]⟩] 44 (opV (ownO ⟨#[110]⟩)) [.int .i64 2, .int .i64 0, .int .i64 0, .string ⟨#[]⟩, .string ⟨#[]⟩, .string ⟨#[110]⟩] (heap_alloc_new _ _) ?_; intro w2 hblk hfr; have HW2 := hid hblk; have HB12 : Hid (Below w1.heap.size w1 w2) := zAI hfr; have c2 : w2.cell? ⟨w.heap.size, 2, none⟩ = some (.int .i64 n) := (HB1.out.next HB12.out).c 0 (by simp) 2; clear hblk hfr)
  | (go_at_call_of 9 (Value.int IntKind.i64 n); refine (HP6.out _).mono ?_; rintro e w2 ⟨rfl, rfl⟩)
  | (go_at_call 20; refine (zAO _ _).mono ?_; rintro e w3 ⟨rfl, hb3⟩; have HB3 := hid hb3; clear hb3)
  | ((with_reducible refine gSq ?_); refine zAT 44 w3.heap.size 0 [.int .i64 0, .int .i64 0, .int .i64 0, .string ⟨#[]⟩, .string ⟨#[]⟩, .string ⟨#[]⟩] 44 (opV (numO k)) [.int .i64 1, .int .i64 1, .int .i64 (k), .string ⟨#[]⟩, .string ⟨#[]⟩, .string ⟨#[]⟩] (heap_alloc_new _ _) ?_; intro w4 hblk hfr; have HW4 := hid hblk; have HB34 : Hid (Below w3.heap.size w3 w4) := zAI hfr; have hp0 : Hp w w4 [(w.heap.size, [.int .i64 ty, .int .i64 co, .int .i64 n, .int .i64 wi, .int .i64 si], 117), (w.heap.size + 1, [.int .i64 0, .slice none 0 0, .int .i64 0, .int .i64 0, .int .i64 0, .string ⟨#[]⟩, .string ⟨#[]⟩, .string ⟨#[]⟩, .int .i64 0, .int .i64 0, .int .i64 0, .string ⟨#[]⟩, .string ⟨#[]⟩, .string ⟨#[]⟩], 46), (w1.heap.size, [.int .i64 2, .int .i64 0, .int .i64 0, .string ⟨#[]⟩, .string ⟨#[]⟩, .string ⟨#[110]⟩], 44), (w3.heap.size, [.int .i64 1, .int .i64 1, .int .i64 (k), .string ⟨#[]⟩, .string ⟨#[]⟩, .string ⟨#[]⟩], 44)] := Hp.add (Hp.add (l := [(w.heap.size, [.int .i64 ty, .int .i64 co, .int .i64 n, .int .i64 wi, .int .i64 si], 117), (w.heap.size + 1, [.int .i64 0, .slice none 0 0, .int .i64 0, .int .i64 0, .int .i64 0, .string ⟨#[]⟩, .string ⟨#[]⟩, .string ⟨#[]⟩, .int .i64 0, .int .i64 0, .int .i64 0, .string ⟨#[]⟩, .string ⟨#[]⟩, .string ⟨#[]⟩], 46)]) (hp2 HB1.out) HB12.out HW2.out) (zAA HB3.out HB34.out HB3.out.size) HW4.out; have HP0 := hid hp0; have s1 : w.heap.size + 1 < w1.heap.size := by { have := zAD (HB1.out.b 1 (by simp)); simpa using this }; have s3 : w1.heap.size < w3.heap.size := by { have h8 := zAD HW2.out; have := HB3.out.size; omega }; have c2b : w4.cell? ⟨w.heap.size, 2, none⟩ = some (.int .i64 n) := HP0.out.c 0 (by simp) 2; have ck : w4.cell? ⟨kg, ko + q, none⟩ = some (.string va) := (HP0.out.bel.cell (p := ⟨kg, ko + q, none⟩) (World.block_lt_of_cell? _ _ HKC.out)).trans HKC.out; clear hblk hfr hp0)
  | (go_at_call_of 9 (Value.int IntKind.i64 co); refine (HP9.out _).mono ?_; rintro e w6 ⟨rfl, rfl⟩)
  | ((with_reducible show wpList _ _ _ (Oper.mk _ (.store 46 _ _) _ _ _ _ :: _) _ _); refine zAY 46 (w.heap.size + 1) 0 [.int .i64 0, .slice none 0 0, .int .i64 0, .int .i64 0, .int .i64 0, .string ⟨#[]⟩, .string ⟨#[]⟩, .string ⟨#[]⟩, .int .i64 0, .int .i64 0, .int .i64 0, .string ⟨#[]⟩, .string ⟨#[]⟩, .string ⟨#[]⟩] 46 [.int .i64 0, .slice none 0 0, .int .i64 0, .int .i64 0, .int .i64 0, .string ⟨#[]⟩, .string ⟨#[]⟩, .string ⟨#[]⟩, .int .i64 0, .int .i64 0, .int .i64 0, .string ⟨#[]⟩, .string ⟨#[]⟩, .string ⟨#[]⟩] (HP.out.b 1 (by simp)) ?_; intro w6 hblk hfr; have HW6 := hid hblk; have HBE : Hid (Below w.heap.size w w6) := zAG HP.out.bel hfr (by omega); clear hblk hfr))
 exact zAR (w.heap.size + 1) [.int .i64 0, .slice none 0 0, .int .i64 0, .int .i64 0, .int .i64 0, .string ⟨#[]⟩, .string ⟨#[]⟩, .string ⟨#[]⟩, .int .i64 0, .int .i64 0, .int .i64 0, .string ⟨#[]⟩, .string ⟨#[]⟩, .string ⟨#[]⟩] 46 _ HW6.out rfl rfl (by rfl) Tryz.underlying46 rfl (by kernel_rfl) ⟨_, rfl, fun _ _ => zA7 0 opd0 opd0, HBE.out⟩
theorem zID (ty co n wi si : Int) (hn1 : -9223372036854775808 ≤ n) (hn2 : n ≤ 9223372036854775807) (hc1 : -9223372036854775808 ≤ co) (hc2 : co ≤ 9223372036854775807) (at_ : Nat) (h2 : at_ ≠ 2) (hco : pkd co 9 = 5) (h1 : at_ = 1) (w : World) (kg ko km kc q : Nat) (va : ByteArray) (hkm : 0 < km) (hkm3 : km ≤ 3) (hq : pkd n (km : Int) = (q : Int)) (hkc : w.cell? ⟨kg, ko + q, none⟩ = some (.string va)) :
  Calls Tryz.prog 66 #[.agg #[.int .i64 ty, .int .i64 co, .int .i64 n, .int .i64 wi, .int .i64 si], .int .i64 (at_ : Nat), .slice (some ⟨kg, ko, none⟩) km kc] w fun e w' => ∃ cs : List Value, e = .returned (.agg cs.toArray) ∧ (∀ W, (∀ i, w.heap.size ≤ i → TB w' 46 i → W.heap[i]? = w'.heap[i]?) → RdL W (encC (cmpC 5 (ownO (txt [115])) (⟨1, 2, 0, txt [120], txt [], txt []⟩ : Opd))) cs) ∧ Below w.heap.size w w' := by
 subst h1
 have d2 : (((1 : Nat) : Int) == 2) = false := by first | (simp; done) | (simp; omega)
 have d2b : ¬ ((1 : Nat) : Int) = 2 := by omega
 obtain ⟨k, hk⟩ : ∃ k, pkd n 6 = k := ⟨_, rfl⟩
 have HP6 := hid (fun W => zAF n 6 W hn1 hn2 (by decide) (by decide))
 have HP9 := hid (fun W => zAF co 9 W hc1 hc2 (by decide) (by decide))
 rw [hk] at HP6
 try rw [hk]
 rw [hco] at HP9
 have hB := bxs2 w [.int .i64 ty, .int .i64 co, .int .i64 n, .int .i64 wi, .int .i64 si] [.int .i64 0, .slice none 0 0, .int .i64 0, .int .i64 0, .int .i64 0, .string ⟨#[]⟩, .string ⟨#[]⟩, .string ⟨#[]⟩, .int .i64 0, .int .i64 0, .int .i64 0, .string ⟨#[]⟩, .string ⟨#[]⟩, .string ⟨#[]⟩] 117 46
 have HB := hid hB
 have a2 : (0 : Int) ≤ 0 := by omega
 have HPM := hid (fun W => zAF n (km : Int) W hn1 hn2 (by omega) (by omega))
 rw [hq] at HPM
 have HKC := hid hkc
 have i1 : (0 : Int) ≤ (q : Int) := by omega
 have i2 : (q : Int) < (km : Int) := by have := (zAQ n (m := (km : Int)) (by omega)).2; omega
 have i3 : q < km := by omega
 have i4 : decide ((0 : Int) < (km : Int)) = true := by simp; omega
 have i5 : ((0 : Int) < (km : Int)) = True := by simp; omega
 have i6 : (0 < km) = True := by simp; omega
 clear hB hn1 hn2 hc1 hc2 hk hco d2b
 clear hq hkc hkm hkm3
 go_enter Tryz.func66, Tryz.ntmps66
 go_wp2_with (first
  | (go_at_call_of 9 (Value.int IntKind.i64 n); refine (HPM.out w4).mono ?_; rintro e w4 ⟨rfl, rfl⟩)
  | ((with_reducible show wpList _ _ _ (Oper.mk (some 30) _ _ _ _ _ :: _) _ _); refine zBM (by rfl) 44 _ (by rfl) #[(0, .int .i64 3), (2, .string va), (3, .string ⟨#[110]⟩)] (by simp [Act.eval, Act.put]) (.agg #[.int .i64 3, .int .i64 0, .int .i64 0, .string ⟨#[]⟩, .string va, .string ⟨#[110]⟩]) (fun w => by kernel_rfl) ?_)
  | ((with_reducible refine gSq ?_); refine zAT 44 w3.heap.size 0 [.int .i64 1, .int .i64 1, .int .i64 (k), .string ⟨#[]⟩, .string ⟨#[]⟩, .string ⟨#[]⟩] 44 (opV (⟨3, 0, 0, txt [], va, txt [110]⟩ : Opd)) [.int .i64 3, .int .i64 0, .int .i64 0, .string ⟨#[]⟩, .string va, .string ⟨#[110]⟩] HW4.out ?_; intro w6 hblk hfr; have hp2 : Hp w w6 [(w.heap.size, [.int .i64 ty, .int .i64 co, .int .i64 n, .int .i64 wi, .int .i64 si], 117), (w.heap.size + 1, [.int .i64 0, .slice none 0 0, .int .i64 0, .int .i64 0, .int .i64 0, .string ⟨#[]⟩, .string ⟨#[]⟩, .string ⟨#[]⟩, .int .i64 0, .int .i64 0, .int .i64 0, .string ⟨#[]⟩, .string ⟨#[]⟩, .string ⟨#[]⟩], 46), (w1.heap.size, [.int .i64 2, .int .i64 0, .int .i64 0, .string ⟨#[]⟩, .string ⟨#[]⟩, .string ⟨#[110]⟩], 44), (w3.heap.size, [.int .i64 3, .int .i64 0, .int .i64 0, .string ⟨#[]⟩, .string va, .string ⟨#[110]⟩], 44)] := ⟨zAG HP0.out.bel hfr (by omega), fun i hi => by rcases i with _ | _ | _ | _ | i; exact (hfr.block _ (zAD (HP0.out.b 0 (by simp))) (by show w.heap.size ≠ w3.heap.size; omega)).trans (HP0.out.b 0 (by simp)); exact (hfr.block _ (zAD (HP0.out.b 1 (by simp))) (by show w.heap.size + 1 ≠ w3.heap.size; omega)).trans (HP0.out.b 1 (by simp)); exact (hfr.block _ (zAD (HP0.out.b 2 (by simp))) (by show w1.heap.size ≠ w3.heap.size; omega)).trans (HP0.out.b 2 (by simp)); exact hblk; exact absurd hi (by simp)⟩; have HP := hid hp2; have c1 : w6.cell? ⟨w.heap.size, 1, none⟩ = some (.int .i64 co) := HP.out.c 0 (by simp) 1; clear hblk hfr hp2)
  | (go_at_call_of 21 (Value.string ⟨#[110]⟩); refine (zA3 _ _).mono ?_; rintro e w1 ⟨rfl, hb1⟩; have HB1 := hid (HB.out.next hb1); clear hb1)
  | ((with_reducible refine gSq ?_); refine zAT 44 w1.heap.size 0 [.int .i64 0, .int .i64 0, .int .i64 0, .string ⟨#[]⟩, .string ⟨#[]⟩, .string ⟨#[]⟩] 44 (opV (ownO ⟨#[110]⟩)) [.int .i64 2, .int .i64 0, .int .i64 0, .string ⟨#[]⟩, .string ⟨#[]⟩, .string ⟨#[110]⟩] (heap_alloc_new _ _) ?_; intro w2 hblk hfr; have HW2 := hid hblk; have HB12 : Hid (Below w1.heap.size w1 w2) := zAI hfr; have c2 : w2.cell? ⟨w.heap.size, 2, none⟩ = some (.int .i64 n) := (HB1.out.next HB12.out).c 0 (by simp) 2; clear hblk hfr)
  | (go_at_call_of 9 (Value.int IntKind.i64 n); refine (HP6.out _).mono ?_; rintro e w2 ⟨rfl, rfl⟩)
  | (go_at_call 20; refine (zAO _ _).mono ?_; rintro e w3 ⟨rfl, hb3⟩; have HB3 := hid hb3; clear hb3)
  | ((with_reducible refine gSq ?_); refine zAT 44 w3.heap.size 0 [.int .i64 0, .int .i64 0, .int .i64 0, .string ⟨#[]⟩, .string ⟨#[]⟩, .string ⟨#[]⟩] 44 (opV (numO k)) [.int .i64 1, .int .i64 1, .int .i64 (k), .string ⟨#[]⟩, .string ⟨#[]⟩, .string ⟨#[]⟩] (heap_alloc_new _ _) ?_; intro w4 hblk hfr; have HW4 := hid hblk; have HB34 : Hid (Below w3.heap.size w3 w4) := zAI hfr; have hp0 : Hp w w4 [(w.heap.size, [.int .i64 ty, .int .i64 co, .int .i64 n, .int .i64 wi, .int .i64 si], 117), (w.heap.size + 1, [.int .i64 0, .slice none 0 0, .int .i64 0, .int .i64 0, .int .i64 0, .string ⟨#[]⟩, .string ⟨#[]⟩, .string ⟨#[]⟩, .int .i64 0, .int .i64 0, .int .i64 0, .string ⟨#[]⟩, .string ⟨#[]⟩, .string ⟨#[]⟩], 46), (w1.heap.size, [.int .i64 2, .int .i64 0, .int .i64 0, .string ⟨#[]⟩, .string ⟨#[]⟩, .string ⟨#[110]⟩], 44), (w3.heap.size, [.int .i64 1, .int .i64 1, .int .i64 (k), .string ⟨#[]⟩, .string ⟨#[]⟩, .string ⟨#[]⟩], 44)] := Hp.add (Hp.add (l := [(w.heap.size, [.int .i64 ty, .int .i64 co, .int .i64 n, .int .i64 wi, .int .i64 si], 117), (w.heap.size + 1, [.int .i64 0, .slice none 0 0, .int .i64 0, .int .i64 0, .int .i64 0, .string ⟨#[]⟩, .string ⟨#[]⟩, .string ⟨#[]⟩, .int .i64 0, .int .i64 0, .int .i64 0, .string ⟨#[]⟩, .string ⟨#[]⟩, .string ⟨#[]⟩], 46)]) (hp2 HB1.out) HB12.out HW2.out) (zAA HB3.out HB34.out HB3.out.size) HW4.out; have HP0 := hid hp0; have s1 : w.heap.size + 1 < w1.heap.size := by { have := zAD (HB1.out.b 1 (by simp)); simpa using this }; have s3 : w1.heap.size < w3.heap.size := by { have h8 := zAD HW2.out; have := HB3.out.size; omega }; have c2b : w4.cell? ⟨w.heap.size, 2, none⟩ = some (.int .i64 n) := HP0.out.c 0 (by simp) 2; have ck : w4.cell? ⟨kg, ko + q, none⟩ = some (.string va) := (HP0.out.bel.cell (p := ⟨kg, ko + q, none⟩) (World.block_lt_of_cell? _ _ HKC.out)).trans HKC.out; clear hblk hfr hp0)
  | (go_at_call_of 9 (Value.int IntKind.i64 co); refine (HP9.out _).mono ?_; rintro e w6 ⟨rfl, rfl⟩)
  | (go_at_call_of 21 (Value.string ⟨#[115]⟩); refine (zA3 _ _).mono ?_; rintro e w5 ⟨rfl, hb5⟩; have HP5 := hid (HP.out.next hb5); clear hb5)
  | (go_at_call 19; refine (compare_any 5 (ownO (txt [115])) (⟨1, 2, 0, txt [120], txt [], txt []⟩ : Opd) _).mono ?_; rintro e w6 ⟨rfl, hb6⟩; have HP6' := hid (HP5.out.next hb6); clear hb6)
  | ((with_reducible show wpList _ _ _ (Oper.mk _ (.store 46 _ _) _ _ _ _ :: _) _ _); refine zAY 46 (w.heap.size + 1) 0 [.int .i64 0, .slice none 0 0, .int .i64 0, .int .i64 0, .int .i64 0, .string ⟨#[]⟩, .string ⟨#[]⟩, .string ⟨#[]⟩, .int .i64 0, .int .i64 0, .int .i64 0, .string ⟨#[]⟩, .string ⟨#[]⟩, .string ⟨#[]⟩] 46 [.int .i64 5, .slice none 0 0, .int .i64 2, .int .i64 0, .int .i64 0, .string ⟨#[]⟩, .string ⟨#[]⟩, .string ⟨#[115]⟩, .int .i64 1, .int .i64 2, .int .i64 0, .string ⟨#[120]⟩, .string ⟨#[]⟩, .string ⟨#[]⟩] (HP6'.out.b 1 (by simp)) ?_; intro w7 hblk hfr; have HW6 := hid hblk; have HBE : Hid (Below w.heap.size w w7) := zAG HP6'.out.bel hfr (by omega); clear hblk hfr))
 exact zAR (w.heap.size + 1) [.int .i64 5, .slice none 0 0, .int .i64 2, .int .i64 0, .int .i64 0, .string ⟨#[]⟩, .string ⟨#[]⟩, .string ⟨#[115]⟩, .int .i64 1, .int .i64 2, .int .i64 0, .string ⟨#[120]⟩, .string ⟨#[]⟩, .string ⟨#[]⟩] 46 _ HW6.out rfl rfl (by rfl) Tryz.underlying46 rfl (by kernel_rfl) ⟨_, rfl, fun _ _ => zA7 5 (ownO (txt [115])) (⟨1, 2, 0, txt [120], txt [], txt []⟩ : Opd), HBE.out⟩
theorem zI7 (ty co n wi si : Int) (hn1 : -9223372036854775808 ≤ n) (hn2 : n ≤ 9223372036854775807) (hc1 : -9223372036854775808 ≤ co) (hc2 : co ≤ 9223372036854775807) (at_ : Nat) (h2 : at_ ≠ 2) (hco : pkd co 9 = 3) (w : World) (kg ko km kc q : Nat) (va : ByteArray) (hkm : 0 < km) (hkm3 : km ≤ 3) (hq : pkd n (km : Int) = (q : Int)) (hkc : w.cell? ⟨kg, ko + q, none⟩ = some (.string va)) :
  Calls Tryz.prog 66 #[.agg #[.int .i64 ty, .int .i64 co, .int .i64 n, .int .i64 wi, .int .i64 si], .int .i64 (at_ : Nat), .slice (some ⟨kg, ko, none⟩) km kc] w fun e w' => ∃ cs : List Value, e = .returned (.agg cs.toArray) ∧ (∀ W, (∀ i, w.heap.size ≤ i → TB w' 46 i → W.heap[i]? = w'.heap[i]?) → RdL W (encC (grpC 2 [cmpC 4 nO (numO (pkd n 6)), cmpC 7 nO (numO 1)])) cs) ∧ Below w.heap.size w w' := by
 have d2 : ((at_ : Int) == 2) = false := by first | (simp; done) | (simp; omega)
 have d2b : ¬ (at_ : Int) = 2 := by omega
 have d2c : (at_ = 2) = False := by simp [h2]
 obtain ⟨k, hk⟩ : ∃ k, pkd n 6 = k := ⟨_, rfl⟩
 have HP6 := hid (fun W => zAF n 6 W hn1 hn2 (by decide) (by decide))
 have HP9 := hid (fun W => zAF co 9 W hc1 hc2 (by decide) (by decide))
 rw [hk] at HP6
 try rw [hk]
 rw [hco] at HP9
 have hB := bxs2 w [.int .i64 ty, .int .i64 co, .int .i64 n, .int .i64 wi, .int .i64 si] [.int .i64 0, .slice none 0 0, .int .i64 0, .int .i64 0, .int .i64 0, .string ⟨#[]⟩, .string ⟨#[]⟩, .string ⟨#[]⟩, .int .i64 0, .int .i64 0, .int .i64 0, .string ⟨#[]⟩, .string ⟨#[]⟩, .string ⟨#[]⟩] 117 46
 have HB := hid hB
 have a2 : (0 : Int) ≤ 0 := by omega
 have HPM := hid (fun W => zAF n (km : Int) W hn1 hn2 (by omega) (by omega))
 rw [hq] at HPM
 have HKC := hid hkc
 have i1 : (0 : Int) ≤ (q : Int) := by omega
 have i2 : (q : Int) < (km : Int) := by have := (zAQ n (m := (km : Int)) (by omega)).2; omega
 have i3 : q < km := by omega
 have i4 : decide ((0 : Int) < (km : Int)) = true := by simp; omega
 have i5 : ((0 : Int) < (km : Int)) = True := by simp; omega
 have i6 : (0 < km) = True := by simp; omega
 clear hB hn1 hn2 hc1 hc2 hk hco d2b
 clear hq hkc hkm hkm3
 go_enter Tryz.func66, Tryz.ntmps66
 go_wp2_with (first
  | (go_at_call_of 9 (Value.int IntKind.i64 n); refine (HPM.out w4).mono ?_; rintro e w4 ⟨rfl, rfl⟩)
  | ((with_reducible show wpList _ _ _ (Oper.mk (some 30) _ _ _ _ _ :: _) _ _); refine zBM (by rfl) 44 _ (by rfl) #[(0, .int .i64 3), (2, .string va), (3, .string ⟨#[110]⟩)] (by simp [Act.eval, Act.put]) (.agg #[.int .i64 3, .int .i64 0, .int .i64 0, .string ⟨#[]⟩, .string va, .string ⟨#[110]⟩]) (fun w => by kernel_rfl) ?_)
  | ((with_reducible refine gSq ?_); refine zAT 44 w3.heap.size 0 [.int .i64 1, .int .i64 1, .int .i64 (k), .string ⟨#[]⟩, .string ⟨#[]⟩, .string ⟨#[]⟩] 44 (opV (⟨3, 0, 0, txt [], va, txt [110]⟩ : Opd)) [.int .i64 3, .int .i64 0, .int .i64 0, .string ⟨#[]⟩, .string va, .string ⟨#[110]⟩] HW4.out ?_; intro w6 hblk hfr; have hp2 : Hp w w6 [(w.heap.size, [.int .i64 ty, .int .i64 co, .int .i64 n, .int .i64 wi, .int .i64 si], 117), (w.heap.size + 1, [.int .i64 0, .slice none 0 0, .int .i64 0, .int .i64 0, .int .i64 0, .string ⟨#[]⟩, .string ⟨#[]⟩, .string ⟨#[]⟩, .int .i64 0, .int .i64 0, .int .i64 0, .string ⟨#[]⟩, .string ⟨#[]⟩, .string ⟨#[]⟩], 46), (w1.heap.size, [.int .i64 2, .int .i64 0, .int .i64 0, .string ⟨#[]⟩, .string ⟨#[]⟩, .string ⟨#[110]⟩], 44), (w3.heap.size, [.int .i64 3, .int .i64 0, .int .i64 0, .string ⟨#[]⟩, .string va, .string ⟨#[110]⟩], 44)] := ⟨zAG HP0.out.bel hfr (by omega), fun i hi => by rcases i with _ | _ | _ | _ | i; exact (hfr.block _ (zAD (HP0.out.b 0 (by simp))) (by show w.heap.size ≠ w3.heap.size; omega)).trans (HP0.out.b 0 (by simp)); exact (hfr.block _ (zAD (HP0.out.b 1 (by simp))) (by show w.heap.size + 1 ≠ w3.heap.size; omega)).trans (HP0.out.b 1 (by simp)); exact (hfr.block _ (zAD (HP0.out.b 2 (by simp))) (by show w1.heap.size ≠ w3.heap.size; omega)).trans (HP0.out.b 2 (by simp)); exact hblk; exact absurd hi (by simp)⟩; have HP := hid hp2; have c1 : w6.cell? ⟨w.heap.size, 1, none⟩ = some (.int .i64 co) := HP.out.c 0 (by simp) 1; clear hblk hfr hp2)
  | (go_at_call 21; refine (zA3 _ _).mono ?_; rintro e w1 ⟨rfl, hb1⟩; have HB1 := hid (HB.out.next hb1); clear hb1)
  | ((with_reducible refine gSq ?_); refine zAT 44 w1.heap.size 0 [.int .i64 0, .int .i64 0, .int .i64 0, .string ⟨#[]⟩, .string ⟨#[]⟩, .string ⟨#[]⟩] 44 (opV (ownO ⟨#[110]⟩)) [.int .i64 2, .int .i64 0, .int .i64 0, .string ⟨#[]⟩, .string ⟨#[]⟩, .string ⟨#[110]⟩] (heap_alloc_new _ _) ?_; intro w2 hblk hfr; have HW2 := hid hblk; have HB12 : Hid (Below w1.heap.size w1 w2) := zAI hfr; have c2 : w2.cell? ⟨w.heap.size, 2, none⟩ = some (.int .i64 n) := (HB1.out.next HB12.out).c 0 (by simp) 2; clear hblk hfr)
  | (go_at_call_of 9 (Value.int IntKind.i64 n); refine (HP6.out _).mono ?_; rintro e w2 ⟨rfl, rfl⟩)
  | (go_at_call 20; refine (zAO _ _).mono ?_; rintro e w3 ⟨rfl, hb3⟩; have HB3 := hid hb3; clear hb3)
  | ((with_reducible refine gSq ?_); refine zAT 44 w3.heap.size 0 [.int .i64 0, .int .i64 0, .int .i64 0, .string ⟨#[]⟩, .string ⟨#[]⟩, .string ⟨#[]⟩] 44 (opV (numO k)) [.int .i64 1, .int .i64 1, .int .i64 (k), .string ⟨#[]⟩, .string ⟨#[]⟩, .string ⟨#[]⟩] (heap_alloc_new _ _) ?_; intro w4 hblk hfr; have HW4 := hid hblk; have HB34 : Hid (Below w3.heap.size w3 w4) := zAI hfr; have hp0 : Hp w w4 [(w.heap.size, [.int .i64 ty, .int .i64 co, .int .i64 n, .int .i64 wi, .int .i64 si], 117), (w.heap.size + 1, [.int .i64 0, .slice none 0 0, .int .i64 0, .int .i64 0, .int .i64 0, .string ⟨#[]⟩, .string ⟨#[]⟩, .string ⟨#[]⟩, .int .i64 0, .int .i64 0, .int .i64 0, .string ⟨#[]⟩, .string ⟨#[]⟩, .string ⟨#[]⟩], 46), (w1.heap.size, [.int .i64 2, .int .i64 0, .int .i64 0, .string ⟨#[]⟩, .string ⟨#[]⟩, .string ⟨#[110]⟩], 44), (w3.heap.size, [.int .i64 1, .int .i64 1, .int .i64 (k), .string ⟨#[]⟩, .string ⟨#[]⟩, .string ⟨#[]⟩], 44)] := Hp.add (Hp.add (l := [(w.heap.size, [.int .i64 ty, .int .i64 co, .int .i64 n, .int .i64 wi, .int .i64 si], 117), (w.heap.size + 1, [.int .i64 0, .slice none 0 0, .int .i64 0, .int .i64 0, .int .i64 0, .string ⟨#[]⟩, .string ⟨#[]⟩, .string ⟨#[]⟩, .int .i64 0, .int .i64 0, .int .i64 0, .string ⟨#[]⟩, .string ⟨#[]⟩, .string ⟨#[]⟩], 46)]) (hp2 HB1.out) HB12.out HW2.out) (zAA HB3.out HB34.out HB3.out.size) HW4.out; have HP0 := hid hp0; have s1 : w.heap.size + 1 < w1.heap.size := by { have := zAD (HB1.out.b 1 (by simp)); simpa using this }; have s3 : w1.heap.size < w3.heap.size := by { have h8 := zAD HW2.out; have := HB3.out.size; omega }; have c2b : w4.cell? ⟨w.heap.size, 2, none⟩ = some (.int .i64 n) := HP0.out.c 0 (by simp) 2; have ck : w4.cell? ⟨kg, ko + q, none⟩ = some (.string va) := (HP0.out.bel.cell (p := ⟨kg, ko + q, none⟩) (World.block_lt_of_cell? _ _ HKC.out)).trans HKC.out; clear hblk hfr hp0)
  | (go_at_call_of 9 (Value.int IntKind.i64 co); refine (HP9.out _).mono ?_; rintro e w6 ⟨rfl, rfl⟩))
 clear HW2 HB12 HB3 HW4 HB34 c1 c2 HB1 HB HP6 HP9
 clear HP0 s1 s3 c2b ck HPM HKC
 generalize w1.heap.size = b7 at HP ⊢
 generalize w3.heap.size = b9 at HP ⊢
 have HPD := hid (HP.out.next (Below.drew (Below.refl _ _)))
 refine zAV (by kernel_rfl) (fun i w9 v => ([(fun w9 v => v = .agg #[.int .i64 2, .int .i64 0, .int .i64 0, .string ⟨#[]⟩, .string ⟨#[]⟩, .string ⟨#[110]⟩]), (fun w9 v => v = .int .i64 k), (fun w9 v => v = .agg #[.int .i64 1, .int .i64 1, .int .i64 (k), .string ⟨#[]⟩, .string ⟨#[]⟩, .string ⟨#[]⟩]), (fun w9 v => v = .agg #[.int .i64 4, .slice none 0 0, .int .i64 2, .int .i64 0, .int .i64 0, .string ⟨#[]⟩, .string ⟨#[]⟩, .string ⟨#[110]⟩, .int .i64 1, .int .i64 1, .int .i64 (k), .string ⟨#[]⟩, .string ⟨#[]⟩, .string ⟨#[]⟩]), (fun w9 v => v = .agg #[.int .i64 2, .int .i64 0, .int .i64 0, .string ⟨#[]⟩, .string ⟨#[]⟩, .string ⟨#[110]⟩]), (fun w9 v => v = .agg #[.int .i64 1, .int .i64 1, .int .i64 (1), .string ⟨#[]⟩, .string ⟨#[]⟩, .string ⟨#[]⟩]), (fun w9 v => v = .agg #[.int .i64 7, .slice none 0 0, .int .i64 2, .int .i64 0, .int .i64 0, .string ⟨#[]⟩, .string ⟨#[]⟩, .string ⟨#[110]⟩, .int .i64 1, .int .i64 1, .int .i64 (1), .string ⟨#[]⟩, .string ⟨#[]⟩, .string ⟨#[]⟩]), (fun w9 v => ∃ (b : Nat), v = .slice (some ⟨b, 0, none⟩) 2 2 ∧ w9.heap[b]? = some (.cells #[.int .i64 4, .slice none 0 0, .int .i64 2, .int .i64 0, .int .i64 0, .string ⟨#[]⟩, .string ⟨#[]⟩, .string ⟨#[110]⟩, .int .i64 1, .int .i64 1, .int .i64 (k), .string ⟨#[]⟩, .string ⟨#[]⟩, .string ⟨#[]⟩, .int .i64 7, .slice none 0 0, .int .i64 2, .int .i64 0, .int .i64 0, .string ⟨#[]⟩, .string ⟨#[]⟩, .string ⟨#[110]⟩, .int .i64 1, .int .i64 1, .int .i64 (1), .string ⟨#[]⟩, .string ⟨#[]⟩, .string ⟨#[]⟩] 46 (0, 0)) ∧ w.heap.size + 1 < b), (fun w9 v => ∃ (b : Nat), v = .agg #[.int .i64 2, .slice (some ⟨b, 0, none⟩) 2 2, .int .i64 0, .int .i64 0, .int .i64 0, .string ⟨#[]⟩, .string ⟨#[]⟩, .string ⟨#[]⟩, .int .i64 0, .int .i64 0, .int .i64 0, .string ⟨#[]⟩, .string ⟨#[]⟩, .string ⟨#[]⟩] ∧ w9.heap[b]? = some (.cells #[.int .i64 4, .slice none 0 0, .int .i64 2, .int .i64 0, .int .i64 0, .string ⟨#[]⟩, .string ⟨#[]⟩, .string ⟨#[110]⟩, .int .i64 1, .int .i64 1, .int .i64 (k), .string ⟨#[]⟩, .string ⟨#[]⟩, .string ⟨#[]⟩, .int .i64 7, .slice none 0 0, .int .i64 2, .int .i64 0, .int .i64 0, .string ⟨#[]⟩, .string ⟨#[]⟩, .string ⟨#[110]⟩, .int .i64 1, .int .i64 1, .int .i64 (1), .string ⟨#[]⟩, .string ⟨#[]⟩, .string ⟨#[]⟩] 46 (0, 0)) ∧ w.heap.size + 1 < b)] : List (World → Value → Prop)).getD i (fun _ _ => True) w9 v) (fun W => Hp w W [(w.heap.size, [.int .i64 ty, .int .i64 co, .int .i64 n, .int .i64 wi, .int .i64 si], 117), (w.heap.size + 1, [.int .i64 0, .slice none 0 0, .int .i64 0, .int .i64 0, .int .i64 0, .string ⟨#[]⟩, .string ⟨#[]⟩, .string ⟨#[]⟩, .int .i64 0, .int .i64 0, .int .i64 0, .string ⟨#[]⟩, .string ⟨#[]⟩, .string ⟨#[]⟩], 46), (b7, [.int .i64 2, .int .i64 0, .int .i64 0, .string ⟨#[]⟩, .string ⟨#[]⟩, .string ⟨#[110]⟩], 44), (b9, [.int .i64 3, .int .i64 0, .int .i64 0, .string ⟨#[]⟩, .string va, .string ⟨#[110]⟩], 44)]) 86 9 rfl rfl (by kernel_rfl) (by kernel_rfl) (fun W W' => Below W.heap.size W W') ?hmon (HPD.out) (zAC.cons ?o0 (zAC.cons ?o1 (zAC.cons ?o2 (zAC.cons ?o3 (zAC.cons ?o4 (zAC.cons ?o5 (zAC.cons ?o6 (zAC.cons ?o7 (zAC.cons ?o8 zAC.nil))))))))) ?hend
 case hmon =>
  intro q W W' v hb h
  rcases q with _ | _ | _ | _ | _ | _ | _ | _ | _ | q
  . exact h
  . exact h
  . exact h
  . exact h
  . exact h
  . exact h
  . exact h
  . obtain ⟨b, e, h1, h2⟩ := h; exact ⟨b, e, (hb.block _ (zAD h1)).trans h1, h2⟩
  . obtain ⟨b, e, h1, h2⟩ := h; exact ⟨b, e, (hb.block _ (zAD h1)).trans h1, h2⟩
  . exact h
 case o0 =>
  intro a W hB hd ho
  have e7 : a.eval (.tmp 7) = .pointer (some ⟨b7, 0, none⟩) := ho 7 (by kernel_rfl)
  exact zBZ 44 _ rfl _ _ e7 [.int .i64 2, .int .i64 0, .int .i64 0, .string ⟨#[]⟩, .string ⟨#[]⟩, .string ⟨#[110]⟩] _ (hB.r 2 (by simp)) Tryz.underlying44 rfl (by kernel_rfl) ⟨_, rfl, rfl, hB, Below.refl _ _⟩
 case o1 =>
  intro a W hB hd ho
  have e8 : a.eval (.tmp 8) = .int .i64 k := ho 8 (by kernel_rfl)
  exact zA1 _ (by simp) _ e8 ⟨_, rfl, rfl, hB, Below.refl _ _⟩
 case o2 =>
  intro a W hB hd ho
  have e53 : a.eval (.tmp 53) = .int .i64 k := hd 1 53 (by kernel_rfl)
  refine zA0 20 zB8 _ _ rfl #[.int .i64 k] (by simp [ev_c, e53]) _ (zAO k W) ?_
  rintro e W' ⟨rfl, hb⟩
  exact ⟨_, rfl, _, rfl, rfl, hB.next hb, hb⟩
 case o3 =>
  intro a W hB hd ho
  have e52 : a.eval (.tmp 52) = opV nO := hd 0 52 (by kernel_rfl)
  have e54 : a.eval (.tmp 54) = opV (numO k) := hd 2 54 (by kernel_rfl)
  refine zA0 19 zBS _ _ rfl #[.int .i64 4, opV nO, opV (numO k)] (by simp [ev_c, e52, e54]) _ (compare_any 4 nO (numO k) W) ?_
  rintro e W' ⟨rfl, hb⟩
  exact ⟨_, rfl, _, rfl, rfl, hB.next hb, hb⟩
 case o4 =>
  intro a W hB hd ho
  have e7 : a.eval (.tmp 7) = .pointer (some ⟨b7, 0, none⟩) := ho 7 (by kernel_rfl)
  exact zBZ 44 _ rfl _ _ e7 [.int .i64 2, .int .i64 0, .int .i64 0, .string ⟨#[]⟩, .string ⟨#[]⟩, .string ⟨#[110]⟩] _ (hB.r 2 (by simp)) Tryz.underlying44 rfl (by kernel_rfl) ⟨_, rfl, rfl, hB, Below.refl _ _⟩
 case o5 =>
  intro a W hB hd ho
  refine zA0 20 zB8 _ _ rfl #[.int .i64 1] (by simp [ev_c]) _ (zAO 1 W) ?_
  rintro e W' ⟨rfl, hb⟩
  exact ⟨_, rfl, _, rfl, rfl, hB.next hb, hb⟩
 case o6 =>
  intro a W hB hd ho
  have e56 : a.eval (.tmp 56) = opV nO := hd 4 56 (by kernel_rfl)
  have e57 : a.eval (.tmp 57) = opV (numO 1) := hd 5 57 (by kernel_rfl)
  refine zA0 19 zBS _ _ rfl #[.int .i64 7, opV nO, opV (numO 1)] (by simp [ev_c, e56, e57]) _ (compare_any 7 nO (numO 1) W) ?_
  rintro e W' ⟨rfl, hb⟩
  exact ⟨_, rfl, _, rfl, rfl, hB.next hb, hb⟩
 case o7 =>
  intro a W hB hd ho
  have e55 : a.eval (.tmp 55) = .agg #[.int .i64 4, .slice none 0 0, .int .i64 2, .int .i64 0, .int .i64 0, .string ⟨#[]⟩, .string ⟨#[]⟩, .string ⟨#[110]⟩, .int .i64 1, .int .i64 1, .int .i64 (k), .string ⟨#[]⟩, .string ⟨#[]⟩, .string ⟨#[]⟩] := hd 3 55 (by kernel_rfl)
  have e58 : a.eval (.tmp 58) = .agg #[.int .i64 7, .slice none 0 0, .int .i64 2, .int .i64 0, .int .i64 0, .string ⟨#[]⟩, .string ⟨#[]⟩, .string ⟨#[110]⟩, .int .i64 1, .int .i64 1, .int .i64 (1), .string ⟨#[]⟩, .string ⟨#[]⟩, .string ⟨#[]⟩] := hd 6 58 (by kernel_rfl)
  have hal : Below W.heap.size W (W.alloc (.cells #[.int .i64 4, .slice none 0 0, .int .i64 2, .int .i64 0, .int .i64 0, .string ⟨#[]⟩, .string ⟨#[]⟩, .string ⟨#[110]⟩, .int .i64 1, .int .i64 1, .int .i64 (k), .string ⟨#[]⟩, .string ⟨#[]⟩, .string ⟨#[]⟩, .int .i64 7, .slice none 0 0, .int .i64 2, .int .i64 0, .int .i64 0, .string ⟨#[]⟩, .string ⟨#[]⟩, .string ⟨#[110]⟩, .int .i64 1, .int .i64 1, .int .i64 (1), .string ⟨#[]⟩, .string ⟨#[]⟩, .string ⟨#[]⟩] 46)) := (Below.refl _ _).alloc (Nat.le_refl _) _
  refine zBT 40 2 _ rfl #[(0, .agg #[.int .i64 4, .slice none 0 0, .int .i64 2, .int .i64 0, .int .i64 0, .string ⟨#[]⟩, .string ⟨#[]⟩, .string ⟨#[110]⟩, .int .i64 1, .int .i64 1, .int .i64 (k), .string ⟨#[]⟩, .string ⟨#[]⟩, .string ⟨#[]⟩]), (1, .agg #[.int .i64 7, .slice none 0 0, .int .i64 2, .int .i64 0, .int .i64 0, .string ⟨#[]⟩, .string ⟨#[]⟩, .string ⟨#[110]⟩, .int .i64 1, .int .i64 1, .int .i64 (1), .string ⟨#[]⟩, .string ⟨#[]⟩, .string ⟨#[]⟩])] (by simp [ev_c, e55, e58]) (.slice (some ⟨W.heap.size, 0, none⟩) 2 2) (W.alloc (.cells #[.int .i64 4, .slice none 0 0, .int .i64 2, .int .i64 0, .int .i64 0, .string ⟨#[]⟩, .string ⟨#[]⟩, .string ⟨#[110]⟩, .int .i64 1, .int .i64 1, .int .i64 (k), .string ⟨#[]⟩, .string ⟨#[]⟩, .string ⟨#[]⟩, .int .i64 7, .slice none 0 0, .int .i64 2, .int .i64 0, .int .i64 0, .string ⟨#[]⟩, .string ⟨#[]⟩, .string ⟨#[110]⟩, .int .i64 1, .int .i64 1, .int .i64 (1), .string ⟨#[]⟩, .string ⟨#[]⟩, .string ⟨#[]⟩] 46)) (by kernel_rfl) ⟨_, rfl, ⟨W.heap.size, rfl, heap_alloc_new _ _, (by have := zAD (hB.b 1 (by simp)); simp at this; omega)⟩, hB.next hal, hal⟩
 case o8 =>
  intro a W hB hd ho
  obtain ⟨b, e59, h1, h2⟩ : ∃ (b : Nat), a.eval (.tmp 59) = .slice (some ⟨b, 0, none⟩) 2 2 ∧ W.heap[b]? = some (.cells #[.int .i64 4, .slice none 0 0, .int .i64 2, .int .i64 0, .int .i64 0, .string ⟨#[]⟩, .string ⟨#[]⟩, .string ⟨#[110]⟩, .int .i64 1, .int .i64 1, .int .i64 (k), .string ⟨#[]⟩, .string ⟨#[]⟩, .string ⟨#[]⟩, .int .i64 7, .slice none 0 0, .int .i64 2, .int .i64 0, .int .i64 0, .string ⟨#[]⟩, .string ⟨#[]⟩, .string ⟨#[110]⟩, .int .i64 1, .int .i64 1, .int .i64 (1), .string ⟨#[]⟩, .string ⟨#[]⟩, .string ⟨#[]⟩] 46 (0, 0)) ∧ w.heap.size + 1 < b := hd 7 59 (by kernel_rfl)
  exact zCC 46 _ rfl #[(0, .int .i64 2), (1, .slice (some ⟨b, 0, none⟩) 2 2)] (by simp [ev_c, e59]) (.agg #[.int .i64 2, .slice (some ⟨b, 0, none⟩) 2 2, .int .i64 0, .int .i64 0, .int .i64 0, .string ⟨#[]⟩, .string ⟨#[]⟩, .string ⟨#[]⟩, .int .i64 0, .int .i64 0, .int .i64 0, .string ⟨#[]⟩, .string ⟨#[]⟩, .string ⟨#[]⟩]) (by kernel_rfl) ⟨_, rfl, ⟨b, rfl, h1, h2⟩, hB, Below.refl _ _⟩
 case hend =>
  intro vs W o ho hB hT
  obtain ⟨b, e8, h1, h2⟩ : ∃ (b : Nat), vs 8 = .agg #[.int .i64 2, .slice (some ⟨b, 0, none⟩) 2 2, .int .i64 0, .int .i64 0, .int .i64 0, .string ⟨#[]⟩, .string ⟨#[]⟩, .string ⟨#[]⟩, .int .i64 0, .int .i64 0, .int .i64 0, .string ⟨#[]⟩, .string ⟨#[]⟩, .string ⟨#[]⟩] ∧ W.heap[b]? = some (.cells #[.int .i64 4, .slice none 0 0, .int .i64 2, .int .i64 0, .int .i64 0, .string ⟨#[]⟩, .string ⟨#[]⟩, .string ⟨#[110]⟩, .int .i64 1, .int .i64 1, .int .i64 (k), .string ⟨#[]⟩, .string ⟨#[]⟩, .string ⟨#[]⟩, .int .i64 7, .slice none 0 0, .int .i64 2, .int .i64 0, .int .i64 0, .string ⟨#[]⟩, .string ⟨#[]⟩, .string ⟨#[110]⟩, .int .i64 1, .int .i64 1, .int .i64 (1), .string ⟨#[]⟩, .string ⟨#[]⟩, .string ⟨#[]⟩] 46 (0, 0)) ∧ w.heap.size + 1 < b := hT 8 (by decide)
  cases (show some _ = some o from ho)
  simp only [List.toList_toArray, List.take_succ_cons, List.take_zero, fill, if_true, Act.put, List.setIfInBounds_toArray, List.set_cons_zero, List.set_cons_succ, e8]
  refine op_st 46 _ _ rfl (w.heap.size + 1) 0 [.int .i64 0, .slice none 0 0, .int .i64 0, .int .i64 0, .int .i64 0, .string ⟨#[]⟩, .string ⟨#[]⟩, .string ⟨#[]⟩, .int .i64 0, .int .i64 0, .int .i64 0, .string ⟨#[]⟩, .string ⟨#[]⟩, .string ⟨#[]⟩] 46 (.agg #[.int .i64 2, .slice (some ⟨b, 0, none⟩) 2 2, .int .i64 0, .int .i64 0, .int .i64 0, .string ⟨#[]⟩, .string ⟨#[]⟩, .string ⟨#[]⟩, .int .i64 0, .int .i64 0, .int .i64 0, .string ⟨#[]⟩, .string ⟨#[]⟩, .string ⟨#[]⟩]) [.int .i64 2, .slice (some ⟨b, 0, none⟩) 2 2, .int .i64 0, .int .i64 0, .int .i64 0, .string ⟨#[]⟩, .string ⟨#[]⟩, .string ⟨#[]⟩, .int .i64 0, .int .i64 0, .int .i64 0, .string ⟨#[]⟩, .string ⟨#[]⟩, .string ⟨#[]⟩] (by rfl) (by rfl) (by rfl) (hB.b 1 (by simp)) (by simp) (by kernel_rfl) (by rfl) ?_
  intro w5 hblk hfr
  have HW5 := hid hblk
  have HBE : Hid (Below w.heap.size w w5) := zAG hB.bel hfr (by omega)
  have h5 : w5.heap[b]? = some (.cells #[.int .i64 4, .slice none 0 0, .int .i64 2, .int .i64 0, .int .i64 0, .string ⟨#[]⟩, .string ⟨#[]⟩, .string ⟨#[110]⟩, .int .i64 1, .int .i64 1, .int .i64 (k), .string ⟨#[]⟩, .string ⟨#[]⟩, .string ⟨#[]⟩, .int .i64 7, .slice none 0 0, .int .i64 2, .int .i64 0, .int .i64 0, .string ⟨#[]⟩, .string ⟨#[]⟩, .string ⟨#[110]⟩, .int .i64 1, .int .i64 1, .int .i64 (1), .string ⟨#[]⟩, .string ⟨#[]⟩, .string ⟨#[]⟩] 46 (0, 0)) := (hfr.block b (zAD h1) (by omega)).trans h1
  have HRR : Hid (∀ W, (∀ i, w.heap.size ≤ i → TB w5 46 i → W.heap[i]? = w5.heap[i]?) → RdL W (encC (grpC 2 [cmpC 4 nO (numO k), cmpC 7 nO (numO 1)])) [.int .i64 2, .slice (some ⟨b, 0, none⟩) 2 2, .int .i64 0, .int .i64 0, .int .i64 0, .string ⟨#[]⟩, .string ⟨#[]⟩, .string ⟨#[]⟩, .int .i64 0, .int .i64 0, .int .i64 0, .string ⟨#[]⟩, .string ⟨#[]⟩, .string ⟨#[]⟩]) := fun W hW => .cons (.lit _) (.cons (zB4 (l := [cmpC 4 nO (numO k), cmpC 7 nO (numO 1)].map encC) ((hW b (by omega) ⟨_, h5⟩).trans h5) (by simp) (by simp [maxLen]) (zBU (zA7 4 nO (numO k)) (zIM (zA7 7 nO (numO 1))))) (zAX [.int .i64 0, .int .i64 0, .int .i64 0, .string ⟨#[]⟩, .string ⟨#[]⟩, .string ⟨#[]⟩, .int .i64 0, .int .i64 0, .int .i64 0, .string ⟨#[]⟩, .string ⟨#[]⟩, .string ⟨#[]⟩]))
  clear hblk hfr h5 h1 h2
  go_wp2_with fail
  exact zAR (w.heap.size + 1) [.int .i64 2, .slice (some ⟨b, 0, none⟩) 2 2, .int .i64 0, .int .i64 0, .int .i64 0, .string ⟨#[]⟩, .string ⟨#[]⟩, .string ⟨#[]⟩, .int .i64 0, .int .i64 0, .int .i64 0, .string ⟨#[]⟩, .string ⟨#[]⟩, .string ⟨#[]⟩] 46 _ HW5.out rfl rfl (by rfl) Tryz.underlying46 rfl (by kernel_rfl) ⟨_, rfl, HRR.out, HBE.out⟩
theorem zJV (ty co n wi si : Int) (hn1 : -9223372036854775808 ≤ n) (hn2 : n ≤ 9223372036854775807) (hc1 : -9223372036854775808 ≤ co) (hc2 : co ≤ 9223372036854775807) (at_ : Nat) (h2 : at_ ≠ 2) (hco : pkd co 9 = 4) (w : World) (kg ko km kc q : Nat) (va : ByteArray) (hkm : 0 < km) (hkm3 : km ≤ 3) (hq : pkd n (km : Int) = (q : Int)) (hkc : w.cell? ⟨kg, ko + q, none⟩ = some (.string va)) :
  Calls Tryz.prog 66 #[.agg #[.int .i64 ty, .int .i64 co, .int .i64 n, .int .i64 wi, .int .i64 si], .int .i64 (at_ : Nat), .slice (some ⟨kg, ko, none⟩) km kc] w fun e w' => ∃ cs : List Value, e = .returned (.agg cs.toArray) ∧ (∀ W, (∀ i, w.heap.size ≤ i → TB w' 46 i → W.heap[i]? = w'.heap[i]?) → RdL W (encC (grpC 1 [cmpC 4 (⟨3, 0, 0, txt [], va, txt [110]⟩ : Opd) nO, grpC 3 [cmpC 4 nO (numO (pkd n 6))]])) cs) ∧ Below w.heap.size w w' := by
 have d2 : ((at_ : Int) == 2) = false := by first | (simp; done) | (simp; omega)
 have d2b : ¬ (at_ : Int) = 2 := by omega
 have d2c : (at_ = 2) = False := by simp [h2]
 obtain ⟨k, hk⟩ : ∃ k, pkd n 6 = k := ⟨_, rfl⟩
 have HP6 := hid (fun W => zAF n 6 W hn1 hn2 (by decide) (by decide))
 have HP9 := hid (fun W => zAF co 9 W hc1 hc2 (by decide) (by decide))
 rw [hk] at HP6
 try rw [hk]
 rw [hco] at HP9
 have hB := bxs2 w [.int .i64 ty, .int .i64 co, .int .i64 n, .int .i64 wi, .int .i64 si] [.int .i64 0, .slice none 0 0, .int .i64 0, .int .i64 0, .int .i64 0, .string ⟨#[]⟩, .string ⟨#[]⟩, .string ⟨#[]⟩, .int .i64 0, .int .i64 0, .int .i64 0, .string ⟨#[]⟩, .string ⟨#[]⟩, .string ⟨#[]⟩] 117 46
 have HB := hid hB
 have a2 : (0 : Int) ≤ 0 := by omega
 have HPM := hid (fun W => zAF n (km : Int) W hn1 hn2 (by omega) (by omega))
 rw [hq] at HPM
 have HKC := hid hkc
 have i1 : (0 : Int) ≤ (q : Int) := by omega
 have i2 : (q : Int) < (km : Int) := by have := (zAQ n (m := (km : Int)) (by omega)).2; omega
 have i3 : q < km := by omega
 have i4 : decide ((0 : Int) < (km : Int)) = true := by simp; omega
 have i5 : ((0 : Int) < (km : Int)) = True := by simp; omega
 have i6 : (0 < km) = True := by simp; omega
 clear hB hn1 hn2 hc1 hc2 hk hco d2b
 clear hq hkc hkm hkm3
 go_enter Tryz.func66, Tryz.ntmps66
 go_wp2_with (first
  | (go_at_call_of 9 (Value.int IntKind.i64 n); refine (HPM.out w4).mono ?_; rintro e w4 ⟨rfl, rfl⟩)
  | ((with_reducible show wpList _ _ _ (Oper.mk (some 30) _ _ _ _ _ :: _) _ _); refine zBM (by rfl) 44 _ (by rfl) #[(0, .int .i64 3), (2, .string va), (3, .string ⟨#[110]⟩)] (by simp [Act.eval, Act.put]) (.agg #[.int .i64 3, .int .i64 0, .int .i64 0, .string ⟨#[]⟩, .string va, .string ⟨#[110]⟩]) (fun w => by kernel_rfl) ?_)
  | ((with_reducible refine gSq ?_); refine zAT 44 w3.heap.size 0 [.int .i64 1, .int .i64 1, .int .i64 (k), .string ⟨#[]⟩, .string ⟨#[]⟩, .string ⟨#[]⟩] 44 (opV (⟨3, 0, 0, txt [], va, txt [110]⟩ : Opd)) [.int .i64 3, .int .i64 0, .int .i64 0, .string ⟨#[]⟩, .string va, .string ⟨#[110]⟩] HW4.out ?_; intro w6 hblk hfr; have hp2 : Hp w w6 [(w.heap.size, [.int .i64 ty, .int .i64 co, .int .i64 n, .int .i64 wi, .int .i64 si], 117), (w.heap.size + 1, [.int .i64 0, .slice none 0 0, .int .i64 0, .int .i64 0, .int .i64 0, .string ⟨#[]⟩, .string ⟨#[]⟩, .string ⟨#[]⟩, .int .i64 0, .int .i64 0, .int .i64 0, .string ⟨#[]⟩, .string ⟨#[]⟩, .string ⟨#[]⟩], 46), (w1.heap.size, [.int .i64 2, .int .i64 0, .int .i64 0, .string ⟨#[]⟩, .string ⟨#[]⟩, .string ⟨#[110]⟩], 44), (w3.heap.size, [.int .i64 3, .int .i64 0, .int .i64 0, .string ⟨#[]⟩, .string va, .string ⟨#[110]⟩], 44)] := ⟨zAG HP0.out.bel hfr (by omega), fun i hi => by rcases i with _ | _ | _ | _ | i; exact (hfr.block _ (zAD (HP0.out.b 0 (by simp))) (by show w.heap.size ≠ w3.heap.size; omega)).trans (HP0.out.b 0 (by simp)); exact (hfr.block _ (zAD (HP0.out.b 1 (by simp))) (by show w.heap.size + 1 ≠ w3.heap.size; omega)).trans (HP0.out.b 1 (by simp)); exact (hfr.block _ (zAD (HP0.out.b 2 (by simp))) (by show w1.heap.size ≠ w3.heap.size; omega)).trans (HP0.out.b 2 (by simp)); exact hblk; exact absurd hi (by simp)⟩; have HP := hid hp2; have c1 : w6.cell? ⟨w.heap.size, 1, none⟩ = some (.int .i64 co) := HP.out.c 0 (by simp) 1; clear hblk hfr hp2)
  | (go_at_call 21; refine (zA3 _ _).mono ?_; rintro e w1 ⟨rfl, hb1⟩; have HB1 := hid (HB.out.next hb1); clear hb1)
  | ((with_reducible refine gSq ?_); refine zAT 44 w1.heap.size 0 [.int .i64 0, .int .i64 0, .int .i64 0, .string ⟨#[]⟩, .string ⟨#[]⟩, .string ⟨#[]⟩] 44 (opV (ownO ⟨#[110]⟩)) [.int .i64 2, .int .i64 0, .int .i64 0, .string ⟨#[]⟩, .string ⟨#[]⟩, .string ⟨#[110]⟩] (heap_alloc_new _ _) ?_; intro w2 hblk hfr; have HW2 := hid hblk; have HB12 : Hid (Below w1.heap.size w1 w2) := zAI hfr; have c2 : w2.cell? ⟨w.heap.size, 2, none⟩ = some (.int .i64 n) := (HB1.out.next HB12.out).c 0 (by simp) 2; clear hblk hfr)
  | (go_at_call_of 9 (Value.int IntKind.i64 n); refine (HP6.out _).mono ?_; rintro e w2 ⟨rfl, rfl⟩)
  | (go_at_call 20; refine (zAO _ _).mono ?_; rintro e w3 ⟨rfl, hb3⟩; have HB3 := hid hb3; clear hb3)
  | ((with_reducible refine gSq ?_); refine zAT 44 w3.heap.size 0 [.int .i64 0, .int .i64 0, .int .i64 0, .string ⟨#[]⟩, .string ⟨#[]⟩, .string ⟨#[]⟩] 44 (opV (numO k)) [.int .i64 1, .int .i64 1, .int .i64 (k), .string ⟨#[]⟩, .string ⟨#[]⟩, .string ⟨#[]⟩] (heap_alloc_new _ _) ?_; intro w4 hblk hfr; have HW4 := hid hblk; have HB34 : Hid (Below w3.heap.size w3 w4) := zAI hfr; have hp0 : Hp w w4 [(w.heap.size, [.int .i64 ty, .int .i64 co, .int .i64 n, .int .i64 wi, .int .i64 si], 117), (w.heap.size + 1, [.int .i64 0, .slice none 0 0, .int .i64 0, .int .i64 0, .int .i64 0, .string ⟨#[]⟩, .string ⟨#[]⟩, .string ⟨#[]⟩, .int .i64 0, .int .i64 0, .int .i64 0, .string ⟨#[]⟩, .string ⟨#[]⟩, .string ⟨#[]⟩], 46), (w1.heap.size, [.int .i64 2, .int .i64 0, .int .i64 0, .string ⟨#[]⟩, .string ⟨#[]⟩, .string ⟨#[110]⟩], 44), (w3.heap.size, [.int .i64 1, .int .i64 1, .int .i64 (k), .string ⟨#[]⟩, .string ⟨#[]⟩, .string ⟨#[]⟩], 44)] := Hp.add (Hp.add (l := [(w.heap.size, [.int .i64 ty, .int .i64 co, .int .i64 n, .int .i64 wi, .int .i64 si], 117), (w.heap.size + 1, [.int .i64 0, .slice none 0 0, .int .i64 0, .int .i64 0, .int .i64 0, .string ⟨#[]⟩, .string ⟨#[]⟩, .string ⟨#[]⟩, .int .i64 0, .int .i64 0, .int .i64 0, .string ⟨#[]⟩, .string ⟨#[]⟩, .string ⟨#[]⟩], 46)]) (hp2 HB1.out) HB12.out HW2.out) (zAA HB3.out HB34.out HB3.out.size) HW4.out; have HP0 := hid hp0; have s1 : w.heap.size + 1 < w1.heap.size := by { have := zAD (HB1.out.b 1 (by simp)); simpa using this }; have s3 : w1.heap.size < w3.heap.size := by { have h8 := zAD HW2.out; have := HB3.out.size; omega }; have c2b : w4.cell? ⟨w.heap.size, 2, none⟩ = some (.int .i64 n) := HP0.out.c 0 (by simp) 2; have ck : w4.cell? ⟨kg, ko + q, none⟩ = some (.string va) := (HP0.out.bel.cell (p := ⟨kg, ko + q, none⟩) (World.block_lt_of_cell? _ _ HKC.out)).trans HKC.out; clear hblk hfr hp0)
  | (go_at_call_of 9 (Value.int IntKind.i64 co); refine (HP9.out _).mono ?_; rintro e w6 ⟨rfl, rfl⟩))
 clear HW2 HB12 HB3 HW4 HB34 c1 c2 HB1 HB HP6 HP9
 clear HP0 s1 s3 c2b ck HPM HKC
 generalize w1.heap.size = b7 at HP ⊢
 generalize w3.heap.size = b9 at HP ⊢
 have HPD := hid (HP.out.next (Below.drew (Below.refl _ _)))
 refine zAV (by kernel_rfl) (fun i w9 v => ([(fun w9 v => v = .agg #[.int .i64 3, .int .i64 0, .int .i64 0, .string ⟨#[]⟩, .string va, .string ⟨#[110]⟩]), (fun w9 v => v = .agg #[.int .i64 2, .int .i64 0, .int .i64 0, .string ⟨#[]⟩, .string ⟨#[]⟩, .string ⟨#[110]⟩]), (fun w9 v => v = .agg #[.int .i64 4, .slice none 0 0, .int .i64 3, .int .i64 0, .int .i64 0, .string ⟨#[]⟩, .string va, .string ⟨#[110]⟩, .int .i64 2, .int .i64 0, .int .i64 0, .string ⟨#[]⟩, .string ⟨#[]⟩, .string ⟨#[110]⟩]), (fun w9 v => v = .agg #[.int .i64 2, .int .i64 0, .int .i64 0, .string ⟨#[]⟩, .string ⟨#[]⟩, .string ⟨#[110]⟩]), (fun w9 v => v = .int .i64 k), (fun w9 v => v = .agg #[.int .i64 1, .int .i64 1, .int .i64 (k), .string ⟨#[]⟩, .string ⟨#[]⟩, .string ⟨#[]⟩]), (fun w9 v => v = .agg #[.int .i64 4, .slice none 0 0, .int .i64 2, .int .i64 0, .int .i64 0, .string ⟨#[]⟩, .string ⟨#[]⟩, .string ⟨#[110]⟩, .int .i64 1, .int .i64 1, .int .i64 (k), .string ⟨#[]⟩, .string ⟨#[]⟩, .string ⟨#[]⟩]), (fun w9 v => ∃ (b1 : Nat), v = .slice (some ⟨b1, 0, none⟩) 1 1 ∧ w9.heap[b1]? = some (.cells #[.int .i64 4, .slice none 0 0, .int .i64 2, .int .i64 0, .int .i64 0, .string ⟨#[]⟩, .string ⟨#[]⟩, .string ⟨#[110]⟩, .int .i64 1, .int .i64 1, .int .i64 (k), .string ⟨#[]⟩, .string ⟨#[]⟩, .string ⟨#[]⟩] 46 (0, 0)) ∧ w.heap.size + 1 < b1), (fun w9 v => ∃ (b1 : Nat), v = .agg #[.int .i64 3, .slice (some ⟨b1, 0, none⟩) 1 1, .int .i64 0, .int .i64 0, .int .i64 0, .string ⟨#[]⟩, .string ⟨#[]⟩, .string ⟨#[]⟩, .int .i64 0, .int .i64 0, .int .i64 0, .string ⟨#[]⟩, .string ⟨#[]⟩, .string ⟨#[]⟩] ∧ w9.heap[b1]? = some (.cells #[.int .i64 4, .slice none 0 0, .int .i64 2, .int .i64 0, .int .i64 0, .string ⟨#[]⟩, .string ⟨#[]⟩, .string ⟨#[110]⟩, .int .i64 1, .int .i64 1, .int .i64 (k), .string ⟨#[]⟩, .string ⟨#[]⟩, .string ⟨#[]⟩] 46 (0, 0)) ∧ w.heap.size + 1 < b1), (fun w9 v => ∃ (b1 b2 : Nat), v = .slice (some ⟨b2, 0, none⟩) 2 2 ∧ w9.heap[b1]? = some (.cells #[.int .i64 4, .slice none 0 0, .int .i64 2, .int .i64 0, .int .i64 0, .string ⟨#[]⟩, .string ⟨#[]⟩, .string ⟨#[110]⟩, .int .i64 1, .int .i64 1, .int .i64 (k), .string ⟨#[]⟩, .string ⟨#[]⟩, .string ⟨#[]⟩] 46 (0, 0)) ∧ w.heap.size + 1 < b1 ∧ w9.heap[b2]? = some (.cells #[.int .i64 4, .slice none 0 0, .int .i64 3, .int .i64 0, .int .i64 0, .string ⟨#[]⟩, .string va, .string ⟨#[110]⟩, .int .i64 2, .int .i64 0, .int .i64 0, .string ⟨#[]⟩, .string ⟨#[]⟩, .string ⟨#[110]⟩, .int .i64 3, .slice (some ⟨b1, 0, none⟩) 1 1, .int .i64 0, .int .i64 0, .int .i64 0, .string ⟨#[]⟩, .string ⟨#[]⟩, .string ⟨#[]⟩, .int .i64 0, .int .i64 0, .int .i64 0, .string ⟨#[]⟩, .string ⟨#[]⟩, .string ⟨#[]⟩] 46 (0, 0)) ∧ w.heap.size + 1 < b2), (fun w9 v => ∃ (b1 b2 : Nat), v = .agg #[.int .i64 1, .slice (some ⟨b2, 0, none⟩) 2 2, .int .i64 0, .int .i64 0, .int .i64 0, .string ⟨#[]⟩, .string ⟨#[]⟩, .string ⟨#[]⟩, .int .i64 0, .int .i64 0, .int .i64 0, .string ⟨#[]⟩, .string ⟨#[]⟩, .string ⟨#[]⟩] ∧ w9.heap[b1]? = some (.cells #[.int .i64 4, .slice none 0 0, .int .i64 2, .int .i64 0, .int .i64 0, .string ⟨#[]⟩, .string ⟨#[]⟩, .string ⟨#[110]⟩, .int .i64 1, .int .i64 1, .int .i64 (k), .string ⟨#[]⟩, .string ⟨#[]⟩, .string ⟨#[]⟩] 46 (0, 0)) ∧ w.heap.size + 1 < b1 ∧ w9.heap[b2]? = some (.cells #[.int .i64 4, .slice none 0 0, .int .i64 3, .int .i64 0, .int .i64 0, .string ⟨#[]⟩, .string va, .string ⟨#[110]⟩, .int .i64 2, .int .i64 0, .int .i64 0, .string ⟨#[]⟩, .string ⟨#[]⟩, .string ⟨#[110]⟩, .int .i64 3, .slice (some ⟨b1, 0, none⟩) 1 1, .int .i64 0, .int .i64 0, .int .i64 0, .string ⟨#[]⟩, .string ⟨#[]⟩, .string ⟨#[]⟩, .int .i64 0, .int .i64 0, .int .i64 0, .string ⟨#[]⟩, .string ⟨#[]⟩, .string ⟨#[]⟩] 46 (0, 0)) ∧ w.heap.size + 1 < b2)] : List (World → Value → Prop)).getD i (fun _ _ => True) w9 v) (fun W => Hp w W [(w.heap.size, [.int .i64 ty, .int .i64 co, .int .i64 n, .int .i64 wi, .int .i64 si], 117), (w.heap.size + 1, [.int .i64 0, .slice none 0 0, .int .i64 0, .int .i64 0, .int .i64 0, .string ⟨#[]⟩, .string ⟨#[]⟩, .string ⟨#[]⟩, .int .i64 0, .int .i64 0, .int .i64 0, .string ⟨#[]⟩, .string ⟨#[]⟩, .string ⟨#[]⟩], 46), (b7, [.int .i64 2, .int .i64 0, .int .i64 0, .string ⟨#[]⟩, .string ⟨#[]⟩, .string ⟨#[110]⟩], 44), (b9, [.int .i64 3, .int .i64 0, .int .i64 0, .string ⟨#[]⟩, .string va, .string ⟨#[110]⟩], 44)]) 86 11 rfl rfl (by kernel_rfl) (by kernel_rfl) (fun W W' => Below W.heap.size W W') ?hmon (HPD.out) (zAC.cons ?o0 (zAC.cons ?o1 (zAC.cons ?o2 (zAC.cons ?o3 (zAC.cons ?o4 (zAC.cons ?o5 (zAC.cons ?o6 (zAC.cons ?o7 (zAC.cons ?o8 (zAC.cons ?o9 (zAC.cons ?o10 zAC.nil))))))))))) ?hend
 case hmon =>
  intro q W W' v hb h
  rcases q with _ | _ | _ | _ | _ | _ | _ | _ | _ | _ | _ | q
  . exact h
  . exact h
  . exact h
  . exact h
  . exact h
  . exact h
  . exact h
  . obtain ⟨b, e, h1, h2⟩ := h; exact ⟨b, e, (hb.block _ (zAD h1)).trans h1, h2⟩
  . obtain ⟨b, e, h1, h2⟩ := h; exact ⟨b, e, (hb.block _ (zAD h1)).trans h1, h2⟩
  . obtain ⟨b, c, e, h1, h2, h3, h4⟩ := h; exact ⟨b, c, e, (hb.block _ (zAD h1)).trans h1, h2, (hb.block _ (zAD h3)).trans h3, h4⟩
  . obtain ⟨b, c, e, h1, h2, h3, h4⟩ := h; exact ⟨b, c, e, (hb.block _ (zAD h1)).trans h1, h2, (hb.block _ (zAD h3)).trans h3, h4⟩
  . exact h
 case o0 =>
  intro a W hB hd ho
  have e9 : a.eval (.tmp 9) = .pointer (some ⟨b9, 0, none⟩) := ho 9 (by kernel_rfl)
  exact zBZ 44 _ rfl _ _ e9 [.int .i64 3, .int .i64 0, .int .i64 0, .string ⟨#[]⟩, .string va, .string ⟨#[110]⟩] _ (hB.r 3 (by simp)) Tryz.underlying44 rfl (by kernel_rfl) ⟨_, rfl, rfl, hB, Below.refl _ _⟩
 case o1 =>
  intro a W hB hd ho
  have e7 : a.eval (.tmp 7) = .pointer (some ⟨b7, 0, none⟩) := ho 7 (by kernel_rfl)
  exact zBZ 44 _ rfl _ _ e7 [.int .i64 2, .int .i64 0, .int .i64 0, .string ⟨#[]⟩, .string ⟨#[]⟩, .string ⟨#[110]⟩] _ (hB.r 2 (by simp)) Tryz.underlying44 rfl (by kernel_rfl) ⟨_, rfl, rfl, hB, Below.refl _ _⟩
 case o2 =>
  intro a W hB hd ho
  have e63 : a.eval (.tmp 63) = opV (⟨3, 0, 0, txt [], va, txt [110]⟩ : Opd) := hd 0 63 (by kernel_rfl)
  have e64 : a.eval (.tmp 64) = opV nO := hd 1 64 (by kernel_rfl)
  refine zA0 19 zBS _ _ rfl #[.int .i64 4, opV (⟨3, 0, 0, txt [], va, txt [110]⟩ : Opd), opV nO] (by simp [ev_c, e63, e64]) _ (compare_any 4 (⟨3, 0, 0, txt [], va, txt [110]⟩ : Opd) nO W) ?_
  rintro e W' ⟨rfl, hb⟩
  exact ⟨_, rfl, _, rfl, rfl, hB.next hb, hb⟩
 case o3 =>
  intro a W hB hd ho
  have e7 : a.eval (.tmp 7) = .pointer (some ⟨b7, 0, none⟩) := ho 7 (by kernel_rfl)
  exact zBZ 44 _ rfl _ _ e7 [.int .i64 2, .int .i64 0, .int .i64 0, .string ⟨#[]⟩, .string ⟨#[]⟩, .string ⟨#[110]⟩] _ (hB.r 2 (by simp)) Tryz.underlying44 rfl (by kernel_rfl) ⟨_, rfl, rfl, hB, Below.refl _ _⟩
 case o4 =>
  intro a W hB hd ho
  have e8 : a.eval (.tmp 8) = .int .i64 k := ho 8 (by kernel_rfl)
  exact zA1 _ (by simp) _ e8 ⟨_, rfl, rfl, hB, Below.refl _ _⟩
 case o5 =>
  intro a W hB hd ho
  have e67 : a.eval (.tmp 67) = .int .i64 k := hd 4 67 (by kernel_rfl)
  refine zA0 20 zB8 _ _ rfl #[.int .i64 k] (by simp [ev_c, e67]) _ (zAO k W) ?_
  rintro e W' ⟨rfl, hb⟩
  exact ⟨_, rfl, _, rfl, rfl, hB.next hb, hb⟩
 case o6 =>
  intro a W hB hd ho
  have e66 : a.eval (.tmp 66) = opV nO := hd 3 66 (by kernel_rfl)
  have e68 : a.eval (.tmp 68) = opV (numO k) := hd 5 68 (by kernel_rfl)
  refine zA0 19 zBS _ _ rfl #[.int .i64 4, opV nO, opV (numO k)] (by simp [ev_c, e66, e68]) _ (compare_any 4 nO (numO k) W) ?_
  rintro e W' ⟨rfl, hb⟩
  exact ⟨_, rfl, _, rfl, rfl, hB.next hb, hb⟩
 case o7 =>
  intro a W hB hd ho
  have e69 : a.eval (.tmp 69) = .agg #[.int .i64 4, .slice none 0 0, .int .i64 2, .int .i64 0, .int .i64 0, .string ⟨#[]⟩, .string ⟨#[]⟩, .string ⟨#[110]⟩, .int .i64 1, .int .i64 1, .int .i64 (k), .string ⟨#[]⟩, .string ⟨#[]⟩, .string ⟨#[]⟩] := hd 6 69 (by kernel_rfl)
  have hal : Below W.heap.size W (W.alloc (.cells #[.int .i64 4, .slice none 0 0, .int .i64 2, .int .i64 0, .int .i64 0, .string ⟨#[]⟩, .string ⟨#[]⟩, .string ⟨#[110]⟩, .int .i64 1, .int .i64 1, .int .i64 (k), .string ⟨#[]⟩, .string ⟨#[]⟩, .string ⟨#[]⟩] 46)) := (Below.refl _ _).alloc (Nat.le_refl _) _
  refine zBT 40 1 _ rfl #[(0, .agg #[.int .i64 4, .slice none 0 0, .int .i64 2, .int .i64 0, .int .i64 0, .string ⟨#[]⟩, .string ⟨#[]⟩, .string ⟨#[110]⟩, .int .i64 1, .int .i64 1, .int .i64 (k), .string ⟨#[]⟩, .string ⟨#[]⟩, .string ⟨#[]⟩])] (by simp [ev_c, e69]) (.slice (some ⟨W.heap.size, 0, none⟩) 1 1) (W.alloc (.cells #[.int .i64 4, .slice none 0 0, .int .i64 2, .int .i64 0, .int .i64 0, .string ⟨#[]⟩, .string ⟨#[]⟩, .string ⟨#[110]⟩, .int .i64 1, .int .i64 1, .int .i64 (k), .string ⟨#[]⟩, .string ⟨#[]⟩, .string ⟨#[]⟩] 46)) (by kernel_rfl) ⟨_, rfl, ⟨W.heap.size, rfl, heap_alloc_new _ _, (by have := zAD (hB.b 1 (by simp)); simp at this; omega)⟩, hB.next hal, hal⟩
 case o8 =>
  intro a W hB hd ho
  obtain ⟨b1, e70, h1, h2⟩ : ∃ (b1 : Nat), a.eval (.tmp 70) = .slice (some ⟨b1, 0, none⟩) 1 1 ∧ W.heap[b1]? = some (.cells #[.int .i64 4, .slice none 0 0, .int .i64 2, .int .i64 0, .int .i64 0, .string ⟨#[]⟩, .string ⟨#[]⟩, .string ⟨#[110]⟩, .int .i64 1, .int .i64 1, .int .i64 (k), .string ⟨#[]⟩, .string ⟨#[]⟩, .string ⟨#[]⟩] 46 (0, 0)) ∧ w.heap.size + 1 < b1 := hd 7 70 (by kernel_rfl)
  exact zCC 46 _ rfl #[(0, .int .i64 3), (1, .slice (some ⟨b1, 0, none⟩) 1 1)] (by simp [ev_c, e70]) (.agg #[.int .i64 3, .slice (some ⟨b1, 0, none⟩) 1 1, .int .i64 0, .int .i64 0, .int .i64 0, .string ⟨#[]⟩, .string ⟨#[]⟩, .string ⟨#[]⟩, .int .i64 0, .int .i64 0, .int .i64 0, .string ⟨#[]⟩, .string ⟨#[]⟩, .string ⟨#[]⟩]) (by kernel_rfl) ⟨_, rfl, ⟨b1, rfl, h1, h2⟩, hB, Below.refl _ _⟩
 case o9 =>
  intro a W hB hd ho
  have e65 : a.eval (.tmp 65) = .agg #[.int .i64 4, .slice none 0 0, .int .i64 3, .int .i64 0, .int .i64 0, .string ⟨#[]⟩, .string va, .string ⟨#[110]⟩, .int .i64 2, .int .i64 0, .int .i64 0, .string ⟨#[]⟩, .string ⟨#[]⟩, .string ⟨#[110]⟩] := hd 2 65 (by kernel_rfl)
  obtain ⟨b1, e71, h1, h2⟩ : ∃ (b1 : Nat), a.eval (.tmp 71) = .agg #[.int .i64 3, .slice (some ⟨b1, 0, none⟩) 1 1, .int .i64 0, .int .i64 0, .int .i64 0, .string ⟨#[]⟩, .string ⟨#[]⟩, .string ⟨#[]⟩, .int .i64 0, .int .i64 0, .int .i64 0, .string ⟨#[]⟩, .string ⟨#[]⟩, .string ⟨#[]⟩] ∧ W.heap[b1]? = some (.cells #[.int .i64 4, .slice none 0 0, .int .i64 2, .int .i64 0, .int .i64 0, .string ⟨#[]⟩, .string ⟨#[]⟩, .string ⟨#[110]⟩, .int .i64 1, .int .i64 1, .int .i64 (k), .string ⟨#[]⟩, .string ⟨#[]⟩, .string ⟨#[]⟩] 46 (0, 0)) ∧ w.heap.size + 1 < b1 := hd 8 71 (by kernel_rfl)
  have hal : Below W.heap.size W (W.alloc (.cells #[.int .i64 4, .slice none 0 0, .int .i64 3, .int .i64 0, .int .i64 0, .string ⟨#[]⟩, .string va, .string ⟨#[110]⟩, .int .i64 2, .int .i64 0, .int .i64 0, .string ⟨#[]⟩, .string ⟨#[]⟩, .string ⟨#[110]⟩, .int .i64 3, .slice (some ⟨b1, 0, none⟩) 1 1, .int .i64 0, .int .i64 0, .int .i64 0, .string ⟨#[]⟩, .string ⟨#[]⟩, .string ⟨#[]⟩, .int .i64 0, .int .i64 0, .int .i64 0, .string ⟨#[]⟩, .string ⟨#[]⟩, .string ⟨#[]⟩] 46)) := (Below.refl _ _).alloc (Nat.le_refl _) _
  refine zBT 40 2 _ rfl #[(0, .agg #[.int .i64 4, .slice none 0 0, .int .i64 3, .int .i64 0, .int .i64 0, .string ⟨#[]⟩, .string va, .string ⟨#[110]⟩, .int .i64 2, .int .i64 0, .int .i64 0, .string ⟨#[]⟩, .string ⟨#[]⟩, .string ⟨#[110]⟩]), (1, .agg #[.int .i64 3, .slice (some ⟨b1, 0, none⟩) 1 1, .int .i64 0, .int .i64 0, .int .i64 0, .string ⟨#[]⟩, .string ⟨#[]⟩, .string ⟨#[]⟩, .int .i64 0, .int .i64 0, .int .i64 0, .string ⟨#[]⟩, .string ⟨#[]⟩, .string ⟨#[]⟩])] (by simp [ev_c, e65, e71]) (.slice (some ⟨W.heap.size, 0, none⟩) 2 2) (W.alloc (.cells #[.int .i64 4, .slice none 0 0, .int .i64 3, .int .i64 0, .int .i64 0, .string ⟨#[]⟩, .string va, .string ⟨#[110]⟩, .int .i64 2, .int .i64 0, .int .i64 0, .string ⟨#[]⟩, .string ⟨#[]⟩, .string ⟨#[110]⟩, .int .i64 3, .slice (some ⟨b1, 0, none⟩) 1 1, .int .i64 0, .int .i64 0, .int .i64 0, .string ⟨#[]⟩, .string ⟨#[]⟩, .string ⟨#[]⟩, .int .i64 0, .int .i64 0, .int .i64 0, .string ⟨#[]⟩, .string ⟨#[]⟩, .string ⟨#[]⟩] 46)) (by kernel_rfl) ⟨_, rfl, ⟨b1, W.heap.size, rfl, (hal.block _ (zAD h1)).trans h1, h2, heap_alloc_new _ _, (by have := zAD (hB.b 1 (by simp)); simp at this; omega)⟩, hB.next hal, hal⟩
 case o10 =>
  intro a W hB hd ho
  obtain ⟨b1, b2, e72, h1, h2, h3, h4⟩ : ∃ (b1 b2 : Nat), a.eval (.tmp 72) = .slice (some ⟨b2, 0, none⟩) 2 2 ∧ W.heap[b1]? = some (.cells #[.int .i64 4, .slice none 0 0, .int .i64 2, .int .i64 0, .int .i64 0, .string ⟨#[]⟩, .string ⟨#[]⟩, .string ⟨#[110]⟩, .int .i64 1, .int .i64 1, .int .i64 (k), .string ⟨#[]⟩, .string ⟨#[]⟩, .string ⟨#[]⟩] 46 (0, 0)) ∧ w.heap.size + 1 < b1 ∧ W.heap[b2]? = some (.cells #[.int .i64 4, .slice none 0 0, .int .i64 3, .int .i64 0, .int .i64 0, .string ⟨#[]⟩, .string va, .string ⟨#[110]⟩, .int .i64 2, .int .i64 0, .int .i64 0, .string ⟨#[]⟩, .string ⟨#[]⟩, .string ⟨#[110]⟩, .int .i64 3, .slice (some ⟨b1, 0, none⟩) 1 1, .int .i64 0, .int .i64 0, .int .i64 0, .string ⟨#[]⟩, .string ⟨#[]⟩, .string ⟨#[]⟩, .int .i64 0, .int .i64 0, .int .i64 0, .string ⟨#[]⟩, .string ⟨#[]⟩, .string ⟨#[]⟩] 46 (0, 0)) ∧ w.heap.size + 1 < b2 := hd 9 72 (by kernel_rfl)
  exact zCC 46 _ rfl #[(0, .int .i64 1), (1, .slice (some ⟨b2, 0, none⟩) 2 2)] (by simp [ev_c, e72]) (.agg #[.int .i64 1, .slice (some ⟨b2, 0, none⟩) 2 2, .int .i64 0, .int .i64 0, .int .i64 0, .string ⟨#[]⟩, .string ⟨#[]⟩, .string ⟨#[]⟩, .int .i64 0, .int .i64 0, .int .i64 0, .string ⟨#[]⟩, .string ⟨#[]⟩, .string ⟨#[]⟩]) (by kernel_rfl) ⟨_, rfl, ⟨b1, b2, rfl, h1, h2, h3, h4⟩, hB, Below.refl _ _⟩
 case hend =>
  intro vs W o ho hB hT
  obtain ⟨b1, b2, e10, h1, h2, h3, h4⟩ : ∃ (b1 b2 : Nat), vs 10 = .agg #[.int .i64 1, .slice (some ⟨b2, 0, none⟩) 2 2, .int .i64 0, .int .i64 0, .int .i64 0, .string ⟨#[]⟩, .string ⟨#[]⟩, .string ⟨#[]⟩, .int .i64 0, .int .i64 0, .int .i64 0, .string ⟨#[]⟩, .string ⟨#[]⟩, .string ⟨#[]⟩] ∧ W.heap[b1]? = some (.cells #[.int .i64 4, .slice none 0 0, .int .i64 2, .int .i64 0, .int .i64 0, .string ⟨#[]⟩, .string ⟨#[]⟩, .string ⟨#[110]⟩, .int .i64 1, .int .i64 1, .int .i64 (k), .string ⟨#[]⟩, .string ⟨#[]⟩, .string ⟨#[]⟩] 46 (0, 0)) ∧ w.heap.size + 1 < b1 ∧ W.heap[b2]? = some (.cells #[.int .i64 4, .slice none 0 0, .int .i64 3, .int .i64 0, .int .i64 0, .string ⟨#[]⟩, .string va, .string ⟨#[110]⟩, .int .i64 2, .int .i64 0, .int .i64 0, .string ⟨#[]⟩, .string ⟨#[]⟩, .string ⟨#[110]⟩, .int .i64 3, .slice (some ⟨b1, 0, none⟩) 1 1, .int .i64 0, .int .i64 0, .int .i64 0, .string ⟨#[]⟩, .string ⟨#[]⟩, .string ⟨#[]⟩, .int .i64 0, .int .i64 0, .int .i64 0, .string ⟨#[]⟩, .string ⟨#[]⟩, .string ⟨#[]⟩] 46 (0, 0)) ∧ w.heap.size + 1 < b2 := hT 10 (by decide)
  cases (show some _ = some o from ho)
  simp only [List.toList_toArray, List.take_succ_cons, List.take_zero, fill, if_true, Act.put, List.setIfInBounds_toArray, List.set_cons_zero, List.set_cons_succ, e10]
  refine op_st 46 _ _ rfl (w.heap.size + 1) 0 [.int .i64 0, .slice none 0 0, .int .i64 0, .int .i64 0, .int .i64 0, .string ⟨#[]⟩, .string ⟨#[]⟩, .string ⟨#[]⟩, .int .i64 0, .int .i64 0, .int .i64 0, .string ⟨#[]⟩, .string ⟨#[]⟩, .string ⟨#[]⟩] 46 (.agg #[.int .i64 1, .slice (some ⟨b2, 0, none⟩) 2 2, .int .i64 0, .int .i64 0, .int .i64 0, .string ⟨#[]⟩, .string ⟨#[]⟩, .string ⟨#[]⟩, .int .i64 0, .int .i64 0, .int .i64 0, .string ⟨#[]⟩, .string ⟨#[]⟩, .string ⟨#[]⟩]) [.int .i64 1, .slice (some ⟨b2, 0, none⟩) 2 2, .int .i64 0, .int .i64 0, .int .i64 0, .string ⟨#[]⟩, .string ⟨#[]⟩, .string ⟨#[]⟩, .int .i64 0, .int .i64 0, .int .i64 0, .string ⟨#[]⟩, .string ⟨#[]⟩, .string ⟨#[]⟩] (by rfl) (by rfl) (by rfl) (hB.b 1 (by simp)) (by simp) (by kernel_rfl) (by rfl) ?_
  intro w5 hblk hfr
  have HW5 := hid hblk
  have HBE : Hid (Below w.heap.size w w5) := zAG hB.bel hfr (by omega)
  have h5 : w5.heap[b1]? = some (.cells #[.int .i64 4, .slice none 0 0, .int .i64 2, .int .i64 0, .int .i64 0, .string ⟨#[]⟩, .string ⟨#[]⟩, .string ⟨#[110]⟩, .int .i64 1, .int .i64 1, .int .i64 (k), .string ⟨#[]⟩, .string ⟨#[]⟩, .string ⟨#[]⟩] 46 (0, 0)) := (hfr.block b1 (zAD h1) (by omega)).trans h1
  have h6 : w5.heap[b2]? = some (.cells #[.int .i64 4, .slice none 0 0, .int .i64 3, .int .i64 0, .int .i64 0, .string ⟨#[]⟩, .string va, .string ⟨#[110]⟩, .int .i64 2, .int .i64 0, .int .i64 0, .string ⟨#[]⟩, .string ⟨#[]⟩, .string ⟨#[110]⟩, .int .i64 3, .slice (some ⟨b1, 0, none⟩) 1 1, .int .i64 0, .int .i64 0, .int .i64 0, .string ⟨#[]⟩, .string ⟨#[]⟩, .string ⟨#[]⟩, .int .i64 0, .int .i64 0, .int .i64 0, .string ⟨#[]⟩, .string ⟨#[]⟩, .string ⟨#[]⟩] 46 (0, 0)) := (hfr.block b2 (zAD h3) (by omega)).trans h3
  have hn : ∀ W, (∀ i, w.heap.size ≤ i → TB w5 46 i → W.heap[i]? = w5.heap[i]?) → RdL W (encC (grpC 3 [cmpC 4 nO (numO k)])) [.int .i64 3, .slice (some ⟨b1, 0, none⟩) 1 1, .int .i64 0, .int .i64 0, .int .i64 0, .string ⟨#[]⟩, .string ⟨#[]⟩, .string ⟨#[]⟩, .int .i64 0, .int .i64 0, .int .i64 0, .string ⟨#[]⟩, .string ⟨#[]⟩, .string ⟨#[]⟩] := fun W hW => .cons (.lit _) (.cons (zB4 (l := [cmpC 4 nO (numO k)].map encC) ((hW b1 (by omega) ⟨_, h5⟩).trans h5) (by simp) (by simp [maxLen]) (zIM (zA7 4 nO (numO k)))) (zAX [.int .i64 0, .int .i64 0, .int .i64 0, .string ⟨#[]⟩, .string ⟨#[]⟩, .string ⟨#[]⟩, .int .i64 0, .int .i64 0, .int .i64 0, .string ⟨#[]⟩, .string ⟨#[]⟩, .string ⟨#[]⟩]))
  have HRR : Hid (∀ W, (∀ i, w.heap.size ≤ i → TB w5 46 i → W.heap[i]? = w5.heap[i]?) → RdL W (encC (grpC 1 [cmpC 4 (⟨3, 0, 0, txt [], va, txt [110]⟩ : Opd) nO, grpC 3 [cmpC 4 nO (numO k)]])) [.int .i64 1, .slice (some ⟨b2, 0, none⟩) 2 2, .int .i64 0, .int .i64 0, .int .i64 0, .string ⟨#[]⟩, .string ⟨#[]⟩, .string ⟨#[]⟩, .int .i64 0, .int .i64 0, .int .i64 0, .string ⟨#[]⟩, .string ⟨#[]⟩, .string ⟨#[]⟩]) := fun W hW => .cons (.lit _) (.cons (zB4 (l := [cmpC 4 (⟨3, 0, 0, txt [], va, txt [110]⟩ : Opd) nO, grpC 3 [cmpC 4 nO (numO k)]].map encC) ((hW b2 (by omega) ⟨_, h6⟩).trans h6) (by simp) (by simp [maxLen]) (zBU (zA7 4 (⟨3, 0, 0, txt [], va, txt [110]⟩ : Opd) nO) (zIM (hn W hW)))) (zAX [.int .i64 0, .int .i64 0, .int .i64 0, .string ⟨#[]⟩, .string ⟨#[]⟩, .string ⟨#[]⟩, .int .i64 0, .int .i64 0, .int .i64 0, .string ⟨#[]⟩, .string ⟨#[]⟩, .string ⟨#[]⟩]))
  clear hblk hfr h5 h1 h2 h3 h4 h6 hn
  go_wp2_with fail
  exact zAR (w.heap.size + 1) [.int .i64 1, .slice (some ⟨b2, 0, none⟩) 2 2, .int .i64 0, .int .i64 0, .int .i64 0, .string ⟨#[]⟩, .string ⟨#[]⟩, .string ⟨#[]⟩, .int .i64 0, .int .i64 0, .int .i64 0, .string ⟨#[]⟩, .string ⟨#[]⟩, .string ⟨#[]⟩] 46 _ HW5.out rfl rfl (by rfl) Tryz.underlying46 rfl (by kernel_rfl) ⟨_, rfl, HRR.out, HBE.out⟩
theorem zGY (ty co n wi si : Int) (hn1 : -9223372036854775808 ≤ n) (hn2 : n ≤ 9223372036854775807) (hc1 : -9223372036854775808 ≤ co) (hc2 : co ≤ 9223372036854775807) (at_ : Nat) (w : World) (kg ko km kc q : Nat) (va : ByteArray) (hkm : 0 < km) (hkm3 : km ≤ 3) (hq : pkd n (km : Int) = (q : Int)) (hkc : w.cell? ⟨kg, ko + q, none⟩ = some (.string va)) :
   Calls Tryz.prog 66 #[.agg #[.int .i64 ty, .int .i64 co, .int .i64 n, .int .i64 wi, .int .i64 si], .int .i64 (at_ : Nat), .slice (some ⟨kg, ko, none⟩) km kc] w fun e w' => ∃ cs : List Value, e = .returned (.agg cs.toArray) ∧ (∀ W, (∀ i, w.heap.size ≤ i → TB w' 46 i → W.heap[i]? = w'.heap[i]?) → RdL W (encC (whC (pkd co 9).toNat at_ (pkd n 6) (⟨3, 0, 0, txt [], va, txt [110]⟩ : Opd))) cs) ∧ Below w.heap.size w w' := by
 by_cases h2 : at_ = 2
 . have e : whC (pkd co 9).toNat at_ (pkd n 6) (⟨3, 0, 0, txt [], va, txt [110]⟩ : Opd) = cn0 := by unfold whC; rw [if_pos h2]
   rw [e]
   exact zGZ ty co n wi si hn1 hn2 hc1 hc2 at_ h2 w kg ko km kc q va hkm hkm3 hq hkc
 . obtain ⟨q1, q2⟩ := zAQ co (m := 9) (by decide)
   obtain ⟨j, hj⟩ : ∃ j : Nat, pkd co 9 = (j : Int) := ⟨(pkd co 9).toNat, by omega⟩
   rw [hj, Int.toNat_natCast]
   unfold whC
   rw [if_neg h2]
   rcases (by omega : j = 0 ∨ j = 1 ∨ j = 2 ∨ j = 3 ∨ j = 4 ∨ j = 5 ∨ 6 ≤ j) with rfl | rfl | rfl | rfl | rfl | rfl | h6
   . exact zK3 ty co n wi si hn1 hn2 hc1 hc2 at_ h2 hj w kg ko km kc q va hkm hkm3 hq hkc
   . exact zJ6 ty co n wi si hn1 hn2 hc1 hc2 at_ h2 hj w kg ko km kc q va hkm hkm3 hq hkc
   . exact zJL ty co n wi si hn1 hn2 hc1 hc2 at_ h2 hj w kg ko km kc q va hkm hkm3 hq hkc
   . exact zI7 ty co n wi si hn1 hn2 hc1 hc2 at_ h2 hj w kg ko km kc q va hkm hkm3 hq hkc
   . exact zJV ty co n wi si hn1 hn2 hc1 hc2 at_ h2 hj w kg ko km kc q va hkm hkm3 hq hkc
   . by_cases h1 : at_ = 1
     . have h := zID ty co n wi si hn1 hn2 hc1 hc2 at_ h2 hj h1 w kg ko km kc q va hkm hkm3 hq hkc
       simpa [h1] using h
     . have h := zKQ ty co n wi si hn1 hn2 hc1 hc2 at_ h2 hj h1 w kg ko km kc q va hkm hkm3 hq hkc
       simpa [h1] using h
   . rw [if_neg (by omega), if_neg (by omega), if_neg (by omega), if_neg (by omega), if_neg (by omega), if_neg (by omega)]
     exact zIY ty co n wi si hn1 hn2 hc1 hc2 at_ h2 j hj h6 w kg ko km kc q va hkm hkm3 hq hkc
end Go.Proofs.YtnlmknbhppdliaaGreatDoor.Chk
