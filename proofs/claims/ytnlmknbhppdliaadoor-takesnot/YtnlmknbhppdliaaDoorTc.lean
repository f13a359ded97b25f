/-
  A condition of raw numbers, where no when is known.
-/
import Derived.Test.YtnlmknbhppdliaaDoorTb
import Derived.Test.YtnlmknbhppdliaaDoorDo
set_option maxHeartbeats 64000000
namespace Go.Proofs.YtnlmknbhppdliaaDoor.Chk
open Go.ChangeShapes Go.WideShapes Go.ChangeAt Go.RowKit Go.Maps
set_option linter.unusedVariables false
set_option linter.unusedSimpArgs false
set_option maxRecDepth 20000
theorem zEC : ∀ args w, (callFunc 6 args).run Tryd.prog w = .ok (.enter 6 args) w := enters_of Tryd.func6 (by kernel_rfl) rfl
theorem zCV : ∀ args w, (callFunc 11 args).run Tryd.prog w = .ok (.enter 11 args) w := enters_of Tryd.func11 (by kernel_rfl) rfl
theorem zG7 : ∀ args w, (callFunc 4 args).run Tryd.prog w = .ok (.enter 4 args) w := enters_of Tryd.func4 (by kernel_rfl) rfl
theorem zEK {w : World} {ds : List Dat} {cs : List Value} (h : RdL w ds cs) : RdL w (ds ++ []) cs := by rw [List.append_nil]; exact h
theorem hp2 {w W : World} {c1 c2 : List Value} {t1 t2 : TypeId} (h : Bxs w W [(c1, t1), (c2, t2)]) : Hp w W [(w.heap.size, c1, t1), (w.heap.size + 1, c2, t2)] := ⟨h.bel, fun i hi => by
  rcases i with _ | _ | i
  . exact h.b 0 (by simp)
  . exact h.b 1 (by simp)
  . exact absurd hi (by simp)⟩
theorem zHH (ty co n wi si : Int) (hn1 : -9223372036854775808 ≤ n) (hn2 : n ≤ 9223372036854775807) (hc1 : -9223372036854775808 ≤ co) (hc2 : co ≤ 9223372036854775807) (at_ : Nat) (h2 : at_ = 2) (w : World) :
  Calls Tryd.prog 5 #[.agg #[.int .i64 ty, .int .i64 co, .int .i64 n, .int .i64 wi, .int .i64 si], .int .i64 (at_ : Nat), .slice none 0 0] w fun e w' => ∃ cs : List Value, e = .returned (.agg cs.toArray) ∧ (∀ W, (∀ i, w.heap.size ≤ i → i < w'.heap.size → W.heap[i]? = w'.heap[i]?) → RdL W (encC (cn0)) cs) ∧ Below w.heap.size w w' := by
 subst h2
 have hB := bxs2 w [.int .i64 ty, .int .i64 co, .int .i64 n, .int .i64 wi, .int .i64 si] [.int .i64 0, .slice none 0 0, .int .i64 0, .int .i64 0, .int .i64 0, .string ⟨#[]⟩, .string ⟨#[]⟩, .string ⟨#[]⟩, .int .i64 0, .int .i64 0, .int .i64 0, .string ⟨#[]⟩, .string ⟨#[]⟩, .string ⟨#[]⟩] 23 33
 have HZ := hid (hB.b 1 (by simp))
 have HB := hid hB.bel
 clear hB
 go_enter Tryd.func5, Tryd.ntmps5
 go_wp2_with ((with_reducible refine gSq ?_); refine zA5 33 (w.heap.size + 1) 0 _ 33 [.int .i64 0, .slice none 0 0, .int .i64 0, .int .i64 0, .int .i64 0, .string ⟨#[]⟩, .string ⟨#[]⟩, .string ⟨#[]⟩, .int .i64 0, .int .i64 0, .int .i64 0, .string ⟨#[]⟩, .string ⟨#[]⟩, .string ⟨#[]⟩] HZ.out ?_; intro w2 hblk hfr; have HW2 := hid hblk; have HBE : Hid (Below w.heap.size w w2) := zAO HB.out hfr (by omega); clear hblk hfr)
 exact zAU (w.heap.size + 1) [.int .i64 0, .slice none 0 0, .int .i64 0, .int .i64 0, .int .i64 0, .string ⟨#[]⟩, .string ⟨#[]⟩, .string ⟨#[]⟩, .int .i64 0, .int .i64 0, .int .i64 0, .string ⟨#[]⟩, .string ⟨#[]⟩, .string ⟨#[]⟩] 33 _ HW2.out rfl rfl (by rfl) Tryd.underlying33 rfl (by kernel_rfl) ⟨_, rfl, fun _ _ => zBM 0 opd0 opd0, HBE.out⟩
theorem where_0 (ty co n wi si : Int) (hn1 : -9223372036854775808 ≤ n) (hn2 : n ≤ 9223372036854775807) (hc1 : -9223372036854775808 ≤ co) (hc2 : co ≤ 9223372036854775807) (at_ : Nat) (h2 : at_ ≠ 2) (hco : pkd co 9 = 0) (w : World) :
  Calls Tryd.prog 5 #[.agg #[.int .i64 ty, .int .i64 co, .int .i64 n, .int .i64 wi, .int .i64 si], .int .i64 (at_ : Nat), .slice none 0 0] w fun e w' => ∃ cs : List Value, e = .returned (.agg cs.toArray) ∧ (∀ W, (∀ i, w.heap.size ≤ i → i < w'.heap.size → W.heap[i]? = w'.heap[i]?) → RdL W (encC (cmpC 6 (numO (pkd n 6)) nO)) cs) ∧ Below w.heap.size w w' := by
 have d2 : ((at_ : Int) == 2) = false := by first | (simp; done) | (simp; omega)
 have d2b : ¬ (at_ : Int) = 2 := by omega
 have d2c : (at_ = 2) = False := by simp [h2]
 obtain ⟨k, hk⟩ : ∃ k, pkd n 6 = k := ⟨_, rfl⟩
 have HP6 := hid (fun W => zAM n 6 W hn1 hn2 (by decide) (by decide))
 have HP9 := hid (fun W => zAM co 9 W hc1 hc2 (by decide) (by decide))
 rw [hk] at HP6
 try rw [hk]
 rw [hco] at HP9
 have hB := bxs2 w [.int .i64 ty, .int .i64 co, .int .i64 n, .int .i64 wi, .int .i64 si] [.int .i64 0, .slice none 0 0, .int .i64 0, .int .i64 0, .int .i64 0, .string ⟨#[]⟩, .string ⟨#[]⟩, .string ⟨#[]⟩, .int .i64 0, .int .i64 0, .int .i64 0, .string ⟨#[]⟩, .string ⟨#[]⟩, .string ⟨#[]⟩] 23 33
 have HB := hid hB
 have a2 : (0 : Int) ≤ 0 := by omega
 clear hB hn1 hn2 hc1 hc2 hk hco d2b
 go_enter Tryd.func5, Tryd.ntmps5
 go_wp2_with (first
  | (go_at_call 10; refine (zBF _ _).mono ?_; rintro e w1 ⟨rfl, hb1⟩; have HB1 := hid (HB.out.next hb1); clear hb1)
  | ((with_reducible refine gSq ?_); refine zBN 31 w1.heap.size 0 [.int .i64 0, .int .i64 0, .int .i64 0, .string ⟨#[]⟩, .string ⟨#[]⟩, .string ⟨#[]⟩] 31 (opV (ownO ⟨#[110]⟩)) [.int .i64 2, .int .i64 0, .int .i64 0, .string ⟨#[]⟩, .string ⟨#[]⟩, .string ⟨#[110]⟩] (heap_alloc_new _ _) ?_; intro w2 hblk hfr; have HW2 := hid hblk; have HB12 : Hid (Below w1.heap.size w1 w2) := zAH hfr; have c2 : w2.cell? ⟨w.heap.size, 2, none⟩ = some (.int .i64 n) := (HB1.out.next HB12.out).c 0 (by simp) 2; clear hblk hfr)
  | (go_at_call_of 4 (Value.int IntKind.i64 n); refine (HP6.out _).mono ?_; rintro e w2 ⟨rfl, rfl⟩)
  | (go_at_call 6; refine (zAR _ _).mono ?_; rintro e w3 ⟨rfl, hb3⟩; have HB3 := hid hb3; clear hb3)
  | ((with_reducible refine gSq ?_); refine zBN 31 w3.heap.size 0 [.int .i64 0, .int .i64 0, .int .i64 0, .string ⟨#[]⟩, .string ⟨#[]⟩, .string ⟨#[]⟩] 31 (opV (numO k)) [.int .i64 1, .int .i64 1, .int .i64 (k), .string ⟨#[]⟩, .string ⟨#[]⟩, .string ⟨#[]⟩] (heap_alloc_new _ _) ?_; intro w4 hblk hfr; have HW4 := hid hblk; have HB34 : Hid (Below w3.heap.size w3 w4) := zAH hfr; have hp0 : Hp w w4 [(w.heap.size, [.int .i64 ty, .int .i64 co, .int .i64 n, .int .i64 wi, .int .i64 si], 23), (w.heap.size + 1, [.int .i64 0, .slice none 0 0, .int .i64 0, .int .i64 0, .int .i64 0, .string ⟨#[]⟩, .string ⟨#[]⟩, .string ⟨#[]⟩, .int .i64 0, .int .i64 0, .int .i64 0, .string ⟨#[]⟩, .string ⟨#[]⟩, .string ⟨#[]⟩], 33), (w1.heap.size, [.int .i64 2, .int .i64 0, .int .i64 0, .string ⟨#[]⟩, .string ⟨#[]⟩, .string ⟨#[110]⟩], 31), (w3.heap.size, [.int .i64 1, .int .i64 1, .int .i64 (k), .string ⟨#[]⟩, .string ⟨#[]⟩, .string ⟨#[]⟩], 31)] := Hp.add (Hp.add (l := [(w.heap.size, [.int .i64 ty, .int .i64 co, .int .i64 n, .int .i64 wi, .int .i64 si], 23), (w.heap.size + 1, [.int .i64 0, .slice none 0 0, .int .i64 0, .int .i64 0, .int .i64 0, .string ⟨#[]⟩, .string ⟨#[]⟩, .string ⟨#[]⟩, .int .i64 0, .int .i64 0, .int .i64 0, .string ⟨#[]⟩, .string ⟨#[]⟩, .string ⟨#[]⟩], 33)]) (hp2 HB1.out) HB12.out HW2.out) (zAA HB3.out HB34.out HB3.out.size) HW4.out; have HP := hid hp0; have c1 : w4.cell? ⟨w.heap.size, 1, none⟩ = some (.int .i64 co) := HP.out.c 0 (by simp) 1; clear hblk hfr hp0)
  | (go_at_call_of 4 (Value.int IntKind.i64 co); refine (HP9.out _).mono ?_; rintro e w4 ⟨rfl, rfl⟩))
 clear HW2 HB12 HB3 HW4 HB34 c1 c2 HB1 HB HP6 HP9
 generalize w1.heap.size = b7 at HP ⊢
 generalize w3.heap.size = b9 at HP ⊢
 have HPD := hid (HP.out.next (Below.drew (Below.refl _ _)))
 refine zAV (by kernel_rfl) (fun i w v => ([(fun w v => v = .int .i64 k), (fun w v => v = .agg #[.int .i64 1, .int .i64 1, .int .i64 (k), .string ⟨#[]⟩, .string ⟨#[]⟩, .string ⟨#[]⟩]), (fun w v => v = .agg #[.int .i64 2, .int .i64 0, .int .i64 0, .string ⟨#[]⟩, .string ⟨#[]⟩, .string ⟨#[110]⟩]), (fun w v => v = .agg #[.int .i64 6, .slice none 0 0, .int .i64 1, .int .i64 1, .int .i64 (k), .string ⟨#[]⟩, .string ⟨#[]⟩, .string ⟨#[]⟩, .int .i64 2, .int .i64 0, .int .i64 0, .string ⟨#[]⟩, .string ⟨#[]⟩, .string ⟨#[110]⟩])] : List (World → Value → Prop)).getD i (fun _ _ => True) w v) (fun W => Hp w W [(w.heap.size, [.int .i64 ty, .int .i64 co, .int .i64 n, .int .i64 wi, .int .i64 si], 23), (w.heap.size + 1, [.int .i64 0, .slice none 0 0, .int .i64 0, .int .i64 0, .int .i64 0, .string ⟨#[]⟩, .string ⟨#[]⟩, .string ⟨#[]⟩, .int .i64 0, .int .i64 0, .int .i64 0, .string ⟨#[]⟩, .string ⟨#[]⟩, .string ⟨#[]⟩], 33), (b7, [.int .i64 2, .int .i64 0, .int .i64 0, .string ⟨#[]⟩, .string ⟨#[]⟩, .string ⟨#[110]⟩], 31), (b9, [.int .i64 1, .int .i64 1, .int .i64 (k), .string ⟨#[]⟩, .string ⟨#[]⟩, .string ⟨#[]⟩], 31)]) 86 4 rfl rfl (by kernel_rfl) (by kernel_rfl) (fun W W' => Below W.heap.size W W') ?hmon (HPD.out) (zAF.cons ?o0 (zAF.cons ?o1 (zAF.cons ?o2 (zAF.cons ?o3 zAF.nil)))) ?hend
 case hmon =>
  intro q W W' v hb h
  rcases q with _ | _ | _ | _ | q
  . exact h
  . exact h
  . exact h
  . exact h
  . exact h
 case o0 =>
  intro a W hB hd ho
  have e8 : a.eval (.tmp 8) = .int .i64 k := ho 8 (by kernel_rfl)
  exact zFT _ (by simp) _ e8 ⟨_, rfl, rfl, hB, Below.refl _ _⟩
 case o1 =>
  intro a W hB hd ho
  have e36 : a.eval (.tmp 36) = .int .i64 k := hd 0 36 (by kernel_rfl)
  refine zB9 6 zEC _ _ rfl #[.int .i64 k] (by simp [ev_c, e36]) _ (zAR k W) ?_
  rintro e W' ⟨rfl, hb⟩
  exact ⟨_, rfl, _, rfl, rfl, hB.next hb, hb⟩
 case o2 =>
  intro a W hB hd ho
  have e7 : a.eval (.tmp 7) = .pointer (some ⟨b7, 0, none⟩) := ho 7 (by kernel_rfl)
  exact zDX 31 _ rfl _ _ e7 [.int .i64 2, .int .i64 0, .int .i64 0, .string ⟨#[]⟩, .string ⟨#[]⟩, .string ⟨#[110]⟩] _ (hB.r 2 (by simp)) Tryd.underlying31 rfl (by kernel_rfl) ⟨_, rfl, rfl, hB, Below.refl _ _⟩
 case o3 =>
  intro a W hB hd ho
  have e37 : a.eval (.tmp 37) = opV (numO k) := hd 1 37 (by kernel_rfl)
  have e38 : a.eval (.tmp 38) = opV nO := hd 2 38 (by kernel_rfl)
  refine zB9 11 zCV _ _ rfl #[.int .i64 6, opV (numO k), opV nO] (by simp [ev_c, e37, e38]) _ (compare_any 6 (numO k) nO W) ?_
  rintro e W' ⟨rfl, hb⟩
  exact ⟨_, rfl, _, rfl, rfl, hB.next hb, hb⟩
 case hend =>
  intro vs W o ho hB hT
  have e0 : vs 0 = .int .i64 k := hT 0 (by decide)
  have e1 : vs 1 = .agg #[.int .i64 1, .int .i64 1, .int .i64 (k), .string ⟨#[]⟩, .string ⟨#[]⟩, .string ⟨#[]⟩] := hT 1 (by decide)
  have e2 : vs 2 = .agg #[.int .i64 2, .int .i64 0, .int .i64 0, .string ⟨#[]⟩, .string ⟨#[]⟩, .string ⟨#[110]⟩] := hT 2 (by decide)
  have e3 : vs 3 = .agg #[.int .i64 6, .slice none 0 0, .int .i64 1, .int .i64 1, .int .i64 (k), .string ⟨#[]⟩, .string ⟨#[]⟩, .string ⟨#[]⟩, .int .i64 2, .int .i64 0, .int .i64 0, .string ⟨#[]⟩, .string ⟨#[]⟩, .string ⟨#[110]⟩] := hT 3 (by decide)
  cases (show some _ = some o from ho)
  simp only [List.toList_toArray, List.take_succ_cons, List.take_zero, fill, if_true, Act.put, List.setIfInBounds_toArray, List.set_cons_zero, List.set_cons_succ, e0, e1, e2, e3]
  refine op_st 33 _ _ rfl (w.heap.size + 1) 0 [.int .i64 0, .slice none 0 0, .int .i64 0, .int .i64 0, .int .i64 0, .string ⟨#[]⟩, .string ⟨#[]⟩, .string ⟨#[]⟩, .int .i64 0, .int .i64 0, .int .i64 0, .string ⟨#[]⟩, .string ⟨#[]⟩, .string ⟨#[]⟩] 33 (.agg #[.int .i64 6, .slice none 0 0, .int .i64 1, .int .i64 1, .int .i64 (k), .string ⟨#[]⟩, .string ⟨#[]⟩, .string ⟨#[]⟩, .int .i64 2, .int .i64 0, .int .i64 0, .string ⟨#[]⟩, .string ⟨#[]⟩, .string ⟨#[110]⟩]) [.int .i64 6, .slice none 0 0, .int .i64 1, .int .i64 1, .int .i64 (k), .string ⟨#[]⟩, .string ⟨#[]⟩, .string ⟨#[]⟩, .int .i64 2, .int .i64 0, .int .i64 0, .string ⟨#[]⟩, .string ⟨#[]⟩, .string ⟨#[110]⟩] (by rfl) (by rfl) (by rfl) (hB.b 1 (by simp)) (by simp) (by kernel_rfl) (by rfl) ?_
  intro w5 hblk hfr
  have HW5 := hid hblk
  have HBE : Hid (Below w.heap.size w w5) := zAO hB.bel hfr (by omega)
  clear hblk hfr
  go_wp2_with fail
  exact zAU (w.heap.size + 1) [.int .i64 6, .slice none 0 0, .int .i64 1, .int .i64 1, .int .i64 (k), .string ⟨#[]⟩, .string ⟨#[]⟩, .string ⟨#[]⟩, .int .i64 2, .int .i64 0, .int .i64 0, .string ⟨#[]⟩, .string ⟨#[]⟩, .string ⟨#[110]⟩] 33 _ HW5.out rfl rfl (by rfl) Tryd.underlying33 rfl (by kernel_rfl) ⟨_, rfl, fun _ _ => zBM 6 (numO k) nO, HBE.out⟩
theorem where_1 (ty co n wi si : Int) (hn1 : -9223372036854775808 ≤ n) (hn2 : n ≤ 9223372036854775807) (hc1 : -9223372036854775808 ≤ co) (hc2 : co ≤ 9223372036854775807) (at_ : Nat) (h2 : at_ ≠ 2) (hco : pkd co 9 = 1) (w : World) :
  Calls Tryd.prog 5 #[.agg #[.int .i64 ty, .int .i64 co, .int .i64 n, .int .i64 wi, .int .i64 si], .int .i64 (at_ : Nat), .slice none 0 0] w fun e w' => ∃ cs : List Value, e = .returned (.agg cs.toArray) ∧ (∀ W, (∀ i, w.heap.size ≤ i → i < w'.heap.size → W.heap[i]? = w'.heap[i]?) → RdL W (encC (cmpC 4 nO (numO (pkd n 6)))) cs) ∧ Below w.heap.size w w' := by
 have d2 : ((at_ : Int) == 2) = false := by first | (simp; done) | (simp; omega)
 have d2b : ¬ (at_ : Int) = 2 := by omega
 have d2c : (at_ = 2) = False := by simp [h2]
 obtain ⟨k, hk⟩ : ∃ k, pkd n 6 = k := ⟨_, rfl⟩
 have HP6 := hid (fun W => zAM n 6 W hn1 hn2 (by decide) (by decide))
 have HP9 := hid (fun W => zAM co 9 W hc1 hc2 (by decide) (by decide))
 rw [hk] at HP6
 try rw [hk]
 rw [hco] at HP9
 have hB := bxs2 w [.int .i64 ty, .int .i64 co, .int .i64 n, .int .i64 wi, .int .i64 si] [.int .i64 0, .slice none 0 0, .int .i64 0, .int .i64 0, .int .i64 0, .string ⟨#[]⟩, .string ⟨#[]⟩, .string ⟨#[]⟩, .int .i64 0, .int .i64 0, .int .i64 0, .string ⟨#[]⟩, .string ⟨#[]⟩, .string ⟨#[]⟩] 23 33
 have HB := hid hB
 have a2 : (0 : Int) ≤ 0 := by omega
 clear hB hn1 hn2 hc1 hc2 hk hco d2b
 go_enter Tryd.func5, Tryd.ntmps5
 go_wp2_with (first
  | (go_at_call 10; refine (zBF _ _).mono ?_; rintro e w1 ⟨rfl, hb1⟩; have HB1 := hid (HB.out.next hb1); clear hb1)
  | ((with_reducible refine gSq ?_); refine zBN 31 w1.heap.size 0 [.int .i64 0, .int .i64 0, .int .i64 0, .string ⟨#[]⟩, .string ⟨#[]⟩, .string ⟨#[]⟩] 31 (opV (ownO ⟨#[110]⟩)) [.int .i64 2, .int .i64 0, .int .i64 0, .string ⟨#[]⟩, .string ⟨#[]⟩, .string ⟨#[110]⟩] (heap_alloc_new _ _) ?_; intro w2 hblk hfr; have HW2 := hid hblk; have HB12 : Hid (Below w1.heap.size w1 w2) := zAH hfr; have c2 : w2.cell? ⟨w.heap.size, 2, none⟩ = some (.int .i64 n) := (HB1.out.next HB12.out).c 0 (by simp) 2; clear hblk hfr)
  | (go_at_call_of 4 (Value.int IntKind.i64 n); refine (HP6.out _).mono ?_; rintro e w2 ⟨rfl, rfl⟩)
  | (go_at_call 6; refine (zAR _ _).mono ?_; rintro e w3 ⟨rfl, hb3⟩; have HB3 := hid hb3; clear hb3)
  | ((with_reducible refine gSq ?_); refine zBN 31 w3.heap.size 0 [.int .i64 0, .int .i64 0, .int .i64 0, .string ⟨#[]⟩, .string ⟨#[]⟩, .string ⟨#[]⟩] 31 (opV (numO k)) [.int .i64 1, .int .i64 1, .int .i64 (k), .string ⟨#[]⟩, .string ⟨#[]⟩, .string ⟨#[]⟩] (heap_alloc_new _ _) ?_; intro w4 hblk hfr; have HW4 := hid hblk; have HB34 : Hid (Below w3.heap.size w3 w4) := zAH hfr; have hp0 : Hp w w4 [(w.heap.size, [.int .i64 ty, .int .i64 co, .int .i64 n, .int .i64 wi, .int .i64 si], 23), (w.heap.size + 1, [.int .i64 0, .slice none 0 0, .int .i64 0, .int .i64 0, .int .i64 0, .string ⟨#[]⟩, .string ⟨#[]⟩, .string ⟨#[]⟩, .int .i64 0, .int .i64 0, .int .i64 0, .string ⟨#[]⟩, .string ⟨#[]⟩, .string ⟨#[]⟩], 33), (w1.heap.size, [.int .i64 2, .int .i64 0, .int .i64 0, .string ⟨#[]⟩, .string ⟨#[]⟩, .string ⟨#[110]⟩], 31), (w3.heap.size, [.int .i64 1, .int .i64 1, .int .i64 (k), .string ⟨#[]⟩, .string ⟨#[]⟩, .string ⟨#[]⟩], 31)] := Hp.add (Hp.add (l := [(w.heap.size, [.int .i64 ty, .int .i64 co, .int .i64 n, .int .i64 wi, .int .i64 si], 23), (w.heap.size + 1, [.int .i64 0, .slice none 0 0, .int .i64 0, .int .i64 0, .int .i64 0, .string ⟨#[]⟩, .string ⟨#[]⟩, .string ⟨#[]⟩, .int .i64 0, .int .i64 0, .int .i64 0, .string ⟨#[]⟩, .string ⟨#[]⟩, .string ⟨#[]⟩], 33)]) (hp2 HB1.out) HB12.out HW2.out) (zAA HB3.out HB34.out HB3.out.size) HW4.out; have HP := hid hp0; have c1 : w4.cell? ⟨w.heap.size, 1, none⟩ = some (.int .i64 co) := HP.out.c 0 (by simp) 1; clear hblk hfr hp0)
  | (go_at_call_of 4 (Value.int IntKind.i64 co); refine (HP9.out _).mono ?_; rintro e w4 ⟨rfl, rfl⟩)
  | ((with_reducible show wpList _ _ _ (Oper.mk (some 42) _ _ _ _ _ :: _) _ _); refine wpList_load_mid (by rfl) 31 _ (by rfl) w1.heap.size 0 (by rfl) [.int .i64 2, .int .i64 0, .int .i64 0, .string ⟨#[]⟩, .string ⟨#[]⟩, .string ⟨#[110]⟩] _ (HP.out.r 2 (by simp)) Tryd.underlying31 rfl (by kernel_rfl) ?_)
  | ((with_reducible show wpList _ _ _ (Oper.mk (some 43) _ _ _ _ _ :: _) _ _); refine wpList_load_mid (by rfl) 31 _ (by rfl) w3.heap.size 0 (by rfl) [.int .i64 1, .int .i64 1, .int .i64 (k), .string ⟨#[]⟩, .string ⟨#[]⟩, .string ⟨#[]⟩] _ (HP.out.r 3 (by simp)) Tryd.underlying31 rfl (by kernel_rfl) ?_)
  | (go_at_call 11; refine (compare_any 4 nO (numO k) _).mono ?_; rintro e w5 ⟨rfl, hb5⟩; have HP5 := hid (HP.out.next hb5); clear hb5)
  | ((with_reducible show wpList _ _ _ (Oper.mk _ (.store 33 _ _) _ _ _ _ :: _) _ _); refine zA5 33 (w.heap.size + 1) 0 [.int .i64 0, .slice none 0 0, .int .i64 0, .int .i64 0, .int .i64 0, .string ⟨#[]⟩, .string ⟨#[]⟩, .string ⟨#[]⟩, .int .i64 0, .int .i64 0, .int .i64 0, .string ⟨#[]⟩, .string ⟨#[]⟩, .string ⟨#[]⟩] 33 [.int .i64 4, .slice none 0 0, .int .i64 2, .int .i64 0, .int .i64 0, .string ⟨#[]⟩, .string ⟨#[]⟩, .string ⟨#[110]⟩, .int .i64 1, .int .i64 1, .int .i64 (k), .string ⟨#[]⟩, .string ⟨#[]⟩, .string ⟨#[]⟩] (HP5.out.b 1 (by simp)) ?_; intro w6 hblk hfr; have HW6 := hid hblk; have HBE : Hid (Below w.heap.size w w6) := zAO HP5.out.bel hfr (by omega); clear hblk hfr))
 exact zAU (w.heap.size + 1) [.int .i64 4, .slice none 0 0, .int .i64 2, .int .i64 0, .int .i64 0, .string ⟨#[]⟩, .string ⟨#[]⟩, .string ⟨#[110]⟩, .int .i64 1, .int .i64 1, .int .i64 (k), .string ⟨#[]⟩, .string ⟨#[]⟩, .string ⟨#[]⟩] 33 _ HW6.out rfl rfl (by rfl) Tryd.underlying33 rfl (by kernel_rfl) ⟨_, rfl, fun _ _ => zBM 4 nO (numO k), HBE.out⟩
theorem where_2 (ty co n wi si : Int) (hn1 : -9223372036854775808 ≤ n) (hn2 : n ≤ 9223372036854775807) (hc1 : -9223372036854775808 ≤ co) (hc2 : co ≤ 9223372036854775807) (at_ : Nat) (h2 : at_ ≠ 2) (hco : pkd co 9 = 2) (w : World) :
  Calls Tryd.prog 5 #[.agg #[.int .i64 ty, .int .i64 co, .int .i64 n, .int .i64 wi, .int .i64 si], .int .i64 (at_ : Nat), .slice none 0 0] w fun e w' => ∃ cs : List Value, e = .returned (.agg cs.toArray) ∧ (∀ W, (∀ i, w.heap.size ≤ i → i < w'.heap.size → W.heap[i]? = w'.heap[i]?) → RdL W (encC (cmpC 5 nO (numO (pkd n 6)))) cs) ∧ Below w.heap.size w w' := by
 have d2 : ((at_ : Int) == 2) = false := by first | (simp; done) | (simp; omega)
 have d2b : ¬ (at_ : Int) = 2 := by omega
 have d2c : (at_ = 2) = False := by simp [h2]
 obtain ⟨k, hk⟩ : ∃ k, pkd n 6 = k := ⟨_, rfl⟩
 have HP6 := hid (fun W => zAM n 6 W hn1 hn2 (by decide) (by decide))
 have HP9 := hid (fun W => zAM co 9 W hc1 hc2 (by decide) (by decide))
 rw [hk] at HP6
 try rw [hk]
 rw [hco] at HP9
 have hB := bxs2 w [.int .i64 ty, .int .i64 co, .int .i64 n, .int .i64 wi, .int .i64 si] [.int .i64 0, .slice none 0 0, .int .i64 0, .int .i64 0, .int .i64 0, .string ⟨#[]⟩, .string ⟨#[]⟩, .string ⟨#[]⟩, .int .i64 0, .int .i64 0, .int .i64 0, .string ⟨#[]⟩, .string ⟨#[]⟩, .string ⟨#[]⟩] 23 33
 have HB := hid hB
 have a2 : (0 : Int) ≤ 0 := by omega
 clear hB hn1 hn2 hc1 hc2 hk hco d2b
 go_enter Tryd.func5, Tryd.ntmps5
 go_wp2_with (first
  | (go_at_call 10; refine (zBF _ _).mono ?_; rintro e w1 ⟨rfl, hb1⟩; have HB1 := hid (HB.out.next hb1); clear hb1)
  | ((with_reducible refine gSq ?_); refine zBN 31 w1.heap.size 0 [.int .i64 0, .int .i64 0, .int .i64 0, .string ⟨#[]⟩, .string ⟨#[]⟩, .string ⟨#[]⟩] 31 (opV (ownO ⟨#[110]⟩)) [.int .i64 2, .int .i64 0, .int .i64 0, .string ⟨#[]⟩, .string ⟨#[]⟩, .string ⟨#[110]⟩] (heap_alloc_new _ _) ?_; intro w2 hblk hfr; have HW2 := hid hblk; have HB12 : Hid (Below w1.heap.size w1 w2) := zAH hfr; have c2 : w2.cell? ⟨w.heap.size, 2, none⟩ = some (.int .i64 n) := (HB1.out.next HB12.out).c 0 (by simp) 2; clear hblk hfr)
  | (go_at_call_of 4 (Value.int IntKind.i64 n); refine (HP6.out _).mono ?_; rintro e w2 ⟨rfl, rfl⟩)
  | (go_at_call 6; refine (zAR _ _).mono ?_; rintro e w3 ⟨rfl, hb3⟩; have HB3 := hid hb3; clear hb3)
  | ((with_reducible refine gSq ?_); refine zBN 31 w3.heap.size 0 [.int .i64 0, .int .i64 0, .int .i64 0, .string ⟨#[]⟩, .string ⟨#[]⟩, .string ⟨#[]⟩] 31 (opV (numO k)) [.int .i64 1, .int .i64 1, .int .i64 (k), .string ⟨#[]⟩, .string ⟨#[]⟩, .string ⟨#[]⟩] (heap_alloc_new _ _) ?_; intro w4 hblk hfr; have HW4 := hid hblk; have HB34 : Hid (Below w3.heap.size w3 w4) := zAH hfr; have hp0 : Hp w w4 [(w.heap.size, [.int .i64 ty, .int .i64 co, .int .i64 n, .int .i64 wi, .int .i64 si], 23), (w.heap.size + 1, [.int .i64 0, .slice none 0 0, .int .i64 0, .int .i64 0, .int .i64 0, .string ⟨#[]⟩, .string ⟨#[]⟩, .string ⟨#[]⟩, .int .i64 0, .int .i64 0, .int .i64 0, .string ⟨#[]⟩, .string ⟨#[]⟩, .string ⟨#[]⟩], 33), (w1.heap.size, [.int .i64 2, .int .i64 0, .int .i64 0, .string ⟨#[]⟩, .string ⟨#[]⟩, .string ⟨#[110]⟩], 31), (w3.heap.size, [.int .i64 1, .int .i64 1, .int .i64 (k), .string ⟨#[]⟩, .string ⟨#[]⟩, .string ⟨#[]⟩], 31)] := Hp.add (Hp.add (l := [(w.heap.size, [.int .i64 ty, .int .i64 co, .int .i64 n, .int .i64 wi, .int .i64 si], 23), (w.heap.size + 1, [.int .i64 0, .slice none 0 0, .int .i64 0, .int .i64 0, .int .i64 0, .string ⟨#[]⟩, .string ⟨#[]⟩, .string ⟨#[]⟩, .int .i64 0, .int .i64 0, .int .i64 0, .string ⟨#[]⟩, .string ⟨#[]⟩, .string ⟨#[]⟩], 33)]) (hp2 HB1.out) HB12.out HW2.out) (zAA HB3.out HB34.out HB3.out.size) HW4.out; have HP := hid hp0; have c1 : w4.cell? ⟨w.heap.size, 1, none⟩ = some (.int .i64 co) := HP.out.c 0 (by simp) 1; clear hblk hfr hp0)
  | (go_at_call_of 4 (Value.int IntKind.i64 co); refine (HP9.out _).mono ?_; rintro e w4 ⟨rfl, rfl⟩)
  | ((with_reducible show wpList _ _ _ (Oper.mk (some 47) _ _ _ _ _ :: _) _ _); refine wpList_load_mid (by rfl) 31 _ (by rfl) w1.heap.size 0 (by rfl) [.int .i64 2, .int .i64 0, .int .i64 0, .string ⟨#[]⟩, .string ⟨#[]⟩, .string ⟨#[110]⟩] _ (HP.out.r 2 (by simp)) Tryd.underlying31 rfl (by kernel_rfl) ?_)
  | ((with_reducible show wpList _ _ _ (Oper.mk (some 48) _ _ _ _ _ :: _) _ _); refine wpList_load_mid (by rfl) 31 _ (by rfl) w3.heap.size 0 (by rfl) [.int .i64 1, .int .i64 1, .int .i64 (k), .string ⟨#[]⟩, .string ⟨#[]⟩, .string ⟨#[]⟩] _ (HP.out.r 3 (by simp)) Tryd.underlying31 rfl (by kernel_rfl) ?_)
  | (go_at_call 11; refine (compare_any 5 nO (numO k) _).mono ?_; rintro e w5 ⟨rfl, hb5⟩; have HP5 := hid (HP.out.next hb5); clear hb5)
  | ((with_reducible show wpList _ _ _ (Oper.mk _ (.store 33 _ _) _ _ _ _ :: _) _ _); refine zA5 33 (w.heap.size + 1) 0 [.int .i64 0, .slice none 0 0, .int .i64 0, .int .i64 0, .int .i64 0, .string ⟨#[]⟩, .string ⟨#[]⟩, .string ⟨#[]⟩, .int .i64 0, .int .i64 0, .int .i64 0, .string ⟨#[]⟩, .string ⟨#[]⟩, .string ⟨#[]⟩] 33 [.int .i64 5, .slice none 0 0, .int .i64 2, .int .i64 0, .int .i64 0, .string ⟨#[]⟩, .string ⟨#[]⟩, .string ⟨#[110]⟩, .int .i64 1, .int .i64 1, .int .i64 (k), .string ⟨#[]⟩, .string ⟨#[]⟩, .string ⟨#[]⟩] (HP5.out.b 1 (by simp)) ?_; intro w6 hblk hfr; have HW6 := hid hblk; have HBE : Hid (Below w.heap.size w w6) := zAO HP5.out.bel hfr (by omega); clear hblk hfr))
 exact zAU (w.heap.size + 1) [.int .i64 5, .slice none 0 0, .int .i64 2, .int .i64 0, .int .i64 0, .string ⟨#[]⟩, .string ⟨#[]⟩, .string ⟨#[110]⟩, .int .i64 1, .int .i64 1, .int .i64 (k), .string ⟨#[]⟩, .string ⟨#[]⟩, .string ⟨#[]⟩] 33 _ HW6.out rfl rfl (by rfl) Tryd.underlying33 rfl (by kernel_rfl) ⟨_, rfl, fun _ _ => zBM 5 nO (numO k), HBE.out⟩
theorem where_5 (ty co n wi si : Int) (hn1 : -9223372036854775808 ≤ n) (hn2 : n ≤ 9223372036854775807) (hc1 : -9223372036854775808 ≤ co) (hc2 : co ≤ 9223372036854775807) (at_ : Nat) (h2 : at_ ≠ 2) (hco : pkd co 9 = 5) (h1 : at_ ≠ 1) (w : World) :
  Calls Tryd.prog 5 #[.agg #[.int .i64 ty, .int .i64 co, .int .i64 n, .int .i64 wi, .int .i64 si], .int .i64 (at_ : Nat), .slice none 0 0] w fun e w' => ∃ cs : List Value, e = .returned (.agg cs.toArray) ∧ (∀ W, (∀ i, w.heap.size ≤ i → i < w'.heap.size → W.heap[i]? = w'.heap[i]?) → RdL W (encC (cmpC 7 nO (numO (pkd n 6)))) cs) ∧ Below w.heap.size w w' := by
 have d1 : ((at_ : Int) == 1) = false := by simp; omega
 have d1c : (at_ = 1) = False := by simp [h1]
 have d2 : ((at_ : Int) == 2) = false := by first | (simp; done) | (simp; omega)
 have d2b : ¬ (at_ : Int) = 2 := by omega
 have d2c : (at_ = 2) = False := by simp [h2]
 obtain ⟨k, hk⟩ : ∃ k, pkd n 6 = k := ⟨_, rfl⟩
 have HP6 := hid (fun W => zAM n 6 W hn1 hn2 (by decide) (by decide))
 have HP9 := hid (fun W => zAM co 9 W hc1 hc2 (by decide) (by decide))
 rw [hk] at HP6
 try rw [hk]
 rw [hco] at HP9
 have hB := bxs2 w [.int .i64 ty, .int .i64 co, .int .i64 n, .int .i64 wi, .int .i64 si] [.int .i64 0, .slice none 0 0, .int .i64 0, .int .i64 0, .int .i64 0, .string ⟨#[]⟩, .string ⟨#[]⟩, .string ⟨#[]⟩, .int .i64 0, .int .i64 0, .int .i64 0, .string ⟨#[]⟩, .string ⟨#[]⟩, .string ⟨#[]⟩] 23 33
 have HB := hid hB
 have a2 : (0 : Int) ≤ 0 := by omega
 clear hB hn1 hn2 hc1 hc2 hk hco d2b
 go_enter Tryd.func5, Tryd.ntmps5
 go_wp2_with (first
  | (go_at_call 10; refine (zBF _ _).mono ?_; rintro e w1 ⟨rfl, hb1⟩; have HB1 := hid (HB.out.next hb1); clear hb1)
  | ((with_reducible refine gSq ?_); refine zBN 31 w1.heap.size 0 [.int .i64 0, .int .i64 0, .int .i64 0, .string ⟨#[]⟩, .string ⟨#[]⟩, .string ⟨#[]⟩] 31 (opV (ownO ⟨#[110]⟩)) [.int .i64 2, .int .i64 0, .int .i64 0, .string ⟨#[]⟩, .string ⟨#[]⟩, .string ⟨#[110]⟩] (heap_alloc_new _ _) ?_; intro w2 hblk hfr; have HW2 := hid hblk; have HB12 : Hid (Below w1.heap.size w1 w2) := zAH hfr; have c2 : w2.cell? ⟨w.heap.size, 2, none⟩ = some (.int .i64 n) := (HB1.out.next HB12.out).c 0 (by simp) 2; clear hblk hfr)
  | (go_at_call_of 4 (Value.int IntKind.i64 n); refine (HP6.out _).mono ?_; rintro e w2 ⟨rfl, rfl⟩)
  | (go_at_call 6; refine (zAR _ _).mono ?_; rintro e w3 ⟨rfl, hb3⟩; have HB3 := hid hb3; clear hb3)
  | ((with_reducible refine gSq ?_); refine zBN 31 w3.heap.size 0 [.int .i64 0, .int .i64 0, .int .i64 0, .string ⟨#[]⟩, .string ⟨#[]⟩, .string ⟨#[]⟩] 31 (opV (numO k)) [.int .i64 1, .int .i64 1, .int .i64 (k), .string ⟨#[]⟩, .string ⟨#[]⟩, .string ⟨#[]⟩] (heap_alloc_new _ _) ?_; intro w4 hblk hfr; have HW4 := hid hblk; have HB34 : Hid (Below w3.heap.size w3 w4) := zAH hfr; have hp0 : Hp w w4 [(w.heap.size, [.int .i64 ty, .int .i64 co, .int .i64 n, .int .i64 wi, .int .i64 si], 23), (w.heap.size + 1, [.int .i64 0, .slice none 0 0, .int .i64 0, .int .i64 0, .int .i64 0, .string ⟨#[]⟩, .string ⟨#[]⟩, .string ⟨#[]⟩, .int .i64 0, .int .i64 0, .int .i64 0, .string ⟨#[]⟩, .string ⟨#[]⟩, .string ⟨#[]⟩], 33), (w1.heap.size, [.int .i64 2, .int .i64 0, .int .i64 0, .string ⟨#[]⟩, .string ⟨#[]⟩, .string ⟨#[110]⟩], 31), (w3.heap.size, [.int .i64 1, .int .i64 1, .int .i64 (k), .string ⟨#[]⟩, .string ⟨#[]⟩, .string ⟨#[]⟩], 31)] := Hp.add (Hp.add (l := [(w.heap.size, [.int .i64 ty, .int .i64 co, .int .i64 n, .int .i64 wi, .int .i64 si], 23), (w.heap.size + 1, [.int .i64 0, .slice none 0 0, .int .i64 0, .int .i64 0, .int .i64 0, .string ⟨#[]⟩, .string ⟨#[]⟩, .string ⟨#[]⟩, .int .i64 0, .int .i64 0, .int .i64 0, .string ⟨#[]⟩, .string ⟨#[]⟩, .string ⟨#[]⟩], 33)]) (hp2 HB1.out) HB12.out HW2.out) (zAA HB3.out HB34.out HB3.out.size) HW4.out; have HP := hid hp0; have c1 : w4.cell? ⟨w.heap.size, 1, none⟩ = some (.int .i64 co) := HP.out.c 0 (by simp) 1; clear hblk hfr hp0)
  | (go_at_call_of 4 (Value.int IntKind.i64 co); refine (HP9.out _).mono ?_; rintro e w4 ⟨rfl, rfl⟩)
  | ((with_reducible show wpList _ _ _ (Oper.mk (some 82) _ _ _ _ _ :: _) _ _); refine wpList_load_mid (by rfl) 31 _ (by rfl) w1.heap.size 0 (by rfl) [.int .i64 2, .int .i64 0, .int .i64 0, .string ⟨#[]⟩, .string ⟨#[]⟩, .string ⟨#[110]⟩] _ (HP.out.r 2 (by simp)) Tryd.underlying31 rfl (by kernel_rfl) ?_)
  | ((with_reducible show wpList _ _ _ (Oper.mk (some 83) _ _ _ _ _ :: _) _ _); refine wpList_load_mid (by rfl) 31 _ (by rfl) w3.heap.size 0 (by rfl) [.int .i64 1, .int .i64 1, .int .i64 (k), .string ⟨#[]⟩, .string ⟨#[]⟩, .string ⟨#[]⟩] _ (HP.out.r 3 (by simp)) Tryd.underlying31 rfl (by kernel_rfl) ?_)
  | (go_at_call 11; refine (compare_any 7 nO (numO k) _).mono ?_; rintro e w5 ⟨rfl, hb5⟩; have HP5 := hid (HP.out.next hb5); clear hb5)
  | ((with_reducible show wpList _ _ _ (Oper.mk _ (.store 33 _ _) _ _ _ _ :: _) _ _); refine zA5 33 (w.heap.size + 1) 0 [.int .i64 0, .slice none 0 0, .int .i64 0, .int .i64 0, .int .i64 0, .string ⟨#[]⟩, .string ⟨#[]⟩, .string ⟨#[]⟩, .int .i64 0, .int .i64 0, .int .i64 0, .string ⟨#[]⟩, .string ⟨#[]⟩, .string ⟨#[]⟩] 33 [.int .i64 7, .slice none 0 0, .int .i64 2, .int .i64 0, .int .i64 0, .string ⟨#[]⟩, .string ⟨#[]⟩, .string ⟨#[110]⟩, .int .i64 1, .int .i64 1, .int .i64 (k), .string ⟨#[]⟩, .string ⟨#[]⟩, .string ⟨#[]⟩] (HP5.out.b 1 (by simp)) ?_; intro w6 hblk hfr; have HW6 := hid hblk; have HBE : Hid (Below w.heap.size w w6) := zAO HP5.out.bel hfr (by omega); clear hblk hfr))
 exact zAU (w.heap.size + 1) [.int .i64 7, .slice none 0 0, .int .i64 2, .int .i64 0, .int .i64 0, .string ⟨#[]⟩, .string ⟨#[]⟩, .string ⟨#[110]⟩, .int .i64 1, .int .i64 1, .int .i64 (k), .string ⟨#[]⟩, .string ⟨#[]⟩, .string ⟨#[]⟩] 33 _ HW6.out rfl rfl (by rfl) Tryd.underlying33 rfl (by kernel_rfl) ⟨_, rfl, fun _ _ => zBM 7 nO (numO k), HBE.out⟩
theorem where_6 (ty co n wi si : Int) (hn1 : -9223372036854775808 ≤ n) (hn2 : n ≤ 9223372036854775807) (hc1 : -9223372036854775808 ≤ co) (hc2 : co ≤ 9223372036854775807) (at_ : Nat) (h2 : at_ ≠ 2) (j : Nat) (hco : pkd co 9 = (j : Int)) (hj : 6 ≤ j) (w : World) :
  Calls Tryd.prog 5 #[.agg #[.int .i64 ty, .int .i64 co, .int .i64 n, .int .i64 wi, .int .i64 si], .int .i64 (at_ : Nat), .slice none 0 0] w fun e w' => ∃ cs : List Value, e = .returned (.agg cs.toArray) ∧ (∀ W, (∀ i, w.heap.size ≤ i → i < w'.heap.size → W.heap[i]? = w'.heap[i]?) → RdL W (encC (cn0)) cs) ∧ Below w.heap.size w w' := by
 have q0 : ((j : Int) == 0) = false := by simp; omega
 have r0 : (j = 0) = False := by simp; omega
 have q1 : ((j : Int) == 1) = false := by simp; omega
 have r1 : (j = 1) = False := by simp; omega
 have q2 : ((j : Int) == 2) = false := by simp; omega
 have r2 : (j = 2) = False := by simp; omega
 have q3 : ((j : Int) == 3) = false := by simp; omega
 have r3 : (j = 3) = False := by simp; omega
 have q4 : ((j : Int) == 4) = false := by simp; omega
 have r4 : (j = 4) = False := by simp; omega
 have q5 : ((j : Int) == 5) = false := by simp; omega
 have r5 : (j = 5) = False := by simp; omega
 have d2 : ((at_ : Int) == 2) = false := by first | (simp; done) | (simp; omega)
 have d2b : ¬ (at_ : Int) = 2 := by omega
 have d2c : (at_ = 2) = False := by simp [h2]
 obtain ⟨k, hk⟩ : ∃ k, pkd n 6 = k := ⟨_, rfl⟩
 have HP6 := hid (fun W => zAM n 6 W hn1 hn2 (by decide) (by decide))
 have HP9 := hid (fun W => zAM co 9 W hc1 hc2 (by decide) (by decide))
 rw [hk] at HP6
 try rw [hk]
 rw [hco] at HP9
 have hB := bxs2 w [.int .i64 ty, .int .i64 co, .int .i64 n, .int .i64 wi, .int .i64 si] [.int .i64 0, .slice none 0 0, .int .i64 0, .int .i64 0, .int .i64 0, .string ⟨#[]⟩, .string ⟨#[]⟩, .string ⟨#[]⟩, .int .i64 0, .int .i64 0, .int .i64 0, .string ⟨#[]⟩, .string ⟨#[]⟩, .string ⟨#[]⟩] 23 33
 have HB := hid hB
 have a2 : (0 : Int) ≤ 0 := by omega
 clear hB hn1 hn2 hc1 hc2 hk hco d2b
 go_enter Tryd.func5, Tryd.ntmps5
 go_wp2_with (first
  | (go_at_call 10; refine (zBF _ _).mono ?_; rintro e w1 ⟨rfl, hb1⟩; have HB1 := hid (HB.out.next hb1); clear hb1)
  | ((with_reducible refine gSq ?_); refine zBN 31 w1.heap.size 0 [.int .i64 0, .int .i64 0, .int .i64 0, .string ⟨#[]⟩, .string ⟨#[]⟩, .string ⟨#[]⟩] 31 (opV (ownO ⟨#[110]⟩)) [.int .i64 2, .int .i64 0, .int .i64 0, .string ⟨#[]⟩, .string ⟨#[]⟩, .string ⟨#[110]⟩] (heap_alloc_new _ _) ?_; intro w2 hblk hfr; have HW2 := hid hblk; have HB12 : Hid (Below w1.heap.size w1 w2) := zAH hfr; have c2 : w2.cell? ⟨w.heap.size, 2, none⟩ = some (.int .i64 n) := (HB1.out.next HB12.out).c 0 (by simp) 2; clear hblk hfr)
  | (go_at_call_of 4 (Value.int IntKind.i64 n); refine (HP6.out _).mono ?_; rintro e w2 ⟨rfl, rfl⟩)
  | (go_at_call 6; refine (zAR _ _).mono ?_; rintro e w3 ⟨rfl, hb3⟩; have HB3 := hid hb3; clear hb3)
  | ((with_reducible refine gSq ?_); refine zBN 31 w3.heap.size 0 [.int .i64 0, .int .i64 0, .int .i64 0, .string ⟨#[]⟩, .string ⟨#[]⟩, .string ⟨#[]⟩] 31 (opV (numO k)) [.int .i64 1, .int .i64 1, .int .i64 (k), .string ⟨#[]⟩, .string ⟨#[]⟩, .string ⟨#[]⟩] (heap_alloc_new _ _) ?_; intro w4 hblk hfr; have HW4 := hid hblk; have HB34 : Hid (Below w3.heap.size w3 w4) := zAH hfr; have hp0 : Hp w w4 [(w.heap.size, [.int .i64 ty, .int .i64 co, .int .i64 n, .int .i64 wi, .int .i64 si], 23), (w.heap.size + 1, [.int .i64 0, .slice none 0 0, .int .i64 0, .int .i64 0, .int .i64 0, .string ⟨#[]⟩, .string ⟨#[]⟩, .string ⟨#[]⟩, .int .i64 0, .int .i64 0, .int .i64 0, .string ⟨#[]⟩, .string ⟨#[]⟩, .string ⟨#[]⟩], 33), (w1.heap.size, [.int .i64 2, .int .i64 0, .int .i64 0, .string ⟨#[]⟩, .string ⟨#[]⟩, .string ⟨#[110]⟩], 31), (w3.heap.size, [.int .i64 1, .int .i64 1, .int .i64 (k), .string ⟨#[]⟩, .string ⟨#[]⟩, .string ⟨#[]⟩], 31)] := Hp.add (Hp.add (l := [(w.heap.size, [.int .i64 ty, .int .i64 co, .int .i64 n, .int .i64 wi, .int .i64 si], 23), (w.heap.size + 1, [.int .i64 0, .slice none 0 0, .int .i64 0, .int .i64 0, .int .i64 0, .string ⟨#[]⟩, .string ⟨#[]⟩, .string ⟨#[]⟩, .int .i64 0, .int .i64 0, .int .i64 0, .string ⟨#[]⟩, .string ⟨#[]⟩, .string ⟨#[]⟩], 33)]) (hp2 HB1.out) HB12.out HW2.out) (zAA HB3.out HB34.out HB3.out.size) HW4.out; have HP := hid hp0; have c1 : w4.cell? ⟨w.heap.size, 1, none⟩ = some (.int .i64 co) := HP.out.c 0 (by simp) 1; clear hblk hfr hp0)
  | (go_at_call_of 4 (Value.int IntKind.i64 co); refine (HP9.out _).mono ?_; rintro e w4 ⟨rfl, rfl⟩)
  | ((with_reducible show wpList _ _ _ (Oper.mk _ (.store 33 _ _) _ _ _ _ :: _) _ _); refine zA5 33 (w.heap.size + 1) 0 [.int .i64 0, .slice none 0 0, .int .i64 0, .int .i64 0, .int .i64 0, .string ⟨#[]⟩, .string ⟨#[]⟩, .string ⟨#[]⟩, .int .i64 0, .int .i64 0, .int .i64 0, .string ⟨#[]⟩, .string ⟨#[]⟩, .string ⟨#[]⟩] 33 [.int .i64 0, .slice none 0 0, .int .i64 0, .int .i64 0, .int .i64 0, .string ⟨#[]⟩, .string ⟨#[]⟩, .string ⟨#[]⟩, .int .i64 0, .int .i64 0, .int .i64 0, .string ⟨#[]⟩, .string ⟨#[]⟩, .string ⟨#[]⟩] (HP.out.b 1 (by simp)) ?_; intro w6 hblk hfr; have HW6 := hid hblk; have HBE : Hid (Below w.heap.size w w6) := zAO HP.out.bel hfr (by omega); clear hblk hfr))
 exact zAU (w.heap.size + 1) [.int .i64 0, .slice none 0 0, .int .i64 0, .int .i64 0, .int .i64 0, .string ⟨#[]⟩, .string ⟨#[]⟩, .string ⟨#[]⟩, .int .i64 0, .int .i64 0, .int .i64 0, .string ⟨#[]⟩, .string ⟨#[]⟩, .string ⟨#[]⟩] 33 _ HW6.out rfl rfl (by rfl) Tryd.underlying33 rfl (by kernel_rfl) ⟨_, rfl, fun _ _ => zBM 0 opd0 opd0, HBE.out⟩
theorem where_51 (ty co n wi si : Int) (hn1 : -9223372036854775808 ≤ n) (hn2 : n ≤ 9223372036854775807) (hc1 : -9223372036854775808 ≤ co) (hc2 : co ≤ 9223372036854775807) (at_ : Nat) (h2 : at_ ≠ 2) (hco : pkd co 9 = 5) (h1 : at_ = 1) (w : World) :
  Calls Tryd.prog 5 #[.agg #[.int .i64 ty, .int .i64 co, .int .i64 n, .int .i64 wi, .int .i64 si], .int .i64 (at_ : Nat), .slice none 0 0] w fun e w' => ∃ cs : List Value, e = .returned (.agg cs.toArray) ∧ (∀ W, (∀ i, w.heap.size ≤ i → i < w'.heap.size → W.heap[i]? = w'.heap[i]?) → RdL W (encC (cmpC 5 (ownO (txt [115])) (⟨1, 2, 0, txt [120], txt [], txt []⟩ : Opd))) cs) ∧ Below w.heap.size w w' := by
 subst h1
 have d2 : (((1 : Nat) : Int) == 2) = false := by first | (simp; done) | (simp; omega)
 have d2b : ¬ ((1 : Nat) : Int) = 2 := by omega
 obtain ⟨k, hk⟩ : ∃ k, pkd n 6 = k := ⟨_, rfl⟩
 have HP6 := hid (fun W => zAM n 6 W hn1 hn2 (by decide) (by decide))
 have HP9 := hid (fun W => zAM co 9 W hc1 hc2 (by decide) (by decide))
 rw [hk] at HP6
 try rw [hk]
 rw [hco] at HP9
 have hB := bxs2 w [.int .i64 ty, .int .i64 co, .int .i64 n, .int .i64 wi, .int .i64 si] [.int .i64 0, .slice none 0 0, .int .i64 0, .int .i64 0, .int .i64 0, .string ⟨#[]⟩, .string ⟨#[]⟩, .string ⟨#[]⟩, .int .i64 0, .int .i64 0, .int .i64 0, .string ⟨#[]⟩, .string ⟨#[]⟩, .string ⟨#[]⟩] 23 33
 have HB := hid hB
 have a2 : (0 : Int) ≤ 0 := by omega
 clear hB hn1 hn2 hc1 hc2 hk hco d2b
 go_enter Tryd.func5, Tryd.ntmps5
 go_wp2_with (first
  | (go_at_call_of 10 (Value.string ⟨#[110]⟩); refine (zBF _ _).mono ?_; rintro e w1 ⟨rfl, hb1⟩; have HB1 := hid (HB.out.next hb1); clear hb1)
  | ((with_reducible refine gSq ?_); refine zBN 31 w1.heap.size 0 [.int .i64 0, .int .i64 0, .int .i64 0, .string ⟨#[]⟩, .string ⟨#[]⟩, .string ⟨#[]⟩] 31 (opV (ownO ⟨#[110]⟩)) [.int .i64 2, .int .i64 0, .int .i64 0, .string ⟨#[]⟩, .string ⟨#[]⟩, .string ⟨#[110]⟩] (heap_alloc_new _ _) ?_; intro w2 hblk hfr; have HW2 := hid hblk; have HB12 : Hid (Below w1.heap.size w1 w2) := zAH hfr; have c2 : w2.cell? ⟨w.heap.size, 2, none⟩ = some (.int .i64 n) := (HB1.out.next HB12.out).c 0 (by simp) 2; clear hblk hfr)
  | (go_at_call_of 4 (Value.int IntKind.i64 n); refine (HP6.out _).mono ?_; rintro e w2 ⟨rfl, rfl⟩)
  | (go_at_call 6; refine (zAR _ _).mono ?_; rintro e w3 ⟨rfl, hb3⟩; have HB3 := hid hb3; clear hb3)
  | ((with_reducible refine gSq ?_); refine zBN 31 w3.heap.size 0 [.int .i64 0, .int .i64 0, .int .i64 0, .string ⟨#[]⟩, .string ⟨#[]⟩, .string ⟨#[]⟩] 31 (opV (numO k)) [.int .i64 1, .int .i64 1, .int .i64 (k), .string ⟨#[]⟩, .string ⟨#[]⟩, .string ⟨#[]⟩] (heap_alloc_new _ _) ?_; intro w4 hblk hfr; have HW4 := hid hblk; have HB34 : Hid (Below w3.heap.size w3 w4) := zAH hfr; have hp0 : Hp w w4 [(w.heap.size, [.int .i64 ty, .int .i64 co, .int .i64 n, .int .i64 wi, .int .i64 si], 23), (w.heap.size + 1, [.int .i64 0, .slice none 0 0, .int .i64 0, .int .i64 0, .int .i64 0, .string ⟨#[]⟩, .string ⟨#[]⟩, .string ⟨#[]⟩, .int .i64 0, .int .i64 0, .int .i64 0, .string ⟨#[]⟩, .string ⟨#[]⟩, .string ⟨#[]⟩], 33), (w1.heap.size, [.int .i64 2, .int .i64 0, .int .i64 0, .string ⟨#[]⟩, .string ⟨#[]⟩, .string ⟨#[110]⟩], 31), (w3.heap.size, [.int .i64 1, .int .i64 1, .int .i64 (k), .string ⟨#[]⟩, .string ⟨#[]⟩, .string ⟨#[]⟩], 31)] := Hp.add (Hp.add (l := [(w.heap.size, [.int .i64 ty, .int .i64 co, .int .i64 n, .int .i64 wi, .int .i64 si], 23), (w.heap.size + 1, [.int .i64 0, .slice none 0 0, .int .i64 0, .int .i64 0, .int .i64 0, .string ⟨#[]⟩, .string ⟨#[]⟩, .string ⟨#[]⟩, .int .i64 0, .int .i64 0, .int .i64 0, .string ⟨#[]⟩, .string ⟨#[]⟩, .string ⟨#[]⟩], 33)]) (hp2 HB1.out) HB12.out HW2.out) (zAA HB3.out HB34.out HB3.out.size) HW4.out; have HP := hid hp0; have c1 : w4.cell? ⟨w.heap.size, 1, none⟩ = some (.int .i64 co) := HP.out.c 0 (by simp) 1; clear hblk hfr hp0)
  | (go_at_call_of 4 (Value.int IntKind.i64 co); refine (HP9.out _).mono ?_; rintro e w4 ⟨rfl, rfl⟩)
  | (go_at_call_of 10 (Value.string ⟨#[115]⟩); refine (zBF _ _).mono ?_; rintro e w5 ⟨rfl, hb5⟩; have HP5 := hid (HP.out.next hb5); clear hb5)
  | (go_at_call 11; refine (compare_any 5 (ownO (txt [115])) (⟨1, 2, 0, txt [120], txt [], txt []⟩ : Opd) _).mono ?_; rintro e w6 ⟨rfl, hb6⟩; have HP6' := hid (HP5.out.next hb6); clear hb6)
  | ((with_reducible show wpList _ _ _ (Oper.mk _ (.store 33 _ _) _ _ _ _ :: _) _ _); refine zA5 33 (w.heap.size + 1) 0 [.int .i64 0, .slice none 0 0, .int .i64 0, .int .i64 0, .int .i64 0, .string ⟨#[]⟩, .string ⟨#[]⟩, .string ⟨#[]⟩, .int .i64 0, .int .i64 0, .int .i64 0, .string ⟨#[]⟩, .string ⟨#[]⟩, .string ⟨#[]⟩] 33 [.int .i64 5, .slice none 0 0, .int .i64 2, .int .i64 0, .int .i64 0, .string ⟨#[]⟩, .string ⟨#[]⟩, .string ⟨#[115]⟩, .int .i64 1, .int .i64 2, .int .i64 0, .string ⟨#[120]⟩, .string ⟨#[]⟩, .string ⟨#[]⟩] (HP6'.out.b 1 (by simp)) ?_; intro w7 hblk hfr; have HW6 := hid hblk; have HBE : Hid (Below w.heap.size w w7) := zAO HP6'.out.bel hfr (by omega); clear hblk hfr))
 exact zAU (w.heap.size + 1) [.int .i64 5, .slice none 0 0, .int .i64 2, .int .i64 0, .int .i64 0, .string ⟨#[]⟩, .string ⟨#[]⟩, .string ⟨#[115]⟩, .int .i64 1, .int .i64 2, .int .i64 0, .string ⟨#[120]⟩, .string ⟨#[]⟩, .string ⟨#[]⟩] 33 _ HW6.out rfl rfl (by rfl) Tryd.underlying33 rfl (by kernel_rfl) ⟨_, rfl, fun _ _ => zBM 5 (ownO (txt [115])) (⟨1, 2, 0, txt [120], txt [], txt []⟩ : Opd), HBE.out⟩
theorem where_3 (ty co n wi si : Int) (hn1 : -9223372036854775808 ≤ n) (hn2 : n ≤ 9223372036854775807) (hc1 : -9223372036854775808 ≤ co) (hc2 : co ≤ 9223372036854775807) (at_ : Nat) (h2 : at_ ≠ 2) (hco : pkd co 9 = 3) (w : World) :
  Calls Tryd.prog 5 #[.agg #[.int .i64 ty, .int .i64 co, .int .i64 n, .int .i64 wi, .int .i64 si], .int .i64 (at_ : Nat), .slice none 0 0] w fun e w' => ∃ cs : List Value, e = .returned (.agg cs.toArray) ∧ (∀ W, (∀ i, w.heap.size ≤ i → i < w'.heap.size → W.heap[i]? = w'.heap[i]?) → RdL W (encC (grpC 2 [cmpC 4 nO (numO (pkd n 6)), cmpC 7 nO (numO 1)])) cs) ∧ Below w.heap.size w w' := by
 have d2 : ((at_ : Int) == 2) = false := by first | (simp; done) | (simp; omega)
 have d2b : ¬ (at_ : Int) = 2 := by omega
 have d2c : (at_ = 2) = False := by simp [h2]
 obtain ⟨k, hk⟩ : ∃ k, pkd n 6 = k := ⟨_, rfl⟩
 have HP6 := hid (fun W => zAM n 6 W hn1 hn2 (by decide) (by decide))
 have HP9 := hid (fun W => zAM co 9 W hc1 hc2 (by decide) (by decide))
 rw [hk] at HP6
 try rw [hk]
 rw [hco] at HP9
 have hB := bxs2 w [.int .i64 ty, .int .i64 co, .int .i64 n, .int .i64 wi, .int .i64 si] [.int .i64 0, .slice none 0 0, .int .i64 0, .int .i64 0, .int .i64 0, .string ⟨#[]⟩, .string ⟨#[]⟩, .string ⟨#[]⟩, .int .i64 0, .int .i64 0, .int .i64 0, .string ⟨#[]⟩, .string ⟨#[]⟩, .string ⟨#[]⟩] 23 33
 have HB := hid hB
 have a2 : (0 : Int) ≤ 0 := by omega
 clear hB hn1 hn2 hc1 hc2 hk hco d2b
 go_enter Tryd.func5, Tryd.ntmps5
 go_wp2_with (first
  | (go_at_call 10; refine (zBF _ _).mono ?_; rintro e w1 ⟨rfl, hb1⟩; have HB1 := hid (HB.out.next hb1); clear hb1)
  | ((with_reducible refine gSq ?_); refine zBN 31 w1.heap.size 0 [.int .i64 0, .int .i64 0, .int .i64 0, .string ⟨#[]⟩, .string ⟨#[]⟩, .string ⟨#[]⟩] 31 (opV (ownO ⟨#[110]⟩)) [.int .i64 2, .int .i64 0, .int .i64 0, .string ⟨#[]⟩, .string ⟨#[]⟩, .string ⟨#[110]⟩] (heap_alloc_new _ _) ?_; intro w2 hblk hfr; have HW2 := hid hblk; have HB12 : Hid (Below w1.heap.size w1 w2) := zAH hfr; have c2 : w2.cell? ⟨w.heap.size, 2, none⟩ = some (.int .i64 n) := (HB1.out.next HB12.out).c 0 (by simp) 2; clear hblk hfr)
  | (go_at_call_of 4 (Value.int IntKind.i64 n); refine (HP6.out _).mono ?_; rintro e w2 ⟨rfl, rfl⟩)
  | (go_at_call 6; refine (zAR _ _).mono ?_; rintro e w3 ⟨rfl, hb3⟩; have HB3 := hid hb3; clear hb3)
  | ((with_reducible refine gSq ?_); refine zBN 31 w3.heap.size 0 [.int .i64 0, .int .i64 0, .int .i64 0, .string ⟨#[]⟩, .string ⟨#[]⟩, .string ⟨#[]⟩] 31 (opV (numO k)) [.int .i64 1, .int .i64 1, .int .i64 (k), .string ⟨#[]⟩, .string ⟨#[]⟩, .string ⟨#[]⟩] (heap_alloc_new _ _) ?_; intro w4 hblk hfr; have HW4 := hid hblk; have HB34 : Hid (Below w3.heap.size w3 w4) := zAH hfr; have hp0 : Hp w w4 [(w.heap.size, [.int .i64 ty, .int .i64 co, .int .i64 n, .int .i64 wi, .int .i64 si], 23), (w.heap.size + 1, [.int .i64 0, .slice none 0 0, .int .i64 0, .int .i64 0, .int .i64 0, .string ⟨#[]⟩, .string ⟨#[]⟩, .string ⟨#[]⟩, .int .i64 0, .int .i64 0, .int .i64 0, .string ⟨#[]⟩, .string ⟨#[]⟩, .string ⟨#[]⟩], 33), (w1.heap.size, [.int .i64 2, .int .i64 0, .int .i64 0, .string ⟨#[]⟩, .string ⟨#[]⟩, .string ⟨#[110]⟩], 31), (w3.heap.size, [.int .i64 1, .int .i64 1, .int .i64 (k), .string ⟨#[]⟩, .string ⟨#[]⟩, .string ⟨#[]⟩], 31)] := Hp.add (Hp.add (l := [(w.heap.size, [.int .i64 ty, .int .i64 co, .int .i64 n, .int .i64 wi, .int .i64 si], 23), (w.heap.size + 1, [.int .i64 0, .slice none 0 0, .int .i64 0, .int .i64 0, .int .i64 0, .string ⟨#[]⟩, .string ⟨#[]⟩, .string ⟨#[]⟩, .int .i64 0, .int .i64 0, .int .i64 0, .string ⟨#[]⟩, .string ⟨#[]⟩, .string ⟨#[]⟩], 33)]) (hp2 HB1.out) HB12.out HW2.out) (zAA HB3.out HB34.out HB3.out.size) HW4.out; have HP := hid hp0; have c1 : w4.cell? ⟨w.heap.size, 1, none⟩ = some (.int .i64 co) := HP.out.c 0 (by simp) 1; clear hblk hfr hp0)
  | (go_at_call_of 4 (Value.int IntKind.i64 co); refine (HP9.out _).mono ?_; rintro e w4 ⟨rfl, rfl⟩))
 clear HW2 HB12 HB3 HW4 HB34 c1 c2 HB1 HB HP6 HP9
 generalize w1.heap.size = b7 at HP ⊢
 generalize w3.heap.size = b9 at HP ⊢
 have HPD := hid (HP.out.next (Below.drew (Below.refl _ _)))
 refine zAV (by kernel_rfl) (fun i w9 v => ([(fun w9 v => v = .agg #[.int .i64 2, .int .i64 0, .int .i64 0, .string ⟨#[]⟩, .string ⟨#[]⟩, .string ⟨#[110]⟩]), (fun w9 v => v = .int .i64 k), (fun w9 v => v = .agg #[.int .i64 1, .int .i64 1, .int .i64 (k), .string ⟨#[]⟩, .string ⟨#[]⟩, .string ⟨#[]⟩]), (fun w9 v => v = .agg #[.int .i64 4, .slice none 0 0, .int .i64 2, .int .i64 0, .int .i64 0, .string ⟨#[]⟩, .string ⟨#[]⟩, .string ⟨#[110]⟩, .int .i64 1, .int .i64 1, .int .i64 (k), .string ⟨#[]⟩, .string ⟨#[]⟩, .string ⟨#[]⟩]), (fun w9 v => v = .agg #[.int .i64 2, .int .i64 0, .int .i64 0, .string ⟨#[]⟩, .string ⟨#[]⟩, .string ⟨#[110]⟩]), (fun w9 v => v = .agg #[.int .i64 1, .int .i64 1, .int .i64 (1), .string ⟨#[]⟩, .string ⟨#[]⟩, .string ⟨#[]⟩]), (fun w9 v => v = .agg #[.int .i64 7, .slice none 0 0, .int .i64 2, .int .i64 0, .int .i64 0, .string ⟨#[]⟩, .string ⟨#[]⟩, .string ⟨#[110]⟩, .int .i64 1, .int .i64 1, .int .i64 (1), .string ⟨#[]⟩, .string ⟨#[]⟩, .string ⟨#[]⟩]), (fun w9 v => ∃ (b : Nat), v = .slice (some ⟨b, 0, none⟩) 2 2 ∧ w9.heap[b]? = some (.cells #[.int .i64 4, .slice none 0 0, .int .i64 2, .int .i64 0, .int .i64 0, .string ⟨#[]⟩, .string ⟨#[]⟩, .string ⟨#[110]⟩, .int .i64 1, .int .i64 1, .int .i64 (k), .string ⟨#[]⟩, .string ⟨#[]⟩, .string ⟨#[]⟩, .int .i64 7, .slice none 0 0, .int .i64 2, .int .i64 0, .int .i64 0, .string ⟨#[]⟩, .string ⟨#[]⟩, .string ⟨#[110]⟩, .int .i64 1, .int .i64 1, .int .i64 (1), .string ⟨#[]⟩, .string ⟨#[]⟩, .string ⟨#[]⟩] 33 (0, 0)) ∧ w.heap.size + 1 < b), (fun w9 v => ∃ (b : Nat), v = .agg #[.int .i64 2, .slice (some ⟨b, 0, none⟩) 2 2, .int .i64 0, .int .i64 0, .int .i64 0, .string ⟨#[]⟩, .string ⟨#[]⟩, .string ⟨#[]⟩, .int .i64 0, .int .i64 0, .int .i64 0, .string ⟨#[]⟩, .string ⟨#[]⟩, .string ⟨#[]⟩] ∧ w9.heap[b]? = some (.cells #[.int .i64 4, .slice none 0 0, .int .i64 2, .int .i64 0, .int .i64 0, .string ⟨#[]⟩, .string ⟨#[]⟩, .string ⟨#[110]⟩, .int .i64 1, .int .i64 1, .int .i64 (k), .string ⟨#[]⟩, .string ⟨#[]⟩, .string ⟨#[]⟩, .int .i64 7, .slice none 0 0, .int .i64 2, .int .i64 0, .int .i64 0, .string ⟨#[]⟩, .string ⟨#[]⟩, .string ⟨#[110]⟩, .int .i64 1, .int .i64 1, .int .i64 (1), .string ⟨#[]⟩, .string ⟨#[]⟩, .string ⟨#[]⟩] 33 (0, 0)) ∧ w.heap.size + 1 < b)] : List (World → Value → Prop)).getD i (fun _ _ => True) w9 v) (fun W => Hp w W [(w.heap.size, [.int .i64 ty, .int .i64 co, .int .i64 n, .int .i64 wi, .int .i64 si], 23), (w.heap.size + 1, [.int .i64 0, .slice none 0 0, .int .i64 0, .int .i64 0, .int .i64 0, .string ⟨#[]⟩, .string ⟨#[]⟩, .string ⟨#[]⟩, .int .i64 0, .int .i64 0, .int .i64 0, .string ⟨#[]⟩, .string ⟨#[]⟩, .string ⟨#[]⟩], 33), (b7, [.int .i64 2, .int .i64 0, .int .i64 0, .string ⟨#[]⟩, .string ⟨#[]⟩, .string ⟨#[110]⟩], 31), (b9, [.int .i64 1, .int .i64 1, .int .i64 (k), .string ⟨#[]⟩, .string ⟨#[]⟩, .string ⟨#[]⟩], 31)]) 86 9 rfl rfl (by kernel_rfl) (by kernel_rfl) (fun W W' => Below W.heap.size W W') ?hmon (HPD.out) (zAF.cons ?o0 (zAF.cons ?o1 (zAF.cons ?o2 (zAF.cons ?o3 (zAF.cons ?o4 (zAF.cons ?o5 (zAF.cons ?o6 (zAF.cons ?o7 (zAF.cons ?o8 zAF.nil))))))))) ?hend
 case hmon =>
  intro q W W' v hb h
  rcases q with _ | _ | _ | _ | _ | _ | _ | _ | _ | q
  . exact h
  . exact h
  . exact h
  . exact h
  . exact h
  . exact h
  . exact h
  . obtain ⟨b, e, h1, h2⟩ := h; exact ⟨b, e, (hb.block _ (zAE h1)).trans h1, h2⟩
  . obtain ⟨b, e, h1, h2⟩ := h; exact ⟨b, e, (hb.block _ (zAE h1)).trans h1, h2⟩
  . exact h
 case o0 =>
  intro a W hB hd ho
  have e7 : a.eval (.tmp 7) = .pointer (some ⟨b7, 0, none⟩) := ho 7 (by kernel_rfl)
  exact zDX 31 _ rfl _ _ e7 [.int .i64 2, .int .i64 0, .int .i64 0, .string ⟨#[]⟩, .string ⟨#[]⟩, .string ⟨#[110]⟩] _ (hB.r 2 (by simp)) Tryd.underlying31 rfl (by kernel_rfl) ⟨_, rfl, rfl, hB, Below.refl _ _⟩
 case o1 =>
  intro a W hB hd ho
  have e8 : a.eval (.tmp 8) = .int .i64 k := ho 8 (by kernel_rfl)
  exact zFT _ (by simp) _ e8 ⟨_, rfl, rfl, hB, Below.refl _ _⟩
 case o2 =>
  intro a W hB hd ho
  have e53 : a.eval (.tmp 53) = .int .i64 k := hd 1 53 (by kernel_rfl)
  refine zB9 6 zEC _ _ rfl #[.int .i64 k] (by simp [ev_c, e53]) _ (zAR k W) ?_
  rintro e W' ⟨rfl, hb⟩
  exact ⟨_, rfl, _, rfl, rfl, hB.next hb, hb⟩
 case o3 =>
  intro a W hB hd ho
  have e52 : a.eval (.tmp 52) = opV nO := hd 0 52 (by kernel_rfl)
  have e54 : a.eval (.tmp 54) = opV (numO k) := hd 2 54 (by kernel_rfl)
  refine zB9 11 zCV _ _ rfl #[.int .i64 4, opV nO, opV (numO k)] (by simp [ev_c, e52, e54]) _ (compare_any 4 nO (numO k) W) ?_
  rintro e W' ⟨rfl, hb⟩
  exact ⟨_, rfl, _, rfl, rfl, hB.next hb, hb⟩
 case o4 =>
  intro a W hB hd ho
  have e7 : a.eval (.tmp 7) = .pointer (some ⟨b7, 0, none⟩) := ho 7 (by kernel_rfl)
  exact zDX 31 _ rfl _ _ e7 [.int .i64 2, .int .i64 0, .int .i64 0, .string ⟨#[]⟩, .string ⟨#[]⟩, .string ⟨#[110]⟩] _ (hB.r 2 (by simp)) Tryd.underlying31 rfl (by kernel_rfl) ⟨_, rfl, rfl, hB, Below.refl _ _⟩
 case o5 =>
  intro a W hB hd ho
  refine zB9 6 zEC _ _ rfl #[.int .i64 1] (by simp [ev_c]) _ (zAR 1 W) ?_
  rintro e W' ⟨rfl, hb⟩
  exact ⟨_, rfl, _, rfl, rfl, hB.next hb, hb⟩
 case o6 =>
  intro a W hB hd ho
  have e56 : a.eval (.tmp 56) = opV nO := hd 4 56 (by kernel_rfl)
  have e57 : a.eval (.tmp 57) = opV (numO 1) := hd 5 57 (by kernel_rfl)
  refine zB9 11 zCV _ _ rfl #[.int .i64 7, opV nO, opV (numO 1)] (by simp [ev_c, e56, e57]) _ (compare_any 7 nO (numO 1) W) ?_
  rintro e W' ⟨rfl, hb⟩
  exact ⟨_, rfl, _, rfl, rfl, hB.next hb, hb⟩
 case o7 =>
  intro a W hB hd ho
  have e55 : a.eval (.tmp 55) = .agg #[.int .i64 4, .slice none 0 0, .int .i64 2, .int .i64 0, .int .i64 0, .string ⟨#[]⟩, .string ⟨#[]⟩, .string ⟨#[110]⟩, .int .i64 1, .int .i64 1, .int .i64 (k), .string ⟨#[]⟩, .string ⟨#[]⟩, .string ⟨#[]⟩] := hd 3 55 (by kernel_rfl)
  have e58 : a.eval (.tmp 58) = .agg #[.int .i64 7, .slice none 0 0, .int .i64 2, .int .i64 0, .int .i64 0, .string ⟨#[]⟩, .string ⟨#[]⟩, .string ⟨#[110]⟩, .int .i64 1, .int .i64 1, .int .i64 (1), .string ⟨#[]⟩, .string ⟨#[]⟩, .string ⟨#[]⟩] := hd 6 58 (by kernel_rfl)
  have hal : Below W.heap.size W (W.alloc (.cells #[.int .i64 4, .slice none 0 0, .int .i64 2, .int .i64 0, .int .i64 0, .string ⟨#[]⟩, .string ⟨#[]⟩, .string ⟨#[110]⟩, .int .i64 1, .int .i64 1, .int .i64 (k), .string ⟨#[]⟩, .string ⟨#[]⟩, .string ⟨#[]⟩, .int .i64 7, .slice none 0 0, .int .i64 2, .int .i64 0, .int .i64 0, .string ⟨#[]⟩, .string ⟨#[]⟩, .string ⟨#[110]⟩, .int .i64 1, .int .i64 1, .int .i64 (1), .string ⟨#[]⟩, .string ⟨#[]⟩, .string ⟨#[]⟩] 33)) := (Below.refl _ _).alloc (Nat.le_refl _) _
  refine zDZ 27 2 _ rfl #[(0, .agg #[.int .i64 4, .slice none 0 0, .int .i64 2, .int .i64 0, .int .i64 0, .string ⟨#[]⟩, .string ⟨#[]⟩, .string ⟨#[110]⟩, .int .i64 1, .int .i64 1, .int .i64 (k), .string ⟨#[]⟩, .string ⟨#[]⟩, .string ⟨#[]⟩]), (1, .agg #[.int .i64 7, .slice none 0 0, .int .i64 2, .int .i64 0, .int .i64 0, .string ⟨#[]⟩, .string ⟨#[]⟩, .string ⟨#[110]⟩, .int .i64 1, .int .i64 1, .int .i64 (1), .string ⟨#[]⟩, .string ⟨#[]⟩, .string ⟨#[]⟩])] (by simp [ev_c, e55, e58]) (.slice (some ⟨W.heap.size, 0, none⟩) 2 2) (W.alloc (.cells #[.int .i64 4, .slice none 0 0, .int .i64 2, .int .i64 0, .int .i64 0, .string ⟨#[]⟩, .string ⟨#[]⟩, .string ⟨#[110]⟩, .int .i64 1, .int .i64 1, .int .i64 (k), .string ⟨#[]⟩, .string ⟨#[]⟩, .string ⟨#[]⟩, .int .i64 7, .slice none 0 0, .int .i64 2, .int .i64 0, .int .i64 0, .string ⟨#[]⟩, .string ⟨#[]⟩, .string ⟨#[110]⟩, .int .i64 1, .int .i64 1, .int .i64 (1), .string ⟨#[]⟩, .string ⟨#[]⟩, .string ⟨#[]⟩] 33)) (by kernel_rfl) ⟨_, rfl, ⟨W.heap.size, rfl, heap_alloc_new _ _, (by have := zAE (hB.b 1 (by simp)); simp at this; omega)⟩, hB.next hal, hal⟩
 case o8 =>
  intro a W hB hd ho
  obtain ⟨b, e59, h1, h2⟩ : ∃ (b : Nat), a.eval (.tmp 59) = .slice (some ⟨b, 0, none⟩) 2 2 ∧ W.heap[b]? = some (.cells #[.int .i64 4, .slice none 0 0, .int .i64 2, .int .i64 0, .int .i64 0, .string ⟨#[]⟩, .string ⟨#[]⟩, .string ⟨#[110]⟩, .int .i64 1, .int .i64 1, .int .i64 (k), .string ⟨#[]⟩, .string ⟨#[]⟩, .string ⟨#[]⟩, .int .i64 7, .slice none 0 0, .int .i64 2, .int .i64 0, .int .i64 0, .string ⟨#[]⟩, .string ⟨#[]⟩, .string ⟨#[110]⟩, .int .i64 1, .int .i64 1, .int .i64 (1), .string ⟨#[]⟩, .string ⟨#[]⟩, .string ⟨#[]⟩] 33 (0, 0)) ∧ w.heap.size + 1 < b := hd 7 59 (by kernel_rfl)
  exact zEA 33 _ rfl #[(0, .int .i64 2), (1, .slice (some ⟨b, 0, none⟩) 2 2)] (by simp [ev_c, e59]) (.agg #[.int .i64 2, .slice (some ⟨b, 0, none⟩) 2 2, .int .i64 0, .int .i64 0, .int .i64 0, .string ⟨#[]⟩, .string ⟨#[]⟩, .string ⟨#[]⟩, .int .i64 0, .int .i64 0, .int .i64 0, .string ⟨#[]⟩, .string ⟨#[]⟩, .string ⟨#[]⟩]) (by kernel_rfl) ⟨_, rfl, ⟨b, rfl, h1, h2⟩, hB, Below.refl _ _⟩
 case hend =>
  intro vs W o ho hB hT
  obtain ⟨b, e8, h1, h2⟩ : ∃ (b : Nat), vs 8 = .agg #[.int .i64 2, .slice (some ⟨b, 0, none⟩) 2 2, .int .i64 0, .int .i64 0, .int .i64 0, .string ⟨#[]⟩, .string ⟨#[]⟩, .string ⟨#[]⟩, .int .i64 0, .int .i64 0, .int .i64 0, .string ⟨#[]⟩, .string ⟨#[]⟩, .string ⟨#[]⟩] ∧ W.heap[b]? = some (.cells #[.int .i64 4, .slice none 0 0, .int .i64 2, .int .i64 0, .int .i64 0, .string ⟨#[]⟩, .string ⟨#[]⟩, .string ⟨#[110]⟩, .int .i64 1, .int .i64 1, .int .i64 (k), .string ⟨#[]⟩, .string ⟨#[]⟩, .string ⟨#[]⟩, .int .i64 7, .slice none 0 0, .int .i64 2, .int .i64 0, .int .i64 0, .string ⟨#[]⟩, .string ⟨#[]⟩, .string ⟨#[110]⟩, .int .i64 1, .int .i64 1, .int .i64 (1), .string ⟨#[]⟩, .string ⟨#[]⟩, .string ⟨#[]⟩] 33 (0, 0)) ∧ w.heap.size + 1 < b := hT 8 (by decide)
  cases (show some _ = some o from ho)
  simp only [List.toList_toArray, List.take_succ_cons, List.take_zero, fill, if_true, Act.put, List.setIfInBounds_toArray, List.set_cons_zero, List.set_cons_succ, e8]
  refine op_st 33 _ _ rfl (w.heap.size + 1) 0 [.int .i64 0, .slice none 0 0, .int .i64 0, .int .i64 0, .int .i64 0, .string ⟨#[]⟩, .string ⟨#[]⟩, .string ⟨#[]⟩, .int .i64 0, .int .i64 0, .int .i64 0, .string ⟨#[]⟩, .string ⟨#[]⟩, .string ⟨#[]⟩] 33 (.agg #[.int .i64 2, .slice (some ⟨b, 0, none⟩) 2 2, .int .i64 0, .int .i64 0, .int .i64 0, .string ⟨#[]⟩, .string ⟨#[]⟩, .string ⟨#[]⟩, .int .i64 0, .int .i64 0, .int .i64 0, .string ⟨#[]⟩, .string ⟨#[]⟩, .string ⟨#[]⟩]) [.int .i64 2, .slice (some ⟨b, 0, none⟩) 2 2, .int .i64 0, .int .i64 0, .int .i64 0, .string ⟨#[]⟩, .string ⟨#[]⟩, .string ⟨#[]⟩, .int .i64 0, .int .i64 0, .int .i64 0, .string ⟨#[]⟩, .string ⟨#[]⟩, .string ⟨#[]⟩] (by rfl) (by rfl) (by rfl) (hB.b 1 (by simp)) (by simp) (by kernel_rfl) (by rfl) ?_
  intro w5 hblk hfr
  have HW5 := hid hblk
  have HBE : Hid (Below w.heap.size w w5) := zAO hB.bel hfr (by omega)
  have h5 : w5.heap[b]? = some (.cells #[.int .i64 4, .slice none 0 0, .int .i64 2, .int .i64 0, .int .i64 0, .string ⟨#[]⟩, .string ⟨#[]⟩, .string ⟨#[110]⟩, .int .i64 1, .int .i64 1, .int .i64 (k), .string ⟨#[]⟩, .string ⟨#[]⟩, .string ⟨#[]⟩, .int .i64 7, .slice none 0 0, .int .i64 2, .int .i64 0, .int .i64 0, .string ⟨#[]⟩, .string ⟨#[]⟩, .string ⟨#[110]⟩, .int .i64 1, .int .i64 1, .int .i64 (1), .string ⟨#[]⟩, .string ⟨#[]⟩, .string ⟨#[]⟩] 33 (0, 0)) := (hfr.block b (zAE h1) (by omega)).trans h1
  have HRR : Hid (∀ W, (∀ i, w.heap.size ≤ i → i < w5.heap.size → W.heap[i]? = w5.heap[i]?) → RdL W (encC (grpC 2 [cmpC 4 nO (numO k), cmpC 7 nO (numO 1)])) [.int .i64 2, .slice (some ⟨b, 0, none⟩) 2 2, .int .i64 0, .int .i64 0, .int .i64 0, .string ⟨#[]⟩, .string ⟨#[]⟩, .string ⟨#[]⟩, .int .i64 0, .int .i64 0, .int .i64 0, .string ⟨#[]⟩, .string ⟨#[]⟩, .string ⟨#[]⟩]) := fun W hW => .cons (.lit _) (.cons (zA8 (l := [cmpC 4 nO (numO k), cmpC 7 nO (numO 1)].map encC) ((hW b (by omega) (zAE h5)).trans h5) (by simp) (by simp [maxLen]) (zBO (zBM 4 nO (numO k)) (zEK (zBM 7 nO (numO 1))))) (zAT [.int .i64 0, .int .i64 0, .int .i64 0, .string ⟨#[]⟩, .string ⟨#[]⟩, .string ⟨#[]⟩, .int .i64 0, .int .i64 0, .int .i64 0, .string ⟨#[]⟩, .string ⟨#[]⟩, .string ⟨#[]⟩]))
  clear hblk hfr h5 h1 h2
  go_wp2_with fail
  exact zAU (w.heap.size + 1) [.int .i64 2, .slice (some ⟨b, 0, none⟩) 2 2, .int .i64 0, .int .i64 0, .int .i64 0, .string ⟨#[]⟩, .string ⟨#[]⟩, .string ⟨#[]⟩, .int .i64 0, .int .i64 0, .int .i64 0, .string ⟨#[]⟩, .string ⟨#[]⟩, .string ⟨#[]⟩] 33 _ HW5.out rfl rfl (by rfl) Tryd.underlying33 rfl (by kernel_rfl) ⟨_, rfl, HRR.out, HBE.out⟩
theorem where_4 (ty co n wi si : Int) (hn1 : -9223372036854775808 ≤ n) (hn2 : n ≤ 9223372036854775807) (hc1 : -9223372036854775808 ≤ co) (hc2 : co ≤ 9223372036854775807) (at_ : Nat) (h2 : at_ ≠ 2) (hco : pkd co 9 = 4) (w : World) :
  Calls Tryd.prog 5 #[.agg #[.int .i64 ty, .int .i64 co, .int .i64 n, .int .i64 wi, .int .i64 si], .int .i64 (at_ : Nat), .slice none 0 0] w fun e w' => ∃ cs : List Value, e = .returned (.agg cs.toArray) ∧ (∀ W, (∀ i, w.heap.size ≤ i → i < w'.heap.size → W.heap[i]? = w'.heap[i]?) → RdL W (encC (grpC 1 [cmpC 4 (numO (pkd n 6)) nO, grpC 3 [cmpC 4 nO (numO (pkd n 6))]])) cs) ∧ Below w.heap.size w w' := by
 have d2 : ((at_ : Int) == 2) = false := by first | (simp; done) | (simp; omega)
 have d2b : ¬ (at_ : Int) = 2 := by omega
 have d2c : (at_ = 2) = False := by simp [h2]
 obtain ⟨k, hk⟩ : ∃ k, pkd n 6 = k := ⟨_, rfl⟩
 have HP6 := hid (fun W => zAM n 6 W hn1 hn2 (by decide) (by decide))
 have HP9 := hid (fun W => zAM co 9 W hc1 hc2 (by decide) (by decide))
 rw [hk] at HP6
 try rw [hk]
 rw [hco] at HP9
 have hB := bxs2 w [.int .i64 ty, .int .i64 co, .int .i64 n, .int .i64 wi, .int .i64 si] [.int .i64 0, .slice none 0 0, .int .i64 0, .int .i64 0, .int .i64 0, .string ⟨#[]⟩, .string ⟨#[]⟩, .string ⟨#[]⟩, .int .i64 0, .int .i64 0, .int .i64 0, .string ⟨#[]⟩, .string ⟨#[]⟩, .string ⟨#[]⟩] 23 33
 have HB := hid hB
 have a2 : (0 : Int) ≤ 0 := by omega
 clear hB hn1 hn2 hc1 hc2 hk hco d2b
 go_enter Tryd.func5, Tryd.ntmps5
 go_wp2_with (first
  | (go_at_call 10; refine (zBF _ _).mono ?_; rintro e w1 ⟨rfl, hb1⟩; have HB1 := hid (HB.out.next hb1); clear hb1)
  | ((with_reducible refine gSq ?_); refine zBN 31 w1.heap.size 0 [.int .i64 0, .int .i64 0, .int .i64 0, .string ⟨#[]⟩, .string ⟨#[]⟩, .string ⟨#[]⟩] 31 (opV (ownO ⟨#[110]⟩)) [.int .i64 2, .int .i64 0, .int .i64 0, .string ⟨#[]⟩, .string ⟨#[]⟩, .string ⟨#[110]⟩] (heap_alloc_new _ _) ?_; intro w2 hblk hfr; have HW2 := hid hblk; have HB12 : Hid (Below w1.heap.size w1 w2) := zAH hfr; have c2 : w2.cell? ⟨w.heap.size, 2, none⟩ = some (.int .i64 n) := (HB1.out.next HB12.out).c 0 (by simp) 2; clear hblk hfr)
  | (go_at_call_of 4 (Value.int IntKind.i64 n); refine (HP6.out _).mono ?_; rintro e w2 ⟨rfl, rfl⟩)
  | (go_at_call 6; refine (zAR _ _).mono ?_; rintro e w3 ⟨rfl, hb3⟩; have HB3 := hid hb3; clear hb3)
  | ((with_reducible refine gSq ?_); refine zBN 31 w3.heap.size 0 [.int .i64 0, .int .i64 0, .int .i64 0, .string ⟨#[]⟩, .string ⟨#[]⟩, .string ⟨#[]⟩] 31 (opV (numO k)) [.int .i64 1, .int .i64 1, .int .i64 (k), .string ⟨#[]⟩, .string ⟨#[]⟩, .string ⟨#[]⟩] (heap_alloc_new _ _) ?_; intro w4 hblk hfr; have HW4 := hid hblk; have HB34 : Hid (Below w3.heap.size w3 w4) := zAH hfr; have hp0 : Hp w w4 [(w.heap.size, [.int .i64 ty, .int .i64 co, .int .i64 n, .int .i64 wi, .int .i64 si], 23), (w.heap.size + 1, [.int .i64 0, .slice none 0 0, .int .i64 0, .int .i64 0, .int .i64 0, .string ⟨#[]⟩, .string ⟨#[]⟩, .string ⟨#[]⟩, .int .i64 0, .int .i64 0, .int .i64 0, .string ⟨#[]⟩, .string ⟨#[]⟩, .string ⟨#[]⟩], 33), (w1.heap.size, [.int .i64 2, .int .i64 0, .int .i64 0, .string ⟨#[]⟩, .string ⟨#[]⟩, .string ⟨#[110]⟩], 31), (w3.heap.size, [.int .i64 1, .int .i64 1, .int .i64 (k), .string ⟨#[]⟩, .string ⟨#[]⟩, .string ⟨#[]⟩], 31)] := Hp.add (Hp.add (l := [(w.heap.size, [.int .i64 ty, .int .i64 co, .int .i64 n, .int .i64 wi, .int .i64 si], 23), (w.heap.size + 1, [.int .i64 0, .slice none 0 0, .int .i64 0, .int .i64 0, .int .i64 0, .string ⟨#[]⟩, .string ⟨#[]⟩, .string ⟨#[]⟩, .int .i64 0, .int .i64 0, .int .i64 0, .string ⟨#[]⟩, .string ⟨#[]⟩, .string ⟨#[]⟩], 33)]) (hp2 HB1.out) HB12.out HW2.out) (zAA HB3.out HB34.out HB3.out.size) HW4.out; have HP := hid hp0; have c1 : w4.cell? ⟨w.heap.size, 1, none⟩ = some (.int .i64 co) := HP.out.c 0 (by simp) 1; clear hblk hfr hp0)
  | (go_at_call_of 4 (Value.int IntKind.i64 co); refine (HP9.out _).mono ?_; rintro e w4 ⟨rfl, rfl⟩))
 clear HW2 HB12 HB3 HW4 HB34 c1 c2 HB1 HB HP6 HP9
 generalize w1.heap.size = b7 at HP ⊢
 generalize w3.heap.size = b9 at HP ⊢
 have HPD := hid (HP.out.next (Below.drew (Below.refl _ _)))
 refine zAV (by kernel_rfl) (fun i w9 v => ([(fun w9 v => v = .agg #[.int .i64 1, .int .i64 1, .int .i64 (k), .string ⟨#[]⟩, .string ⟨#[]⟩, .string ⟨#[]⟩]), (fun w9 v => v = .agg #[.int .i64 2, .int .i64 0, .int .i64 0, .string ⟨#[]⟩, .string ⟨#[]⟩, .string ⟨#[110]⟩]), (fun w9 v => v = .agg #[.int .i64 4, .slice none 0 0, .int .i64 1, .int .i64 1, .int .i64 (k), .string ⟨#[]⟩, .string ⟨#[]⟩, .string ⟨#[]⟩, .int .i64 2, .int .i64 0, .int .i64 0, .string ⟨#[]⟩, .string ⟨#[]⟩, .string ⟨#[110]⟩]), (fun w9 v => v = .agg #[.int .i64 2, .int .i64 0, .int .i64 0, .string ⟨#[]⟩, .string ⟨#[]⟩, .string ⟨#[110]⟩]), (fun w9 v => v = .int .i64 k), (fun w9 v => v = .agg #[.int .i64 1, .int .i64 1, .int .i64 (k), .string ⟨#[]⟩, .string ⟨#[]⟩, .string ⟨#[]⟩]), (fun w9 v => v = .agg #[.int .i64 4, .slice none 0 0, .int .i64 2, .int .i64 0, .int .i64 0, .string ⟨#[]⟩, .string ⟨#[]⟩, .string ⟨#[110]⟩, .int .i64 1, .int .i64 1, .int .i64 (k), .string ⟨#[]⟩, .string ⟨#[]⟩, .string ⟨#[]⟩]), (fun w9 v => ∃ (b1 : Nat), v = .slice (some ⟨b1, 0, none⟩) 1 1 ∧ w9.heap[b1]? = some (.cells #[.int .i64 4, .slice none 0 0, .int .i64 2, .int .i64 0, .int .i64 0, .string ⟨#[]⟩, .string ⟨#[]⟩, .string ⟨#[110]⟩, .int .i64 1, .int .i64 1, .int .i64 (k), .string ⟨#[]⟩, .string ⟨#[]⟩, .string ⟨#[]⟩] 33 (0, 0)) ∧ w.heap.size + 1 < b1), (fun w9 v => ∃ (b1 : Nat), v = .agg #[.int .i64 3, .slice (some ⟨b1, 0, none⟩) 1 1, .int .i64 0, .int .i64 0, .int .i64 0, .string ⟨#[]⟩, .string ⟨#[]⟩, .string ⟨#[]⟩, .int .i64 0, .int .i64 0, .int .i64 0, .string ⟨#[]⟩, .string ⟨#[]⟩, .string ⟨#[]⟩] ∧ w9.heap[b1]? = some (.cells #[.int .i64 4, .slice none 0 0, .int .i64 2, .int .i64 0, .int .i64 0, .string ⟨#[]⟩, .string ⟨#[]⟩, .string ⟨#[110]⟩, .int .i64 1, .int .i64 1, .int .i64 (k), .string ⟨#[]⟩, .string ⟨#[]⟩, .string ⟨#[]⟩] 33 (0, 0)) ∧ w.heap.size + 1 < b1), (fun w9 v => ∃ (b1 b2 : Nat), v = .slice (some ⟨b2, 0, none⟩) 2 2 ∧ w9.heap[b1]? = some (.cells #[.int .i64 4, .slice none 0 0, .int .i64 2, .int .i64 0, .int .i64 0, .string ⟨#[]⟩, .string ⟨#[]⟩, .string ⟨#[110]⟩, .int .i64 1, .int .i64 1, .int .i64 (k), .string ⟨#[]⟩, .string ⟨#[]⟩, .string ⟨#[]⟩] 33 (0, 0)) ∧ w.heap.size + 1 < b1 ∧ w9.heap[b2]? = some (.cells #[.int .i64 4, .slice none 0 0, .int .i64 1, .int .i64 1, .int .i64 (k), .string ⟨#[]⟩, .string ⟨#[]⟩, .string ⟨#[]⟩, .int .i64 2, .int .i64 0, .int .i64 0, .string ⟨#[]⟩, .string ⟨#[]⟩, .string ⟨#[110]⟩, .int .i64 3, .slice (some ⟨b1, 0, none⟩) 1 1, .int .i64 0, .int .i64 0, .int .i64 0, .string ⟨#[]⟩, .string ⟨#[]⟩, .string ⟨#[]⟩, .int .i64 0, .int .i64 0, .int .i64 0, .string ⟨#[]⟩, .string ⟨#[]⟩, .string ⟨#[]⟩] 33 (0, 0)) ∧ w.heap.size + 1 < b2), (fun w9 v => ∃ (b1 b2 : Nat), v = .agg #[.int .i64 1, .slice (some ⟨b2, 0, none⟩) 2 2, .int .i64 0, .int .i64 0, .int .i64 0, .string ⟨#[]⟩, .string ⟨#[]⟩, .string ⟨#[]⟩, .int .i64 0, .int .i64 0, .int .i64 0, .string ⟨#[]⟩, .string ⟨#[]⟩, .string ⟨#[]⟩] ∧ w9.heap[b1]? = some (.cells #[.int .i64 4, .slice none 0 0, .int .i64 2, .int .i64 0, .int .i64 0, .string ⟨#[]⟩, .string ⟨#[]⟩, .string ⟨#[110]⟩, .int .i64 1, .int .i64 1, .int .i64 (k), .string ⟨#[]⟩, .string ⟨#[]⟩, .string ⟨#[]⟩] 33 (0, 0)) ∧ w.heap.size + 1 < b1 ∧ w9.heap[b2]? = some (.cells #[.int .i64 4, .slice none 0 0, .int .i64 1, .int .i64 1, .int .i64 (k), .string ⟨#[]⟩, .string ⟨#[]⟩, .string ⟨#[]⟩, .int .i64 2, .int .i64 0, .int .i64 0, .string ⟨#[]⟩, .string ⟨#[]⟩, .string ⟨#[110]⟩, .int .i64 3, .slice (some ⟨b1, 0, none⟩) 1 1, .int .i64 0, .int .i64 0, .int .i64 0, .string ⟨#[]⟩, .string ⟨#[]⟩, .string ⟨#[]⟩, .int .i64 0, .int .i64 0, .int .i64 0, .string ⟨#[]⟩, .string ⟨#[]⟩, .string ⟨#[]⟩] 33 (0, 0)) ∧ w.heap.size + 1 < b2)] : List (World → Value → Prop)).getD i (fun _ _ => True) w9 v) (fun W => Hp w W [(w.heap.size, [.int .i64 ty, .int .i64 co, .int .i64 n, .int .i64 wi, .int .i64 si], 23), (w.heap.size + 1, [.int .i64 0, .slice none 0 0, .int .i64 0, .int .i64 0, .int .i64 0, .string ⟨#[]⟩, .string ⟨#[]⟩, .string ⟨#[]⟩, .int .i64 0, .int .i64 0, .int .i64 0, .string ⟨#[]⟩, .string ⟨#[]⟩, .string ⟨#[]⟩], 33), (b7, [.int .i64 2, .int .i64 0, .int .i64 0, .string ⟨#[]⟩, .string ⟨#[]⟩, .string ⟨#[110]⟩], 31), (b9, [.int .i64 1, .int .i64 1, .int .i64 (k), .string ⟨#[]⟩, .string ⟨#[]⟩, .string ⟨#[]⟩], 31)]) 86 11 rfl rfl (by kernel_rfl) (by kernel_rfl) (fun W W' => Below W.heap.size W W') ?hmon (HPD.out) (zAF.cons ?o0 (zAF.cons ?o1 (zAF.cons ?o2 (zAF.cons ?o3 (zAF.cons ?o4 (zAF.cons ?o5 (zAF.cons ?o6 (zAF.cons ?o7 (zAF.cons ?o8 (zAF.cons ?o9 (zAF.cons ?o10 zAF.nil))))))))))) ?hend
 case hmon =>
  intro q W W' v hb h
  rcases q with _ | _ | _ | _ | _ | _ | _ | _ | _ | _ | _ | q
  . exact h
  . exact h
  . exact h
  . exact h
  . exact h
  . exact h
  . exact h
  . obtain ⟨b, e, h1, h2⟩ := h; exact ⟨b, e, (hb.block _ (zAE h1)).trans h1, h2⟩
  . obtain ⟨b, e, h1, h2⟩ := h; exact ⟨b, e, (hb.block _ (zAE h1)).trans h1, h2⟩
  . obtain ⟨b, c, e, h1, h2, h3, h4⟩ := h; exact ⟨b, c, e, (hb.block _ (zAE h1)).trans h1, h2, (hb.block _ (zAE h3)).trans h3, h4⟩
  . obtain ⟨b, c, e, h1, h2, h3, h4⟩ := h; exact ⟨b, c, e, (hb.block _ (zAE h1)).trans h1, h2, (hb.block _ (zAE h3)).trans h3, h4⟩
  . exact h
 case o0 =>
  intro a W hB hd ho
  have e9 : a.eval (.tmp 9) = .pointer (some ⟨b9, 0, none⟩) := ho 9 (by kernel_rfl)
  exact zDX 31 _ rfl _ _ e9 [.int .i64 1, .int .i64 1, .int .i64 (k), .string ⟨#[]⟩, .string ⟨#[]⟩, .string ⟨#[]⟩] _ (hB.r 3 (by simp)) Tryd.underlying31 rfl (by kernel_rfl) ⟨_, rfl, rfl, hB, Below.refl _ _⟩
 case o1 =>
  intro a W hB hd ho
  have e7 : a.eval (.tmp 7) = .pointer (some ⟨b7, 0, none⟩) := ho 7 (by kernel_rfl)
  exact zDX 31 _ rfl _ _ e7 [.int .i64 2, .int .i64 0, .int .i64 0, .string ⟨#[]⟩, .string ⟨#[]⟩, .string ⟨#[110]⟩] _ (hB.r 2 (by simp)) Tryd.underlying31 rfl (by kernel_rfl) ⟨_, rfl, rfl, hB, Below.refl _ _⟩
 case o2 =>
  intro a W hB hd ho
  have e63 : a.eval (.tmp 63) = opV (numO k) := hd 0 63 (by kernel_rfl)
  have e64 : a.eval (.tmp 64) = opV nO := hd 1 64 (by kernel_rfl)
  refine zB9 11 zCV _ _ rfl #[.int .i64 4, opV (numO k), opV nO] (by simp [ev_c, e63, e64]) _ (compare_any 4 (numO k) nO W) ?_
  rintro e W' ⟨rfl, hb⟩
  exact ⟨_, rfl, _, rfl, rfl, hB.next hb, hb⟩
 case o3 =>
  intro a W hB hd ho
  have e7 : a.eval (.tmp 7) = .pointer (some ⟨b7, 0, none⟩) := ho 7 (by kernel_rfl)
  exact zDX 31 _ rfl _ _ e7 [.int .i64 2, .int .i64 0, .int .i64 0, .string ⟨#[]⟩, .string ⟨#[]⟩, .string ⟨#[110]⟩] _ (hB.r 2 (by simp)) Tryd.underlying31 rfl (by kernel_rfl) ⟨_, rfl, rfl, hB, Below.refl _ _⟩
 case o4 =>
  intro a W hB hd ho
  have e8 : a.eval (.tmp 8) = .int .i64 k := ho 8 (by kernel_rfl)
  exact zFT _ (by simp) _ e8 ⟨_, rfl, rfl, hB, Below.refl _ _⟩
 case o5 =>
  intro a W hB hd ho
  have e67 : a.eval (.tmp 67) = .int .i64 k := hd 4 67 (by kernel_rfl)
  refine zB9 6 zEC _ _ rfl #[.int .i64 k] (by simp [ev_c, e67]) _ (zAR k W) ?_
  rintro e W' ⟨rfl, hb⟩
  exact ⟨_, rfl, _, rfl, rfl, hB.next hb, hb⟩
 case o6 =>
  intro a W hB hd ho
  have e66 : a.eval (.tmp 66) = opV nO := hd 3 66 (by kernel_rfl)
  have e68 : a.eval (.tmp 68) = opV (numO k) := hd 5 68 (by kernel_rfl)
  refine zB9 11 zCV _ _ rfl #[.int .i64 4, opV nO, opV (numO k)] (by simp [ev_c, e66, e68]) _ (compare_any 4 nO (numO k) W) ?_
  rintro e W' ⟨rfl, hb⟩
  exact ⟨_, rfl, _, rfl, rfl, hB.next hb, hb⟩
 case o7 =>
  intro a W hB hd ho
  have e69 : a.eval (.tmp 69) = .agg #[.int .i64 4, .slice none 0 0, .int .i64 2, .int .i64 0, .int .i64 0, .string ⟨#[]⟩, .string ⟨#[]⟩, .string ⟨#[110]⟩, .int .i64 1, .int .i64 1, .int .i64 (k), .string ⟨#[]⟩, .string ⟨#[]⟩, .string ⟨#[]⟩] := hd 6 69 (by kernel_rfl)
  have hal : Below W.heap.size W (W.alloc (.cells #[.int .i64 4, .slice none 0 0, .int .i64 2, .int .i64 0, .int .i64 0, .string ⟨#[]⟩, .string ⟨#[]⟩, .string ⟨#[110]⟩, .int .i64 1, .int .i64 1, .int .i64 (k), .string ⟨#[]⟩, .string ⟨#[]⟩, .string ⟨#[]⟩] 33)) := (Below.refl _ _).alloc (Nat.le_refl _) _
  refine zDZ 27 1 _ rfl #[(0, .agg #[.int .i64 4, .slice none 0 0, .int .i64 2, .int .i64 0, .int .i64 0, .string ⟨#[]⟩, .string ⟨#[]⟩, .string ⟨#[110]⟩, .int .i64 1, .int .i64 1, .int .i64 (k), .string ⟨#[]⟩, .string ⟨#[]⟩, .string ⟨#[]⟩])] (by simp [ev_c, e69]) (.slice (some ⟨W.heap.size, 0, none⟩) 1 1) (W.alloc (.cells #[.int .i64 4, .slice none 0 0, .int .i64 2, .int .i64 0, .int .i64 0, .string ⟨#[]⟩, .string ⟨#[]⟩, .string ⟨#[110]⟩, .int .i64 1, .int .i64 1, .int .i64 (k), .string ⟨#[]⟩, .string ⟨#[]⟩, .string ⟨#[]⟩] 33)) (by kernel_rfl) ⟨_, rfl, ⟨W.heap.size, rfl, heap_alloc_new _ _, (by have := zAE (hB.b 1 (by simp)); simp at this; omega)⟩, hB.next hal, hal⟩
 case o8 =>
  intro a W hB hd ho
  obtain ⟨b1, e70, h1, h2⟩ : ∃ (b1 : Nat), a.eval (.tmp 70) = .slice (some ⟨b1, 0, none⟩) 1 1 ∧ W.heap[b1]? = some (.cells #[.int .i64 4, .slice none 0 0, .int .i64 2, .int .i64 0, .int .i64 0, .string ⟨#[]⟩, .string ⟨#[]⟩, .string ⟨#[110]⟩, .int .i64 1, .int .i64 1, .int .i64 (k), .string ⟨#[]⟩, .string ⟨#[]⟩, .string ⟨#[]⟩] 33 (0, 0)) ∧ w.heap.size + 1 < b1 := hd 7 70 (by kernel_rfl)
  exact zEA 33 _ rfl #[(0, .int .i64 3), (1, .slice (some ⟨b1, 0, none⟩) 1 1)] (by simp [ev_c, e70]) (.agg #[.int .i64 3, .slice (some ⟨b1, 0, none⟩) 1 1, .int .i64 0, .int .i64 0, .int .i64 0, .string ⟨#[]⟩, .string ⟨#[]⟩, .string ⟨#[]⟩, .int .i64 0, .int .i64 0, .int .i64 0, .string ⟨#[]⟩, .string ⟨#[]⟩, .string ⟨#[]⟩]) (by kernel_rfl) ⟨_, rfl, ⟨b1, rfl, h1, h2⟩, hB, Below.refl _ _⟩
 case o9 =>
  intro a W hB hd ho
  have e65 : a.eval (.tmp 65) = .agg #[.int .i64 4, .slice none 0 0, .int .i64 1, .int .i64 1, .int .i64 (k), .string ⟨#[]⟩, .string ⟨#[]⟩, .string ⟨#[]⟩, .int .i64 2, .int .i64 0, .int .i64 0, .string ⟨#[]⟩, .string ⟨#[]⟩, .string ⟨#[110]⟩] := hd 2 65 (by kernel_rfl)
  obtain ⟨b1, e71, h1, h2⟩ : ∃ (b1 : Nat), a.eval (.tmp 71) = .agg #[.int .i64 3, .slice (some ⟨b1, 0, none⟩) 1 1, .int .i64 0, .int .i64 0, .int .i64 0, .string ⟨#[]⟩, .string ⟨#[]⟩, .string ⟨#[]⟩, .int .i64 0, .int .i64 0, .int .i64 0, .string ⟨#[]⟩, .string ⟨#[]⟩, .string ⟨#[]⟩] ∧ W.heap[b1]? = some (.cells #[.int .i64 4, .slice none 0 0, .int .i64 2, .int .i64 0, .int .i64 0, .string ⟨#[]⟩, .string ⟨#[]⟩, .string ⟨#[110]⟩, .int .i64 1, .int .i64 1, .int .i64 (k), .string ⟨#[]⟩, .string ⟨#[]⟩, .string ⟨#[]⟩] 33 (0, 0)) ∧ w.heap.size + 1 < b1 := hd 8 71 (by kernel_rfl)
  have hal : Below W.heap.size W (W.alloc (.cells #[.int .i64 4, .slice none 0 0, .int .i64 1, .int .i64 1, .int .i64 (k), .string ⟨#[]⟩, .string ⟨#[]⟩, .string ⟨#[]⟩, .int .i64 2, .int .i64 0, .int .i64 0, .string ⟨#[]⟩, .string ⟨#[]⟩, .string ⟨#[110]⟩, .int .i64 3, .slice (some ⟨b1, 0, none⟩) 1 1, .int .i64 0, .int .i64 0, .int .i64 0, .string ⟨#[]⟩, .string ⟨#[]⟩, .string ⟨#[]⟩, .int .i64 0, .int .i64 0, .int .i64 0, .string ⟨#[]⟩, .string ⟨#[]⟩, .string ⟨#[]⟩] 33)) := (Below.refl _ _).alloc (Nat.le_refl _) _
  refine zDZ 27 2 _ rfl #[(0, .agg #[.int .i64 4, .slice none 0 0, .int .i64 1, .int .i64 1, .int .i64 (k), .string ⟨#[]⟩, .string ⟨#[]⟩, .string ⟨#[]⟩, .int .i64 2, .int .i64 0, .int .i64 0, .string ⟨#[]⟩, .string ⟨#[]⟩, .string ⟨#[110]⟩]), (1, .agg #[.int .i64 3, .slice (some ⟨b1, 0, none⟩) 1 1, .int .i64 0, .int .i64 0, .int .i64 0, .string ⟨#[]⟩, .string ⟨#[]⟩, .string ⟨#[]⟩, .int .i64 0, .int .i64 0, .int .i64 0, .string ⟨#[]⟩, .string ⟨#[]⟩, .string ⟨#[]⟩])] (by simp [ev_c, e65, e71]) (.slice (some ⟨W.heap.size, 0, none⟩) 2 2) (W.alloc (.cells #[.int .i64 4, .slice none 0 0, .int .i64 1, .int .i64 1, .int .i64 (k), .string ⟨#[]⟩, .string ⟨#[]⟩, .string ⟨#[]⟩, .int .i64 2, .int .i64 0, .int .i64 0, .string ⟨#[]⟩, .string ⟨#[]⟩, .string ⟨#[110]⟩, .int .i64 3, .slice (some ⟨b1, 0, none⟩) 1 1, .int .i64 0, .int .i64 0, .int .i64 0, .string ⟨#[]⟩, .string ⟨#[]⟩, .string ⟨#[]⟩, .int .i64 0, .int .i64 0, .int .i64 0, .string ⟨#[]⟩, .string ⟨#[]⟩, .string ⟨#[]⟩] 33)) (by kernel_rfl) ⟨_, rfl, ⟨b1, W.heap.size, rfl, (hal.block _ (zAE h1)).trans h1, h2, heap_alloc_new _ _, (by have := zAE (hB.b 1 (by simp)); simp at this; omega)⟩, hB.next hal, hal⟩
 case o10 =>
  intro a W hB hd ho
  obtain ⟨b1, b2, e72, h1, h2, h3, h4⟩ : ∃ (b1 b2 : Nat), a.eval (.tmp 72) = .slice (some ⟨b2, 0, none⟩) 2 2 ∧ W.heap[b1]? = some (.cells #[.int .i64 4, .slice none 0 0, .int .i64 2, .int .i64 0, .int .i64 0, .string ⟨#[]⟩, .string ⟨#[]⟩, .string ⟨#[110]⟩, .int .i64 1, .int .i64 1, .int .i64 (k), .string ⟨#[]⟩, .string ⟨#[]⟩, .string ⟨#[]⟩] 33 (0, 0)) ∧ w.heap.size + 1 < b1 ∧ W.heap[b2]? = some (.cells #[.int .i64 4, .slice none 0 0, .int .i64 1, .int .i64 1, .int .i64 (k), .string ⟨#[]⟩, .string ⟨#[]⟩, .string ⟨#[]⟩, .int .i64 2, .int .i64 0, .int .i64 0, .string ⟨#[]⟩, .string ⟨#[]⟩, .string ⟨#[110]⟩, .int .i64 3, .slice (some ⟨b1, 0, none⟩) 1 1, .int .i64 0, .int .i64 0, .int .i64 0, .string ⟨#[]⟩, .string ⟨#[]⟩, .string ⟨#[]⟩, .int .i64 0, .int .i64 0, .int .i64 0, .string ⟨#[]⟩, .string ⟨#[]⟩, .string ⟨#[]⟩] 33 (0, 0)) ∧ w.heap.size + 1 < b2 := hd 9 72 (by kernel_rfl)
  exact zEA 33 _ rfl #[(0, .int .i64 1), (1, .slice (some ⟨b2, 0, none⟩) 2 2)] (by simp [ev_c, e72]) (.agg #[.int .i64 1, .slice (some ⟨b2, 0, none⟩) 2 2, .int .i64 0, .int .i64 0, .int .i64 0, .string ⟨#[]⟩, .string ⟨#[]⟩, .string ⟨#[]⟩, .int .i64 0, .int .i64 0, .int .i64 0, .string ⟨#[]⟩, .string ⟨#[]⟩, .string ⟨#[]⟩]) (by kernel_rfl) ⟨_, rfl, ⟨b1, b2, rfl, h1, h2, h3, h4⟩, hB, Below.refl _ _⟩
 case hend =>
  intro vs W o ho hB hT
  obtain ⟨b1, b2, e10, h1, h2, h3, h4⟩ : ∃ (b1 b2 : Nat), vs 10 = .agg #[.int .i64 1, .slice (some ⟨b2, 0, none⟩) 2 2, .int .i64 0, .int .i64 0, .int .i64 0, .string ⟨#[]⟩, .string ⟨#[]⟩, .string ⟨#[]⟩, .int .i64 0, .int .i64 0, .int .i64 0, .string ⟨#[]⟩, .string ⟨#[]⟩, .string ⟨#[]⟩] ∧ W.heap[b1]? = some (.cells #[.int .i64 4, .slice none 0 0, .int .i64 2, .int .i64 0, .int .i64 0, .string ⟨#[]⟩, .string ⟨#[]⟩, .string ⟨#[110]⟩, .int .i64 1, .int .i64 1, .int .i64 (k), .string ⟨#[]⟩, .string ⟨#[]⟩, .string ⟨#[]⟩] 33 (0, 0)) ∧ w.heap.size + 1 < b1 ∧ W.heap[b2]? = some (.cells #[.int .i64 4, .slice none 0 0, .int .i64 1, .int .i64 1, .int .i64 (k), .string ⟨#[]⟩, .string ⟨#[]⟩, .string ⟨#[]⟩, .int .i64 2, .int .i64 0, .int .i64 0, .string ⟨#[]⟩, .string ⟨#[]⟩, .string ⟨#[110]⟩, .int .i64 3, .slice (some ⟨b1, 0, none⟩) 1 1, .int .i64 0, .int .i64 0, .int .i64 0, .string ⟨#[]⟩, .string ⟨#[]⟩, .string ⟨#[]⟩, .int .i64 0, .int .i64 0, .int .i64 0, .string ⟨#[]⟩, .string ⟨#[]⟩, .string ⟨#[]⟩] 33 (0, 0)) ∧ w.heap.size + 1 < b2 := hT 10 (by decide)
  cases (show some _ = some o from ho)
  simp only [List.toList_toArray, List.take_succ_cons, List.take_zero, fill, if_true, Act.put, List.setIfInBounds_toArray, List.set_cons_zero, List.set_cons_succ, e10]
  refine op_st 33 _ _ rfl (w.heap.size + 1) 0 [.int .i64 0, .slice none 0 0, .int .i64 0, .int .i64 0, .int .i64 0, .string ⟨#[]⟩, .string ⟨#[]⟩, .string ⟨#[]⟩, .int .i64 0, .int .i64 0, .int .i64 0, .string ⟨#[]⟩, .string ⟨#[]⟩, .string ⟨#[]⟩] 33 (.agg #[.int .i64 1, .slice (some ⟨b2, 0, none⟩) 2 2, .int .i64 0, .int .i64 0, .int .i64 0, .string ⟨#[]⟩, .string ⟨#[]⟩, .string ⟨#[]⟩, .int .i64 0, .int .i64 0, .int .i64 0, .string ⟨#[]⟩, .string ⟨#[]⟩, .string ⟨#[]⟩]) [.int .i64 1, .slice (some ⟨b2, 0, none⟩) 2 2, .int .i64 0, .int .i64 0, .int .i64 0, .string ⟨#[]⟩, .string ⟨#[]⟩, .string ⟨#[]⟩, .int .i64 0, .int .i64 0, .int .i64 0, .string ⟨#[]⟩, .string ⟨#[]⟩, .string ⟨#[]⟩] (by rfl) (by rfl) (by rfl) (hB.b 1 (by simp)) (by simp) (by kernel_rfl) (by rfl) ?_
  intro w5 hblk hfr
  have HW5 := hid hblk
  have HBE : Hid (Below w.heap.size w w5) := zAO hB.bel hfr (by omega)
  have h5 : w5.heap[b1]? = some (.cells #[.int .i64 4, .slice none 0 0, .int .i64 2, .int .i64 0, .int .i64 0, .string ⟨#[]⟩, .string ⟨#[]⟩, .string ⟨#[110]⟩, .int .i64 1, .int .i64 1, .int .i64 (k), .string ⟨#[]⟩, .string ⟨#[]⟩, .string ⟨#[]⟩] 33 (0, 0)) := (hfr.block b1 (zAE h1) (by omega)).trans h1
  have h6 : w5.heap[b2]? = some (.cells #[.int .i64 4, .slice none 0 0, .int .i64 1, .int .i64 1, .int .i64 (k), .string ⟨#[]⟩, .string ⟨#[]⟩, .string ⟨#[]⟩, .int .i64 2, .int .i64 0, .int .i64 0, .string ⟨#[]⟩, .string ⟨#[]⟩, .string ⟨#[110]⟩, .int .i64 3, .slice (some ⟨b1, 0, none⟩) 1 1, .int .i64 0, .int .i64 0, .int .i64 0, .string ⟨#[]⟩, .string ⟨#[]⟩, .string ⟨#[]⟩, .int .i64 0, .int .i64 0, .int .i64 0, .string ⟨#[]⟩, .string ⟨#[]⟩, .string ⟨#[]⟩] 33 (0, 0)) := (hfr.block b2 (zAE h3) (by omega)).trans h3
  have hn : ∀ W, (∀ i, w.heap.size ≤ i → i < w5.heap.size → W.heap[i]? = w5.heap[i]?) → RdL W (encC (grpC 3 [cmpC 4 nO (numO k)])) [.int .i64 3, .slice (some ⟨b1, 0, none⟩) 1 1, .int .i64 0, .int .i64 0, .int .i64 0, .string ⟨#[]⟩, .string ⟨#[]⟩, .string ⟨#[]⟩, .int .i64 0, .int .i64 0, .int .i64 0, .string ⟨#[]⟩, .string ⟨#[]⟩, .string ⟨#[]⟩] := fun W hW => .cons (.lit _) (.cons (zA8 (l := [cmpC 4 nO (numO k)].map encC) ((hW b1 (by omega) (zAE h5)).trans h5) (by simp) (by simp [maxLen]) (zEK (zBM 4 nO (numO k)))) (zAT [.int .i64 0, .int .i64 0, .int .i64 0, .string ⟨#[]⟩, .string ⟨#[]⟩, .string ⟨#[]⟩, .int .i64 0, .int .i64 0, .int .i64 0, .string ⟨#[]⟩, .string ⟨#[]⟩, .string ⟨#[]⟩]))
  have HRR : Hid (∀ W, (∀ i, w.heap.size ≤ i → i < w5.heap.size → W.heap[i]? = w5.heap[i]?) → RdL W (encC (grpC 1 [cmpC 4 (numO k) nO, grpC 3 [cmpC 4 nO (numO k)]])) [.int .i64 1, .slice (some ⟨b2, 0, none⟩) 2 2, .int .i64 0, .int .i64 0, .int .i64 0, .string ⟨#[]⟩, .string ⟨#[]⟩, .string ⟨#[]⟩, .int .i64 0, .int .i64 0, .int .i64 0, .string ⟨#[]⟩, .string ⟨#[]⟩, .string ⟨#[]⟩]) := fun W hW => .cons (.lit _) (.cons (zA8 (l := [cmpC 4 (numO k) nO, grpC 3 [cmpC 4 nO (numO k)]].map encC) ((hW b2 (by omega) (zAE h6)).trans h6) (by simp) (by simp [maxLen]) (zBO (zBM 4 (numO k) nO) (zEK (hn W hW)))) (zAT [.int .i64 0, .int .i64 0, .int .i64 0, .string ⟨#[]⟩, .string ⟨#[]⟩, .string ⟨#[]⟩, .int .i64 0, .int .i64 0, .int .i64 0, .string ⟨#[]⟩, .string ⟨#[]⟩, .string ⟨#[]⟩]))
  clear hblk hfr h5 h1 h2 h3 h4 h6 hn
  go_wp2_with fail
  exact zAU (w.heap.size + 1) [.int .i64 1, .slice (some ⟨b2, 0, none⟩) 2 2, .int .i64 0, .int .i64 0, .int .i64 0, .string ⟨#[]⟩, .string ⟨#[]⟩, .string ⟨#[]⟩, .int .i64 0, .int .i64 0, .int .i64 0, .string ⟨#[]⟩, .string ⟨#[]⟩, .string ⟨#[]⟩] 33 _ HW5.out rfl rfl (by rfl) Tryd.underlying33 rfl (by kernel_rfl) ⟨_, rfl, HRR.out, HBE.out⟩
theorem zHY (ty co n wi si : Int) (hn1 : -9223372036854775808 ≤ n) (hn2 : n ≤ 9223372036854775807) (hc1 : -9223372036854775808 ≤ co) (hc2 : co ≤ 9223372036854775807) (at_ : Nat) (w : World) :
   Calls Tryd.prog 5 #[.agg #[.int .i64 ty, .int .i64 co, .int .i64 n, .int .i64 wi, .int .i64 si], .int .i64 (at_ : Nat), .slice none 0 0] w fun e w' => ∃ cs : List Value, e = .returned (.agg cs.toArray) ∧ (∀ W, (∀ i, w.heap.size ≤ i → i < w'.heap.size → W.heap[i]? = w'.heap[i]?) → RdL W (encC (whC (pkd co 9).toNat at_ (pkd n 6) (numO (pkd n 6)))) cs) ∧ Below w.heap.size w w' := by
 by_cases h2 : at_ = 2
 . have e : whC (pkd co 9).toNat at_ (pkd n 6) (numO (pkd n 6)) = cn0 := by unfold whC; rw [if_pos h2]
   rw [e]
   exact zHH ty co n wi si hn1 hn2 hc1 hc2 at_ h2 w
 . obtain ⟨q1, q2⟩ := zBZ co (m := 9) (by decide)
   obtain ⟨j, hj⟩ : ∃ j : Nat, pkd co 9 = (j : Int) := ⟨(pkd co 9).toNat, by omega⟩
   rw [hj, Int.toNat_natCast]
   unfold whC
   rw [if_neg h2]
   rcases (by omega : j = 0 ∨ j = 1 ∨ j = 2 ∨ j = 3 ∨ j = 4 ∨ j = 5 ∨ 6 ≤ j) with rfl | rfl | rfl | rfl | rfl | rfl | h6
   . exact where_0 ty co n wi si hn1 hn2 hc1 hc2 at_ h2 hj w
   . exact where_1 ty co n wi si hn1 hn2 hc1 hc2 at_ h2 hj w
   . exact where_2 ty co n wi si hn1 hn2 hc1 hc2 at_ h2 hj w
   . exact where_3 ty co n wi si hn1 hn2 hc1 hc2 at_ h2 hj w
   . exact where_4 ty co n wi si hn1 hn2 hc1 hc2 at_ h2 hj w
   . by_cases h1 : at_ = 1
     . have h := where_51 ty co n wi si hn1 hn2 hc1 hc2 at_ h2 hj h1 w
       simpa [h1] using h
     . have h := where_5 ty co n wi si hn1 hn2 hc1 hc2 at_ h2 hj h1 w
       simpa [h1] using h
   . rw [if_neg (by omega), if_neg (by omega), if_neg (by omega), if_neg (by omega), if_neg (by omega), if_neg (by omega)]
     exact where_6 ty co n wi si hn1 hn2 hc1 hc2 at_ h2 j hj h6 w
end Go.Proofs.YtnlmknbhppdliaaDoor.Chk
