/-
  The walk of EventBad.
-/
import Derived.Test.YthenkpeibkpmkabEB
namespace Go.Proofs.Ythenkpeibkpmkab
open Go.ChangeShapes Go.WideShapes Go.ChangeAt Go.RowKit Go.Maps
set_option linter.unusedVariables false
set_option linter.unusedSimpArgs false
theorem sizeE : (Try.prog.info? 27).map (·.size) = some 5 := by kernel_rfl
theorem retE {fn : Func} {R : Ending → World → Prop} {a : Act} {w : World} {b : Nat} {c0 c1 c2 c3 c4 : Value} (p : Tmp) (h : fn.results = #[.cell p 27]) (hp : a.tmps.getD p undef = .pointer (some ⟨b, 0, none⟩)) (hr : w.heap[b]? = some (.cells #[c0, c1, c2, c3, c4] 27 (0, 0))) (hd : a.defers = []) (hR : R (.returned (.agg #[c0, c1, c2, c3, c4])) w) : bodyPost Try.prog fn R .ret a w :=
  bodyPost_ret (results_cell_row h a.tmps w b 27 _ (0, 0) _ hp hr Try.underlying27 rfl sizeE) hd hR
theorem five_set {W : World} {b : Nat} {c0 c1 c2 c3 c4 : Value} {t : TypeId} (h : W.heap[b]? = some (.cells #[c0, c1, c2, c3, c4] t (0, 0))) (v0 v1 v2 v3 v4 : Value) :
    (((((W.setCell ⟨b, 0, none⟩ v0).setCell ⟨b, 1, none⟩ v1).setCell ⟨b, 2, none⟩ v2).setCell ⟨b, 3, none⟩ v3).setCell ⟨b, 4, none⟩ v4).heap[b]? = some (.cells #[v0, v1, v2, v3, v4] t (0, 0)) := by
  have h5 := heap_set (i := 4) v4 (heap_set (i := 3) v3 (heap_set (i := 2) v2 (heap_set (i := 1) v1 (heap_set (i := 0) v0 h))))
  simpa using h5
theorem five_other {W : World} {b k : Nat} (v0 v1 v2 v3 v4 : Value) (h : k ≠ b) : (((((W.setCell ⟨b, 0, none⟩ v0).setCell ⟨b, 1, none⟩ v1).setCell ⟨b, 2, none⟩ v2).setCell ⟨b, 3, none⟩ v3).setCell ⟨b, 4, none⟩ v4).heap[k]? = W.heap[k]? := by
  rw [heap_other _ h, heap_other _ h, heap_other _ h, heap_other _ h, heap_other _ h]
theorem five_below {B : Nat} {w W : World} {b : Nat} (h : Below B w W) (hb : B ≤ b) (v0 v1 v2 v3 v4 : Value) : Below B w (((((W.setCell ⟨b, 0, none⟩ v0).setCell ⟨b, 1, none⟩ v1).setCell ⟨b, 2, none⟩ v2).setCell ⟨b, 3, none⟩ v3).setCell ⟨b, 4, none⟩ v4) :=
  ((((h.setCell (p := ⟨b, 0, none⟩) hb _).setCell (p := ⟨b, 1, none⟩) hb _).setCell (p := ⟨b, 2, none⟩) hb _).setCell (p := ⟨b, 3, none⟩) hb _).setCell (p := ⟨b, 4, none⟩) hb _
set_option maxHeartbeats 8000000 in
theorem one_any (kd ty lo nn de : Int) (tx : ByteArray) (co : Bool) (w : World) (h1 : wfI ty) (h2 : wfI lo) (h3 : wfI nn) (h4 : tx.size ≤ maxLen) :
    Calls Try.prog 18 #[dV kd ty lo nn de tx co, .int .i64 1] w fun e w' => ∃ (a : Nat) (st : Int) (p : Option Addr) (c : Nat) (vs : List Vl), a < 4 ∧ e = .returned (.agg #[.int .i64 1, .int .i64 (a : Int), .int .i64 st, .int .i64 20, .slice p vs.length c]) ∧ (0 ≤ st ∧ st ≤ 20) ∧ w'.ownsRow w.heap.size 32 3 (.slice p vs.length c) vs.length (vs.flatMap encV) ∧ Ok4 a vs ∧ vs.length ≤ 2 ∧ Below w.heap.size w w' := by
  have hb := pk_bd ty 4 (by omega)
  obtain ⟨a, ha⟩ := Int.eq_ofNat_of_zero_le hb.1
  rw [ha] at hb
  have P1 : Hid (∀ W, Calls Try.prog 13 #[.int .i64 ty, .int .i64 4] W fun e w' => e = .returned (.int .i64 (a : Int)) ∧ w' = W) := fun W => by have := picked_any ty 4 W h1.1 h1.2 (by omega) (by omega); rw [ha] at this; exact this
  have I1 : Hid (∀ W, Calls Try.prog 32 #[dV kd ty lo nn de tx co, .int .i64 20] W fun e w' => ∃ (s : ByteArray) (st : Int) (p : Option Addr) (c : Nat) (vs : List Vl), e = .returned (.agg #[.int .i64 1, .string s, .int .i64 st, .int .i64 20, .slice p vs.length c, .int .i64 0, .bool false]) ∧ (0 ≤ st ∧ st ≤ 20) ∧ w'.ownsRow W.heap.size 32 3 (.slice p vs.length c) vs.length (vs.flatMap encV) ∧ Ok4 a vs ∧ vs.length ≤ 2 ∧ Below W.heap.size W w') := fun W => insert_any kd ty lo nn de tx co a W h1 h2 h3 h4 ha
  have HA4 : Hid (a < 4) := by have := hb.2; exact (by omega : a < 4)
  clear h1 h2 h3 h4 ha hb
  unfold dV
  go_enter Try.func18, Try.ntmps18
  go_wp2_with fail
  refine (I1.out _).mono ?_
  rintro e w1 ⟨s, st, p, c, vs, rfl, hst, hva, hok, hle, hb1⟩
  obtain ⟨m, hm⟩ : ∃ m, vs.length = m := ⟨_, rfl⟩
  have HM : Hid (vs.length = m) := hm
  have HH : Hid ((0 ≤ st ∧ st ≤ 20) ∧ w1.ownsRow (w.heap.size + 2) 32 3 (.slice p vs.length c) vs.length (vs.flatMap encV) ∧ Ok4 a vs ∧ vs.length ≤ 2) := ⟨hst, by simpa using hva, hok, hle⟩
  have c1 : w1.cell? ⟨w.heap.size, 1, none⟩ = some (.int .i64 ty) := (hb1.cell (by simp; omega)).trans (by simp)
  have HR : Hid (w1.heap[w.heap.size + 1]? = some (.cells #[.int .i64 0, .int .i64 0, .int .i64 0, .int .i64 0, .slice none 0 0] 27 (0, 0))) := (hb1.block (w.heap.size + 1) (by simp)).trans (heap_two _ _ _ _)
  have HB1 : Hid (Below w.heap.size w w1) := below_trans (below_two w _ _) hb1 (by simp; omega)
  have HLT : Hid (w.heap.size + 1 < w1.heap.size) := (Array.getElem?_eq_some_iff.1 HR.out).1
  rw [hm]
  clear hst hva hok hle hb1 hm
  have HRA : Hid ((w1.alloc (.cells #[.int .i64 1, .string s, .int .i64 st, .int .i64 20, .slice p m c, .int .i64 0, .bool false] 68)).heap[w.heap.size + 1]? = some (.cells #[.int .i64 0, .int .i64 0, .int .i64 0, .int .i64 0, .slice none 0 0] 27 (0, 0))) := (((Below.refl _ w1).alloc (Nat.le_refl _) _).block (w.heap.size + 1) HLT.out).trans HR.out
  have c1a : (w1.alloc (.cells #[.int .i64 1, .string s, .int .i64 st, .int .i64 20, .slice p m c, .int .i64 0, .bool false] 68)).cell? ⟨w.heap.size, 1, none⟩ = some (.int .i64 ty) := (((Below.refl _ w1).alloc (Nat.le_refl _) _).cell (p := ⟨w.heap.size, 1, none⟩) (by have := HLT.out; simp; omega)).trans c1
  have r0 : (w1.alloc (.cells #[.int .i64 1, .string s, .int .i64 st, .int .i64 20, .slice p m c, .int .i64 0, .bool false] 68)).cell? ⟨w.heap.size + 1, 0, none⟩ = some (.int .i64 0) := by rw [cell_of_row _ _ _ _ _ (0, 0) HRA.out]; rfl
  have z0 : (w1.alloc (.cells #[.int .i64 1, .string s, .int .i64 st, .int .i64 20, .slice p m c, .int .i64 0, .bool false] 68)).frozen? ⟨w.heap.size + 1, 0, none⟩ = false := frozen_of_row _ _ 0 _ _ HRA.out
  have r1 : (w1.alloc (.cells #[.int .i64 1, .string s, .int .i64 st, .int .i64 20, .slice p m c, .int .i64 0, .bool false] 68)).cell? ⟨w.heap.size + 1, 1, none⟩ = some (.int .i64 0) := by rw [cell_of_row _ _ _ _ _ (0, 0) HRA.out]; rfl
  have z1 : (w1.alloc (.cells #[.int .i64 1, .string s, .int .i64 st, .int .i64 20, .slice p m c, .int .i64 0, .bool false] 68)).frozen? ⟨w.heap.size + 1, 1, none⟩ = false := frozen_of_row _ _ 1 _ _ HRA.out
  have r2 : (w1.alloc (.cells #[.int .i64 1, .string s, .int .i64 st, .int .i64 20, .slice p m c, .int .i64 0, .bool false] 68)).cell? ⟨w.heap.size + 1, 2, none⟩ = some (.int .i64 0) := by rw [cell_of_row _ _ _ _ _ (0, 0) HRA.out]; rfl
  have z2 : (w1.alloc (.cells #[.int .i64 1, .string s, .int .i64 st, .int .i64 20, .slice p m c, .int .i64 0, .bool false] 68)).frozen? ⟨w.heap.size + 1, 2, none⟩ = false := frozen_of_row _ _ 2 _ _ HRA.out
  have r3 : (w1.alloc (.cells #[.int .i64 1, .string s, .int .i64 st, .int .i64 20, .slice p m c, .int .i64 0, .bool false] 68)).cell? ⟨w.heap.size + 1, 3, none⟩ = some (.int .i64 0) := by rw [cell_of_row _ _ _ _ _ (0, 0) HRA.out]; rfl
  have z3 : (w1.alloc (.cells #[.int .i64 1, .string s, .int .i64 st, .int .i64 20, .slice p m c, .int .i64 0, .bool false] 68)).frozen? ⟨w.heap.size + 1, 3, none⟩ = false := frozen_of_row _ _ 3 _ _ HRA.out
  have r4 : (w1.alloc (.cells #[.int .i64 1, .string s, .int .i64 st, .int .i64 20, .slice p m c, .int .i64 0, .bool false] 68)).cell? ⟨w.heap.size + 1, 4, none⟩ = some (.slice none 0 0) := by rw [cell_of_row _ _ _ _ _ (0, 0) HRA.out]; rfl
  have z4 : (w1.alloc (.cells #[.int .i64 1, .string s, .int .i64 st, .int .i64 20, .slice p m c, .int .i64 0, .bool false] 68)).frozen? ⟨w.heap.size + 1, 4, none⟩ = false := frozen_of_row _ _ 4 _ _ HRA.out
  have o2 : (w1.alloc (.cells #[.int .i64 1, .string s, .int .i64 st, .int .i64 20, .slice p m c, .int .i64 0, .bool false] 68)).cell? ⟨w1.heap.size, 2, none⟩ = some (.int .i64 st) := cell_new rfl rfl
  have o3 : (w1.alloc (.cells #[.int .i64 1, .string s, .int .i64 st, .int .i64 20, .slice p m c, .int .i64 0, .bool false] 68)).cell? ⟨w1.heap.size, 3, none⟩ = some (.int .i64 20) := cell_new rfl rfl
  have o4 : (w1.alloc (.cells #[.int .i64 1, .string s, .int .i64 st, .int .i64 20, .slice p m c, .int .i64 0, .bool false] 68)).cell? ⟨w1.heap.size, 4, none⟩ = some (.slice p m c) := cell_new rfl rfl
  have HBA : Hid (Below w1.heap.size w1 (w1.alloc (.cells #[.int .i64 1, .string s, .int .i64 st, .int .i64 20, .slice p m c, .int .i64 0, .bool false] 68))) := (Below.refl _ w1).alloc (Nat.le_refl _) _
  clear c1
  go_wp2_with fail
  generalize w1.alloc (.cells #[.int .i64 1, .string s, .int .i64 st, .int .i64 20, .slice p m c, .int .i64 0, .bool false] 68) = W2 at HRA c1a r0 r1 r2 r3 r4 z0 z1 z2 z3 z4 o2 o3 o4 HBA ⊢
  generalize w1.heap.size = ob at o2 o3 o4 ⊢
  refine (P1.out _).mono ?_
  rintro e W2 ⟨rfl, rfl⟩
  go_wp2
  refine retE (b := w.heap.size + 1) 4 Try.results18 (by rfl) (by first | exact five_set HRA.out _ _ _ _ _ | exact (five_set HRA.out _ _ _ _ _)) (by rfl) ⟨a, st, p, c, vs, HA4.out, by rw [HM.out], HH.out.1, ?_, HH.out.2.2.1, HH.out.2.2.2, ?_⟩
  · have hr : W2.ownsRow (w.heap.size + 2) 32 3 (.slice p vs.length c) vs.length (vs.flatMap encV) := owns_block HH.out.2.1 (fun i hi => HBA.out.block i (HH.out.2.1.lt i hi).2)
    exact own_less (owns_block hr (fun i hi => five_other _ _ _ _ _ (by have := (hr.lt i hi).1; omega))) (by omega)
  · exact five_below (below_trans HB1.out HBA.out HB1.out.size) (by omega) _ _ _ _ _
/-- An event in a block of its own. -/
def XB (W : World) (b : Nat) (c0 c1 c2 c3 c4 : Value) : Prop := W.heap[b]? = some (.cells #[c0, c1, c2, c3, c4] 27 (0, 0))
theorem XB.lt {W : World} {b : Nat} {c0 c1 c2 c3 c4 : Value} (h : XB W b c0 c1 c2 c3 c4) : b < W.heap.size := (Array.getElem?_eq_some_iff.1 h).1
theorem XB.cells {W : World} {b : Nat} {c0 c1 c2 c3 c4 : Value} (h : XB W b c0 c1 c2 c3 c4) : W.cell? ⟨b, 0, none⟩ = some c0 ∧ W.cell? ⟨b, 1, none⟩ = some c1 ∧ W.cell? ⟨b, 2, none⟩ = some c2 ∧ W.cell? ⟨b, 3, none⟩ = some c3 ∧ W.cell? ⟨b, 4, none⟩ = some c4 := by
  refine ⟨?_, ?_, ?_, ?_, ?_⟩ <;> rw [cell_of_row _ _ _ _ _ (0, 0) h] <;> rfl
theorem XB.fz {W : World} {b : Nat} {c0 c1 c2 c3 c4 : Value} (h : XB W b c0 c1 c2 c3 c4) (j : Nat) : W.frozen? ⟨b, j, none⟩ = false := frozen_of_row _ _ j _ _ h
theorem XB.below {W W' : World} {b : Nat} {c0 c1 c2 c3 c4 : Value} (h : XB W b c0 c1 c2 c3 c4) (hb : Below W.heap.size W W') : XB W' b c0 c1 c2 c3 c4 := (hb.block b h.lt).trans h
theorem XB.set0 {W : World} {b : Nat} {c0 c1 c2 c3 c4 : Value} (h : XB W b c0 c1 c2 c3 c4) (v : Value) : XB (W.setCell ⟨b, 0, none⟩ v) b v c1 c2 c3 c4 := by
  have := heap_set (i := 0) v h; simpa [XB] using this
theorem XB.set1 {W : World} {b : Nat} {c0 c1 c2 c3 c4 : Value} (h : XB W b c0 c1 c2 c3 c4) (v : Value) : XB (W.setCell ⟨b, 1, none⟩ v) b c0 v c2 c3 c4 := by
  have := heap_set (i := 1) v h; simpa [XB] using this
theorem XB.set2 {W : World} {b : Nat} {c0 c1 c2 c3 c4 : Value} (h : XB W b c0 c1 c2 c3 c4) (v : Value) : XB (W.setCell ⟨b, 2, none⟩ v) b c0 c1 v c3 c4 := by
  have := heap_set (i := 2) v h; simpa [XB] using this
theorem XB.set3 {W : World} {b : Nat} {c0 c1 c2 c3 c4 : Value} (h : XB W b c0 c1 c2 c3 c4) (v : Value) : XB (W.setCell ⟨b, 3, none⟩ v) b c0 c1 c2 v c4 := by
  have := heap_set (i := 3) v h; simpa [XB] using this
theorem XB.set4 {W : World} {b : Nat} {c0 c1 c2 c3 c4 : Value} (h : XB W b c0 c1 c2 c3 c4) (v : Value) : XB (W.setCell ⟨b, 4, none⟩ v) b c0 c1 c2 c3 v := by
  have := heap_set (i := 4) v h; simpa [XB] using this
theorem schk_ok {st : Int} (h : 0 ≤ st ∧ st ≤ 20) : schk st 20 = 0 := by
  unfold schk; rw [if_neg (by omega), if_neg (by omega)]
theorem echk_ok {a : Nat} {st : Int} {vs : List Vl} (ha : a < 4) (h : 0 ≤ st ∧ st ≤ 20) (hv : Ok4 a vs) : echk tys 1 (a : Int) st 20 vs = 0 := by
  unfold echk
  rw [if_neg (by omega), if_neg (by simp [tys]; omega), schk_ok h, if_neg (by simp), Int.toNat_natCast]
  exact hv
theorem echk_num {t st en : Int} {vs : List Vl} : echk tys 0 t st en vs = 2 := by
  unfold echk; rw [if_pos (by omega)]
theorem echk_typ5 {st en : Int} {vs : List Vl} : echk tys 1 5 st en vs = 6 := by
  unfold echk; rw [if_neg (by omega), if_pos (by simp [tys])]
theorem echk_span {a : Nat} {vs : List Vl} (ha : a < 4) : echk tys 1 (a : Int) 3 2 vs = 11 := by
  unfold echk
  rw [if_neg (by omega), if_neg (by simp [tys]; omega)]
  have : schk 3 2 = 11 := by decide
  rw [this, if_pos (by omega)]
theorem echk_more {a : Nat} {st : Int} {vs : List Vl} {v : Vl} (ha : a < 4) (h : 0 ≤ st ∧ st ≤ 20) (hv : Ok4 a vs) (h0 : vchk v = 0) : echk tys 1 (a : Int) st 20 (vs ++ [v]) = 13 := by
  unfold echk
  rw [if_neg (by omega), if_neg (by simp [tys]; omega), schk_ok h, if_neg (by simp), Int.toNat_natCast]
  exact fit_more hv h0
theorem event_is {v u : Value} {num typ st en r : Int} {l : List Vl} {W : World} (hv : TysAt W v tys) (hu : ValsAt W u l) (hr : echk tys num typ st en l = r) :
    Calls Try.prog 9 #[v, .agg #[.int .i64 num, .int .i64 typ, .int .i64 st, .int .i64 en, u]] W fun e w' => e = .returned (.int .i64 r) ∧ Below W.heap.size W w' := by
  rw [← hr]; exact checkEvent_any _ _ _ _ _ _ _ _ _ hv hu
theorem vals_of_own {w : World} {B : Nat} {e : TypeId} {p : Option Addr} {c m : Nat} {l : List Vl} (h : w.ownsRow B e 3 (.slice p m c) m (l.flatMap encV)) (hm : l.length = m) : ValsAt w (.slice p m c) l := by
  subst hm; exact vals_own h
theorem wpList_copy (w : World) {ops : Array Oper} {rest : List Oper} {o : Oper} {a : Act} {Q : Exit → Act → World → Prop} (hgd : o.guard = none) (s x : Operand)
    (ho : o.op = .call { callee := .builtin .append, args := #[s, x], argTypes := #[25, 25] }) (v : Value) (l : List Vl) (hs : a.eval s = .slice none 0 0) (hx : a.eval x = v) (hd : ValsAt w v l) (hb : l.length * 32 ≤ 140737488355328)
    (h : ∀ v' w', w'.ownsRow w.heap.size 32 3 v' l.length (l.flatMap encV) → Below w.heap.size w w' → wpList Try.prog ops Q rest (a.put o.dst v') w') :
    wpList Try.prog ops Q (o :: rest) a w := by
  refine wpList_plain hgd fun K hK => ?_
  obtain ⟨v', w', hr, h2, h3⟩ := run_copy w o.type hd hb
  unfold Oper.wp execOp
  simp only [ho, resolve, invoke, builtin, Sem.run_bind, Sem.run_pure, Result.andThen_ok, List.map_toArray, List.map_cons, List.map_nil, hs, hx, hr]
  exact hK _ _ (h v' w' h2 h3)
set_option maxHeartbeats 8000000 in
theorem eventBad_walk (kd ty lo nn de : Int) (tx : ByteArray) (co : Bool) (which : Int) (w : World) (h1 : wfI ty) (h2 : wfI lo) (h3 : wfI nn) (h4 : tx.size ≤ maxLen) (h5 : wfI which) :
    Calls Try.prog 8 #[dV kd ty lo nn de tx co, .int .i64 which] w fun e w' => e = .returned (.bool true) ∧ Below w.heap.size w w' := by
  obtain ⟨q, hq, hPQ⟩ := picked_const which 4 4 rfl h5 (by omega) (by omega)
  have PQ : Hid (∀ W, Calls Try.prog 13 #[.int .i64 which, .int .i64 4] W fun e w' => e = .returned (.int .i64 q) ∧ w' = W) := hPQ
  have HH : Hid (wfI ty ∧ wfI lo ∧ wfI nn ∧ tx.size ≤ maxLen) := ⟨h1, h2, h3, h4⟩
  clear h1 h2 h3 h4 h5 hPQ
  unfold dV
  go_enter Try.func8, Try.ntmps8
  go_wp2_with fail
  refine (one_any kd ty lo nn de tx co _ HH.out.1 HH.out.2.1 HH.out.2.2.1 HH.out.2.2.2).mono ?_
  rintro e w1 ⟨a, st, p, c, vs, ha, rfl, hst, hrow, hok, hle, hb1⟩
  obtain ⟨m, hm⟩ : ∃ m, vs.length = m := ⟨_, rfl⟩
  rw [hm] at hrow ⊢
  have HB1 : Hid (Below w.heap.size w w1) := below_trans ((Below.refl _ w).alloc (Nat.le_refl _) _) hb1 (by simp)
  have HK : Hid (a < 4 ∧ (0 ≤ st ∧ st ≤ 20) ∧ Ok4 a vs ∧ vs.length = m ∧ m ≤ 2) := ⟨ha, hst, hok, hm, by omega⟩
  obtain ⟨B, hBB⟩ : ∃ B, B = (w.alloc (.cells #[.int .i64 kd, .int .i64 ty, .int .i64 lo, .int .i64 nn, .int .i64 de, .string tx, .bool co] 54)).heap.size := ⟨_, rfl⟩
  rw [← hBB] at hrow
  have HROW : Hid (w1.ownsRow B 32 3 (.slice p m c) m (vs.flatMap encV)) := hrow
  clear ha hst hrow hok hle hb1 hm hBB HH
  go_wp2_with fail
  have hxb : XB (w1.alloc (.cells #[.int .i64 1, .int .i64 (a : Int), .int .i64 st, .int .i64 20, .slice p m c] 27)) w1.heap.size (.int .i64 1) (.int .i64 (a : Int)) (.int .i64 st) (.int .i64 20) (.slice p m c) := by
    unfold XB
    first | exact heap_alloc_new w1 _ | exact _root_.Go.heap_alloc_new w1 _
  have HBW : Hid (Below w.heap.size w (w1.alloc (.cells #[.int .i64 1, .int .i64 (a : Int), .int .i64 st, .int .i64 20, .slice p m c] 27)) ∧ w.heap.size ≤ w1.heap.size) := ⟨HB1.out.alloc HB1.out.size _, HB1.out.size⟩
  have HRW : Hid ((w1.alloc (.cells #[.int .i64 1, .int .i64 (a : Int), .int .i64 st, .int .i64 20, .slice p m c] 27)).ownsRow B 32 3 (.slice p m c) m (vs.flatMap encV)) := HROW.out.alloc _
  have HNE : Hid (∀ i, (Value.slice p m c).ownBlock = some i → i ≠ w1.heap.size) := fun i hi => by have := (HROW.out.lt i hi).2; omega
  generalize w1.alloc (.cells #[.int .i64 1, .int .i64 (a : Int), .int .i64 st, .int .i64 20, .slice p m c] 27) = W at hxb HBW HRW ⊢
  generalize w1.heap.size = xb at hxb HNE HBW ⊢
  have HX : Hid (XB W xb (.int .i64 1) (.int .i64 (a : Int)) (.int .i64 st) (.int .i64 20) (.slice p m c)) := hxb
  obtain ⟨x0, x1, x2, x3, x4⟩ := hxb.cells
  clear hxb HB1 HROW
  go_region_held3 (fun w' => w'.cell? ⟨xb, 0, none⟩ = some (.int .i64 1) ∧ w'.cell? ⟨xb, 1, none⟩ = some (.int .i64 (a : Int)) ∧ w'.cell? ⟨xb, 2, none⟩ = some (.int .i64 st) ∧ w'.cell? ⟨xb, 3, none⟩ = some (.int .i64 20) ∧ w'.cell? ⟨xb, 4, none⟩ = some (.slice p m c))
    (first | exact KU | exact KT | (go_keep; done))
    (first
      | (go_at_call 19; refine (types_any _).mono ?_; rintro e wT ⟨pT, cT, rfl, hT, hbT⟩; have HTT : Hid (TysAt wT (.slice pT 5 cT) tys) := hT; have HBT : Hid (Below W.heap.size W wT) := below_trans ((Below.refl _ W).drew) hbT (Nat.le_refl _); have KT := (HX.out.below HBT.out).cells; clear hT hbT)
      | (go_at_call 9; refine (event_is HTT.out (vals_of_own (owns_block HRW.out (fun i hi => HBT.out.block i (HRW.out.lt i hi).2)) HK.out.2.2.2.1) (echk_ok HK.out.1 HK.out.2.1 HK.out.2.2.1)).mono ?_; rintro e wU ⟨rfl, hbU⟩; have HBU : Hid (Below W.heap.size W wU) := below_trans HBT.out hbU HBT.out.size; have KU := (HX.out.below HBU.out).cells; clear hbU))
  have HXU : Hid (XB wU xb (.int .i64 1) (.int .i64 (a : Int)) (.int .i64 st) (.int .i64 20) (.slice p m c)) := HX.out.below HBU.out
  have HWU : Hid (Below w.heap.size w wU) := below_trans HBW.out.1 HBU.out HBW.out.1.size
  have HRU : Hid (wU.ownsRow B 32 3 (.slice p m c) m (vs.flatMap encV)) := owns_block HRW.out (fun i hi => HBU.out.block i (HRW.out.lt i hi).2)
  have HXW : Hid (w.heap.size ≤ xb) := HBW.out.2
  clear x0 x1 x2 x3 x4 KT KU HX HBU HBT HTT HRW HBW
  obtain ⟨x0, x1, x2, x3, x4⟩ := HXU.out.cells
  have z0 := HXU.out.fz 0
  have z1 := HXU.out.fz 1
  have z2 := HXU.out.fz 2
  have z3 := HXU.out.fz 3
  have z4 := HXU.out.fz 4
  rcases (by omega : q = 0 ∨ q = 1 ∨ q = 2 ∨ q = 3) with rfl | rfl | rfl | rfl
  · go_wp2_with (go_at_call 13; refine (PQ.out _).mono ?_; rintro e wU ⟨rfl, rfl⟩)
    clear x0 x1 x2 x3 x4 z0 z1 z2 z3 z4
    have HXF : Hid (XB (wU.setCell ⟨xb, 0, none⟩ (.int .i64 0)) xb (.int .i64 0) (.int .i64 (a : Int)) (.int .i64 st) (.int .i64 20) (.slice p m c)) := HXU.out.set0 _
    have HBF : Hid (Below w.heap.size w (wU.setCell ⟨xb, 0, none⟩ (.int .i64 0))) := HWU.out.setCell (p := ⟨xb, 0, none⟩) HXW.out _
    have HRF : Hid ((wU.setCell ⟨xb, 0, none⟩ (.int .i64 0)).ownsRow B 32 3 (.slice p m c) (m) ((vs).flatMap encV)) := owns_block HRU.out (fun i hi => heap_other _ (HNE.out i hi))
    have HLF : Hid ((vs).length = m) := HK.out.2.2.2.1
    generalize wU.setCell ⟨xb, 0, none⟩ (.int .i64 0) = WF at HXF HBF HRF ⊢
    obtain ⟨v0, v1, v2, v3, v4⟩ := HXF.out.cells
    go_wp2_with fail
    go_region_held3 (fun w' => w'.cell? ⟨xb, 0, none⟩ = some (.int .i64 0) ∧ w'.cell? ⟨xb, 1, none⟩ = some (.int .i64 (a : Int)) ∧ w'.cell? ⟨xb, 2, none⟩ = some (.int .i64 st) ∧ w'.cell? ⟨xb, 3, none⟩ = some (.int .i64 20) ∧ w'.cell? ⟨xb, 4, none⟩ = some (.slice p m c))
      (first | exact KU2 | exact KT2 | (go_keep; done))
      (first
        | (go_at_call 19; refine (types_any _).mono ?_; rintro e wT2 ⟨pT2, cT2, rfl, hT2, hbT2⟩; have HTT2 : Hid (TysAt wT2 (.slice pT2 5 cT2) tys) := hT2; have HBT2 : Hid (Below WF.heap.size WF wT2) := below_trans ((Below.refl _ WF).drew) hbT2 (Nat.le_refl _); have KT2 := (HXF.out.below HBT2.out).cells; clear hT2 hbT2)
        | (go_at_call 9; refine (event_is HTT2.out (vals_of_own (owns_block HRF.out (fun i hi => HBT2.out.block i (HRF.out.lt i hi).2)) HLF.out) (echk_num)).mono ?_; rintro e wU2 ⟨rfl, hbU2⟩; have HBU2 : Hid (Below WF.heap.size WF wU2) := below_trans HBT2.out hbU2 HBT2.out.size; have KU2 := (HXF.out.below HBU2.out).cells; clear hbU2))
    clear v0 v1 v2 v3 v4 KU2 KT2
    go_wp2
    go_ret
    exact ⟨ret_bool (by simp), below_trans HBF.out HBU2.out HBF.out.size⟩
  · go_wp2_with (first | (go_at_call 13; refine (PQ.out _).mono ?_; rintro e wU ⟨rfl, rfl⟩) | (go_at_call 19; refine (types_any _).mono ?_; rintro e wS ⟨pS, cS, rfl, hTS, hbS⟩; have HXS : Hid (XB wS xb (.int .i64 1) (.int .i64 (a : Int)) (.int .i64 st) (.int .i64 20) (.slice p m c)) := HXU.out.below hbS; have HWS : Hid (Below w.heap.size w wS) := below_trans HWU.out hbS HWU.out.size; have HRS : Hid (wS.ownsRow B 32 3 (.slice p m c) m (vs.flatMap encV)) := owns_block HRU.out (fun i hi => hbS.block i (HRU.out.lt i hi).2); have y1 := HXS.out.cells.2.1; have yz := HXS.out.fz 1; clear hTS hbS))
    clear x0 x1 x2 x3 x4 z0 z1 z2 z3 z4 y1 yz
    have HXF : Hid (XB (wS.setCell ⟨xb, 1, none⟩ (.int .i64 5)) xb (.int .i64 1) (.int .i64 5) (.int .i64 st) (.int .i64 20) (.slice p m c)) := HXS.out.set1 _
    have HBF : Hid (Below w.heap.size w (wS.setCell ⟨xb, 1, none⟩ (.int .i64 5))) := HWS.out.setCell (p := ⟨xb, 1, none⟩) HXW.out _
    have HRF : Hid ((wS.setCell ⟨xb, 1, none⟩ (.int .i64 5)).ownsRow B 32 3 (.slice p m c) (m) ((vs).flatMap encV)) := owns_block HRS.out (fun i hi => heap_other _ (HNE.out i hi))
    have HLF : Hid ((vs).length = m) := HK.out.2.2.2.1
    generalize wS.setCell ⟨xb, 1, none⟩ (.int .i64 5) = WF at HXF HBF HRF ⊢
    obtain ⟨v0, v1, v2, v3, v4⟩ := HXF.out.cells
    go_wp2_with fail
    go_region_held3 (fun w' => w'.cell? ⟨xb, 0, none⟩ = some (.int .i64 1) ∧ w'.cell? ⟨xb, 1, none⟩ = some (.int .i64 5) ∧ w'.cell? ⟨xb, 2, none⟩ = some (.int .i64 st) ∧ w'.cell? ⟨xb, 3, none⟩ = some (.int .i64 20) ∧ w'.cell? ⟨xb, 4, none⟩ = some (.slice p m c))
      (first | exact KU2 | exact KT2 | (go_keep; done))
      (first
        | (go_at_call 19; refine (types_any _).mono ?_; rintro e wT2 ⟨pT2, cT2, rfl, hT2, hbT2⟩; have HTT2 : Hid (TysAt wT2 (.slice pT2 5 cT2) tys) := hT2; have HBT2 : Hid (Below WF.heap.size WF wT2) := below_trans ((Below.refl _ WF).drew) hbT2 (Nat.le_refl _); have KT2 := (HXF.out.below HBT2.out).cells; clear hT2 hbT2)
        | (go_at_call 9; refine (event_is HTT2.out (vals_of_own (owns_block HRF.out (fun i hi => HBT2.out.block i (HRF.out.lt i hi).2)) HLF.out) (echk_typ5)).mono ?_; rintro e wU2 ⟨rfl, hbU2⟩; have HBU2 : Hid (Below WF.heap.size WF wU2) := below_trans HBT2.out hbU2 HBT2.out.size; have KU2 := (HXF.out.below HBU2.out).cells; clear hbU2))
    clear v0 v1 v2 v3 v4 KU2 KT2
    go_wp2
    go_ret
    exact ⟨ret_bool (by simp), below_trans HBF.out HBU2.out HBF.out.size⟩
  · go_wp2_with (go_at_call 13; refine (PQ.out _).mono ?_; rintro e wU ⟨rfl, rfl⟩)
    clear x0 x1 x2 x3 x4 z0 z1 z2 z3 z4
    have HXF : Hid (XB ((wU.setCell ⟨xb, 2, none⟩ (.int .i64 3)).setCell ⟨xb, 3, none⟩ (.int .i64 2)) xb (.int .i64 1) (.int .i64 (a : Int)) (.int .i64 3) (.int .i64 2) (.slice p m c)) := (HXU.out.set2 _).set3 _
    have HBF : Hid (Below w.heap.size w ((wU.setCell ⟨xb, 2, none⟩ (.int .i64 3)).setCell ⟨xb, 3, none⟩ (.int .i64 2))) := (HWU.out.setCell (p := ⟨xb, 2, none⟩) HXW.out _).setCell (p := ⟨xb, 3, none⟩) HXW.out _
    have HRF : Hid (((wU.setCell ⟨xb, 2, none⟩ (.int .i64 3)).setCell ⟨xb, 3, none⟩ (.int .i64 2)).ownsRow B 32 3 (.slice p m c) (m) ((vs).flatMap encV)) := owns_block HRU.out (fun i hi => (heap_other _ (HNE.out i hi)).trans (heap_other _ (HNE.out i hi)))
    have HLF : Hid ((vs).length = m) := HK.out.2.2.2.1
    generalize (wU.setCell ⟨xb, 2, none⟩ (.int .i64 3)).setCell ⟨xb, 3, none⟩ (.int .i64 2) = WF at HXF HBF HRF ⊢
    obtain ⟨v0, v1, v2, v3, v4⟩ := HXF.out.cells
    go_wp2_with fail
    go_region_held3 (fun w' => w'.cell? ⟨xb, 0, none⟩ = some (.int .i64 1) ∧ w'.cell? ⟨xb, 1, none⟩ = some (.int .i64 (a : Int)) ∧ w'.cell? ⟨xb, 2, none⟩ = some (.int .i64 3) ∧ w'.cell? ⟨xb, 3, none⟩ = some (.int .i64 2) ∧ w'.cell? ⟨xb, 4, none⟩ = some (.slice p m c))
      (first | exact KU2 | exact KT2 | (go_keep; done))
      (first
        | (go_at_call 19; refine (types_any _).mono ?_; rintro e wT2 ⟨pT2, cT2, rfl, hT2, hbT2⟩; have HTT2 : Hid (TysAt wT2 (.slice pT2 5 cT2) tys) := hT2; have HBT2 : Hid (Below WF.heap.size WF wT2) := below_trans ((Below.refl _ WF).drew) hbT2 (Nat.le_refl _); have KT2 := (HXF.out.below HBT2.out).cells; clear hT2 hbT2)
        | (go_at_call 9; refine (event_is HTT2.out (vals_of_own (owns_block HRF.out (fun i hi => HBT2.out.block i (HRF.out.lt i hi).2)) HLF.out) (echk_span HK.out.1)).mono ?_; rintro e wU2 ⟨rfl, hbU2⟩; have HBU2 : Hid (Below WF.heap.size WF wU2) := below_trans HBT2.out hbU2 HBT2.out.size; have KU2 := (HXF.out.below HBU2.out).cells; clear hbU2))
    clear v0 v1 v2 v3 v4 KU2 KT2
    go_wp2
    go_ret
    exact ⟨ret_bool (by simp), below_trans HBF.out HBU2.out HBF.out.size⟩
  · obtain ⟨i1, c1, c2, c3, c4⟩ := info_parts infoV
    have HI2 : Hid (Try.prog.info? 32 = some i1 ∧ i1.zero = some (.agg #[.int .i64 0, .int .i64 0, .string ByteArray.empty]) ∧ i1.size = 3 ∧ i1.bytes = 32) := ⟨c1, c2, c3, c4⟩
    have OKT : Hid (vchk ⟨2, 0, ⟨#[]⟩⟩ = 0) := ok_text ⟨#[]⟩ (by decide)
    have HVU : Hid (ValsAt wU (.slice p m c) vs) := vals_of_own HRU.out HK.out.2.2.2.1
    clear c1 c2 c3 c4
    go_wp2_with (first
      | (go_at_call 13; refine (PQ.out _).mono ?_; rintro e wU ⟨rfl, rfl⟩)
      | (at_builtin; refine wpList_append_own_at _ (by rfl) _ _ 25 (by rfl) wU.heap.size 32 i1 (.agg #[.int .i64 0, .int .i64 0, .string ByteArray.empty]) 3 32 Try.underlying25 HI2.out.1 HI2.out.2.1 HI2.out.2.2.1 HI2.out.2.2.2 rfl (by omega) (.slice p3 m c3) m (vs.flatMap encV) (by rfl) (HC3.out.alloc _) ⟨w7.heap.size, 0, none⟩ 1 1 (encV ⟨2, 0, ⟨#[]⟩⟩) (by rfl) (by rfl) (World.news_of_block (heap_alloc_new _ _)) (by simp [encV, Value.oneCell']) (by have := HK.out; unfold maxLen; omega) (by have := HK.out; omega) (by simp; have := HB7.out.size; omega) ?_; intro v' w8 hown hgrow hiff hat; obtain ⟨pv, cv, hvv⟩ := own_shape hown; subst hvv; have HO8 : Hid (w8.ownsRow wU.heap.size 32 3 (.slice pv (m + 1) cv) (m + 1) (vs.flatMap encV ++ encV ⟨2, 0, ⟨#[]⟩⟩)) := hown; have HB8 : Hid (Below wU.heap.size wU w8) := (HB7.out.alloc HB7.out.size _).grown hgrow (by simp; have := HB7.out.size; omega) (fun k hk => (HC3.out.lt k hk).1); have HX8 : Hid (XB w8 xb (.int .i64 1) (.int .i64 (a : Int)) (.int .i64 st) (.int .i64 20) (.slice p m c)) := HXU.out.below HB8.out; have y4 := HX8.out.cells.2.2.2.2; have yz := HX8.out.fz 4; clear hown hgrow hiff hat)
      | (at_builtin; refine wpList_copy _ (by rfl) _ _ (by rfl) (.slice p m c) vs (by rfl) (by rfl) HVU.out (by have := HK.out; omega) ?_; intro v' w7 hown hb7; obtain ⟨p3, c3, hv3⟩ := own_shape hown; subst hv3; have HB7 : Hid (Below wU.heap.size wU w7) := hb7; have HC3 : Hid (w7.ownsRow wU.heap.size 32 3 (.slice p3 m c3) m (vs.flatMap encV)) := (by have := hown; rw [HK.out.2.2.2.1] at this; exact this); rw [HK.out.2.2.2.1]; clear hown hb7))
    clear x0 x1 x2 x3 x4 z0 z1 z2 z3 z4 y4 yz
    have HXF : Hid (XB (w8.setCell ⟨xb, 4, none⟩ (.slice pv (m + 1) cv)) xb (.int .i64 1) (.int .i64 (a : Int)) (.int .i64 st) (.int .i64 20) (.slice pv (m + 1) cv)) := HX8.out.set4 _
    have HBF : Hid (Below w.heap.size w (w8.setCell ⟨xb, 4, none⟩ (.slice pv (m + 1) cv))) := (below_trans HWU.out HB8.out HWU.out.size).setCell (p := ⟨xb, 4, none⟩) HXW.out _
    have HRF : Hid ((w8.setCell ⟨xb, 4, none⟩ (.slice pv (m + 1) cv)).ownsRow wU.heap.size 32 3 (.slice pv (m + 1) cv) (m + 1) ((vs ++ [(⟨2, 0, ⟨#[]⟩⟩ : Vl)]).flatMap encV)) := by
      rw [List.flatMap_append, List.flatMap_singleton]
      exact owns_block HO8.out (fun i hi => heap_other _ (by have := (HO8.out.lt i hi).1; have := HXU.out.lt; omega))
    have hlf : (vs ++ [(⟨2, 0, ⟨#[]⟩⟩ : Vl)]).length = m + 1 := by have := HK.out.2.2.2.1; simp [this]
    have HLF : Hid ((vs ++ [(⟨2, 0, ⟨#[]⟩⟩ : Vl)]).length = m + 1) := hlf
    clear hlf
    generalize w8.setCell ⟨xb, 4, none⟩ (.slice pv (m + 1) cv) = WF at HXF HBF HRF ⊢
    obtain ⟨v0, v1, v2, v3, v4⟩ := HXF.out.cells
    go_wp2_with fail
    go_region_held3 (fun w' => w'.cell? ⟨xb, 0, none⟩ = some (.int .i64 1) ∧ w'.cell? ⟨xb, 1, none⟩ = some (.int .i64 (a : Int)) ∧ w'.cell? ⟨xb, 2, none⟩ = some (.int .i64 st) ∧ w'.cell? ⟨xb, 3, none⟩ = some (.int .i64 20) ∧ w'.cell? ⟨xb, 4, none⟩ = some (.slice pv (m + 1) cv))
      (first | exact KU2 | exact KT2 | (go_keep; done))
      (first
        | (go_at_call 19; refine (types_any _).mono ?_; rintro e wT2 ⟨pT2, cT2, rfl, hT2, hbT2⟩; have HTT2 : Hid (TysAt wT2 (.slice pT2 5 cT2) tys) := hT2; have HBT2 : Hid (Below WF.heap.size WF wT2) := below_trans ((Below.refl _ WF).drew) hbT2 (Nat.le_refl _); have KT2 := (HXF.out.below HBT2.out).cells; clear hT2 hbT2)
        | (go_at_call 9; refine (event_is HTT2.out (vals_of_own (owns_block HRF.out (fun i hi => HBT2.out.block i (HRF.out.lt i hi).2)) HLF.out) (echk_more HK.out.1 HK.out.2.1 HK.out.2.2.1 OKT.out)).mono ?_; rintro e wU2 ⟨rfl, hbU2⟩; have HBU2 : Hid (Below WF.heap.size WF wU2) := below_trans HBT2.out hbU2 HBT2.out.size; have KU2 := (HXF.out.below HBU2.out).cells; clear hbU2))
    clear v0 v1 v2 v3 v4 KU2 KT2
    go_wp2
    go_ret
    exact ⟨ret_bool (by simp), below_trans HBF.out HBU2.out HBF.out.size⟩
end Go.Proofs.Ythenkpeibkpmkab
