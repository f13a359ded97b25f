/-
  What insert makes of raw things.
-/
import Derived.Test.YthenkpeibkpmkabEA
import Derived.Deep.CutRange
import Derived.Shelf.Abstract
namespace Go.Proofs.Ythenkpeibkpmkab
open Go.ChangeShapes Go.WideShapes Go.ChangeAt Go.RowKit Go.Maps
set_option linter.unusedVariables false
set_option linter.unusedSimpArgs false
abbrev dV (kd ty lo nn de : Int) (tx : ByteArray) (co : Bool) : Value := .agg #[.int .i64 kd, .int .i64 ty, .int .i64 lo, .int .i64 nn, .int .i64 de, .string tx, .bool co]
theorem step_two {ops : Array Oper} {o : Oper} {a : Act} {w : World} {K : Act → World → Prop} {Q : Exit → Act → World → Prop} {E : Prop} (f : FuncId) (he : ∀ args w, (callFunc f args).run Try.prog w = .ok (.enter f args) w) (hgd : o.guard = none) (s x : Operand) (ts : Array TypeId) (ho : o.op = .call { callee := .value (.func f), args := #[s, x], argTypes := ts }) (u1 u2 : Value) (h1 : a.eval s = u1) (h2 : a.eval x = u2) (R : Value → Prop)
    (hc : Calls Try.prog f #[u1, u2] w fun e w' => ∃ v, e = .returned v ∧ R v ∧ w' = w) (h : ∀ v, R v → K (a.put o.dst v) w) :
    if Region.wanted o (yielded ops a.tmps) = true then Oper.wp Try.prog o a w K Q else E := by
  have hw : Region.wanted o (yielded ops a.tmps) = true := by simp [Region.wanted, hgd]
  rw [if_pos hw]
  unfold Oper.wp execOp
  have hf : a.eval (.func f) = Value.func (Fn.func f) #[] #[] := rfl
  simp [ho, resolve, invoke, Deferred.ofValue, hf, h1, h2, he]
  refine hc.mono ?_
  rintro e w' ⟨v, rfl, hv, rfl⟩
  exact h v hv
theorem ent_picked : ∀ args w, (callFunc 13 args).run Try.prog w = .ok (.enter 13 args) w := enters_of Try.func13 (by kernel_rfl) rfl
theorem ent_cut : ∀ args w, (callFunc 24 args).run Try.prog w = .ok (.enter 24 args) w := enters_of Try.func24 (by kernel_rfl) rfl
/-- An operation in a block of its own. -/
def OB (W : World) (b : Nat) (s : ByteArray) (st : Int) (V : Value) : Prop := W.heap[b]? = some (.cells #[.int .i64 1, .string s, .int .i64 st, .int .i64 20, V, .int .i64 0, .bool false] 68 (0, 0))
theorem OB.lt {W : World} {b : Nat} {s : ByteArray} {st : Int} {V : Value} (h : OB W b s st V) : b < W.heap.size := (Array.getElem?_eq_some_iff.1 h).1
theorem OB.cells {W : World} {b : Nat} {s : ByteArray} {st : Int} {V : Value} (h : OB W b s st V) : W.cell? ⟨b, 0, none⟩ = some (.int .i64 1) ∧ W.cell? ⟨b, 1, none⟩ = some (.string s) ∧ W.cell? ⟨b, 2, none⟩ = some (.int .i64 st) ∧ W.cell? ⟨b, 3, none⟩ = some (.int .i64 20) ∧ W.cell? ⟨b, 4, none⟩ = some V ∧ W.cell? ⟨b, 5, none⟩ = some (.int .i64 0) ∧ W.cell? ⟨b, 6, none⟩ = some (.bool false) := by
  refine ⟨?_, ?_, ?_, ?_, ?_, ?_, ?_⟩ <;> rw [cell_of_row _ _ _ _ _ (0, 0) h] <;> rfl
theorem OB.fz {W : World} {b : Nat} {s : ByteArray} {st : Int} {V : Value} (h : OB W b s st V) (j : Nat) : W.frozen? ⟨b, j, none⟩ = false := frozen_of_row _ _ j _ _ h
theorem OB.block {W W' : World} {b : Nat} {s : ByteArray} {st : Int} {V : Value} (h : OB W b s st V) (hb : W'.heap[b]? = W.heap[b]?) : OB W' b s st V := hb.trans h
theorem OB.below {W W' : World} {b : Nat} {s : ByteArray} {st : Int} {V : Value} (h : OB W b s st V) (hb : Below W.heap.size W W') : OB W' b s st V := h.block (hb.block b h.lt)
theorem OB.set {W : World} {b : Nat} {s : ByteArray} {st : Int} {V : Value} (h : OB W b s st V) (v : Value) : OB (W.setCell ⟨b, 4, none⟩ v) b s st v := by
  have := heap_set (i := 4) v h; simpa [OB] using this
theorem sizeO : (Try.prog.info? 68).map (·.size) = some 7 := by kernel_rfl
theorem retO {fn : Func} {R : Ending → World → Prop} {a : Act} {w : World} {b : Nat} {c0 c1 c2 c3 c4 c5 c6 : Value} (p : Tmp) (h : fn.results = #[.cell p 68]) (hp : a.tmps.getD p undef = .pointer (some ⟨b, 0, none⟩)) (hr : w.heap[b]? = some (.cells #[c0, c1, c2, c3, c4, c5, c6] 68 (0, 0))) (hd : a.defers = []) (hR : R (.returned (.agg #[c0, c1, c2, c3, c4, c5, c6])) w) : bodyPost Try.prog fn R .ret a w :=
  bodyPost_ret (results_cell_row h a.tmps w b 68 _ (0, 0) _ hp hr Try.underlying68 rfl sizeO) hd hR
theorem old_two (w : World) (cs : Array Value) (t : TypeId) (o2 : Obj) : ((w.alloc (.cells cs t)).alloc o2).heap[w.heap.size]? = some (.cells cs t (0, 0)) := by
  have h : (w.alloc (.cells cs t)).heap[w.heap.size]? = some (.cells cs t (0, 0)) := by first | exact heap_alloc_new _ _ | exact _root_.Go.heap_alloc_new _ _
  exact (((Below.refl _ (w.alloc (.cells cs t))).alloc (Nat.le_refl _) o2).block w.heap.size (by simp)).trans h
theorem seven_set {W : World} {b : Nat} {c0 c1 c2 c3 c4 c5 c6 : Value} {t : TypeId} (h : W.heap[b]? = some (.cells #[c0, c1, c2, c3, c4, c5, c6] t (0, 0))) (v0 v1 v2 v3 v4 v5 v6 : Value) :
    (((((((W.setCell ⟨b, 0, none⟩ v0).setCell ⟨b, 1, none⟩ v1).setCell ⟨b, 2, none⟩ v2).setCell ⟨b, 3, none⟩ v3).setCell ⟨b, 4, none⟩ v4).setCell ⟨b, 5, none⟩ v5).setCell ⟨b, 6, none⟩ v6).heap[b]? = some (.cells #[v0, v1, v2, v3, v4, v5, v6] t (0, 0)) := by
  have h5 := heap_set (i := 6) v6 (heap_set (i := 5) v5 (heap_set (i := 4) v4 (heap_set (i := 3) v3 (heap_set (i := 2) v2 (heap_set (i := 1) v1 (heap_set (i := 0) v0 h))))))
  simpa using h5
theorem seven_other {W : World} {b k : Nat} (v0 v1 v2 v3 v4 v5 v6 : Value) (h : k ≠ b) : (((((((W.setCell ⟨b, 0, none⟩ v0).setCell ⟨b, 1, none⟩ v1).setCell ⟨b, 2, none⟩ v2).setCell ⟨b, 3, none⟩ v3).setCell ⟨b, 4, none⟩ v4).setCell ⟨b, 5, none⟩ v5).setCell ⟨b, 6, none⟩ v6).heap[k]? = W.heap[k]? := by
  rw [heap_other _ h, heap_other _ h, heap_other _ h, heap_other _ h, heap_other _ h, heap_other _ h, heap_other _ h]
theorem seven_below {B : Nat} {w W : World} {b : Nat} (h : Below B w W) (hb : B ≤ b) (v0 v1 v2 v3 v4 v5 v6 : Value) : Below B w (((((((W.setCell ⟨b, 0, none⟩ v0).setCell ⟨b, 1, none⟩ v1).setCell ⟨b, 2, none⟩ v2).setCell ⟨b, 3, none⟩ v3).setCell ⟨b, 4, none⟩ v4).setCell ⟨b, 5, none⟩ v5).setCell ⟨b, 6, none⟩ v6) :=
  ((((((h.setCell (p := ⟨b, 0, none⟩) hb _).setCell (p := ⟨b, 1, none⟩) hb _).setCell (p := ⟨b, 2, none⟩) hb _).setCell (p := ⟨b, 3, none⟩) hb _).setCell (p := ⟨b, 4, none⟩) hb _).setCell (p := ⟨b, 5, none⟩) hb _).setCell (p := ⟨b, 6, none⟩) hb _
theorem own_less {w : World} {B B' : Nat} {e : TypeId} {size : Nat} {v : Value} {n : Nat} {xs : List Value} (h : w.ownsRow B e size v n xs) (hb : B' ≤ B) : w.ownsRow B' e size v n xs := by
  refine ⟨h.1, ?_⟩
  rcases h.2 with h2 | ⟨g, cap, cur, h0, h1, h2⟩
  · exact Or.inl h2
  · exact Or.inr ⟨g, cap, cur, h0, by omega, h2⟩
set_option maxHeartbeats 8000000 in
theorem insert_any (kd ty lo nn de : Int) (tx : ByteArray) (co : Bool) (a : Nat) (w : World) (h1 : wfI ty) (h2 : wfI lo) (h3 : wfI nn) (h4 : tx.size ≤ maxLen) (ha : pk ty 4 = (a : Int)) :
    Calls Try.prog 32 #[dV kd ty lo nn de tx co, .int .i64 20] w fun e w' => ∃ (s : ByteArray) (st : Int) (p : Option Addr) (c : Nat) (vs : List Vl), e = .returned (.agg #[.int .i64 1, .string s, .int .i64 st, .int .i64 20, .slice p vs.length c, .int .i64 0, .bool false]) ∧ (0 ≤ st ∧ st ≤ 20) ∧ w'.ownsRow w.heap.size 32 3 (.slice p vs.length c) vs.length (vs.flatMap encV) ∧ Ok4 a vs ∧ vs.length ≤ 2 ∧ Below w.heap.size w w' := by
  have hb := pk_bd ty 4 (by omega)
  rw [ha] at hb
  have P1 : Hid (∀ W, Calls Try.prog 13 #[.int .i64 ty, .int .i64 4] W fun e w' => e = .returned (.int .i64 (a : Int)) ∧ w' = W) := fun W => by have := picked_any ty 4 W h1.1 h1.2 (by omega) (by omega); rw [ha] at this; exact this
  obtain ⟨x, hx, hP2⟩ := picked_const lo 9 9 rfl h2 (by omega) (by omega)
  obtain ⟨y, hy, hP3⟩ := picked_const nn 6 6 rfl h3 (by omega) (by omega)
  have P2 : Hid (∀ W, Calls Try.prog 13 #[.int .i64 lo, .int .i64 9] W fun e w' => e = .returned (.int .i64 x) ∧ w' = W) := hP2
  have P3 : Hid (∀ W, Calls Try.prog 13 #[.int .i64 nn, .int .i64 6] W fun e w' => e = .returned (.int .i64 y) ∧ w' = W) := hP3
  have HTX : Hid (tx.size ≤ maxLen) := h4
  have hmx : max (20 - (x : Int)) 0 = 20 - (x : Int) := by omega
  have HX : Hid (x < 9 ∧ y < 6) := ⟨hx, hy⟩
  clear hP2 hP3 h1 h2 h3 h4 ha
  unfold dV
  have ha4 : a = 0 ∨ a = 1 ∨ a = 2 ∨ a = 3 := by omega
  clear hb
  go_enter Try.func32, Try.ntmps32
  go_wp2_with (go_at_call_of 13 (Value.int IntKind.i64 4); refine (P1.out _).mono ?_; rintro e w1 ⟨rfl, rfl⟩)
  have d2 : ((w.alloc (.cells #[.int .i64 kd, .int .i64 ty, .int .i64 lo, .int .i64 nn, .int .i64 de, .string tx, .bool co] 54)).alloc (.cells #[.int .i64 0, .string ⟨#[]⟩, .int .i64 0, .int .i64 0, .slice none 0 0, .int .i64 0, .bool false] 68)).cell? ⟨w.heap.size, 2, none⟩ = some (.int .i64 lo) := by simp
  have d3 : ((w.alloc (.cells #[.int .i64 kd, .int .i64 ty, .int .i64 lo, .int .i64 nn, .int .i64 de, .string tx, .bool co] 54)).alloc (.cells #[.int .i64 0, .string ⟨#[]⟩, .int .i64 0, .int .i64 0, .slice none 0 0, .int .i64 0, .bool false] 68)).cell? ⟨w.heap.size, 3, none⟩ = some (.int .i64 nn) := by simp
  have d5 : ((w.alloc (.cells #[.int .i64 kd, .int .i64 ty, .int .i64 lo, .int .i64 nn, .int .i64 de, .string tx, .bool co] 54)).alloc (.cells #[.int .i64 0, .string ⟨#[]⟩, .int .i64 0, .int .i64 0, .slice none 0 0, .int .i64 0, .bool false] 68)).cell? ⟨w.heap.size, 5, none⟩ = some (.string tx) := by simp
  have HR1 : Hid (((w.alloc (.cells #[.int .i64 kd, .int .i64 ty, .int .i64 lo, .int .i64 nn, .int .i64 de, .string tx, .bool co] 54)).alloc (.cells #[.int .i64 0, .string ⟨#[]⟩, .int .i64 0, .int .i64 0, .slice none 0 0, .int .i64 0, .bool false] 68)).heap[w.heap.size + 1]? = some (.cells #[.int .i64 0, .string ⟨#[]⟩, .int .i64 0, .int .i64 0, .slice none 0 0, .int .i64 0, .bool false] 68 (0, 0))) := heap_two _ _ _ _
  have HB1 : Hid (Below w.heap.size w ((w.alloc (.cells #[.int .i64 kd, .int .i64 ty, .int .i64 lo, .int .i64 nn, .int .i64 de, .string tx, .bool co] 54)).alloc (.cells #[.int .i64 0, .string ⟨#[]⟩, .int .i64 0, .int .i64 0, .slice none 0 0, .int .i64 0, .bool false] 68)) ∧ w.heap.size + 2 = ((w.alloc (.cells #[.int .i64 kd, .int .i64 ty, .int .i64 lo, .int .i64 nn, .int .i64 de, .string tx, .bool co] 54)).alloc (.cells #[.int .i64 0, .string ⟨#[]⟩, .int .i64 0, .int .i64 0, .slice none 0 0, .int .i64 0, .bool false] 68)).heap.size) := ⟨below_two w _ _, by simp⟩
  generalize (w.alloc (.cells #[.int .i64 kd, .int .i64 ty, .int .i64 lo, .int .i64 nn, .int .i64 de, .string tx, .bool co] 54)).alloc (.cells #[.int .i64 0, .string ⟨#[]⟩, .int .i64 0, .int .i64 0, .slice none 0 0, .int .i64 0, .bool false] 68) = W1 at d2 d3 d5 HR1 HB1 ⊢
  have hws : w.heap.size + 2 = W1.heap.size := HB1.out.2
  have hn1 : W1.heap.size ≠ w.heap.size := by omega
  have hn2 : W1.heap.size + 1 ≠ w.heap.size := by omega
  have hn3 : w.heap.size ≠ W1.heap.size := by omega
  have hn4 : w.heap.size ≠ W1.heap.size + 1 := by omega
  clear hws
  obtain ⟨sa, hsa⟩ : ∃ sa : ByteArray, ([.string ⟨#[97]⟩, .string ⟨#[98]⟩, .string ⟨#[99]⟩, .string ⟨#[100]⟩] : List Value)[a]? = some (.string sa) := by
    rcases ha4 with rfl | rfl | rfl | rfl <;> exact ⟨_, rfl⟩
  have hsa2 : (#[.string ⟨#[97]⟩, .string ⟨#[98]⟩, .string ⟨#[99]⟩, .string ⟨#[100]⟩] : Array Value)[a]? = some (.string sa) := by
    simpa using hsa
  have q1 : (0 : Int) ≤ (a : Int) := by omega
  have q2 : (a : Int) < 4 := by omega
  have HLT : Hid (w.heap.size < W1.heap.size) := World.block_lt_of_cell? W1 ⟨w.heap.size, 2, none⟩ d2
  have d2a : ∀ o, (W1.alloc o).cell? ⟨w.heap.size, 2, none⟩ = some (.int .i64 lo) := fun o => (((Below.refl _ W1).alloc (Nat.le_refl _) o).cell (p := ⟨w.heap.size, 2, none⟩) HLT.out).trans d2
  have d2b : ∀ o o', ((W1.alloc o).alloc o').cell? ⟨w.heap.size, 2, none⟩ = some (.int .i64 lo) := fun o o' => ((below_two W1 o o').cell (p := ⟨w.heap.size, 2, none⟩) HLT.out).trans d2
  have hw1 : IntKind.i64.wrap (20 - (x : Int)) = 20 - (x : Int) := by simp [IntKind.wrap, IntKind.bits, IntKind.signed]; omega
  have hw2 : ¬ (20 - (x : Int) < 0) := by omega
  go_cut [6] from 7 (fun o wx => ∃ b, o = .pointer (some ⟨b, 0, none⟩) ∧ W1.heap.size ≤ b ∧ wx.heap[b]? = some (.cells #[.int .i64 1, .string sa, .int .i64 (20 - (x : Int)), .int .i64 20, .slice none 0 0, .int .i64 0, .bool false] 68 (0, 0)) ∧ Below W1.heap.size W1 wx)
  case first =>
    clear d3 d5 hn1 hn2 hn3 hn4 hmx ha4 HR1 HB1 HTX P1 P3 HX
    go_region_with ((go_at_call 13; refine (P2.out _).mono ?_; rintro e w' ⟨rfl, rfl⟩))
    all_goals
      clear d2 d2a d2b hsa hsa2
      go_wp2_with fail
      go_meet
      case rel =>
        first
          | exact ⟨W1.heap.size + 1, rfl, Nat.le_succ _, heap_two W1 _ _ _, below_two W1 _ _⟩
          | exact ⟨W1.heap.size, rfl, Nat.le_refl _, old_two W1 _ _ _, below_two W1 _ _⟩
          | exact ⟨W1.heap.size + 1, rfl, Nat.le_succ _, heap_two W1 _ _ _, (below_two W1 _ _).drew⟩
          | exact ⟨W1.heap.size, rfl, Nat.le_refl _, old_two W1 _ _ _, (below_two W1 _ _).drew⟩
          | exact ⟨W1.heap.size + 1, rfl, Nat.le_succ _, heap_two W1 _ _ _, ((Below.refl _ W1).drew.alloc (Nat.le_refl _) _).alloc (by simp) _⟩
          | exact ⟨W1.heap.size, rfl, Nat.le_refl _, old_two W1 _ _ _, ((Below.refl _ W1).drew.alloc (Nat.le_refl _) _).alloc (by simp) _⟩
  case rest =>
    obtain ⟨b, rfl, hbw, hob, hbel⟩ := hcut
    have HO : Hid (OB wc b sa (20 - (x : Int)) (.slice none 0 0)) := hob
    have HBC : Hid (Below W1.heap.size W1 wc ∧ W1.heap.size ≤ b) := ⟨hbel, hbw⟩
    have e3 : wc.cell? ⟨w.heap.size, 3, none⟩ = some (.int .i64 nn) := (hbel.cell (p := ⟨w.heap.size, 3, none⟩) HLT.out).trans d3
    have e5 : wc.cell? ⟨w.heap.size, 5, none⟩ = some (.string tx) := (hbel.cell (p := ⟨w.heap.size, 5, none⟩) HLT.out).trans d5
    have HRC : Hid (wc.heap[w.heap.size + 1]? = some (.cells #[.int .i64 0, .string ⟨#[]⟩, .int .i64 0, .int .i64 0, .slice none 0 0, .int .i64 0, .bool false] 68 (0, 0))) := (hbel.block _ (by have := HB1.out.2; omega)).trans HR1.out
    obtain ⟨i1, k1, k2, k3, k4⟩ := info_parts infoV
    have HI2 : Hid (Try.prog.info? 32 = some i1 ∧ i1.zero = some (.agg #[.int .i64 0, .int .i64 0, .string ByteArray.empty]) ∧ i1.size = 3 ∧ i1.bytes = 32) := ⟨k1, k2, k3, k4⟩
    obtain ⟨o0, o1, o2, o3, o4, o5, o6⟩ := HO.out.cells
    have oz := HO.out.fz 4
    clear hob hbel hbw k1 k2 k3 k4 d2 d3 d5 d2a d2b hsa hsa2 hn1 hn2 hn3 hn4 hmx hw1 hw2
    have o4a : ∀ o, (wc.alloc o).cell? ⟨b, 4, none⟩ = some (.slice none 0 0) := fun o => (((Below.refl _ wc).alloc (Nat.le_refl _) o).cell (p := ⟨b, 4, none⟩) HO.out.lt).trans o4
    have HWLT : Hid (w.heap.size + 1 < wc.heap.size ∧ w.heap.size + 2 ≤ wc.heap.size ∧ w.heap.size + 2 ≤ b ∧ b < wc.heap.size) := by
      have q1 := HB1.out.2
      have q2 := HBC.out.1.size
      have q3 := HBC.out.2
      have q4 := HO.out.lt
      exact ⟨by omega, by omega, by omega, q4⟩
    have e3a : ∀ o, (wc.alloc o).cell? ⟨w.heap.size, 3, none⟩ = some (.int .i64 nn) := fun o => (((Below.refl _ wc).alloc (Nat.le_refl _) o).cell (p := ⟨w.heap.size, 3, none⟩) (by have := HWLT.out; simp; omega)).trans e3
    have P3V : Hid (∀ W, Calls Try.prog 13 #[.int .i64 nn, .int .i64 6] W fun e w' => ∃ v, e = .returned v ∧ v = .int .i64 (y : Int) ∧ w' = W) := fun W => (P3.out W).mono (by rintro e w' ⟨rfl, rfl⟩; exact ⟨_, rfl, rfl, rfl⟩)
    have HBWC : Hid (Below w.heap.size w wc) := below_trans HB1.out.1 HBC.out.1 HB1.out.1.size
    clear HB1 HBC HR1 P1 P2 hx hy
    obtain ⟨S0, hS0⟩ : ∃ n, n = wc.heap.size := ⟨_, rfl⟩
    rcases ha4 with rfl | rfl | rfl | rfl
    · skip
      go_upto_region 4 with fail
      go_cut [] from 7 (fun WF => ∃ pv cv, OB WF b sa (20 - (x : Int)) (.slice pv 1 cv) ∧ WF.heap[w.heap.size + 1]? = some (.cells #[.int .i64 0, .string ⟨#[]⟩, .int .i64 0, .int .i64 0, .slice none 0 0, .int .i64 0, .bool false] 68 (0, 0)) ∧ Below w.heap.size w WF ∧ WF.ownsRow wc.heap.size 32 3 (.slice pv 1 cv) 1 ([(⟨1, (y : Int), ⟨#[]⟩⟩ : Vl)].flatMap encV) ∧ WF.cell? ⟨w.heap.size, 5, none⟩ = some (.string tx) ∧ wc.heap.size ≤ WF.heap.size)
      case first =>
        go_region_law (first
          | (refine step_two 13 ent_picked (by rfl) _ _ _ (by rfl) (.int .i64 nn) (.int .i64 6) (by rfl) (by rfl) (fun v => v = .int .i64 (y : Int)) (P3V.out _) ?_; rintro v rfl)
          | (refine step_append_grows (by rfl) _ _ 25 (by rfl) 32 i1 (.agg #[.int .i64 0, .int .i64 0, .string ByteArray.empty]) 3 32 Try.underlying25 HI2.out.1 HI2.out.2.1 HI2.out.2.2.1 HI2.out.2.2.2 rfl (by omega) none 0 0 [] (by rfl) (fun _ => ⟨rfl, rfl⟩) (by rfl) (fun b h => by cases h) ⟨wc.heap.size, 0, none⟩ 1 1 (encV ⟨1, (y : Int), ⟨#[]⟩⟩) (by rfl) (by rfl) (World.news_of_block (heap_alloc_new _ _)) (by simp [encV, Value.oneCell']) (by omega) (by unfold maxLen; omega) (by omega) ?_; intro v' w5 hown hgrow; obtain ⟨pv, cv, hvv⟩ := own_shape hown; subst hvv; have HBA : Hid (Below wc.heap.size wc (wc.drew.alloc (.cells #[.int .i64 1, .int .i64 (y : Int), .string ⟨#[]⟩] 32))) := (Below.refl _ wc).drew.alloc (by simp) _; have HB5 : Hid (Below wc.heap.size wc w5) := HBA.out.grown hgrow HBA.out.size (fun k hk => by cases hk); have HO5 : Hid (OB w5 b sa (20 - (x : Int)) (.slice none 0 0)) := HO.out.below HB5.out; have HROW5 : Hid (w5.ownsRow wc.heap.size 32 3 (.slice pv 1 cv) 1 (encV ⟨1, (y : Int), ⟨#[]⟩⟩)) := own_less hown (by simp); have y4 := HO5.out.cells.2.2.2.2.1; have yz := HO5.out.fz 4; clear hown hgrow))
        all_goals
          have HOF : Hid (OB (w5.setCell ⟨b, 4, none⟩ (.slice pv 1 cv)) b sa (20 - (x : Int)) (.slice pv 1 cv)) := HO5.out.set _
          have HRF : Hid ((w5.setCell ⟨b, 4, none⟩ (.slice pv 1 cv)).heap[w.heap.size + 1]? = some (.cells #[.int .i64 0, .string ⟨#[]⟩, .int .i64 0, .int .i64 0, .slice none 0 0, .int .i64 0, .bool false] 68 (0, 0))) := (heap_other _ (by have := HWLT.out; omega)).trans ((HB5.out.block _ HWLT.out.1).trans HRC.out)
          have HBF : Hid (Below w.heap.size w (w5.setCell ⟨b, 4, none⟩ (.slice pv 1 cv))) := (below_trans HBWC.out HB5.out HBWC.out.size).setCell (p := ⟨b, 4, none⟩) (by have := HWLT.out; simp; omega) _
          have HROWF : Hid ((w5.setCell ⟨b, 4, none⟩ (.slice pv 1 cv)).ownsRow wc.heap.size 32 3 (.slice pv 1 cv) 1 ([(⟨1, (y : Int), ⟨#[]⟩⟩ : Vl)].flatMap encV)) := by
            rw [List.flatMap_singleton]
            exact owns_block HROW5.out (fun i hi => heap_other _ (by have := (HROW5.out.lt i hi).1; have := HWLT.out; omega))
          have HE5 : Hid ((w5.setCell ⟨b, 4, none⟩ (.slice pv 1 cv)).cell? ⟨w.heap.size, 5, none⟩ = some (.string tx)) := by
            have h1 : w5.cell? ⟨w.heap.size, 5, none⟩ = some (.string tx) := (HB5.out.cell (p := ⟨w.heap.size, 5, none⟩) (by have := HWLT.out; simp; omega)).trans e5
            exact (World.cell?_of_block (heap_other _ (by have := HWLT.out; simp; omega))).trans h1
          have HSZ0 : Hid (wc.heap.size ≤ (w5.setCell ⟨b, 4, none⟩ (.slice pv 1 cv)).heap.size) := by
            have h1 := HB5.out.size
            have h2 : (w5.setCell ⟨b, 4, none⟩ (.slice pv 1 cv)).heap.size = w5.heap.size := by simp
            exact (by omega : wc.heap.size ≤ (w5.setCell ⟨b, 4, none⟩ (.slice pv 1 cv)).heap.size)
          clear o0 o1 o2 o3 o4 o5 o6 oz e3 e5 o4a e3a y4 yz HROW5 HO5 HB5 HO HRC HBWC HBA
          go_wp2_with fail
          go_meet
          case rel => exact ⟨pv, cv, HOF.out, HRF.out, HBF.out, HROWF.out, HE5.out, HSZ0.out⟩
      case rest =>
        obtain ⟨pv, cv, g1, g2, g3, g4, g5, g6⟩ := hcut
        have HBB : Hid (w.heap.size + 2 ≤ S0 ∧ b < S0 ∧ w.heap.size + 2 ≤ b) := by rw [hS0]; exact ⟨HWLT.out.2.1, HWLT.out.2.2.2, HWLT.out.2.2.1⟩
        rw [← hS0] at g4 g6
        have HOF : Hid (OB wc b sa (20 - (x : Int)) (.slice pv 1 cv)) := g1
        have HRF : Hid (wc.heap[w.heap.size + 1]? = some (.cells #[.int .i64 0, .string ⟨#[]⟩, .int .i64 0, .int .i64 0, .slice none 0 0, .int .i64 0, .bool false] 68 (0, 0))) := g2
        have HBF : Hid (Below w.heap.size w wc) := g3
        have HROWF : Hid (wc.ownsRow S0 32 3 (.slice pv 1 cv) 1 ([(⟨1, (y : Int), ⟨#[]⟩⟩ : Vl)].flatMap encV)) := g4
        have HE5 : Hid (wc.cell? ⟨w.heap.size, 5, none⟩ = some (.string tx)) := g5
        have HSZ : Hid (S0 ≤ wc.heap.size) := g6
        clear o0 o1 o2 o3 o4 o5 o6 oz e3 e5 o4a e3a HO HRC HBWC HWLT hS0 g1 g2 g3 g4 g5 g6
        generalize wc = WF at HOF HRF HBF HROWF HE5 HSZ ⊢
        obtain ⟨p0, p1, p2, p3, p4, p5, p6⟩ := HOF.out.cells
        have r0 : WF.cell? ⟨w.heap.size + 1, 0, none⟩ = some (.int .i64 0) := by rw [cell_of_row _ _ _ _ _ (0, 0) HRF.out]; rfl
        have r1 : WF.cell? ⟨w.heap.size + 1, 1, none⟩ = some (.string ⟨#[]⟩) := by rw [cell_of_row _ _ _ _ _ (0, 0) HRF.out]; rfl
        have r2 : WF.cell? ⟨w.heap.size + 1, 2, none⟩ = some (.int .i64 0) := by rw [cell_of_row _ _ _ _ _ (0, 0) HRF.out]; rfl
        have r3 : WF.cell? ⟨w.heap.size + 1, 3, none⟩ = some (.int .i64 0) := by rw [cell_of_row _ _ _ _ _ (0, 0) HRF.out]; rfl
        have r4 : WF.cell? ⟨w.heap.size + 1, 4, none⟩ = some (.slice none 0 0) := by rw [cell_of_row _ _ _ _ _ (0, 0) HRF.out]; rfl
        have r5 : WF.cell? ⟨w.heap.size + 1, 5, none⟩ = some (.int .i64 0) := by rw [cell_of_row _ _ _ _ _ (0, 0) HRF.out]; rfl
        have r6 : WF.cell? ⟨w.heap.size + 1, 6, none⟩ = some (.bool false) := by rw [cell_of_row _ _ _ _ _ (0, 0) HRF.out]; rfl
        have z0 : WF.frozen? ⟨w.heap.size + 1, 0, none⟩ = false := frozen_of_row _ _ 0 _ _ HRF.out
        have z1 : WF.frozen? ⟨w.heap.size + 1, 1, none⟩ = false := frozen_of_row _ _ 1 _ _ HRF.out
        have z2 : WF.frozen? ⟨w.heap.size + 1, 2, none⟩ = false := frozen_of_row _ _ 2 _ _ HRF.out
        have z3 : WF.frozen? ⟨w.heap.size + 1, 3, none⟩ = false := frozen_of_row _ _ 3 _ _ HRF.out
        have z4 : WF.frozen? ⟨w.heap.size + 1, 4, none⟩ = false := frozen_of_row _ _ 4 _ _ HRF.out
        have z5 : WF.frozen? ⟨w.heap.size + 1, 5, none⟩ = false := frozen_of_row _ _ 5 _ _ HRF.out
        have z6 : WF.frozen? ⟨w.heap.size + 1, 6, none⟩ = false := frozen_of_row _ _ 6 _ _ HRF.out
        go_wp2
        refine retO (b := w.heap.size + 1) 4 Try.results32 (by rfl) (seven_set HRF.out _ _ _ _ _ _ _) (by rfl) ⟨sa, 20 - (x : Int), _, _, [⟨1, (y : Int), ⟨#[]⟩⟩], rfl, by have := HX.out; omega, ?_, Ok4.a (by have := HX.out; omega), by simp, seven_below HBF.out (by omega) _ _ _ _ _ _ _⟩
        exact owns_block (own_less HROWF.out (by have := HBB.out; omega)) (fun i hi => seven_other _ _ _ _ _ _ _ (by have := (HROWF.out.lt i hi).1; have := HBB.out; omega))
    · skip
      go_upto_region 4 with fail
      go_cut [] from 7 (fun WF => ∃ pv cv, OB WF b sa (20 - (x : Int)) (.slice pv 1 cv) ∧ WF.heap[w.heap.size + 1]? = some (.cells #[.int .i64 0, .string ⟨#[]⟩, .int .i64 0, .int .i64 0, .slice none 0 0, .int .i64 0, .bool false] 68 (0, 0)) ∧ Below w.heap.size w WF ∧ WF.ownsRow wc.heap.size 32 3 (.slice pv 1 cv) 1 ([(⟨1, (y : Int), ⟨#[]⟩⟩ : Vl)].flatMap encV) ∧ WF.cell? ⟨w.heap.size, 5, none⟩ = some (.string tx) ∧ wc.heap.size ≤ WF.heap.size)
      case first =>
        go_region_law (first
          | (refine step_two 13 ent_picked (by rfl) _ _ _ (by rfl) (.int .i64 nn) (.int .i64 6) (by rfl) (by rfl) (fun v => v = .int .i64 (y : Int)) (P3V.out _) ?_; rintro v rfl)
          | (refine step_append_grows (by rfl) _ _ 25 (by rfl) 32 i1 (.agg #[.int .i64 0, .int .i64 0, .string ByteArray.empty]) 3 32 Try.underlying25 HI2.out.1 HI2.out.2.1 HI2.out.2.2.1 HI2.out.2.2.2 rfl (by omega) none 0 0 [] (by rfl) (fun _ => ⟨rfl, rfl⟩) (by rfl) (fun b h => by cases h) ⟨wc.heap.size, 0, none⟩ 1 1 (encV ⟨1, (y : Int), ⟨#[]⟩⟩) (by rfl) (by rfl) (World.news_of_block (heap_alloc_new _ _)) (by simp [encV, Value.oneCell']) (by omega) (by unfold maxLen; omega) (by omega) ?_; intro v' w5 hown hgrow; obtain ⟨pv, cv, hvv⟩ := own_shape hown; subst hvv; have HBA : Hid (Below wc.heap.size wc (wc.drew.alloc (.cells #[.int .i64 1, .int .i64 (y : Int), .string ⟨#[]⟩] 32))) := (Below.refl _ wc).drew.alloc (by simp) _; have HB5 : Hid (Below wc.heap.size wc w5) := HBA.out.grown hgrow HBA.out.size (fun k hk => by cases hk); have HO5 : Hid (OB w5 b sa (20 - (x : Int)) (.slice none 0 0)) := HO.out.below HB5.out; have HROW5 : Hid (w5.ownsRow wc.heap.size 32 3 (.slice pv 1 cv) 1 (encV ⟨1, (y : Int), ⟨#[]⟩⟩)) := own_less hown (by simp); have y4 := HO5.out.cells.2.2.2.2.1; have yz := HO5.out.fz 4; clear hown hgrow))
        all_goals
          have HOF : Hid (OB (w5.setCell ⟨b, 4, none⟩ (.slice pv 1 cv)) b sa (20 - (x : Int)) (.slice pv 1 cv)) := HO5.out.set _
          have HRF : Hid ((w5.setCell ⟨b, 4, none⟩ (.slice pv 1 cv)).heap[w.heap.size + 1]? = some (.cells #[.int .i64 0, .string ⟨#[]⟩, .int .i64 0, .int .i64 0, .slice none 0 0, .int .i64 0, .bool false] 68 (0, 0))) := (heap_other _ (by have := HWLT.out; omega)).trans ((HB5.out.block _ HWLT.out.1).trans HRC.out)
          have HBF : Hid (Below w.heap.size w (w5.setCell ⟨b, 4, none⟩ (.slice pv 1 cv))) := (below_trans HBWC.out HB5.out HBWC.out.size).setCell (p := ⟨b, 4, none⟩) (by have := HWLT.out; simp; omega) _
          have HROWF : Hid ((w5.setCell ⟨b, 4, none⟩ (.slice pv 1 cv)).ownsRow wc.heap.size 32 3 (.slice pv 1 cv) 1 ([(⟨1, (y : Int), ⟨#[]⟩⟩ : Vl)].flatMap encV)) := by
            rw [List.flatMap_singleton]
            exact owns_block HROW5.out (fun i hi => heap_other _ (by have := (HROW5.out.lt i hi).1; have := HWLT.out; omega))
          have HE5 : Hid ((w5.setCell ⟨b, 4, none⟩ (.slice pv 1 cv)).cell? ⟨w.heap.size, 5, none⟩ = some (.string tx)) := by
            have h1 : w5.cell? ⟨w.heap.size, 5, none⟩ = some (.string tx) := (HB5.out.cell (p := ⟨w.heap.size, 5, none⟩) (by have := HWLT.out; simp; omega)).trans e5
            exact (World.cell?_of_block (heap_other _ (by have := HWLT.out; simp; omega))).trans h1
          have HSZ0 : Hid (wc.heap.size ≤ (w5.setCell ⟨b, 4, none⟩ (.slice pv 1 cv)).heap.size) := by
            have h1 := HB5.out.size
            have h2 : (w5.setCell ⟨b, 4, none⟩ (.slice pv 1 cv)).heap.size = w5.heap.size := by simp
            exact (by omega : wc.heap.size ≤ (w5.setCell ⟨b, 4, none⟩ (.slice pv 1 cv)).heap.size)
          clear o0 o1 o2 o3 o4 o5 o6 oz e3 e5 o4a e3a y4 yz HROW5 HO5 HB5 HO HRC HBWC HBA
          go_wp2_with fail
          go_meet
          case rel => exact ⟨pv, cv, HOF.out, HRF.out, HBF.out, HROWF.out, HE5.out, HSZ0.out⟩
      case rest =>
        obtain ⟨pv, cv, g1, g2, g3, g4, g5, g6⟩ := hcut
        have HBB : Hid (w.heap.size + 2 ≤ S0 ∧ b < S0 ∧ w.heap.size + 2 ≤ b) := by rw [hS0]; exact ⟨HWLT.out.2.1, HWLT.out.2.2.2, HWLT.out.2.2.1⟩
        rw [← hS0] at g4 g6
        have HOF : Hid (OB wc b sa (20 - (x : Int)) (.slice pv 1 cv)) := g1
        have HRF : Hid (wc.heap[w.heap.size + 1]? = some (.cells #[.int .i64 0, .string ⟨#[]⟩, .int .i64 0, .int .i64 0, .slice none 0 0, .int .i64 0, .bool false] 68 (0, 0))) := g2
        have HBF : Hid (Below w.heap.size w wc) := g3
        have HROWF : Hid (wc.ownsRow S0 32 3 (.slice pv 1 cv) 1 ([(⟨1, (y : Int), ⟨#[]⟩⟩ : Vl)].flatMap encV)) := g4
        have HE5 : Hid (wc.cell? ⟨w.heap.size, 5, none⟩ = some (.string tx)) := g5
        have HSZ : Hid (S0 ≤ wc.heap.size) := g6
        clear o0 o1 o2 o3 o4 o5 o6 oz e3 e5 o4a e3a HO HRC HBWC HWLT hS0 g1 g2 g3 g4 g5 g6
        generalize wc = WF at HOF HRF HBF HROWF HE5 HSZ ⊢
        obtain ⟨p0, p1, p2, p3, p4, p5, p6⟩ := HOF.out.cells
        have q5 := HE5.out
        have p4a : ∀ o, (WF.alloc o).cell? ⟨b, 4, none⟩ = some (.slice pv 1 cv) := fun o => (((Below.refl _ WF).alloc (Nat.le_refl _) o).cell (p := ⟨b, 4, none⟩) HOF.out.lt).trans p4
        have q5a : ∀ o, (WF.alloc o).cell? ⟨w.heap.size, 5, none⟩ = some (.string tx) := fun o => (((Below.refl _ WF).alloc (Nat.le_refl _) o).cell (p := ⟨w.heap.size, 5, none⟩) (World.block_lt_of_cell? WF ⟨w.heap.size, 5, none⟩ q5)).trans q5
        have PCV : Hid (∀ W, Calls Try.prog 24 #[.string tx, .int .i64 3] W fun e w' => ∃ v, e = .returned v ∧ (∃ t : ByteArray, v = .string t ∧ t.size ≤ 3) ∧ w' = W) := fun W => (cut_any tx 3 3 rfl (Or.inr rfl) W HTX.out).mono (by rintro e w' ⟨t, rfl, ht, rfl⟩; exact ⟨_, rfl, ⟨t, rfl, ht⟩, rfl⟩)
        clear p0 p1 p2 p3 p5 p6
        go_upto_region 6 with fail
        go_cut [] from 7 (fun WG => ∃ g cap' t, t.size ≤ 3 ∧ OB WG b sa (20 - (x : Int)) (.slice (some ⟨g, 0, none⟩) 2 cap') ∧ WG.heap[w.heap.size + 1]? = some (.cells #[.int .i64 0, .string ⟨#[]⟩, .int .i64 0, .int .i64 0, .slice none 0 0, .int .i64 0, .bool false] 68 (0, 0)) ∧ Below w.heap.size w WG ∧ WG.ownsRow S0 32 3 (.slice (some ⟨g, 0, none⟩) 2 cap') 2 ([(⟨1, (y : Int), ⟨#[]⟩⟩ : Vl), ⟨2, 0, t⟩].flatMap encV))
        case first =>
          go_region_law (first
            | (refine step_two 24 ent_cut (by rfl) _ _ _ (by rfl) (.string tx) (.int .i64 3) (by rfl) (by rfl) (fun v => ∃ t : ByteArray, v = .string t ∧ t.size ≤ 3) (PCV.out _) ?_; rintro v ⟨t, rfl, ht⟩; have HTT : Hid (t.size ≤ 3) := ht; clear ht)
            | (refine step_append_lies _ (by rfl) _ _ _ (by rfl) S0 32 i1 (.agg #[.int .i64 0, .int .i64 0, .string ByteArray.empty]) 3 32 Try.underlying25 HI2.out.1 HI2.out.2.1 HI2.out.2.2.1 HI2.out.2.2.2 rfl (by omega) (.slice pv 1 cv) 1 _ (by rfl) (HROWF.out.alloc _) ⟨WF.heap.size, 0, none⟩ 1 1 (encV ⟨2, 0, t⟩) (by rfl) (by rfl) (World.news_of_block (heap_alloc_new _ _)) (by simp [encV, Value.oneCell']) (by omega) (by unfold maxLen; omega) (by omega) (by simp; have := HBB.out; have := HOF.out.lt; have := HSZ.out; omega) (WF.heap.size + 1) (by simp) ?_; intro g cap' w8 hown hgrow hat hltg; have HBA : Hid (Below WF.heap.size WF (WF.drew.alloc (.cells #[.int .i64 2, .int .i64 0, .string t] 32))) := (Below.refl _ WF).drew.alloc (by simp) _; have HO8 : Hid (OB w8 b sa (20 - (x : Int)) (.slice pv 1 cv)) := (HOF.out.below HBA.out).block (hgrow.block b (HOF.out.below HBA.out).lt (fun c => by have := (HROWF.out.lt b c.symm).1; have := HBB.out; omega)); have HRF8 : Hid (w8.heap[w.heap.size + 1]? = some (.cells #[.int .i64 0, .string ⟨#[]⟩, .int .i64 0, .int .i64 0, .slice none 0 0, .int .i64 0, .bool false] 68 (0, 0))) := (hgrow.block (w.heap.size + 1) (Nat.lt_of_lt_of_le (Array.getElem?_eq_some_iff.1 HRF.out).1 HBA.out.size) (fun c => by have := (HROWF.out.lt _ c.symm).1; have := HBB.out; omega)).trans ((HBA.out.block _ (Array.getElem?_eq_some_iff.1 HRF.out).1).trans HRF.out); have HBF8 : Hid (Below w.heap.size w w8) := (below_trans HBF.out HBA.out HBF.out.size).grown hgrow (Nat.le_trans HBF.out.size HBA.out.size) (fun k hk => by have := (HROWF.out.lt k hk).1; have := HBB.out; omega); have HROW8 : Hid (w8.ownsRow S0 32 3 (.slice (some ⟨g, 0, none⟩) (1 + 1) cap') (1 + 1) ([(⟨1, (y : Int), ⟨#[]⟩⟩ : Vl)].flatMap encV ++ encV ⟨2, 0, t⟩)) := hown; have y4 := HO8.out.cells.2.2.2.2.1; have yz := HO8.out.fz 4; clear hown hgrow hat hltg))
          all_goals
            have HOG : Hid (OB (w8.setCell ⟨b, 4, none⟩ (.slice (some ⟨g, 0, none⟩) (1 + 1) cap')) b sa (20 - (x : Int)) (.slice (some ⟨g, 0, none⟩) (1 + 1) cap')) := HO8.out.set _
            have HRG : Hid ((w8.setCell ⟨b, 4, none⟩ (.slice (some ⟨g, 0, none⟩) (1 + 1) cap')).heap[w.heap.size + 1]? = some (.cells #[.int .i64 0, .string ⟨#[]⟩, .int .i64 0, .int .i64 0, .slice none 0 0, .int .i64 0, .bool false] 68 (0, 0))) := (heap_other _ (by have := HBB.out; omega)).trans HRF8.out
            have HBG : Hid (Below w.heap.size w (w8.setCell ⟨b, 4, none⟩ (.slice (some ⟨g, 0, none⟩) (1 + 1) cap'))) := HBF8.out.setCell (p := ⟨b, 4, none⟩) (by have := HBB.out; simp; omega) _
            have HROWG : Hid ((w8.setCell ⟨b, 4, none⟩ (.slice (some ⟨g, 0, none⟩) (1 + 1) cap')).ownsRow S0 32 3 (.slice (some ⟨g, 0, none⟩) (1 + 1) cap') (1 + 1) ([(⟨1, (y : Int), ⟨#[]⟩⟩ : Vl), ⟨2, 0, t⟩].flatMap encV)) := owns_block HROW8.out (fun i hi => heap_other _ (by have := (HROW8.out.lt i hi).1; have := HBB.out; omega))
            clear p4 q5 p4a q5a y4 yz HOF HRF HBF HROWF HE5 HO8 HRF8 HBF8 HROW8 HBA
            go_wp2_with fail
            go_meet
            case rel => exact ⟨g, cap', t, HTT.out, HOG.out, HRG.out, HBG.out, HROWG.out⟩
        case rest =>
          obtain ⟨g, cap', t, g0, g1, g2, g3, g4⟩ := hcut
          clear p4 q5 p4a q5a HOF HRF HBF HROWF HE5
          have HTT : Hid (t.size ≤ 3) := g0
          have HOF : Hid (OB wc b sa (20 - (x : Int)) (.slice (some ⟨g, 0, none⟩) 2 cap')) := g1
          have HRF : Hid (wc.heap[w.heap.size + 1]? = some (.cells #[.int .i64 0, .string ⟨#[]⟩, .int .i64 0, .int .i64 0, .slice none 0 0, .int .i64 0, .bool false] 68 (0, 0))) := g2
          have HBF : Hid (Below w.heap.size w wc) := g3
          have HROWF : Hid (wc.ownsRow S0 32 3 (.slice (some ⟨g, 0, none⟩) 2 cap') 2 ([(⟨1, (y : Int), ⟨#[]⟩⟩ : Vl), ⟨2, 0, t⟩].flatMap encV)) := g4
          clear g0 g1 g2 g3 g4 HSZ
          generalize wc = WF at HOF HRF HBF HROWF ⊢
          obtain ⟨p0, p1, p2, p3, p4, p5, p6⟩ := HOF.out.cells
          have r0 : WF.cell? ⟨w.heap.size + 1, 0, none⟩ = some (.int .i64 0) := by rw [cell_of_row _ _ _ _ _ (0, 0) HRF.out]; rfl
          have r1 : WF.cell? ⟨w.heap.size + 1, 1, none⟩ = some (.string ⟨#[]⟩) := by rw [cell_of_row _ _ _ _ _ (0, 0) HRF.out]; rfl
          have r2 : WF.cell? ⟨w.heap.size + 1, 2, none⟩ = some (.int .i64 0) := by rw [cell_of_row _ _ _ _ _ (0, 0) HRF.out]; rfl
          have r3 : WF.cell? ⟨w.heap.size + 1, 3, none⟩ = some (.int .i64 0) := by rw [cell_of_row _ _ _ _ _ (0, 0) HRF.out]; rfl
          have r4 : WF.cell? ⟨w.heap.size + 1, 4, none⟩ = some (.slice none 0 0) := by rw [cell_of_row _ _ _ _ _ (0, 0) HRF.out]; rfl
          have r5 : WF.cell? ⟨w.heap.size + 1, 5, none⟩ = some (.int .i64 0) := by rw [cell_of_row _ _ _ _ _ (0, 0) HRF.out]; rfl
          have r6 : WF.cell? ⟨w.heap.size + 1, 6, none⟩ = some (.bool false) := by rw [cell_of_row _ _ _ _ _ (0, 0) HRF.out]; rfl
          have z0 : WF.frozen? ⟨w.heap.size + 1, 0, none⟩ = false := frozen_of_row _ _ 0 _ _ HRF.out
          have z1 : WF.frozen? ⟨w.heap.size + 1, 1, none⟩ = false := frozen_of_row _ _ 1 _ _ HRF.out
          have z2 : WF.frozen? ⟨w.heap.size + 1, 2, none⟩ = false := frozen_of_row _ _ 2 _ _ HRF.out
          have z3 : WF.frozen? ⟨w.heap.size + 1, 3, none⟩ = false := frozen_of_row _ _ 3 _ _ HRF.out
          have z4 : WF.frozen? ⟨w.heap.size + 1, 4, none⟩ = false := frozen_of_row _ _ 4 _ _ HRF.out
          have z5 : WF.frozen? ⟨w.heap.size + 1, 5, none⟩ = false := frozen_of_row _ _ 5 _ _ HRF.out
          have z6 : WF.frozen? ⟨w.heap.size + 1, 6, none⟩ = false := frozen_of_row _ _ 6 _ _ HRF.out
          go_wp2
          refine retO (b := w.heap.size + 1) 4 Try.results32 (by rfl) (seven_set HRF.out _ _ _ _ _ _ _) (by rfl) ⟨sa, 20 - (x : Int), _, _, [⟨1, (y : Int), ⟨#[]⟩⟩, ⟨2, 0, t⟩], rfl, by have := HX.out; omega, ?_, Ok4.b (by have := HX.out; omega) HTT.out, by simp, seven_below HBF.out (by omega) _ _ _ _ _ _ _⟩
          exact owns_block (own_less HROWF.out (by have := HBB.out; omega)) (fun i hi => seven_other _ _ _ _ _ _ _ (by have := (HROWF.out.lt i hi).1; have := HBB.out; omega))
    · have HOF := HO
      have HRF := HRC
      have HBF := HBWC
      have hrn := World.ownsRow_nil wc (w.heap.size + 2) 32 3
      have HROWF : Hid (wc.ownsRow (w.heap.size + 2) 32 3 (.slice none 0 0) 0 (([] : List Vl).flatMap encV)) := hrn
      clear hrn
      clear o0 o1 o2 o3 o4 o5 o6 oz e3 e5 o4a e3a
      generalize wc = WF at HOF HRF HBF HROWF ⊢
      obtain ⟨p0, p1, p2, p3, p4, p5, p6⟩ := HOF.out.cells
      have r0 : WF.cell? ⟨w.heap.size + 1, 0, none⟩ = some (.int .i64 0) := by rw [cell_of_row _ _ _ _ _ (0, 0) HRF.out]; rfl
      have r1 : WF.cell? ⟨w.heap.size + 1, 1, none⟩ = some (.string ⟨#[]⟩) := by rw [cell_of_row _ _ _ _ _ (0, 0) HRF.out]; rfl
      have r2 : WF.cell? ⟨w.heap.size + 1, 2, none⟩ = some (.int .i64 0) := by rw [cell_of_row _ _ _ _ _ (0, 0) HRF.out]; rfl
      have r3 : WF.cell? ⟨w.heap.size + 1, 3, none⟩ = some (.int .i64 0) := by rw [cell_of_row _ _ _ _ _ (0, 0) HRF.out]; rfl
      have r4 : WF.cell? ⟨w.heap.size + 1, 4, none⟩ = some (.slice none 0 0) := by rw [cell_of_row _ _ _ _ _ (0, 0) HRF.out]; rfl
      have r5 : WF.cell? ⟨w.heap.size + 1, 5, none⟩ = some (.int .i64 0) := by rw [cell_of_row _ _ _ _ _ (0, 0) HRF.out]; rfl
      have r6 : WF.cell? ⟨w.heap.size + 1, 6, none⟩ = some (.bool false) := by rw [cell_of_row _ _ _ _ _ (0, 0) HRF.out]; rfl
      have z0 : WF.frozen? ⟨w.heap.size + 1, 0, none⟩ = false := frozen_of_row _ _ 0 _ _ HRF.out
      have z1 : WF.frozen? ⟨w.heap.size + 1, 1, none⟩ = false := frozen_of_row _ _ 1 _ _ HRF.out
      have z2 : WF.frozen? ⟨w.heap.size + 1, 2, none⟩ = false := frozen_of_row _ _ 2 _ _ HRF.out
      have z3 : WF.frozen? ⟨w.heap.size + 1, 3, none⟩ = false := frozen_of_row _ _ 3 _ _ HRF.out
      have z4 : WF.frozen? ⟨w.heap.size + 1, 4, none⟩ = false := frozen_of_row _ _ 4 _ _ HRF.out
      have z5 : WF.frozen? ⟨w.heap.size + 1, 5, none⟩ = false := frozen_of_row _ _ 5 _ _ HRF.out
      have z6 : WF.frozen? ⟨w.heap.size + 1, 6, none⟩ = false := frozen_of_row _ _ 6 _ _ HRF.out
      go_wp2
      refine retO (b := w.heap.size + 1) 4 Try.results32 (by rfl) (seven_set HRF.out _ _ _ _ _ _ _) (by rfl) ⟨sa, 20 - (x : Int), _, _, [], rfl, by have := HX.out; omega, ?_, Ok4.c, by simp, seven_below HBF.out (by omega) _ _ _ _ _ _ _⟩
      exact owns_block (own_less HROWF.out (by omega)) (fun i hi => seven_other _ _ _ _ _ _ _ (by have := (HROWF.out.lt i hi).1; omega))
    · skip
      go_upto_region 4 with fail
      go_cut [] from 7 (fun WF => ∃ pv cv, OB WF b sa (20 - (x : Int)) (.slice pv 1 cv) ∧ WF.heap[w.heap.size + 1]? = some (.cells #[.int .i64 0, .string ⟨#[]⟩, .int .i64 0, .int .i64 0, .slice none 0 0, .int .i64 0, .bool false] 68 (0, 0)) ∧ Below w.heap.size w WF ∧ WF.ownsRow wc.heap.size 32 3 (.slice pv 1 cv) 1 ([(⟨1, (y : Int), ⟨#[]⟩⟩ : Vl)].flatMap encV) ∧ WF.cell? ⟨w.heap.size, 5, none⟩ = some (.string tx) ∧ wc.heap.size ≤ WF.heap.size)
      case first =>
        go_region_law (first
          | (refine step_two 13 ent_picked (by rfl) _ _ _ (by rfl) (.int .i64 nn) (.int .i64 6) (by rfl) (by rfl) (fun v => v = .int .i64 (y : Int)) (P3V.out _) ?_; rintro v rfl)
          | (refine step_append_grows (by rfl) _ _ 25 (by rfl) 32 i1 (.agg #[.int .i64 0, .int .i64 0, .string ByteArray.empty]) 3 32 Try.underlying25 HI2.out.1 HI2.out.2.1 HI2.out.2.2.1 HI2.out.2.2.2 rfl (by omega) none 0 0 [] (by rfl) (fun _ => ⟨rfl, rfl⟩) (by rfl) (fun b h => by cases h) ⟨wc.heap.size, 0, none⟩ 1 1 (encV ⟨1, (y : Int), ⟨#[]⟩⟩) (by rfl) (by rfl) (World.news_of_block (heap_alloc_new _ _)) (by simp [encV, Value.oneCell']) (by omega) (by unfold maxLen; omega) (by omega) ?_; intro v' w5 hown hgrow; obtain ⟨pv, cv, hvv⟩ := own_shape hown; subst hvv; have HBA : Hid (Below wc.heap.size wc (wc.drew.alloc (.cells #[.int .i64 1, .int .i64 (y : Int), .string ⟨#[]⟩] 32))) := (Below.refl _ wc).drew.alloc (by simp) _; have HB5 : Hid (Below wc.heap.size wc w5) := HBA.out.grown hgrow HBA.out.size (fun k hk => by cases hk); have HO5 : Hid (OB w5 b sa (20 - (x : Int)) (.slice none 0 0)) := HO.out.below HB5.out; have HROW5 : Hid (w5.ownsRow wc.heap.size 32 3 (.slice pv 1 cv) 1 (encV ⟨1, (y : Int), ⟨#[]⟩⟩)) := own_less hown (by simp); have y4 := HO5.out.cells.2.2.2.2.1; have yz := HO5.out.fz 4; clear hown hgrow))
        all_goals
          have HOF : Hid (OB (w5.setCell ⟨b, 4, none⟩ (.slice pv 1 cv)) b sa (20 - (x : Int)) (.slice pv 1 cv)) := HO5.out.set _
          have HRF : Hid ((w5.setCell ⟨b, 4, none⟩ (.slice pv 1 cv)).heap[w.heap.size + 1]? = some (.cells #[.int .i64 0, .string ⟨#[]⟩, .int .i64 0, .int .i64 0, .slice none 0 0, .int .i64 0, .bool false] 68 (0, 0))) := (heap_other _ (by have := HWLT.out; omega)).trans ((HB5.out.block _ HWLT.out.1).trans HRC.out)
          have HBF : Hid (Below w.heap.size w (w5.setCell ⟨b, 4, none⟩ (.slice pv 1 cv))) := (below_trans HBWC.out HB5.out HBWC.out.size).setCell (p := ⟨b, 4, none⟩) (by have := HWLT.out; simp; omega) _
          have HROWF : Hid ((w5.setCell ⟨b, 4, none⟩ (.slice pv 1 cv)).ownsRow wc.heap.size 32 3 (.slice pv 1 cv) 1 ([(⟨1, (y : Int), ⟨#[]⟩⟩ : Vl)].flatMap encV)) := by
            rw [List.flatMap_singleton]
            exact owns_block HROW5.out (fun i hi => heap_other _ (by have := (HROW5.out.lt i hi).1; have := HWLT.out; omega))
          have HE5 : Hid ((w5.setCell ⟨b, 4, none⟩ (.slice pv 1 cv)).cell? ⟨w.heap.size, 5, none⟩ = some (.string tx)) := by
            have h1 : w5.cell? ⟨w.heap.size, 5, none⟩ = some (.string tx) := (HB5.out.cell (p := ⟨w.heap.size, 5, none⟩) (by have := HWLT.out; simp; omega)).trans e5
            exact (World.cell?_of_block (heap_other _ (by have := HWLT.out; simp; omega))).trans h1
          have HSZ0 : Hid (wc.heap.size ≤ (w5.setCell ⟨b, 4, none⟩ (.slice pv 1 cv)).heap.size) := by
            have h1 := HB5.out.size
            have h2 : (w5.setCell ⟨b, 4, none⟩ (.slice pv 1 cv)).heap.size = w5.heap.size := by simp
            exact (by omega : wc.heap.size ≤ (w5.setCell ⟨b, 4, none⟩ (.slice pv 1 cv)).heap.size)
          clear o0 o1 o2 o3 o4 o5 o6 oz e3 e5 o4a e3a y4 yz HROW5 HO5 HB5 HO HRC HBWC HBA
          go_wp2_with fail
          go_meet
          case rel => exact ⟨pv, cv, HOF.out, HRF.out, HBF.out, HROWF.out, HE5.out, HSZ0.out⟩
      case rest =>
        obtain ⟨pv, cv, g1, g2, g3, g4, g5, g6⟩ := hcut
        have HBB : Hid (w.heap.size + 2 ≤ S0 ∧ b < S0 ∧ w.heap.size + 2 ≤ b) := by rw [hS0]; exact ⟨HWLT.out.2.1, HWLT.out.2.2.2, HWLT.out.2.2.1⟩
        rw [← hS0] at g4 g6
        have HOF : Hid (OB wc b sa (20 - (x : Int)) (.slice pv 1 cv)) := g1
        have HRF : Hid (wc.heap[w.heap.size + 1]? = some (.cells #[.int .i64 0, .string ⟨#[]⟩, .int .i64 0, .int .i64 0, .slice none 0 0, .int .i64 0, .bool false] 68 (0, 0))) := g2
        have HBF : Hid (Below w.heap.size w wc) := g3
        have HROWF : Hid (wc.ownsRow S0 32 3 (.slice pv 1 cv) 1 ([(⟨1, (y : Int), ⟨#[]⟩⟩ : Vl)].flatMap encV)) := g4
        have HE5 : Hid (wc.cell? ⟨w.heap.size, 5, none⟩ = some (.string tx)) := g5
        have HSZ : Hid (S0 ≤ wc.heap.size) := g6
        clear o0 o1 o2 o3 o4 o5 o6 oz e3 e5 o4a e3a HO HRC HBWC HWLT hS0 g1 g2 g3 g4 g5 g6
        generalize wc = WF at HOF HRF HBF HROWF HE5 HSZ ⊢
        obtain ⟨p0, p1, p2, p3, p4, p5, p6⟩ := HOF.out.cells
        have r0 : WF.cell? ⟨w.heap.size + 1, 0, none⟩ = some (.int .i64 0) := by rw [cell_of_row _ _ _ _ _ (0, 0) HRF.out]; rfl
        have r1 : WF.cell? ⟨w.heap.size + 1, 1, none⟩ = some (.string ⟨#[]⟩) := by rw [cell_of_row _ _ _ _ _ (0, 0) HRF.out]; rfl
        have r2 : WF.cell? ⟨w.heap.size + 1, 2, none⟩ = some (.int .i64 0) := by rw [cell_of_row _ _ _ _ _ (0, 0) HRF.out]; rfl
        have r3 : WF.cell? ⟨w.heap.size + 1, 3, none⟩ = some (.int .i64 0) := by rw [cell_of_row _ _ _ _ _ (0, 0) HRF.out]; rfl
        have r4 : WF.cell? ⟨w.heap.size + 1, 4, none⟩ = some (.slice none 0 0) := by rw [cell_of_row _ _ _ _ _ (0, 0) HRF.out]; rfl
        have r5 : WF.cell? ⟨w.heap.size + 1, 5, none⟩ = some (.int .i64 0) := by rw [cell_of_row _ _ _ _ _ (0, 0) HRF.out]; rfl
        have r6 : WF.cell? ⟨w.heap.size + 1, 6, none⟩ = some (.bool false) := by rw [cell_of_row _ _ _ _ _ (0, 0) HRF.out]; rfl
        have z0 : WF.frozen? ⟨w.heap.size + 1, 0, none⟩ = false := frozen_of_row _ _ 0 _ _ HRF.out
        have z1 : WF.frozen? ⟨w.heap.size + 1, 1, none⟩ = false := frozen_of_row _ _ 1 _ _ HRF.out
        have z2 : WF.frozen? ⟨w.heap.size + 1, 2, none⟩ = false := frozen_of_row _ _ 2 _ _ HRF.out
        have z3 : WF.frozen? ⟨w.heap.size + 1, 3, none⟩ = false := frozen_of_row _ _ 3 _ _ HRF.out
        have z4 : WF.frozen? ⟨w.heap.size + 1, 4, none⟩ = false := frozen_of_row _ _ 4 _ _ HRF.out
        have z5 : WF.frozen? ⟨w.heap.size + 1, 5, none⟩ = false := frozen_of_row _ _ 5 _ _ HRF.out
        have z6 : WF.frozen? ⟨w.heap.size + 1, 6, none⟩ = false := frozen_of_row _ _ 6 _ _ HRF.out
        go_wp2
        refine retO (b := w.heap.size + 1) 4 Try.results32 (by rfl) (seven_set HRF.out _ _ _ _ _ _ _) (by rfl) ⟨sa, 20 - (x : Int), _, _, [⟨1, (y : Int), ⟨#[]⟩⟩], rfl, by have := HX.out; omega, ?_, Ok4.d (by have := HX.out; omega), by simp, seven_below HBF.out (by omega) _ _ _ _ _ _ _⟩
        exact owns_block (own_less HROWF.out (by have := HBB.out; omega)) (fun i hi => seven_other _ _ _ _ _ _ _ (by have := (HROWF.out.lt i hi).1; have := HBB.out; omega))
end Go.Proofs.Ythenkpeibkpmkab
