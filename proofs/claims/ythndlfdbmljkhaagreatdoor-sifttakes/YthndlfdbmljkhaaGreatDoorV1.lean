/-
  Steps of regions that draw their order: a call, an append; a slice of one struct.
-/
import Derived.Test.YthndlfdbmljkhaaGreatDoorG2
import Derived.RegionTactic
import Derived.Deep.RegionLaw
namespace Go.Proofs.YthndlfdbmljkhaaGreatDoor
open Go.ChangeShapes Go.WideShapes Go.ChangeAt Go.RowKit Go.Maps
set_option linter.unusedVariables false
set_option linter.unusedSimpArgs false
theorem step_call {ops : Array Oper} {o : Oper} {a : Act} {w : World} {K : Act → World → Prop} {Q : Exit → Act → World → Prop} {E : Prop} (f : FuncId) (he : ∀ args w, (callFunc f args).run Tryz.prog w = .ok (.enter f args) w) (hgd : o.guard = none) (s : Operand) (ts : Array TypeId) (ho : o.op = .call { callee := .value (.func f), args := #[s], argTypes := ts }) (u1 : Value) (h1 : a.eval s = u1)
    (R : Ending → World → Prop) (hc : Calls Tryz.prog f #[u1] w R) (h : ∀ e w', R e w' → ∃ v, e = .returned v ∧ K (a.put o.dst v) w') :
    if Region.wanted o (yielded ops a.tmps) = true then Oper.wp Tryz.prog o a w K Q else E := by
  have hw : Region.wanted o (yielded ops a.tmps) = true := by simp [Region.wanted, hgd]
  rw [if_pos hw]
  unfold Oper.wp execOp
  have hf : a.eval (.func f) = Value.func (Fn.func f) #[] #[] := rfl
  simp [ho, resolve, invoke, Deferred.ofValue, hf, h1, he]
  refine hc.mono ?_
  intro e w' hr
  obtain ⟨v, rfl, hk⟩ := h e w' hr
  exact hk
/-- An append of one element to a row of the call's own, at a step of a region that draws. -/
theorem step_app {P : Program} {ops : Array Oper} {o : Oper} {a : Act} {w : World} {K : Act → World → Prop} {Q : Exit → Act → World → Prop} {E : Prop} (hgd : o.guard = none) (s x : Operand) (t : TypeId)
    (ho : o.op = .call { callee := .builtin .append, args := #[s, x], argTypes := #[t, t] }) (e : TypeId) (i : TypeInfo) (zv : Value) (z bytes : Nat) (ht : P.underlying t = some (.slice e)) (hi : P.info? e = some i) (hz : i.zero = some zv)
    (hsize : i.size = z) (hby : i.bytes = bytes) (hzs : zv.cells.size = z) (hsz : 0 < z) (S : Nat → Prop) (v : Value) (l : List (List Dat)) (hs : a.eval s = v) (hrow : Row w S e z v l) (d : List Dat) (us : List Value) (ad : Addr)
    (hx : a.eval x = .slice (some ad) 1 1) (hl : us.length = 1 * z) (hnews : ∀ j u, us[j]? = some u → w.cell? (ad.add j) = some u) (h1 : us.all (·.oneCell') = true) (hd : HoldsL w (fun i => S i ∧ v.ownBlock ≠ some i) d us) (hS : S w.heap.size) (h700 : l.length ≤ 800) (hbb : bytes ≤ 100000) (n : Nat) (hn : l.length + 1 = n)
    (h : ∀ p' cap' w', Row w' S e z (.slice p' n cap') (l ++ [d]) → w.grownBy w' v.ownBlock → (∀ k, v.ownBlock = some k → S k) → K (a.put o.dst (.slice p' n cap')) w') :
    if Region.wanted o (yielded ops a.tmps) = true then Oper.wp P o a w K Q else E := by
  have hw : Region.wanted o (yielded ops a.tmps) = true := by simp [Region.wanted, hgd]
  rw [if_pos hw]
  obtain ⟨xs, r1, r2, r3⟩ := hrow
  obtain ⟨v', w', hr, q1, q2, q3, q4⟩ := run_append_own_at (P := P) w 0 t o.type e i zv z bytes ht hi hz hsize hby hzs hsz v l.length xs r1 ad 1 1 us hl hnews (List.all_eq_true.1 h1) (by unfold maxLen; omega) (by have : (l.length + 1) * bytes ≤ 801 * 100000 := Nat.mul_le_mul (by omega) hbb; omega) (Nat.zero_le _)
  unfold Oper.wp execOp
  simp only [ho, resolve, invoke, builtin, Sem.run_bind, Sem.run_pure, Result.andThen_ok, List.map_toArray, List.map_cons, List.map_nil, hs, hx, hr]
  have hrw : Row w' S e z v' (l ++ [d]) := by
    refine (Row.append r3 hd (by simpa using q1) q2 q4 r2).mono fun i hi _ => ⟨?_, rfl⟩
    rcases hi with c | c
    · exact c
    · rw [c]; exact hS
  obtain ⟨p', cap', hv⟩ := hrw.shape
  rw [List.length_append, List.length_singleton, hn] at hv
  subst hv
  exact h p' cap' w' hrw q2 r2
/-- New blocks are painted. -/
def paint (col : Nat → Nat) (n j : Nat) : Nat → Nat := fun i => if i < n then col i else j
theorem paint_lt {col : Nat → Nat} {n j i : Nat} (h : i < n) : paint col n j i = col i := by simp [paint, h]
theorem paint_ge {col : Nat → Nat} {n j i : Nat} (h : n ≤ i) : paint col n j i = j := by simp [paint]; omega
/-- The blocks of a colour, behind block U. -/
def Sc (U : Nat) (col : Nat → Nat) (j : Nat) (i : Nat) : Prop := U < i ∧ col i = j
end Go.Proofs.YthndlfdbmljkhaaGreatDoor
