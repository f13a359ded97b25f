/-
  The walk of the law ArenaModel.
-/
import Derived.Test.YtchiajedajabnaaMd
import Derived.Test.YtchiajedajabnaaW3
namespace Go.Proofs.Ytchiajedajabnaa
open Go.ChangeShapes Go.WideShapes Go.ChangeAt Go.RowKit
set_option linter.unusedVariables false
set_option linter.unusedSimpArgs false
section
variable (w : World) {ops : Array Oper} {rest : List Oper} {o : Oper} {a : Act} {Q : Exit → Act → World → Prop}
theorem wpList_len_mh (hg : o.guard = none) (m : Operand) (hop : o.op = Op.call { callee := Callee.builtin Builtin.len, args := #[m], argTypes := #[31] }) (mb : Nat) (F : Hm) (n : Nat) (hm : a.eval m = .map (some mb)) (h : Mh w mb F n)
    (hK : wpList Try.prog ops Q rest (a.put o.dst (.int .i64 n)) w) : wpList Try.prog ops Q (o :: rest) a w := by
  refine wpList_plain hg fun K' hK' => ?_
  unfold Oper.wp
  simp [execOp, hop, resolve, invoke, builtin, hm, h.len o.type, Result.andThen]
  exact hK' _ _ hK
theorem wpList_store_mh (hg : o.guard = none) (m x v : Operand) (mt et : TypeId) (hmt : Try.prog.underlying mt = some (.map 35 et)) (hop : o.op = Op.mapUpdate mt m x v) (mb : Nat) (F : Hm) (n : Nat) (hm : a.eval m = .map (some mb)) (h : Mh w mb F n) (hn : n ≤ 2000) (p t : Int) (hp : wfI p) (ht : wfI t) (hx : a.eval x = .agg #[.int .i64 p, .int .i64 t]) (y : Value) (hy : isEl y) (hv : a.eval v = y)
    (hK : ∀ w', Mh w' mb (F.put p t y) (if (F p t).isSome then n else n + 1) → w.mapTurned w' mb → wpList Try.prog ops Q rest (a.put o.dst undef) w') : wpList Try.prog ops Q (o :: rest) a w := by
  refine wpList_plain hg fun K' hK' => ?_
  obtain ⟨w', hrun, r1, r2⟩ := h.store hmt hp ht hn hy
  unfold Oper.wp
  simp [execOp, hop, hm, hx, hv, hrun, Result.andThen]
  exact hK' _ _ (hK w' r1 r2)
theorem wpList_delete_mh (hg : o.guard = none) (m x : Operand) (hop : o.op = Op.call { callee := Callee.builtin Builtin.delete, args := #[m, x], argTypes := #[31, 35] }) (mb : Nat) (F : Hm) (n : Nat) (hm : a.eval m = .map (some mb)) (h : Mh w mb F n) (p t : Int) (hp : wfI p) (ht : wfI t) (hx : a.eval x = .agg #[.int .i64 p, .int .i64 t])
    (hK : ∀ w', Mh w' mb (F.del p t) (n - if (F p t).isSome then 1 else 0) → w.mapTurned w' mb → wpList Try.prog ops Q rest (a.put o.dst (.tuple #[])) w') : wpList Try.prog ops Q (o :: rest) a w := by
  refine wpList_plain hg fun K' hK' => ?_
  obtain ⟨w', hrun, r1, r2⟩ := h.drop hp ht o.type
  unfold Oper.wp
  simp [execOp, hop, resolve, invoke, builtin, hm, hx, hrun, Result.andThen]
  exact hK' _ _ (hK w' r1 r2)
end
noncomputable def putH (mb : Nat) (p t x : Int) (w : World) : World :=
  match (Instr.mapUpdate 31 (.map (some mb)) (.agg #[.int .i64 p, .int .i64 t]) (.int .i64 x)).run Try.prog w with
  | .ok _ w' => w'
  | _ => w
theorem Mh.putH_run {w : World} {mb : Nat} {F : Hm} {n : Nat} (h : Mh w mb F n) {p t : Int} (hp : wfI p) (ht : wfI t) (hn : n ≤ 2000) (x : Int) :
    (Instr.mapUpdate 31 (.map (some mb)) (.agg #[.int .i64 p, .int .i64 t]) (.int .i64 x)).run Try.prog w = .ok () (putH mb p t x w) ∧ Mh (putH mb p t x w) mb (F.put p t (.int .i64 x)) (if (F p t).isSome then n else n + 1) ∧ w.mapTurned (putH mb p t x w) mb := by
  obtain ⟨w', h1, h2, h3⟩ := h.store Try.underlying31 hp ht hn (el_int x)
  have e : putH mb p t x w = w' := by unfold putH; rw [h1]
  rw [e]
  exact ⟨h1, h2, h3⟩
theorem turned {w w' : World} {b : Nat} (h : w.mapTurned w' b) : Turn (fun k => k = b) w w' := (Turn.refl _ _).grown h.grown (fun k hk _ => by cases hk; rfl)
/-- How it stands behind k jobs. -/
structure Mr (W5 wr : World) (kb gb : Nat) (s : As) (k n1 n2 : Nat) : Prop where
  kp : Mh wr kb (keptF s) n1
  lv : (n1 : Int) = s.live
  gv : Mh wr gb (givenF s) n2
  nk : n2 ≤ k
  ac : Ac s
  turn : Turn (fun x => x = kb ∨ x = gb) W5 wr
theorem Mr.below {W5 wr wr' : World} {kb gb : Nat} {s : As} {k n1 n2 : Nat} (h : Mr W5 wr kb gb s k n1 n2) (b : Below wr.heap.size wr wr') : Mr W5 wr' kb gb s (k + 1) n1 n2 :=
  ⟨h.kp.block (b.block _ h.kp.lt), h.lv, h.gv.block (b.block _ h.gv.lt), by have := h.nk; omega, h.ac, h.turn.trans (Turn.of_below (S := fun _ => False) b) (fun _ _ h => h.elim)⟩
theorem model_start (w4 : World) : Mr ((w4.alloc (.map #[] 0)).alloc (.map #[] 0)) ((w4.alloc (.map #[] 0)).alloc (.map #[] 0)) w4.heap.size (w4.heap.size + 1) s0 0 0 0 := by
  have h1 := mh_made w4
  have h2 := mh_made (w4.alloc (.map #[] 0))
  rw [show (w4.alloc (.map #[] 0)).heap.size = w4.heap.size + 1 by simp] at h2
  have hb : Below (w4.alloc (.map #[] 0)).heap.size (w4.alloc (.map #[] 0)) ((w4.alloc (.map #[] 0)).alloc (.map #[] 0)) := below_new' _ _
  refine ⟨(h1.block (hb.block _ h1.lt)).congr (fun p t _ _ => ?_), rfl, h2.congr (fun p t _ _ => ?_), Nat.le_refl _, fun p hp => by simp [s0] at hp, Turn.refl _ _⟩
  · unfold keptF; rw [if_neg (fun x => by have := x.2.1; simp [s0] at this; omega)]
  · unfold givenF; rw [if_neg (fun x => by have := x.2.1; simp [s0] at this; omega)]
theorem model_lend {W5 wr Wf w1 : World} {kb gb : Nat} {s s' : As} {k n1 n2 a : Nat} {u n : Int} {q : Q4} (hne : kb ≠ gb) (h : Mr W5 wr kb gb s k n1 n2) (b : Below wr.heap.size wr Wf) (hl : Lent s n q s' a u)
    (hG : Mh w1 gb ((givenF s).put a (u + 1) (.bool true)) (if (givenF s a (u + 1)).isSome then n2 else n2 + 1)) (ht : Wf.mapTurned w1 gb) (hn1 : n1 ≤ 2000) (ha : wfI a) (hu : wfI (u + 1)) (j : Nat) :
    (Instr.mapUpdate 31 (.map (some kb)) (.agg #[.int .i64 a, .int .i64 (u + 1)]) (.int .i64 n)).run Try.prog (w1.drewN j) = .ok () (putH kb a (u + 1) n (w1.drewN j)) ∧ Mr W5 (putH kb a (u + 1) n (w1.drewN j)) kb gb s' (k + 1) (n1 + 1) (n2 + 1) ∧ Turn (fun x => x = kb) w1 (putH kb a (u + 1) n (w1.drewN j)) := by
  have h1 := h.kp.block (b.block _ h.kp.lt)
  have tw := turned ht
  have h2 : Mh (w1.drewN j) kb (keptF s) n1 := (h1.block (tw.block kb h1.lt (fun e => hne e))).block rfl
  obtain ⟨r1, r2, r3⟩ := h2.putH_run ha hu hn1 n
  rw [hl.new] at r2
  rw [hl.fresh] at hG
  have tr := turned r3
  have t0 : Turn (fun x => x = kb) w1 (putH kb a (u + 1) n (w1.drewN j)) := (Turn.refl (fun x => x = kb) w1).drewN j |>.trans tr (fun _ _ h => h)
  refine ⟨r1, ⟨r2.congr (fun p t _ _ => (hl.kept p t).symm), ?_, (hG.block (t0.block gb hG.lt (fun e => hne e.symm))).congr (fun p t _ _ => (hl.given p t).symm), by have := h.nk; omega, hl.ac, ?_⟩, t0⟩
  · have := h.lv; have := hl.lv; omega
  · exact ((h.turn.trans (Turn.of_below (S := fun _ => False) b) (fun _ _ h => h.elim)).trans tw (fun k _ e => Or.inr e)).trans t0 (fun k _ e => Or.inl e)
theorem model_back {W5 wr Wf w1 : World} {kb gb : Nat} {s : As} {k n1 n2 : Nat} {p t : Int} (hne : kb ≠ gb) (h : Mr W5 wr kb gb s k n1 n2) (b : Below wr.heap.size wr Wf)
    (hK : Mh w1 kb ((keptF s).del p t) (n1 - if (keptF s p t).isSome then 1 else 0)) (ht : Wf.mapTurned w1 kb) (hpos : (keptF s p t).isSome = true → 1 ≤ n1) : ∃ m, Mr W5 w1 kb gb (bk s p t) (k + 1) m n2 := by
  obtain ⟨e1, e2, e3, e4, e5⟩ := backed h.ac p t
  have tw := turned ht
  have h2 := h.gv.block (b.block _ h.gv.lt)
  refine ⟨_, hK.congr (fun a c _ _ => (e1 a c).symm), ?_, (h2.block (tw.block gb h2.lt (fun e => hne e.symm))).congr (fun a c _ _ => (e2 a c).symm), by have := h.nk; omega, e3, (h.turn.trans (Turn.of_below (S := fun _ => False) b) (fun _ _ h => h.elim)).trans tw (fun k _ e => Or.inl e)⟩
  have hlv := h.lv
  cases hs : (keptF s p t).isSome with
  | true =>
    have := e4 hs
    have := hpos hs
    simp; omega
  | false =>
    have := e5 hs
    simp; omega
end Go.Proofs.Ytchiajedajabnaa
