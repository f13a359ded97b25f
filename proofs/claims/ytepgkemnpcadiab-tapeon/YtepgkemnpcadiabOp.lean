/-
  Two operations of raw numbers; one behind an Advance.
-/
import Derived.Test.YtepgkemnpcadiabIn
namespace Go.Proofs.Ytepgkemnpcadiab
open Go.ChangeShapes Go.WideShapes Go.ChangeAt Go.RowKit Go.Maps
set_option linter.unusedVariables false
set_option linter.unusedSimpArgs false
set_option maxRecDepth 20000
/-- A struct behind a row. -/
theorem wp_pushR (T LT : TypeId) (zv : Value) (z by_ : Nat) (hT : (Try.prog.info? T).map (fun i => (i.zero, i.size, i.bytes)) = some (some zv, z, by_)) (hLT : Try.prog.underlying LT = some (.slice T)) (hzs : zv.cells.size = z) (hz : 0 < z) (hby : by_ ≤ 1000)
    {ops : Array Oper} {rest : List Oper} {o : Oper} {a : Act} {Q : Exit → Act → World → Prop} (hgd : o.guard = none) (s x : Operand) (ho : o.op = .call { callee := .builtin .append, args := #[s, x], argTypes := #[LT, LT] }) (W : World) (B : Nat) (v : Value) (n : Nat) (xs : List Value) (hs : a.eval s = v) (h : W.ownsRow B T z v n xs)
    {gx : Nat} (hx : a.eval x = .slice (some ⟨gx, 0, none⟩) 1 1) (hgx : gx = W.heap.size) (cs : Array Value) (hcs : cs.size = z) (h1 : cs.toList.all (·.oneCell') = true) (hn : n < 100000) (hB : B ≤ W.heap.size)
    (k : ∀ v' w', w'.ownsRow B T z v' (n + 1) (xs ++ cs.toList) → Grw W v w' v' → wpList Try.prog ops Q rest (a.put o.dst v') w') :
    wpList Try.prog ops Q (o :: rest) a (W.alloc (.cells cs T)) := by
  subst hgx
  obtain ⟨i0, a1, a2, a3, a4⟩ := info_parts hT
  have hmul : (n + 1) * by_ ≤ 100000 * 1000 := Nat.mul_le_mul (by omega) hby
  refine wpList_append_own_at _ hgd s x LT ho B T i0 zv z by_ hLT a1 a2 a3 a4 hzs hz v n xs hs (World.ownsRow.alloc h _) ⟨W.heap.size, 0, none⟩ 1 1 cs.toList hx (by simp [hcs]) (fun j u hj => by rw [Addr.add_mid, Nat.zero_add]; exact cell_new rfl (by simpa using hj)) (List.all_eq_true.1 h1) (by unfold maxLen; omega) (by omega) (by simp; omega) ?_
  intro v' w' hown hgrow _ hat
  refine k v' w' hown ?_
  have ha := World.grownBy_alloc W (.cells cs T) v.ownBlock
  refine ⟨⟨hgrow.os.trans ha.os, hgrow.tape.trans ha.tape, hgrow.output.trans ha.output, Nat.le_trans ha.size hgrow.size, fun k hk hne => (hgrow.block k (Nat.lt_of_lt_of_le hk ha.size) hne).trans (ha.block k hk hne)⟩, fun k hk => ?_⟩
  rcases hat with h3 | h3
  · exact Or.inl (h3 ▸ hk)
  · rw [h3] at hk
    cases hk
    exact Or.inr ha.size
theorem infoOp : (Try.prog.info? 44).map (fun i => (i.zero, i.size, i.bytes)) = some (some (.agg #[.int .i64 0, .string ByteArray.empty, .int .i64 0, .int .i64 0, .slice none 0 0, .int .i64 0, .bool false]), 7, 80) := by kernel_rfl
end Go.Proofs.Ytepgkemnpcadiab
