/-
  Rows of tokens that the call owns; a copy of tokens that came in.
-/
import Derived.Test.YtnlmkdncifijlaaDoorA
import Derived.Deep.AppendLies
import Derived.Maps.OwnSet
import Derived.Maps.AppendAt
import Derived.Laws.OwnMore
import Derived.SizedLaws
import Derived.Test.YtnlmkdncifijlaaDoorFr
namespace Go.Proofs.YtnlmkdncifijlaaDoor
open Go.ChangeShapes Go.WideShapes Go.ChangeAt Go.RowKit Go.Maps Go.Deep
set_option linter.unusedVariables false
set_option linter.unusedSimpArgs false
def encT (v : Tk) : List Value := [.int .i64 v.k, .string v.s, .int .i64 v.n]
theorem length_flatT (l : List Tk) : (l.flatMap encT).length = l.length * 3 := by
  induction l with
  | nil => rfl
  | cons t r ih => rw [List.flatMap_cons, List.length_append, ih]; simp [encT]; omega
theorem flatT_at : ∀ (l : List Tk) (j : Nat) (hj : j < l.length), (l.flatMap encT)[j * 3]? = some (.int .i64 l[j].k) ∧ (l.flatMap encT)[j * 3 + 1]? = some (.string l[j].s) ∧ (l.flatMap encT)[j * 3 + 2]? = some (.int .i64 l[j].n)
  | [], j, h => by simp at h
  | t :: r, 0, h => by simp [encT]
  | t :: r, j + 1, h => by
    have hl : (encT t).length = 3 := rfl
    obtain ⟨h1, h2, h3⟩ := flatT_at r j (by simpa using h)
    rw [List.flatMap_cons]
    refine ⟨?_, ?_, ?_⟩
    · rw [List.getElem?_append_right (by omega), show (j + 1) * 3 - (encT t).length = j * 3 by rw [hl]; omega]; exact h1
    · rw [List.getElem?_append_right (by omega), show (j + 1) * 3 + 1 - (encT t).length = j * 3 + 1 by rw [hl]; omega]; exact h2
    · rw [List.getElem?_append_right (by omega), show (j + 1) * 3 + 2 - (encT t).length = j * 3 + 2 by rw [hl]; omega]; exact h3
theorem toks_own {w : World} {base : Nat} {e : TypeId} {v : Value} {l : List Tk} (h : w.ownsRow base e 3 v l.length (l.flatMap encT)) : TokensAt w v l := by
  rcases h.2 with ⟨h1, h2⟩ | ⟨g, cap, cur, rfl, h1, h2, h3, h4, _⟩
  · exact ⟨none, 0, by rw [h1, h2], by omega, Nat.zero_le _, fun c => by omega⟩
  · have hlt := (Array.getElem?_eq_some_iff.1 h2).1
    refine ⟨_, cap, rfl, h3, h4, fun _ => ⟨g, 0, rfl, fun j hj => ?_⟩⟩
    obtain ⟨q0, q1, q2⟩ := flatT_at l j hj
    rw [Nat.zero_add]
    refine ⟨hlt, ?_, ?_, ?_⟩ <;> rw [h.cellAt _ (by omega)] <;> assumption
theorem oneT (l : List Tk) : ∀ u ∈ l.flatMap encT, u.oneCell' = true := by
  intro u hu
  obtain ⟨t, _, ht⟩ := List.mem_flatMap.1 hu
  simp [encT] at ht
  rcases ht with rfl | rfl | rfl <;> rfl
theorem infoT : (Tryd.prog.info? 65).map (fun i => (i.zero, i.size, i.bytes)) = some (some (.agg #[.int .i64 0, .string ByteArray.empty, .int .i64 0]), 3, 32) := by kernel_rfl
theorem run_copy (w : World) (ty : TypeId) {v : Value} {l : List Tk} (hd : TokensAt w v l) (hb : l.length * 32 ≤ 140737488355328) :
    ∃ v' w', (Builtin.append_ #[22, 22] ty #[.slice none 0 0, v]).run Tryd.prog w = .ok v' w' ∧ w'.ownsRow w.heap.size 65 3 v' l.length (l.flatMap encT) ∧ Below w.heap.size w w' := by
  obtain ⟨i0, hi, hz0, hz1, hz2⟩ := info_parts infoT
  obtain ⟨p, cap, rfl, _, _, hp⟩ := hd
  by_cases h0 : l.length = 0
  · have e : l = [] := List.eq_nil_of_length_eq_zero h0
    subst e
    refine ⟨.slice none 0 0, w, ?_, by simpa using World.ownsRow_nil w w.heap.size 65 3, Below.refl _ _⟩
    cases p <;> simp [Builtin.append_, run_underlying Tryd.underlying22, sizeOf, typeInfo, hi, Builtin.lenOf, Builtin.firstCells, loadCells, loadCellsFrom]
  · obtain ⟨g, off, rfl, hc⟩ := hp (by omega)
    obtain ⟨v', w', r1, r2, r3, _, r5⟩ := run_append_own_at (P := Tryd.prog) w w.heap.size 22 ty 65 i0 (.agg #[.int .i64 0, .string ByteArray.empty, .int .i64 0]) 3 32 Tryd.underlying22 hi hz0 hz1 hz2 rfl (by omega) (.slice none 0 0) 0 [] (World.ownsRow_nil w w.heap.size 65 3) ⟨g, off, none⟩ l.length cap (l.flatMap encT) (length_flatT _) (fun r u hr => by
      have hlt := (List.getElem?_eq_some_iff.1 hr).1
      rw [length_flatT] at hlt
      have hq : r / 3 < l.length := by omega
      obtain ⟨a0, a1, a2⟩ := flatT_at l (r / 3) hq
      obtain ⟨_, c0, c1, c2⟩ := hc (r / 3) hq
      rw [Addr.add_mid]
      rcases (by omega : r = r / 3 * 3 ∨ r = r / 3 * 3 + 1 ∨ r = r / 3 * 3 + 2) with h | h | h
      · rw [h] at hr ⊢; rw [a0] at hr; cases hr; exact c0
      · rw [h] at hr ⊢; rw [a1] at hr; cases hr; rw [← Nat.add_assoc]; exact c1
      · rw [h] at hr ⊢; rw [a2] at hr; cases hr; rw [← Nat.add_assoc]; exact c2) (oneT l) (by unfold maxLen; omega) (by omega) (Nat.le_refl _)
    refine ⟨v', w', r1, by simpa using r2, ?_⟩
    exact (Below.refl _ _).grown r3 (Nat.le_refl _) (fun k hk => by cases hk)
theorem step_copy (w : World) {ops : Array Oper} {o : Oper} {a : Act} {K : Act → World → Prop} {Q : Exit → Act → World → Prop} {E : Prop} (hgd : o.guard = none) (s x : Operand)
    (ho : o.op = .call { callee := .builtin .append, args := #[s, x], argTypes := #[22, 22] }) (v : Value) (l : List Tk) (hs : a.eval s = .slice none 0 0) (hx : a.eval x = v) (hd : TokensAt w v l) (hb : l.length * 32 ≤ 140737488355328)
    (h : ∀ v' w', w'.ownsRow w.heap.size 65 3 v' l.length (l.flatMap encT) → Below w.heap.size w w' → K (a.put o.dst v') w') :
    if Region.wanted o (yielded ops a.tmps) = true then Oper.wp Tryd.prog o a w K Q else E := by
  have hw : Region.wanted o (yielded ops a.tmps) = true := by simp [Region.wanted, hgd]
  rw [if_pos hw]
  obtain ⟨v', w', hr, h2, h3⟩ := run_copy w o.type hd hb
  unfold Oper.wp execOp
  simp only [ho, resolve, invoke, builtin, Sem.run_bind, Sem.run_pure, Result.andThen_ok, List.map_toArray, List.map_cons, List.map_nil, hs, hx, hr]
  exact h v' w' h2 h3
theorem own_shape {w : World} {base : Nat} {e : TypeId} {size : Nat} {v : Value} {n : Nat} {xs : List Value} (h : w.ownsRow base e size v n xs) : ∃ p cap, v = .slice p n cap := by
  rcases h.2 with ⟨h1, h2⟩ | ⟨g, cap, cur, h1, _⟩
  · exact ⟨none, 0, by rw [h1, h2]⟩
  · exact ⟨_, cap, h1⟩
theorem owns_block {w w' : World} {base : Nat} {e : TypeId} {size : Nat} {v : Value} {n : Nat} {xs : List Value} (h : w.ownsRow base e size v n xs) (hb : ∀ i, v.ownBlock = some i → w'.heap[i]? = w.heap[i]?) : w'.ownsRow base e size v n xs := by
  refine ⟨h.1, ?_⟩
  rcases h.2 with h2 | ⟨g, cap, cur, rfl, h1, h2, h3⟩
  · exact Or.inl h2
  · exact Or.inr ⟨g, cap, cur, rfl, h1, (hb g rfl).trans h2, h3⟩
theorem bytesT : Tryd.prog.bytesOf 65 = 32 := by kernel_rfl
theorem slice_len {H : Type} {enc : TypeId × Value → H} {W : World} {base : Nat} {spare : Nat → Bool} {held : Bool} {t e : TypeId} {a : Option Addr} {len cap : Nat} {d : DataW H} {p : List MemPlace} (ht : Tryd.prog.underlying t = some (.slice e))
    (h : DataW.Trod enc Tryd.prog W base spare held t (.slice a len cap) d p) : len = 0 ∨ ∃ elems sp, d = .slice elems sp ∧ elems.length = len := by
  obtain ⟨fuel, hf⟩ := h
  rcases open_slice ht hf with ⟨hcs, _⟩ | ⟨x, l, c, m, n, D, Pl, hcs, _, hl, hm, hme, hx, hcell⟩
  · simp [Value.cells] at hcs
    exact Or.inl hcs.2.1
  · simp [Value.cells] at hcs
    obtain ⟨rfl, rfl, rfl⟩ := hcs
    simp at hx
    exact Or.inr ⟨_, _, hx.1, by simp⟩
theorem toks_bound {H : Type} {enc : TypeId × Value → H} {W : World} {base : Nat} {spare : Nat → Bool} {held : Bool} {v : Value} {l : List Tk} {d : DataW H} {p : List MemPlace} {ts : List TypeId} {ds : List (DataW H)} {j : Nat}
    (hv : TokensAt W v l) (h : DataW.Trod enc Tryd.prog W base spare held 22 v d p) (hsz : (DataW.weightsEach Tryd.prog ts ds).all (· ≤ reachBytes) = true) (h1 : ts[j]? = some 22) (h2 : ds[j]? = some d) : l.length * 32 ≤ 140737488355328 := by
  obtain ⟨a, cap, rfl, _⟩ := hv
  generalize l.length = len at h ⊢
  rcases slice_len Tryd.underlying22 h with rfl | ⟨elems, sp, rfl, rfl⟩
  · omega
  · have := sized_slice hsz h1 h2 Tryd.underlying22
    rw [bytesT] at this
    have hr : reachBytes ≤ 140737488355328 := by decide
    have e : elems.length * 32 ≤ (elems.length + sp.length) * 32 := Nat.mul_le_mul_right _ (by omega)
    omega
end Go.Proofs.YtnlmkdncifijlaaDoor
