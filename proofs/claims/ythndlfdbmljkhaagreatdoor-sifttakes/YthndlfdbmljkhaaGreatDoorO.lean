/-
  Rows of tokens that the call owns; a copy of tokens that came in.
-/
import Derived.Test.YthndlfdbmljkhaaGreatDoorA
import Derived.Deep.AppendLies
import Derived.Maps.OwnSet
import Derived.Maps.AppendAt
import Derived.Laws.OwnMore
import Derived.SizedLaws
import Derived.Test.YthndlfdbmljkhaaGreatDoorFr
namespace Go.Proofs.YthndlfdbmljkhaaGreatDoor
open Go.ChangeShapes Go.WideShapes Go.ChangeAt Go.RowKit Go.Maps Go.Deep
set_option linter.unusedVariables false
set_option linter.unusedSimpArgs false
def encT (v : Tk) : List Value := [.int .i64 v.k, .string v.s, .int .i64 v.n]
theorem length_flatT (l : List Tk) : (l.flatMap encT).length = l.length * 3 := by
  induction l with
  | nil => rfl
  | cons t r ih => rw [List.flatMap_cons, List.length_append, ih]; simp [encT]; omega
theorem flatT_at : ∀ (l : List Tk) (j : Nat) (hj : j < l.length), (l.flatMap encT)[j * 3]? = some (.int .i64 l[j].k) ∧ (l.flatMap encT)[j * 3 + 1]? = some (.string l[j].s) ∧ (l.flatMap encT)[j * 3 + 2]? = some (.int .i64 l[j].n)
  | [], j, h => by simp at h
  | t :: r, 0, h => by simp [encT]
  | t :: r, j + 1, h => by
    have hl : (encT t).length = 3 := rfl
    obtain ⟨h1, h2, h3⟩ := flatT_at r j (by simpa using h)
    rw [List.flatMap_cons]
    refine ⟨?_, ?_, ?_⟩
    · rw [List.getElem?_append_right (by omega), show (j + 1) * 3 - (encT t).length = j * 3 by rw [hl]; omega]; exact h1
    · rw [List.getElem?_append_right (by omega), show (j + 1) * 3 + 1 - (encT t).length = j * 3 + 1 by rw [hl]; omega]; exact h2
    · rw [List.getElem?_append_right (by omega), show (j + 1) * 3 + 2 - (encT t).length = j * 3 + 2 by rw [hl]; omega]; exact h3
theorem toks_own {w : World} {base : Nat} {e : TypeId} {v : Value} {l : List Tk} (h : w.ownsRow base e 3 v l.length (l.flatMap encT)) : TokensAt w v l := by
  rcases h.2 with ⟨h1, h2⟩ | ⟨g, cap, cur, rfl, h1, h2, h3, h4, _⟩
  · exact ⟨none, 0, by rw [h1, h2], by omega, Nat.zero_le _, fun c => by omega⟩
  · have hlt := (Array.getElem?_eq_some_iff.1 h2).1
    refine ⟨_, cap, rfl, h3, h4, fun _ => ⟨g, 0, rfl, fun j hj => ?_⟩⟩
    obtain ⟨q0, q1, q2⟩ := flatT_at l j hj
    rw [Nat.zero_add]
    refine ⟨hlt, ?_, ?_, ?_⟩ <;> rw [h.cellAt _ (by omega)] <;> assumption
theorem oneT (l : List Tk) : ∀ u ∈ l.flatMap encT, u.oneCell' = true := by
  intro u hu
  obtain ⟨t, _, ht⟩ := List.mem_flatMap.1 hu
  simp [encT] at ht
  rcases ht with rfl | rfl | rfl <;> rfl
theorem own_shape {w : World} {base : Nat} {e : TypeId} {size : Nat} {v : Value} {n : Nat} {xs : List Value} (h : w.ownsRow base e size v n xs) : ∃ p cap, v = .slice p n cap := by
  rcases h.2 with ⟨h1, h2⟩ | ⟨g, cap, cur, h1, _⟩
  · exact ⟨none, 0, by rw [h1, h2]⟩
  · exact ⟨_, cap, h1⟩
theorem owns_block {w w' : World} {base : Nat} {e : TypeId} {size : Nat} {v : Value} {n : Nat} {xs : List Value} (h : w.ownsRow base e size v n xs) (hb : ∀ i, v.ownBlock = some i → w'.heap[i]? = w.heap[i]?) : w'.ownsRow base e size v n xs := by
  refine ⟨h.1, ?_⟩
  rcases h.2 with h2 | ⟨g, cap, cur, rfl, h1, h2, h3⟩
  · exact Or.inl h2
  · exact Or.inr ⟨g, cap, cur, rfl, h1, (hb g rfl).trans h2, h3⟩
theorem slice_len {H : Type} {enc : TypeId × Value → H} {W : World} {base : Nat} {spare : Nat → Bool} {held : Bool} {t e : TypeId} {a : Option Addr} {len cap : Nat} {d : DataW H} {p : List MemPlace} (ht : Tryz.prog.underlying t = some (.slice e))
    (h : DataW.Trod enc Tryz.prog W base spare held t (.slice a len cap) d p) : len = 0 ∨ ∃ elems sp, d = .slice elems sp ∧ elems.length = len := by
  obtain ⟨fuel, hf⟩ := h
  rcases open_slice ht hf with ⟨hcs, _⟩ | ⟨x, l, c, m, n, D, Pl, hcs, _, hl, hm, hme, hx, hcell⟩
  · simp [Value.cells] at hcs
    exact Or.inl hcs.2.1
  · simp [Value.cells] at hcs
    obtain ⟨rfl, rfl, rfl⟩ := hcs
    simp at hx
    exact Or.inr ⟨_, _, hx.1, by simp⟩
end Go.Proofs.YthndlfdbmljkhaaGreatDoor
