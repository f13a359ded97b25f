/-
  Operations and their bytes in plain words; rows of bytes that the call owns.
-/
import Derived.Test.YtepgkemnpcadiaaO
import Derived.Test.YtepgkemnpcadiaaD
import Derived.Deep.AppendLies
import Derived.Maps.OwnSet
import Derived.Maps.AppendAt
import Derived.Laws.OwnMore
import Derived.SizedLaws
import Derived.Lib.AppendStr
import Derived.Laws.IdiomStrings
import Derived.Deep.RegionWith
namespace Go.Proofs.Ytepgkemnpcadiaa
open Go.ChangeShapes Go.WideShapes Go.ChangeAt Go.RowKit Go.Maps
set_option linter.unusedVariables false
set_option linter.unusedSimpArgs false
theorem hid {P : Prop} (h : P) : Hid P := h
/-- A long number's bytes. -/
def lng (n : Nat) : List UInt8 := if n < 128 then [UInt8.ofNat n] else UInt8.ofNat (128 + n % 128) :: lng (n / 128)
  termination_by n
  decreasing_by omega
theorem lng_lt {n : Nat} (h : n < 128) : lng n = [UInt8.ofNat n] := by rw [lng, if_pos h]
theorem lng_ge {n : Nat} (h : ¬ n < 128) : lng n = UInt8.ofNat (128 + n % 128) :: lng (n / 128) := by rw [lng, if_neg h]
theorem lng_len : ∀ (k n : Nat), n < 128 ^ k → (lng n).length ≤ max k 1
  | 0, n, h => by
    have : n = 0 := by simpa using h
    subst this
    rw [lng_lt (by omega)]; exact Nat.le_refl _
  | k + 1, n, h => by
    by_cases c : n < 128
    · rw [lng_lt c]; simp
    · rw [lng_ge c]
      have h2 : n / 128 < 128 ^ k := Nat.div_lt_of_lt_mul (by rw [Nat.mul_comm, ← Nat.pow_succ]; exact h)
      have := lng_len k (n / 128) h2
      have hk : k ≠ 0 := by intro e; subst e; simp at h2; omega
      simp; omega
theorem lng_10 {n : Nat} (h : n < 9223372036854775808) : (lng n).length ≤ 10 := lng_len 10 n (by omega)
/-- A number as one that is not below 0. -/
def fld (z : Int) : Nat := if z < 0 then (-2 * z - 1).toNat else (2 * z).toNat
def txb (s : ByteArray) : List UInt8 := UInt8.ofNat s.size :: s.data.toList
def evb (v : Vl) : List UInt8 := UInt8.ofNat v.k.toNat :: (if v.k = 2 then txb v.s else lng (fld v.n))
/-- Cells of bytes. -/
def bc (l : List UInt8) : List Value := l.map fun b => Value.int .u8 b.toNat
theorem bc_app (a b : List UInt8) : bc (a ++ b) = bc a ++ bc b := List.map_append
theorem bc_len (l : List UInt8) : (bc l).length = l.length := List.length_map _
theorem bc_at {l : List UInt8} {j : Nat} (h : j < l.length) : (bc l)[j]? = some (.int .u8 (l[j].toNat : Int)) := by simp [bc, h]
def BO (w : World) (B : Nat) (v : Value) (l : List UInt8) : Prop := w.ownsRow B 5 1 v l.length (bc l)
/-- Bytes that are read, wherever they lie. -/
def BA (w : World) (v : Value) (l : List UInt8) : Prop :=
  ∃ p cap, v = .slice p l.length cap ∧ l.length ≤ cap ∧ cap ≤ maxLen ∧ (0 < l.length → ∃ g off, p = some ⟨g, off, none⟩ ∧ ∀ j (hj : j < l.length), g < w.heap.size ∧ w.cell? ⟨g, off + j, none⟩ = some (.int .u8 (l[j].toNat : Int)))
theorem BO.nil (w : World) (B : Nat) : BO w B (.slice none 0 0) [] := World.ownsRow_nil _ _ _ _
theorem BO.ba {w : World} {B : Nat} {v : Value} {l : List UInt8} (h : BO w B v l) : BA w v l := by
  have h0 := h
  unfold BO at h
  rcases h.2 with ⟨h1, h2⟩ | ⟨g, cap, cur, rfl, h1, h2, h3, h4, h5⟩
  · exact ⟨none, 0, by rw [h1, h2], by omega, Nat.zero_le _, fun c => by omega⟩
  · have hlt := (Array.getElem?_eq_some_iff.1 h2).1
    refine ⟨_, cap, rfl, h3, h4, fun _ => ⟨g, 0, rfl, fun j hj => ⟨hlt, ?_⟩⟩⟩
    rw [Nat.zero_add, h.cellAt _ (by omega), bc_at hj]
theorem BO.shape {w : World} {B : Nat} {v : Value} {l : List UInt8} (h : BO w B v l) : ∃ p cap, v = .slice p l.length cap := by
  obtain ⟨p, cap, h, _⟩ := h.ba
  exact ⟨p, cap, h⟩
theorem BO.shape3 {w : World} {B : Nat} {v : Value} {l : List UInt8} (h : BO w B v l) : ∃ p n cap, v = .slice p n cap := by
  obtain ⟨p, cap, h, _⟩ := h.ba
  exact ⟨p, _, cap, h⟩
theorem BA.below {w w' : World} {B : Nat} {v : Value} {l : List UInt8} (h : BA w v l) (b : Below w.heap.size w w') : BA w' v l := by
  obtain ⟨p, cap, h1, h2, h3, h4⟩ := h
  refine ⟨p, cap, h1, h2, h3, fun c => ?_⟩
  obtain ⟨g, off, hp, hc⟩ := h4 c
  refine ⟨g, off, hp, fun j hj => ?_⟩
  obtain ⟨q1, q2⟩ := hc j hj
  refine ⟨Nat.lt_of_lt_of_le q1 b.size, ?_⟩
  rw [b.cell q1]
  exact q2
theorem BO.below {w w' : World} {B : Nat} {v : Value} {l : List UInt8} (h : BO w B v l) (b : Below w.heap.size w w') : BO w' B v l := by
  unfold BO at *
  refine ⟨h.1, ?_⟩
  rcases h.2 with h2 | ⟨g, cap, cur, rfl, h1, h2, h3⟩
  · exact Or.inl h2
  · exact Or.inr ⟨g, cap, cur, rfl, h1, (b.block g (Array.getElem?_eq_some_iff.1 h2).1).trans h2, h3⟩
theorem BO.weak {w : World} {B B' : Nat} {v : Value} {l : List UInt8} (h : BO w B v l) (hb : B' ≤ B) : BO w B' v l := by
  unfold BO at *
  refine ⟨h.1, ?_⟩
  rcases h.2 with h2 | ⟨g, cap, cur, rfl, h1, h2, h3⟩
  · exact Or.inl h2
  · exact Or.inr ⟨g, cap, cur, rfl, by omega, h2, h3⟩
theorem BO.one (W : World) (B : Nat) (c : UInt8) (x : Int) (hx : x = c.toNat) (hB : B ≤ W.heap.size) : BO (W.alloc (.cells #[.int .u8 x] 5)) B (.slice (some ⟨W.heap.size, 0, none⟩) 1 1) [c] := by
  subst hx
  exact World.ownsRow_lit W #[.int .u8 (c.toNat : Int)] 1 hB (by unfold maxLen; omega) rfl
theorem infoB : (Try.prog.info? 5).map (fun i => (i.zero, i.size, i.bytes)) = some (some (.int .u8 0), 1, 1) := by kernel_rfl
theorem u8w (n : Int) (m : Nat) (h : n = m) (hm : m < 256) : IntKind.u8.wrap n = ((UInt8.ofNat m).toNat : Int) := by
  subst h
  rw [UInt8.toNat_ofNat_of_lt' (by simpa using hm)]
  unfold IntKind.wrap
  simp [IntKind.bits, IntKind.signed]
  omega
/-- What the call's own row grew into: other blocks stay. -/
def Grw (w : World) (v : Value) (w' : World) (v' : Value) : Prop := w.grownBy w' v.ownBlock ∧ ∀ k, v'.ownBlock = some k → v.ownBlock = some k ∨ w.heap.size ≤ k
theorem Grw.refl (w : World) (v : Value) : Grw w v w v := ⟨⟨rfl, rfl, rfl, Nat.le_refl _, fun _ _ _ => rfl⟩, fun _ h => Or.inl h⟩
theorem Grw.trans {w w1 w2 : World} {v v1 v2 : Value} (h : Grw w v w1 v1) (h2 : Grw w1 v1 w2 v2) : Grw w v w2 v2 := by
  refine ⟨⟨h2.1.os.trans h.1.os, h2.1.tape.trans h.1.tape, h2.1.output.trans h.1.output, Nat.le_trans h.1.size h2.1.size, fun k hk hne => ?_⟩, fun k hk => ?_⟩
  · refine (h2.1.block k (Nat.lt_of_lt_of_le hk h.1.size) fun e => ?_).trans (h.1.block k hk hne)
    rcases h.2 k e.symm with h3 | h3
    · exact hne h3.symm
    · omega
  · rcases h2.2 k hk with h3 | h3
    · exact h.2 k h3
    · exact Or.inr (Nat.le_trans h.1.size h3)
theorem Grw.bel {w w' : World} {v v' : Value} {B : Nat} {l : List UInt8} (h : Grw w v w' v') (hv : BO w B v l) (hB : B ≤ w.heap.size) : Below B w w' :=
  (Below.refl B w).grown h.1 hB (fun k hk => (World.ownsRow.lt hv k hk).1)
theorem Grw.cell {w w' : World} {v v' : Value} {g j : Nat} {x : Value} (h : Grw w v w' v') (hc : w.cell? ⟨g, j, none⟩ = some x) (hne : some g ≠ v.ownBlock) : w'.cell? ⟨g, j, none⟩ = some x := h.1.cell hc hne
/-- One byte behind a row. -/
theorem wp_push {ops : Array Oper} {rest : List Oper} {o : Oper} {a : Act} {Q : Exit → Act → World → Prop} (hgd : o.guard = none) (s x : Operand)
    (ho : o.op = .call { callee := .builtin .append, args := #[s, x], argTypes := #[32, 32] }) (W : World) (B : Nat) (v : Value) (l : List UInt8) (hs : a.eval s = v) (h : BO W B v l)
    {gx : Nat} (hx : a.eval x = .slice (some ⟨gx, 0, none⟩) 1 1) (hgx : gx = W.heap.size) (c : UInt8) (z : Int) (hz : z = c.toNat) (hl : l.length < 140000000000000) (hB : B ≤ W.heap.size)
    (k : ∀ v' w', BO w' B v' (l ++ [c]) → Grw W v w' v' → wpList Try.prog ops Q rest (a.put o.dst v') w') :
    wpList Try.prog ops Q (o :: rest) a (W.alloc (.cells #[.int .u8 z] 5)) := by
  subst hz hgx
  obtain ⟨i0, a1, a2, a3, a4⟩ := info_parts infoB
  refine wpList_append_own_at _ hgd s x 32 ho B 5 i0 (.int .u8 0) 1 1 Try.underlying32 a1 a2 a3 a4 rfl (by omega) v l.length (bc l) hs (World.ownsRow.alloc h _) ⟨W.heap.size, 0, none⟩ 1 1 [.int .u8 (c.toNat : Int)] hx (by rfl) (World.news_of_block (heap_alloc_new _ _)) (by simp [Value.oneCell']) (by unfold maxLen; omega) (by omega) (by simp; omega) ?_
  intro v' w' hown hgrow _ hat
  refine k v' w' (by unfold BO; rw [List.length_append, bc_app]; exact hown) ?_
  have ha := World.grownBy_alloc W (.cells #[.int .u8 (c.toNat : Int)] 5) v.ownBlock
  refine ⟨⟨hgrow.os.trans ha.os, hgrow.tape.trans ha.tape, hgrow.output.trans ha.output, Nat.le_trans ha.size hgrow.size, fun k hk hne => (hgrow.block k (Nat.lt_of_lt_of_le hk ha.size) hne).trans (ha.block k hk hne)⟩, fun k hk => ?_⟩
  rcases hat with h3 | h3
  · exact Or.inl (h3 ▸ hk)
  · rw [h3] at hk
    cases hk
    exact Or.inr ha.size
/-- A text behind a row. -/
theorem wp_pushS {ops : Array Oper} {rest : List Oper} {o : Oper} {a : Act} {Q : Exit → Act → World → Prop} (hgd : o.guard = none) (s x : Operand)
    (ho : o.op = .call { callee := .builtin .append, args := #[s, x], argTypes := #[32, 9] }) (W : World) (B : Nat) (v : Value) (l : List UInt8) (hs : a.eval s = v) (h : BO W B v l)
    (y : ByteArray) (hx : a.eval x = .string y) (hl : l.length + y.size < 140000000000000) (hB : B ≤ W.heap.size)
    (k : ∀ v' w', BO w' B v' (l ++ y.data.toList) → Below B W w' → wpList Try.prog ops Q rest (a.put o.dst v') w') :
    wpList Try.prog ops Q (o :: rest) a W := by
  obtain ⟨i0, a1, a2, a3, a4⟩ := info_parts infoB
  refine Lib.wpList_append_own_string _ hgd s x 32 9 ho B 5 i0 Try.underlying32 Try.underlying9 a1 a2 a3 a4 v l.length (bc l) hs h y hx (by unfold maxLen; omega) (by omega) hB ?_
  intro v' w' hown hgrow _
  refine k v' w' (by unfold BO; rw [List.length_append, bc_app]; simpa [bc, Lib.strCells] using hown) ?_
  exact (Below.refl B W).grown hgrow hB (fun k hk => (World.ownsRow.lt h k hk).1)
end Go.Proofs.Ytepgkemnpcadiaa
