/-
  Rows that a call builds by append; a copy of a matrix, and a free one, by the reference.
-/
import Derived.Test.YtgikaheojcpmpabDoorA
namespace Go.Proofs.YtgikaheojcpmpabDoor
open Go.ChangeShapes Go.WideShapes Go.ChangeAt Go.RowKit Go.Maps
set_option linter.unusedVariables false
set_option linter.unusedSimpArgs false
set_option maxRecDepth 20000
def rowV (z : Nat → Int) (k : Nat) : List Value := (List.range k).map fun j => .int .i64 (z j)
theorem rowV_len (z : Nat → Int) (k : Nat) : (rowV z k).length = k := by simp [rowV]
theorem rowV_at (z : Nat → Int) {k j : Nat} (h : j < k) : (rowV z k)[j]? = some (.int .i64 (z j)) := by simp [rowV, h]
theorem rowV_succ (z : Nat → Int) (k : Nat) : rowV z (k + 1) = rowV z k ++ [.int .i64 (z k)] := by simp [rowV, List.range_succ]
/-- A row that the call owns: k numbers of z. -/
def Rw (w : World) (B : Nat) (v : Value) (k : Nat) (z : Nat → Int) : Prop := w.ownsRow B 3 1 v k (rowV z k)
theorem info_parts' {i : Option TypeInfo} {a : Option Value} {b c : Nat} (h : i.map (fun i => (i.zero, i.size, i.bytes)) = some (a, b, c)) : ∃ j, i = some j ∧ j.zero = a ∧ j.size = b ∧ j.bytes = c := by
  obtain ⟨j, e, h2⟩ := Option.map_eq_some_iff.1 h
  simp only [Prod.mk.injEq] at h2
  exact ⟨j, e, h2.1, h2.2.1, h2.2.2⟩
theorem infoI : (Tryd.prog.info? 3).map (fun i => (i.zero, i.size, i.bytes)) = some (some (.int .i64 0), 1, 8) := by kernel_rfl
theorem infoR : (Tryd.prog.info? 36).map (fun i => (i.zero, i.size, i.bytes)) = some (some (.slice none 0 0), 1, 24) := by kernel_rfl
theorem own_lt {w : World} {base : Nat} {e : TypeId} {size : Nat} {v : Value} {n : Nat} {xs : List Value} (h : w.ownsRow base e size v n xs) {i : Nat} (hi : v.ownBlock = some i) : base ≤ i ∧ i < w.heap.size := by
  rcases h.2 with ⟨rfl, _⟩ | ⟨g, cap, cur, rfl, h1, h2, _⟩
  · simp [Value.ownBlock] at hi
  · simp [Value.ownBlock] at hi
    subst hi
    exact ⟨h1, (Array.getElem?_eq_some_iff.1 h2).1⟩
theorem own_same {w w' : World} {base : Nat} {e : TypeId} {size : Nat} {v : Value} {n : Nat} {xs : List Value} (h : w.ownsRow base e size v n xs) (hb : ∀ i, v.ownBlock = some i → w'.heap[i]? = w.heap[i]?) : w'.ownsRow base e size v n xs := by
  refine ⟨h.1, ?_⟩
  rcases h.2 with h2 | ⟨g, cap, cur, rfl, h1, h2, h3⟩
  · exact Or.inl h2
  · exact Or.inr ⟨g, cap, cur, rfl, h1, (hb g rfl).trans h2, h3⟩
theorem own_base {w : World} {base base' : Nat} {e : TypeId} {size : Nat} {v : Value} {n : Nat} {xs : List Value} (h : w.ownsRow base e size v n xs) (hb : base' ≤ base) : w.ownsRow base' e size v n xs := by
  refine ⟨h.1, ?_⟩
  rcases h.2 with h2 | ⟨g, cap, cur, rfl, h1, h2, h3⟩
  · exact Or.inl h2
  · exact Or.inr ⟨g, cap, cur, rfl, Nat.le_trans hb h1, h2, h3⟩
theorem own_shape {w : World} {base : Nat} {e : TypeId} {size : Nat} {v : Value} {n : Nat} {xs : List Value} (h : w.ownsRow base e size v n xs) : ∃ p cap, v = .slice p n cap ∧ n ≤ cap ∧ cap ≤ maxLen ∧ (0 < n → ∃ g, p = some ⟨g, 0, none⟩ ∧ v.ownBlock = some g) := by
  rcases h.2 with ⟨h1, h2⟩ | ⟨g, cap, cur, h1, _, _, h4, h5, _⟩
  · exact ⟨none, 0, by rw [h1, h2], by omega, Nat.zero_le _, fun h => by omega⟩
  · exact ⟨_, cap, h1, h4, h5, fun _ => ⟨g, rfl, by rw [h1]; rfl⟩⟩
theorem own_later {w w' : World} {base : Nat} {e : TypeId} {size : Nat} {v : Value} {n : Nat} {xs : List Value} (h : w.ownsRow base e size v n xs) (hb : Below w.heap.size w w') : w'.ownsRow base e size v n xs :=
  own_same h fun i hi => hb.block i (own_lt h hi).2
theorem Rw.nil (w : World) (B : Nat) (z : Nat → Int) : Rw w B (.slice none 0 0) 0 z := World.ownsRow_nil w B 3 1
theorem Rw.blk {w : World} {B : Nat} {v : Value} {k g : Nat} {z : Nat → Int} (h : Rw w B v k z) (hg : v.ownBlock = some g) : Blk w g k z := by
  rcases h.2 with ⟨rfl, _⟩ | ⟨g', cap, cur, rfl, h1, h2, h3, h4, h5, h6⟩
  · simp [Value.ownBlock] at hg
  · simp [Value.ownBlock] at hg
    subst hg
    refine ⟨cur, _, h2, fun j hj => ?_⟩
    have h7 : (cur.toList.take (k * 1))[j]? = some (.int .i64 (z j)) := by rw [h6]; exact rowV_at z hj
    rw [List.getElem?_take_of_lt (by omega)] at h7
    simpa using h7
/-- Rows that are built one by one. -/
structure Bd (w : World) (B : Nat) (V : Value) (i : Nat) (us : Nat → Value) (L : Nat → Nat) (Z : Nat → Nat → Int) : Prop where
  own : w.ownsRow B 36 1 V i ((List.range i).map us)
  row : ∀ j, j < i → Rw w B (us j) (L j) (Z j)
  ne : ∀ j, j < i → ∀ x, (us j).ownBlock = some x → V.ownBlock ≠ some x
  dis : ∀ j k, j < i → k < i → j ≠ k → ∀ x, (us j).ownBlock = some x → (us k).ownBlock ≠ some x
theorem Bd.nil (w : World) (B : Nat) (us : Nat → Value) (L : Nat → Nat) (Z : Nat → Nat → Int) : Bd w B (.slice none 0 0) 0 us L Z :=
  ⟨World.ownsRow_nil w B 36 1, fun j h => by omega, fun j h => by omega, fun j k h => by omega⟩
theorem Bd.later {w w' : World} {B : Nat} {V : Value} {i : Nat} {us : Nat → Value} {L : Nat → Nat} {Z : Nat → Nat → Int} (h : Bd w B V i us L Z) (hb : Below w.heap.size w w') : Bd w' B V i us L Z :=
  ⟨own_later h.own hb, fun j hj => own_later (h.row j hj) hb, h.ne, h.dis⟩
/-- What a call hands back: a matrix in blocks of its own. -/
def New (w w' : World) (V : Value) (n : Nat) (L : Nat → Nat) (Z : Nat → Nat → Int) : Prop :=
  ∃ p cap b G C, V = .slice p n cap ∧ (0 < n → p = some ⟨b, 0, none⟩) ∧ n ≤ cap ∧ cap ≤ maxLen ∧ OwnM w' w.heap.size b n L G C Z
theorem New.mat {w w' : World} {V : Value} {n : Nat} {L : Nat → Nat} {Z : Nat → Nat → Int} (h : New w w' V n L Z) : MatAt w' V n L Z := by
  obtain ⟨p, cap, b, G, C, rfl, h1, h2, h3, h4⟩ := h
  exact h4.mat h1 h2 h3
theorem New.later {w w' w2 : World} {V : Value} {n : Nat} {L : Nat → Nat} {Z : Nat → Nat → Int} (h : New w w' V n L Z) (hb : Below w'.heap.size w' w2) : New w w2 V n L Z := by
  obtain ⟨p, cap, b, G, C, rfl, h1, h2, h3, h4⟩ := h
  exact ⟨p, cap, b, G, C, rfl, h1, h2, h3, h4.of_below hb⟩
theorem New.congr {w w' : World} {V : Value} {n : Nat} {L M : Nat → Nat} {Z Y : Nat → Nat → Int} (h : New w w' V n L Z) (hl : ∀ i, i < n → L i = M i) (hz : ∀ i, i < n → ∀ k, k < L i → Z i k = Y i k) : New w w' V n M Y := by
  obtain ⟨p, cap, b, G, C, rfl, h1, h2, h3, h4⟩ := h
  exact ⟨p, cap, b, G, C, rfl, h1, h2, h3, h4.congr hl hz⟩
theorem New.from {w0 w w' : World} {V : Value} {n : Nat} {L : Nat → Nat} {Z : Nat → Nat → Int} (h : New w w' V n L Z) (hb : w0.heap.size ≤ w.heap.size) : New w0 w' V n L Z := by
  obtain ⟨p, cap, b, G, C, rfl, h1, h2, h3, h4⟩ := h
  exact ⟨p, cap, b, G, C, rfl, h1, h2, h3, h4.base hb⟩
def capOf : Value → Nat
  | .slice _ _ c => c
  | _ => 0
theorem Bd.new {w w' : World} {V : Value} {n : Nat} {us : Nat → Value} {L : Nat → Nat} {Z : Nat → Nat → Int} (h : Bd w' w.heap.size V n us L Z) : New w w' V n L Z := by
  obtain ⟨p, cap, rfl, h1, h2, h3⟩ := own_shape h.own
  have hb : ∃ b, w.heap.size ≤ b ∧ (0 < n → p = some ⟨b, 0, none⟩ ∧ (Value.slice p n cap).ownBlock = some b) := by
    by_cases h0 : 0 < n
    · obtain ⟨g, e1, e2⟩ := h3 h0
      exact ⟨g, (own_lt h.own e2).1, fun _ => ⟨e1, e2⟩⟩
    · exact ⟨w.heap.size, Nat.le_refl _, fun h => absurd h h0⟩
  obtain ⟨b, hb1, hb2⟩ := hb
  refine ⟨p, cap, b, fun j => (us j).ownBlock.getD 0, fun j => capOf (us j), rfl, fun h0 => (hb2 h0).1, h1, h2, ?_⟩
  have each : ∀ j, j < n → ∃ q c, us j = .slice q (L j) c ∧ L j ≤ c ∧ c ≤ maxLen ∧ (0 < L j → ∃ g, q = some ⟨g, 0, none⟩ ∧ (us j).ownBlock = some g) := fun j hj => own_shape (h.row j hj)
  have blk : ∀ j, j < n → 0 < L j → ∃ g, (us j).ownBlock = some g ∧ (us j).ownBlock.getD 0 = g := fun j hj h0 => by
    obtain ⟨q, c, _, _, _, e⟩ := each j hj
    obtain ⟨g, _, e2⟩ := e h0
    exact ⟨g, e2, by rw [e2]; rfl⟩
  refine ⟨hb1, fun j hj h0 => ?_, fun j hj h0 => ?_, fun j k hj hk hj0 hk0 e => ?_, fun j hj => ?_, fun j hj => ?_, fun j hj h0 => ?_⟩
  · obtain ⟨g, e1, e2⟩ := blk j hj h0
    show w.heap.size ≤ (us j).ownBlock.getD 0
    rw [e2]; exact (own_lt (h.row j hj) e1).1
  · obtain ⟨g, e1, e2⟩ := blk j hj h0
    show (us j).ownBlock.getD 0 ≠ b
    rw [e2]
    rintro rfl
    exact h.ne j hj _ e1 (hb2 (by omega)).2
  · obtain ⟨g, e1, e2⟩ := blk j hj hj0
    obtain ⟨g', e3, e4⟩ := blk k hk hk0
    have e5 : g = g' := by
      have : (us j).ownBlock.getD 0 = (us k).ownBlock.getD 0 := e
      rw [e2, e4] at this; exact this
    subst e5
    by_cases c : j = k
    · exact c
    · exact absurd e3 (h.dis j k hj hk c g e1)
  · obtain ⟨q, c, e, e1, e2, _⟩ := each j hj
    show L j ≤ capOf (us j) ∧ capOf (us j) ≤ maxLen
    rw [e]; exact ⟨e1, e2⟩
  · obtain ⟨q, c, e, e1, e2, e3⟩ := each j hj
    obtain ⟨_, e4⟩ := hb2 (by omega)
    refine ⟨q, ?_, fun h0 => ?_⟩
    · have := h.own.cells e4 j (us j) (by simp [hj])
      rw [Addr.add_mid, Nat.zero_add] at this
      rw [this]
      show some (us j) = some (.slice q (L j) (capOf (us j)))
      rw [e]; rfl
    · obtain ⟨g, e5, e6⟩ := e3 h0
      show q = some ⟨(us j).ownBlock.getD 0, 0, none⟩
      rw [e6]; exact e5
  · obtain ⟨g, e1, e2⟩ := blk j hj h0
    show Blk w' ((us j).ownBlock.getD 0) (L j) (Z j)
    rw [e2]; exact (h.row j hj).blk e1
theorem wp_appI {ops : Array Oper} {rest : List Oper} {o : Oper} {a : Act} {w : World} {Q : Exit → Act → World → Prop} (hgd : o.guard = none) (s x : Operand)
    (ho : o.op = .call { callee := .builtin .append, args := #[s, x], argTypes := #[36, 36] }) (B : Nat) (v : Value) (k : Nat) (z : Nat → Int) (hs : a.eval s = v) (hown : Rw w B v k z) (ad : Addr)
    (hx : a.eval x = .slice (some ad) 1 1) (hn : w.cell? (ad.add 0) = some (.int .i64 (z k))) (hb : (k + 1) * 8 ≤ 140737488355328) (hB : B ≤ w.heap.size)
    (h : ∀ v' w', Rw w' B v' (k + 1) z → w.grownBy w' v.ownBlock → wpList Tryd.prog ops Q rest (a.put o.dst v') w') : wpList Tryd.prog ops Q (o :: rest) a w := by
  obtain ⟨i0, hi, hz0, hz1, hz2⟩ := info_parts' infoI
  refine wpList_append_own_at _ hgd s x 36 ho B 3 i0 (.int .i64 0) 1 8 Tryd.underlying36 hi hz0 hz1 hz2 rfl (by omega) v k (rowV z k) hs hown ad 1 1 [.int .i64 (z k)] hx rfl (fun j u hj => ?_) (fun u hu => ?_) (by unfold maxLen; omega) hb hB ?_
  · cases j with
    | zero => simp at hj; subst hj; exact hn
    | succ j => simp at hj
  · simp at hu; subst hu; rfl
  · intro v' w' q1 q2 _ _
    exact h v' w' (by rw [← rowV_succ] at q1; exact q1) q2
theorem wp_appR {ops : Array Oper} {rest : List Oper} {o : Oper} {a : Act} {w : World} {Q : Exit → Act → World → Prop} (hgd : o.guard = none) (s x : Operand)
    (ho : o.op = .call { callee := .builtin .append, args := #[s, x], argTypes := #[27, 27] }) (B : Nat) (V : Value) (i : Nat) (us : Nat → Value) (L : Nat → Nat) (Z : Nat → Nat → Int) (hs : a.eval s = V) (hbd : Bd w B V i us L Z) (u : Value) (ad : Addr)
    (hx : a.eval x = .slice (some ad) 1 1) (hn : w.cell? (ad.add 0) = some u) (hr : Rw w B u (L i) (Z i)) (hd : ∀ x, u.ownBlock = some x → V.ownBlock ≠ some x ∧ ∀ j, j < i → (us j).ownBlock ≠ some x) (hb : (i + 1) * 24 ≤ 140737488355328) (hB : B ≤ w.heap.size)
    (h : ∀ V' w', Bd w' B V' (i + 1) (fun j => if j = i then u else us j) L Z → w.grownBy w' V.ownBlock → (∀ k, V.ownBlock = some k → B ≤ k) → wpList Tryd.prog ops Q rest (a.put o.dst V') w') : wpList Tryd.prog ops Q (o :: rest) a w := by
  obtain ⟨i0, hi, hz0, hz1, hz2⟩ := info_parts' infoR
  have hul : ∀ x, u.ownBlock = some x → x < w.heap.size := fun x hx => (own_lt hr hx).2
  refine wpList_append_own_at _ hgd s x 27 ho B 36 i0 (.slice none 0 0) 1 24 Tryd.underlying27 hi hz0 hz1 hz2 rfl (by omega) V i ((List.range i).map us) hs hbd.own ad 1 1 [u] hx rfl (fun j y hj => ?_) (fun y hy => ?_) (by unfold maxLen; omega) hb hB ?_
  · cases j with
    | zero => simp at hj; subst hj; exact hn
    | succ j => simp at hj
  · simp at hy; subst hy
    obtain ⟨p, cap, rfl, _⟩ := own_shape hr
    rfl
  · intro v' w' q1 q2 _ q4
    have e : (List.range i).map us ++ [u] = (List.range (i + 1)).map (fun j => if j = i then u else us j) := by
      rw [List.range_succ, List.map_append]
      congr 1
      · refine List.map_congr_left fun j hj => ?_
        have := List.mem_range.1 hj
        rw [if_neg (by omega)]
      · simp
    have keep : ∀ y : Value, (∀ x, y.ownBlock = some x → x < w.heap.size ∧ V.ownBlock ≠ some x) → ∀ x, y.ownBlock = some x → w'.heap[x]? = w.heap[x]? := fun y hy x hx => q2.block x (hy x hx).1 fun c => (hy x hx).2 c.symm
    have old : ∀ j, j < i → ∀ x, (us j).ownBlock = some x → x < w.heap.size ∧ V.ownBlock ≠ some x := fun j hj x hx => ⟨(own_lt (hbd.row j hj) hx).2, hbd.ne j hj x hx⟩
    have new : ∀ x, u.ownBlock = some x → x < w.heap.size ∧ V.ownBlock ≠ some x := fun x hx => ⟨hul x hx, (hd x hx).1⟩
    have nb : ∀ x, x < w.heap.size → V.ownBlock ≠ some x → v'.ownBlock ≠ some x := fun x hx hv c => by
      rcases q4 with q | q
      · rw [q] at c; exact hv c
      · rw [q] at c; simp at c; omega
    refine h v' w' ⟨by rw [← e]; exact q1, fun j hj => ?_, fun j hj x hx => ?_, fun j k hj hk hjk x hx => ?_⟩ q2 (fun k hk => (own_lt hbd.own hk).1)
    · by_cases c : j = i
      · subst c; rw [if_pos rfl]; exact own_same hr (keep u new)
      · rw [if_neg c]; exact own_same (hbd.row j (by omega)) (keep _ (old j (by omega)))
    · by_cases c : j = i
      · subst c; rw [if_pos rfl] at hx; exact nb x (new x hx).1 (new x hx).2
      · rw [if_neg c] at hx; exact nb x (old j (by omega) x hx).1 (old j (by omega) x hx).2
    · by_cases c : j = i
      · subst c
        rw [if_pos rfl] at hx
        rw [if_neg (fun c => hjk c.symm)]
        exact (hd x hx).2 k (by omega)
      · rw [if_neg c] at hx
        by_cases c' : k = i
        · subst c'
          rw [if_pos rfl]
          exact fun hu => (hd x hu).2 j (by omega) hx
        · rw [if_neg c']
          exact hbd.dis j k (by omega) (by omega) hjk x hx
end Go.Proofs.YtgikaheojcpmpabDoor
