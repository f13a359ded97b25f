/-
  Data that lie anywhere in memory and are only read; elements of rows, one by one.
-/
import Derived.Test.YthndlfdbmljkhaaGreatDoorG2
import Derived.Test.YthndlfdbmljkhaaGreatDoorA
namespace Go.Proofs.YthndlfdbmljkhaaGreatDoor.Chk
open Go.ChangeShapes Go.WideShapes Go.ChangeAt Go.RowKit Go.Maps
set_option linter.unusedVariables false
set_option linter.unusedSimpArgs false
set_option maxRecDepth 20000
/-- In the world w the value v reads as a datum. -/
inductive Rd (w : World) : Dat → Value → Prop
  | lit (v : Value) : Rd w (.lit v) v
  | nil (e z : Nat) (p : Option Addr) (cap : Nat) : cap ≤ maxLen → Rd w (.row e z []) (.slice p 0 cap)
  | row (e z : Nat) (l : List (List Dat)) (g off cap : Nat) (xs : List Value) : 0 < l.length → l.length ≤ cap → cap ≤ maxLen → w.rangeAt g off xs → l.flatten.length = xs.length →
      (∀ k (hk : k < l.flatten.length), Rd w (l.flatten[k]) (xs.getD k nilV)) → Rd w (.row e z l) (.slice (some ⟨g, off, none⟩) l.length cap)
theorem range_below {w w' : World} {g o : Nat} {l : List Value} (h : w.rangeAt g o l) (hb : Below w.heap.size w w') : w'.rangeAt g o l := fun j x hx => (hb.cell (p := ⟨g, o + j, none⟩) (World.block_lt_of_cell? _ _ (h j x hx))).trans (h j x hx)
theorem Rd.later {w w' : World} {d : Dat} {v : Value} (h : Rd w d v) (hb : Below w.heap.size w w') : Rd w' d v := by
  induction h with
  | lit v => exact .lit v
  | nil e z p cap h => exact .nil e z p cap h
  | row e z l g off cap xs h1 h2 h3 h4 h5 _ ih => exact .row e z l g off cap xs h1 h2 h3 (range_below h4 hb) h5 ih
theorem rd_of_holds {w : World} {S : Nat → Prop} {d : Dat} {v : Value} (h : Holds w S d v) : Rd w d v := by
  induction h with
  | lit v => exact .lit v
  | row e z l v xs h1 h2 h3 h4 ih =>
    have hc := h1
    rcases h1.2 with ⟨rfl, h5⟩ | ⟨ga, cap, cur, rfl, _, _, hn, hx, _⟩
    · obtain rfl : l = [] := List.eq_nil_of_length_eq_zero h5
      exact .nil e z none 0 (Nat.zero_le _)
    · by_cases h0 : 0 < l.length
      · refine .row e z l ga 0 cap xs h0 hn hx (fun j u hu => ?_) h3 ih
        have := hc.cells (g := ga) rfl j u hu
        rw [Addr.add_mid] at this
        simpa using this
      · obtain rfl : l = [] := List.eq_nil_of_length_eq_zero (by omega)
        exact .nil e z _ cap hx
def RdL (w : World) (ds : List Dat) (vs : List Value) : Prop := ds.length = vs.length ∧ ∀ k (hk : k < ds.length), Rd w (ds[k]) (vs.getD k nilV)
theorem RdL.below {w w' : World} {ds : List Dat} {vs : List Value} (h : RdL w ds vs) (hb : Below w.heap.size w w') : RdL w' ds vs := ⟨h.1, fun k hk => (h.2 k hk).later hb⟩
theorem RdL.none {w : World} {vs : List Value} (h : RdL w [] vs) : vs = [] := List.eq_nil_of_length_eq_zero h.1.symm
theorem RdL.one {w : World} {d : Dat} {ds : List Dat} {vs : List Value} (h : RdL w (d :: ds) vs) : ∃ v r, vs = v :: r ∧ Rd w d v ∧ RdL w ds r := by
  cases vs with
  | nil => have := h.1; simp at this
  | cons v r => exact ⟨v, r, rfl, h.2 0 (by simp), by simpa using h.1, fun k hk => h.2 (k + 1) (by simpa using hk)⟩
theorem RdL.nil (w : World) : RdL w [] [] := ⟨rfl, fun k hk => by simp at hk⟩
theorem RdL.cons {w : World} {d : Dat} {v : Value} {ds : List Dat} {vs : List Value} (h : Rd w d v) (hl : RdL w ds vs) : RdL w (d :: ds) (v :: vs) := by
  refine ⟨by simp [hl.1], fun k hk => ?_⟩
  cases k with
  | zero => exact h
  | succ k => exact hl.2 k (by simpa using hk)
theorem RdL.split {w : World} : ∀ {ds es : List Dat} {vs : List Value}, RdL w (ds ++ es) vs → ∃ us rs, vs = us ++ rs ∧ RdL w ds us ∧ RdL w es rs
  | [], es, vs, h => ⟨[], vs, rfl, RdL.nil w, h⟩
  | d :: ds, es, vs, h => by
    obtain ⟨v, r, rfl, h1, h2⟩ := RdL.one h
    obtain ⟨us, rs, rfl, h3, h4⟩ := RdL.split h2
    exact ⟨v :: us, rs, rfl, RdL.cons h1 h3, h4⟩
theorem RdL.drop {w : World} : ∀ (k : Nat) {ds : List Dat} {vs : List Value}, RdL w ds vs → RdL w (ds.drop k) (vs.drop k)
  | 0, ds, vs, h => by simpa using h
  | k + 1, [], vs, h => by rw [RdL.none h]; simpa using RdL.nil w
  | k + 1, d :: ds, vs, h => by
    obtain ⟨v, r, rfl, _, h2⟩ := RdL.one h
    simpa using RdL.drop k h2
theorem rd_lit {w : World} {v u : Value} (h : Rd w (.lit v) u) : u = v := by cases h; rfl
theorem flat_drop {α : Type} {enc : α → List Dat} {z : Nat} (hz : ∀ x, (enc x).length = z) : ∀ (cs : List α) (k : Nat) (hk : k < cs.length), (cs.map enc).flatten.drop (k * z) = enc cs[k] ++ ((cs.drop (k + 1)).map enc).flatten
  | c :: r, 0, _ => by simp
  | c :: r, k + 1, hk => by
    have ih := flat_drop hz r k (by simpa using hk)
    simp only [List.map_cons, List.flatten_cons, List.getElem_cons_succ, List.drop_succ_cons]
    rw [show (k + 1) * z = z + k * z by rw [Nat.add_mul, Nat.one_mul, Nat.add_comm], ← List.drop_drop, List.drop_left' (hz c)]
    exact ih
/-- The elements of a row, one by one, in every later world. -/
def At {α : Type} (enc : α → List Dat) (z : Nat) (w : World) (p : Option Addr) (cs : List α) : Prop := 0 < cs.length → ∃ g off, p = some ⟨g, off, none⟩ ∧ ∀ W, Below w.heap.size w W → ∀ k (hk : k < cs.length), ∃ us, W.rangeAt g (off + k * z) us ∧ RdL W (enc cs[k]) us
theorem rd_row {α : Type} {enc : α → List Dat} {e z : Nat} (hz : ∀ x, (enc x).length = z) {w : World} {v : Value} {cs : List α} (h : Rd w (.row e z (cs.map enc)) v) : ∃ p cap, v = .slice p cs.length cap ∧ (cs.length : Int) ≤ 9223372036854775807 ∧ At enc z w p cs := by
  generalize hd : Dat.row e z (cs.map enc) = d at h
  cases h with
  | lit v => cases hd
  | nil e z p cap h1 =>
    simp only [Dat.row.injEq] at hd
    have h0 : cs.length = 0 := by have := congrArg List.length hd.2.2; simpa using this
    exact ⟨p, cap, by rw [h0], by rw [h0]; decide, fun hp => by omega⟩
  | row e' z' l g off cap xs h1 h2 h3 h4 h5 h6 =>
    simp only [Dat.row.injEq] at hd
    obtain ⟨rfl, rfl, rfl⟩ := hd
    rw [List.length_map] at h1 h2 ⊢
    refine ⟨_, cap, rfl, by unfold maxLen at h3; omega, fun _ => ⟨g, off, rfl, fun W hW k hk => ?_⟩⟩
    have hl : RdL w (cs.map enc).flatten xs := ⟨h5, h6⟩
    have hdr := RdL.drop (k * z) hl
    rw [flat_drop hz cs k hk] at hdr
    obtain ⟨us, rs, e, q1, q2⟩ := RdL.split hdr
    refine ⟨us, range_below (fun j u hu => ?_) hW, q1.below hW⟩
    have hj : j < us.length := (List.getElem?_eq_some_iff.1 hu).1
    have h9 : xs[k * z + j]? = some u := by
      rw [← List.getElem?_drop, e, List.getElem?_append_left hj]
      exact hu
    have := h4 (k * z + j) u h9
    rw [← Nat.add_assoc] at this
    exact this
theorem rdP {w : World} {t : Pt} {vs : List Value} (h : RdL w (encP t) vs) : ∃ v, vs = ptC t.va t.ty t.c.k v t.c.l t.c.r t.w t.n ∧ Rd w (.row 63 14 t.c.sb) v := by
  obtain ⟨v0, r0, rfl, h0, h⟩ := RdL.one h
  obtain ⟨v1, r1, rfl, h1, h⟩ := RdL.one h
  obtain ⟨v2, r2, rfl, h2, h⟩ := RdL.one h
  obtain ⟨v3, r3, rfl, h3, h⟩ := RdL.one h
  obtain ⟨a0, r4, rfl, g0, h⟩ := RdL.one h
  obtain ⟨a1, r4, rfl, g1, h⟩ := RdL.one h
  obtain ⟨a2, r4, rfl, g2, h⟩ := RdL.one h
  obtain ⟨a3, r4, rfl, g3, h⟩ := RdL.one h
  obtain ⟨a4, r4, rfl, g4, h⟩ := RdL.one h
  obtain ⟨a5, r4, rfl, g5, h⟩ := RdL.one h
  obtain ⟨b0, r4, rfl, k0, h⟩ := RdL.one h
  obtain ⟨b1, r4, rfl, k1, h⟩ := RdL.one h
  obtain ⟨b2, r4, rfl, k2, h⟩ := RdL.one h
  obtain ⟨b3, r4, rfl, k3, h⟩ := RdL.one h
  obtain ⟨b4, r4, rfl, k4, h⟩ := RdL.one h
  obtain ⟨b5, r4, rfl, k5, h⟩ := RdL.one h
  obtain ⟨v4, r4, rfl, h4, h⟩ := RdL.one h
  obtain ⟨v5, r5, rfl, h5, h⟩ := RdL.one h
  rw [rd_lit h0, rd_lit h1, rd_lit h2, rd_lit g0, rd_lit g1, rd_lit g2, rd_lit g3, rd_lit g4, rd_lit g5, rd_lit k0, rd_lit k1, rd_lit k2, rd_lit k3, rd_lit k4, rd_lit k5, rd_lit h4, rd_lit h5, RdL.none h]
  exact ⟨v3, rfl, h3⟩
theorem rdF {w : World} {o : Fd} {vs : List Value} (h : RdL w (encF o) vs) : vs = [.string o.n, .int .i64 o.k] := by
  obtain ⟨v0, r0, rfl, h0, h⟩ := RdL.one h
  obtain ⟨v1, r1, rfl, h1, h⟩ := RdL.one h
  rw [rd_lit h0, rd_lit h1, RdL.none h]
theorem rdY {w : World} {t : Tp} {vs : List Value} (h : RdL w (encY t) vs) : ∃ v, vs = [.string t.n, v] ∧ Rd w (.row 93 2 (t.f.map encF)) v := by
  obtain ⟨v0, r0, rfl, h0, h⟩ := RdL.one h
  obtain ⟨v1, r1, rfl, h1, h⟩ := RdL.one h
  rw [rd_lit h0, RdL.none h]
  exact ⟨v1, rfl, h1⟩
theorem lenC (c : Cn) : (encC c).length = 14 := rfl
theorem lenP (c : Pt) : (encP c).length = 18 := rfl
theorem lenO (c : Opd) : (encO c).length = 6 := rfl
theorem lenM (c : Mn) : (encM c).length = 20 := rfl
theorem lenK (c : Lk) : (encK c).length = 3 := rfl
theorem lenQ (c : Op3) : (encQ c).length = 3 := rfl
theorem lenR (c : Rl) : (encR c).length = 7 := rfl
theorem lenY (c : Tp) : (encY c).length = 2 := rfl
theorem lenF (c : Fd) : (encF c).length = 2 := rfl
/-- The place of the first that is so; -1: there is none. -/
def ixq {α : Type} (q : α → Bool) : List α → Nat → Int
  | [], _ => -1
  | x :: r, n => if q x = true then (n : Int) else ixq q r (n + 1)
theorem ixq_hit {α : Type} {q : α → Bool} : ∀ (l : List α) (n k : Nat) (hk : k < l.length), (∀ j (hj : j < k), q (l[j]'(by omega)) = false) → q l[k] = true → ixq q l n = (n + k : Nat)
  | x :: r, n, 0, _, _, h => by simp only [List.getElem_cons_zero] at h; rw [ixq, if_pos h]; rfl
  | x :: r, n, k + 1, hk, h0, h => by
    have h1 : q x = false := h0 0 (by omega)
    rw [ixq, if_neg (by rw [h1]; decide), ixq_hit r (n + 1) k (by simpa using hk) (fun j hj => h0 (j + 1) (by omega)) h]
    simp only [Int.natCast_inj]
    omega
theorem ixq_none {α : Type} {q : α → Bool} : ∀ (l : List α) (n : Nat), (∀ x, x ∈ l → q x = false) → ixq q l n = -1
  | [], n, _ => rfl
  | x :: r, n, h => by rw [ixq, if_neg (by rw [h x (by simp)]; decide), ixq_none r (n + 1) fun y hy => h y (by simp [hy])]
theorem ixq_lt {α : Type} {q : α → Bool} : ∀ (l : List α) (n : Nat), ixq q l n = -1 ∨ ∃ k : Nat, ∃ hk : k < l.length, ixq q l n = (n + k : Nat) ∧ q l[k] = true
  | [], n => .inl rfl
  | x :: r, n => by
    unfold ixq
    by_cases h : q x = true
    · rw [if_pos h]; exact .inr ⟨0, by simp, by simp, h⟩
    · rw [if_neg h]
      rcases ixq_lt (q := q) r (n + 1) with c | ⟨k, hk, e, h2⟩
      · exact .inl c
      · exact .inr ⟨k + 1, by simpa using hk, by rw [e]; simp only [Int.natCast_inj]; omega, h2⟩
end Go.Proofs.YthndlfdbmljkhaaGreatDoor.Chk
