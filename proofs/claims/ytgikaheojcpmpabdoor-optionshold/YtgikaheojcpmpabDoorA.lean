/-
  Matrices in plain words, and what they are in memory.
-/
import Derived.Test.YtgikaheojcpmpabDoorRows
import Derived.Handy
import Derived.WalkSmall
import Derived.Deep.QuietTactic
import Derived.BigQuiet
import Derived.Deep.RegionHeld3
import Derived.Deep.AppendLies
import Derived.Deep.RegionLaw
import Derived.Deep.LoopGhost
import Derived.Deep.OwnRows
import Derived.OwnWalk
import Derived.Maps.OwnSet
import Derived.Maps.AppendAt
import Derived.Laws.OwnMore
namespace Go.Proofs.YtgikaheojcpmpabDoor
open Go.ChangeShapes Go.WideShapes Go.ChangeAt Go.RowKit Go.Maps
set_option linter.unusedVariables false
set_option linter.unusedSimpArgs false
theorem hid {p : Prop} (h : p) : Hid p := h
/-- Two results. -/
abbrev pairV (v : Value) (e : Int) : Value := .tuple #[v, .int .i64 e]
/-- No bound. -/
def big : Int := 1152921504606846976
def inb (most x : Int) : Prop := x = 1152921504606846976 ∨ (-most ≤ x ∧ x ≤ most)
instance (most x : Int) : Decidable (inb most x) := by unfold inb; infer_instance
/-- Are the first k bounds of a row within? -/
def wth (most : Int) (z : Nat → Int) : Nat → Bool
  | 0 => true
  | k + 1 => wth most z k && decide (inb most (z k))
theorem wth_all {most : Int} {z : Nat → Int} : ∀ {l : Nat}, wth most z l = true → ∀ k, k < l → inb most (z k)
  | l + 1, h, k, hk => by
    simp only [wth, Bool.and_eq_true, decide_eq_true_eq] at h
    by_cases c : k = l
    · subst c; exact h.2
    · exact wth_all h.1 k (by omega)
theorem wth_of {most : Int} {z : Nat → Int} : ∀ {l : Nat}, (∀ k, k < l → inb most (z k)) → wth most z l = true
  | 0, _ => rfl
  | l + 1, h => by
    simp only [wth, Bool.and_eq_true, decide_eq_true_eq]
    exact ⟨wth_of fun k hk => h k (by omega), h l (by omega)⟩
theorem wth_not {most : Int} {z : Nat → Int} {l k : Nat} (hk : k < l) (h : ¬ inb most (z k)) : wth most z l = false := by
  cases hw : wth most z l with
  | false => rfl
  | true => exact absurd (wth_all hw k hk) h
theorem wth_congr {most : Int} {z y : Nat → Int} : ∀ {l : Nat}, (∀ k, k < l → z k = y k) → wth most z l = wth most y l
  | 0, _ => rfl
  | l + 1, h => by simp only [wth]; rw [wth_congr (l := l) fun k hk => h k (by omega), h l (by omega)]
/-- What is wrong with the first i rows. -/
def chR (n : Nat) (L : Nat → Nat) (Z : Nat → Nat → Int) : Nat → Int
  | 0 => 0
  | i + 1 => if chR n L Z i ≠ 0 then chR n L Z i else if L i ≠ n then 4 else if wth 35184372088832 (Z i) (L i) = true then 0 else 2
def chk (n : Nat) (L : Nat → Nat) (Z : Nat → Nat → Int) : Int := if 12 < n then 1 else chR n L Z n
theorem chR_up {n : Nat} {L : Nat → Nat} {Z : Nat → Nat → Int} {i : Nat} (h : chR n L Z i ≠ 0) : ∀ j, i ≤ j → chR n L Z j = chR n L Z i
  | 0, hj => by obtain rfl : i = 0 := by omega
                rfl
  | j + 1, hj => by
    by_cases c : i = j + 1
    · subst c; rfl
    · have := chR_up h j (by omega)
      rw [chR, if_pos (by rw [this]; exact h), this]
theorem chR_all {n : Nat} {L : Nat → Nat} {Z : Nat → Nat → Int} : ∀ {j : Nat}, chR n L Z j = 0 → ∀ i, i < j → L i = n ∧ wth 35184372088832 (Z i) (L i) = true
  | j + 1, h, i, hi => by
    have h0 : chR n L Z j = 0 := by
      by_cases c : chR n L Z j = 0
      · exact c
      · rw [chR, if_pos c] at h; exact absurd h c
    rw [chR, if_neg (by rw [h0]; decide)] at h
    by_cases c1 : L j = n
    · rw [if_neg (by rw [c1]; simp)] at h
      by_cases c2 : wth 35184372088832 (Z j) (L j) = true
      · by_cases c : i = j
        · subst c; exact ⟨c1, c2⟩
        · exact chR_all h0 i (by omega)
      · rw [if_neg c2] at h; exact absurd h (by decide)
    · rw [if_pos c1] at h; exact absurd h (by decide)
theorem chk_ok {n : Nat} {L : Nat → Nat} {Z : Nat → Nat → Int} (h : chk n L Z = 0) : n ≤ 12 ∧ ∀ i, i < n → L i = n ∧ ∀ k, k < n → inb 35184372088832 (Z i k) := by
  unfold chk at h
  by_cases c : 12 < n
  · rw [if_pos c] at h; exact absurd h (by decide)
  · rw [if_neg c] at h
    refine ⟨by omega, fun i hi => ?_⟩
    obtain ⟨e, hw⟩ := chR_all h i hi
    exact ⟨e, fun k hk => wth_all hw k (by omega)⟩
theorem chR_sq {n : Nat} {L : Nat → Nat} {Z : Nat → Nat → Int} (hL : ∀ i, i < n → L i = n) (hz : ∀ i, i < n → ∀ k, k < n → inb 35184372088832 (Z i k)) : ∀ {j : Nat}, j ≤ n → chR n L Z j = 0
  | 0, _ => rfl
  | j + 1, hj => by
    rw [chR, chR_sq hL hz (by omega), if_neg (by decide), if_neg (by rw [hL j (by omega)]; simp), if_pos (wth_of fun k hk => hz j (by omega) k (by rw [hL j (by omega)] at hk; exact hk))]
theorem chk_sq {n : Nat} {L : Nat → Nat} {Z : Nat → Nat → Int} (hn : n ≤ 12) (hL : ∀ i, i < n → L i = n) (hz : ∀ i, i < n → ∀ k, k < n → inb 35184372088832 (Z i k)) : chk n L Z = 0 := by
  unfold chk
  rw [if_neg (by omega)]
  exact chR_sq hL hz (Nat.le_refl _)
/-- A row of numbers anywhere in memory. -/
def RowAt (w : World) (v : Value) (l : Nat) (z : Nat → Int) : Prop :=
  ∃ p cap, v = .slice p l cap ∧ l ≤ cap ∧ cap ≤ maxLen ∧ (0 < l → ∃ g off, p = some ⟨g, off, none⟩ ∧ ∀ k, k < l → w.cell? ⟨g, off + k, none⟩ = some (.int .i64 (z k)))
/-- Rows of numbers anywhere in memory. -/
def MatAt (w : World) (v : Value) (n : Nat) (L : Nat → Nat) (Z : Nat → Nat → Int) : Prop :=
  ∃ p cap, v = .slice p n cap ∧ n ≤ cap ∧ cap ≤ maxLen ∧ (0 < n → ∃ g off, p = some ⟨g, off, none⟩ ∧ ∀ i, i < n → ∃ u, w.cell? ⟨g, off + i, none⟩ = some u ∧ RowAt w u (L i) (Z i))
theorem RowAt.later {w w' : World} {v : Value} {l : Nat} {z : Nat → Int} (h : RowAt w v l z) (hb : Below w.heap.size w w') : RowAt w' v l z := by
  obtain ⟨p, cap, rfl, h1, h2, h3⟩ := h
  refine ⟨p, cap, rfl, h1, h2, fun h0 => ?_⟩
  obtain ⟨g, off, rfl, hc⟩ := h3 h0
  exact ⟨g, off, rfl, fun k hk => (hb.cell (p := ⟨g, off + k, none⟩) (World.block_lt_of_cell? _ _ (hc k hk))).trans (hc k hk)⟩
theorem MatAt.later {w w' : World} {v : Value} {n : Nat} {L : Nat → Nat} {Z : Nat → Nat → Int} (h : MatAt w v n L Z) (hb : Below w.heap.size w w') : MatAt w' v n L Z := by
  obtain ⟨p, cap, rfl, h1, h2, h3⟩ := h
  refine ⟨p, cap, rfl, h1, h2, fun h0 => ?_⟩
  obtain ⟨g, off, rfl, hc⟩ := h3 h0
  refine ⟨g, off, rfl, fun i hi => ?_⟩
  obtain ⟨u, hu, hr⟩ := hc i hi
  exact ⟨u, (hb.cell (p := ⟨g, off + i, none⟩) (World.block_lt_of_cell? _ _ hu)).trans hu, hr.later hb⟩
theorem RowAt.congr {w : World} {v : Value} {l m : Nat} {z y : Nat → Int} (h : RowAt w v l z) (hl : l = m) (hz : ∀ k, k < l → z k = y k) : RowAt w v m y := by
  subst hl
  obtain ⟨p, cap, rfl, h1, h2, h3⟩ := h
  refine ⟨p, cap, rfl, h1, h2, fun h0 => ?_⟩
  obtain ⟨g, off, rfl, hc⟩ := h3 h0
  exact ⟨g, off, rfl, fun k hk => by rw [hc k hk, hz k hk]⟩
theorem MatAt.congr {w : World} {v : Value} {n : Nat} {L M : Nat → Nat} {Z Y : Nat → Nat → Int} (h : MatAt w v n L Z) (hl : ∀ i, i < n → L i = M i) (hz : ∀ i, i < n → ∀ k, k < L i → Z i k = Y i k) : MatAt w v n M Y := by
  obtain ⟨p, cap, rfl, h1, h2, h3⟩ := h
  refine ⟨p, cap, rfl, h1, h2, fun h0 => ?_⟩
  obtain ⟨g, off, rfl, hc⟩ := h3 h0
  refine ⟨g, off, rfl, fun i hi => ?_⟩
  obtain ⟨u, hu, hr⟩ := hc i hi
  exact ⟨u, hu, hr.congr (hl i hi) (hz i hi)⟩
theorem below_lt {w w' : World} (h : Below w.heap.size w w') {B : Nat} (hB : B ≤ w.heap.size) : Below B w w' := h.mono hB
theorem below_drewN {B : Nat} {a b : World} (h : Below B a b) (n : Nat) : Below B a (b.drewN n) := ⟨h.os, h.tape, h.output, h.size, h.block⟩
theorem below_then {B : Nat} {a b c : World} (h : Below B a b) (k : Below b.heap.size b c) (hB : B ≤ a.heap.size) : Below B a c := h.trans (k.mono (Nat.le_trans hB h.size))
theorem cellS {W : World} {b o : Nat} {p : Addr} {v u : Value} (h : W.cell? p = some v) (hne : p.block ≠ b) : (W.setCell ⟨b, o, none⟩ u).cell? p = some v := by
  rw [World.cell?_setCell_other _ _ _ _ (fun e => hne (congrArg Addr.block e).symm)]
  exact h
/-- A block of numbers: its first n cells hold z. -/
def Blk (w : World) (g n : Nat) (z : Nat → Int) : Prop := ∃ c t, w.heap[g]? = some (.cells c t (0, 0)) ∧ ∀ k, k < n → c[k]? = some (.int .i64 (z k))
theorem Blk.cell {w : World} {g n : Nat} {z : Nat → Int} (h : Blk w g n z) {k : Nat} (hk : k < n) : w.cell? ⟨g, k, none⟩ = some (.int .i64 (z k)) := by
  obtain ⟨c, t, hb, hc⟩ := h
  simp [World.cell?, hb, hc k hk]
theorem Blk.frozen {w : World} {g n : Nat} {z : Nat → Int} (h : Blk w g n z) (k : Nat) : w.frozen? ⟨g, k, none⟩ = false := by
  obtain ⟨c, t, hb, _⟩ := h
  simp [World.frozen?, hb]
theorem Blk.lt {w : World} {g n : Nat} {z : Nat → Int} (h : Blk w g n z) : g < w.heap.size := by
  obtain ⟨c, t, hb, _⟩ := h
  exact (Array.getElem?_eq_some_iff.1 hb).1
theorem Blk.of_block {w w' : World} {g n : Nat} {z : Nat → Int} (h : Blk w g n z) (e : w'.heap[g]? = w.heap[g]?) : Blk w' g n z := by
  obtain ⟨c, t, hb, hc⟩ := h
  exact ⟨c, t, e.trans hb, hc⟩
theorem Blk.congr {w : World} {g n : Nat} {z y : Nat → Int} (h : Blk w g n z) (e : ∀ k, k < n → z k = y k) : Blk w g n y := by
  obtain ⟨c, t, hb, hc⟩ := h
  exact ⟨c, t, hb, fun k hk => by rw [hc k hk, e k hk]⟩
theorem Blk.set {w : World} {g n : Nat} {z : Nat → Int} (h : Blk w g n z) (i : Nat) (x : Int) : Blk (w.setCell ⟨g, i, none⟩ (.int .i64 x)) g n (fun k => if k = i then x else z k) := by
  obtain ⟨c, t, hb, hc⟩ := h
  refine ⟨c.setIfInBounds i (.int .i64 x), t, by simp [World.setCell, Array.getElem?_modify, hb], fun k hk => ?_⟩
  have hlt := (Array.getElem?_eq_some_iff.1 (hc k hk)).1
  rw [Array.getElem?_setIfInBounds]
  by_cases e : k = i
  · subst e; simp [hlt]
  · rw [if_neg (fun h => e h.symm)]
    show c[k]? = some (.int .i64 (if k = i then x else z k))
    rw [if_neg e]; exact hc k hk
/-- Rows of numbers in blocks of their own, from the block B on. -/
structure OwnM (w : World) (B b n : Nat) (L G C : Nat → Nat) (Z : Nat → Nat → Int) : Prop where
  bB : B ≤ b
  gB : ∀ i, i < n → 0 < L i → B ≤ G i
  gb : ∀ i, i < n → 0 < L i → G i ≠ b
  inj : ∀ i j, i < n → j < n → 0 < L i → 0 < L j → G i = G j → i = j
  cp : ∀ i, i < n → L i ≤ C i ∧ C i ≤ maxLen
  top : ∀ i, i < n → ∃ q, w.cell? ⟨b, i, none⟩ = some (.slice q (L i) (C i)) ∧ (0 < L i → q = some ⟨G i, 0, none⟩)
  row : ∀ i, i < n → 0 < L i → Blk w (G i) (L i) (Z i)
/-- One bound is another. -/
def upd (Z : Nat → Nat → Int) (i k : Nat) (x : Int) : Nat → Nat → Int := fun a b => if a = i ∧ b = k then x else Z a b
theorem OwnM.mat {w : World} {B b n cap : Nat} {L G C : Nat → Nat} {Z : Nat → Nat → Int} {p : Option Addr} (h : OwnM w B b n L G C Z) (hp : 0 < n → p = some ⟨b, 0, none⟩) (h1 : n ≤ cap) (h2 : cap ≤ maxLen) : MatAt w (.slice p n cap) n L Z := by
  refine ⟨p, cap, rfl, h1, h2, fun h0 => ⟨b, 0, hp h0, fun i hi => ?_⟩⟩
  obtain ⟨q, hq, hg⟩ := h.top i hi
  refine ⟨_, by rw [Nat.zero_add]; exact hq, q, C i, rfl, (h.cp i hi).1, (h.cp i hi).2, fun h0 => ⟨G i, 0, hg h0, fun k hk => by rw [Nat.zero_add]; exact (h.row i hi h0).cell hk⟩⟩
theorem OwnM.of_below {w w' : World} {B b n : Nat} {L G C : Nat → Nat} {Z : Nat → Nat → Int} (h : OwnM w B b n L G C Z) (hb : Below w.heap.size w w') : OwnM w' B b n L G C Z := by
  refine ⟨h.bB, h.gB, h.gb, h.inj, h.cp, fun i hi => ?_, fun i hi h0 => (h.row i hi h0).of_block (hb.block _ (h.row i hi h0).lt)⟩
  obtain ⟨q, hq, hg⟩ := h.top i hi
  exact ⟨q, (hb.cell (p := ⟨b, i, none⟩) (World.block_lt_of_cell? _ _ hq)).trans hq, hg⟩
theorem OwnM.base {w : World} {B B' b n : Nat} {L G C : Nat → Nat} {Z : Nat → Nat → Int} (h : OwnM w B b n L G C Z) (hB : B' ≤ B) : OwnM w B' b n L G C Z :=
  ⟨Nat.le_trans hB h.bB, fun i hi h0 => Nat.le_trans hB (h.gB i hi h0), h.gb, h.inj, h.cp, h.top, h.row⟩
theorem OwnM.congr {w : World} {B b n : Nat} {L M G C : Nat → Nat} {Z Y : Nat → Nat → Int} (h : OwnM w B b n L G C Z) (hl : ∀ i, i < n → L i = M i) (hz : ∀ i, i < n → ∀ k, k < L i → Z i k = Y i k) : OwnM w B b n M G C Y := by
  refine ⟨h.bB, fun i hi h0 => h.gB i hi (by rw [hl i hi]; exact h0), fun i hi h0 => h.gb i hi (by rw [hl i hi]; exact h0), fun i j hi hj h0 h1 e => h.inj i j hi hj (by rw [hl i hi]; exact h0) (by rw [hl j hj]; exact h1) e, fun i hi => by rw [← hl i hi]; exact h.cp i hi, fun i hi => by rw [← hl i hi]; exact h.top i hi, fun i hi h0 => ?_⟩
  rw [← hl i hi] at h0 ⊢
  exact (h.row i hi h0).congr (hz i hi)
theorem OwnM.drewN {w : World} {B b n : Nat} {L G C : Nat → Nat} {Z : Nat → Nat → Int} (h : OwnM w B b n L G C Z) (m : Nat) : OwnM (w.drewN m) B b n L G C Z := ⟨h.bB, h.gB, h.gb, h.inj, h.cp, h.top, h.row⟩
theorem OwnM.drew {w : World} {B b n : Nat} {L G C : Nat → Nat} {Z : Nat → Nat → Int} (h : OwnM w B b n L G C Z) : OwnM w.drew B b n L G C Z := ⟨h.bB, h.gB, h.gb, h.inj, h.cp, h.top, h.row⟩
theorem OwnM.set {w : World} {B b n : Nat} {L G C : Nat → Nat} {Z : Nat → Nat → Int} (h : OwnM w B b n L G C Z) {i k : Nat} (hi : i < n) (hk : k < L i) (x : Int) : OwnM (w.setCell ⟨G i, k, none⟩ (.int .i64 x)) B b n L G C (upd Z i k x) := by
  have h0 : 0 < L i := by omega
  refine ⟨h.bB, h.gB, h.gb, h.inj, h.cp, fun j hj => ?_, fun j hj hz => ?_⟩
  · obtain ⟨q, hq, hg⟩ := h.top j hj
    refine ⟨q, ?_, hg⟩
    rw [World.cell?_setCell_other _ _ _ _ (fun e => h.gb i hi h0 (congrArg Addr.block e))]
    exact hq
  · by_cases e : j = i
    · subst e
      refine ((h.row j hj hz).set k x).congr fun m hm => ?_
      by_cases c : m = k
      · subst c; simp [upd]
      · simp [upd, c]
    · have hne : G j ≠ G i := fun c => e (h.inj j i hj hi hz h0 c)
      refine ((h.row j hj hz).of_block (Below.heap_setCell _ _ _ _ hne)).congr fun m hm => ?_
      simp [upd, e]
theorem OwnM.below_set {w a : World} {B b n : Nat} {L G C : Nat → Nat} {Z : Nat → Nat → Int} (h : OwnM w B b n L G C Z) {i k : Nat} (hi : i < n) (h0 : 0 < L i) (x : Value) (hb : Below B a w) : Below B a (w.setCell ⟨G i, k, none⟩ x) := hb.setCell (h.gB i hi h0) _
end Go.Proofs.YtgikaheojcpmpabDoor
