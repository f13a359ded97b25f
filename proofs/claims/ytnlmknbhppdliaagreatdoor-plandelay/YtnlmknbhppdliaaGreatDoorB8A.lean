/-
  Matrices in plain words, and what they are in memory. Rows that a call builds by append; a copy of a matrix, and a free one, by the reference. A copy of a matrix, by the reference. A free matrix, by the program. The closure that tells what one point less another is at most. What an upright relation says of the points. Upright relations, and what lies apart.
-/
import Derived.Test.YtnlmknbhppdliaaGreatDoorRows
import Derived.Handy
import Derived.WalkSmall
import Derived.Deep.QuietTactic
import Derived.BigQuiet
import Derived.Deep.RegionHeld3
import Derived.Deep.AppendLies
import Derived.Deep.RegionLaw
import Derived.Deep.LoopGhost
import Derived.Deep.OwnRows
import Derived.OwnWalk
import Derived.Maps.OwnSet
import Derived.Maps.AppendAt
import Derived.Laws.OwnMore
import Derived.BigRegion
import Derived.Deep.MidRow
set_option maxHeartbeats 64000000
namespace Go.Proofs.YtnlmknbhppdliaaGreatDoor.B8
open Go.ChangeShapes Go.WideShapes Go.ChangeAt Go.RowKit Go.Maps
set_option linter.unusedVariables false
set_option linter.unusedSimpArgs false
set_option maxRecDepth 20000
theorem hid {p : Prop} (h : p) : Hid p := h
abbrev pairV (v : Value) (e : Int) : Value := .tuple #[v, .int .i64 e]
def inb (most x : Int) : Prop := x = 1152921504606846976 ∨ (-most ≤ x ∧ x ≤ most)
instance (most x : Int) : Decidable (inb most x) := by unfold inb; infer_instance
def wth (most : Int) (z : Nat → Int) : Nat → Bool
  | 0 => true
  | k + 1 => wth most z k && decide (inb most (z k))
theorem zEB {most : Int} {z : Nat → Int} : ∀ {l : Nat}, wth most z l = true → ∀ k, k < l → inb most (z k)
 | l + 1, h, k, hk => by
  simp only [wth, Bool.and_eq_true, decide_eq_true_eq] at h
  by_cases c : k = l
  . subst c; exact h.2
  . exact zEB h.1 k (by omega)
theorem zFF {most : Int} {z : Nat → Int} : ∀ {l : Nat}, (∀ k, k < l → inb most (z k)) → wth most z l = true
 | 0, _ => rfl
 | l + 1, h => by
  simp only [wth, Bool.and_eq_true, decide_eq_true_eq]
  exact ⟨zFF fun k hk => h k (by omega), h l (by omega)⟩
theorem wth_not {most : Int} {z : Nat → Int} {l k : Nat} (hk : k < l) (h : ¬ inb most (z k)) : wth most z l = false := by
  cases hw : wth most z l with
  | false => rfl
  | true => exact absurd (zEB hw k hk) h
def chR (n : Nat) (L : Nat → Nat) (Z : Nat → Nat → Int) : Nat → Int
  | 0 => 0
  | i + 1 => if chR n L Z i ≠ 0 then chR n L Z i else if L i ≠ n then 4 else if wth 35184372088832 (Z i) (L i) = true then 0 else 2
def chk (n : Nat) (L : Nat → Nat) (Z : Nat → Nat → Int) : Int := if 12 < n then 1 else chR n L Z n
theorem chR_up {n : Nat} {L : Nat → Nat} {Z : Nat → Nat → Int} {i : Nat} (h : chR n L Z i ≠ 0) : ∀ j, i ≤ j → chR n L Z j = chR n L Z i
  | 0, hj => by obtain rfl : i = 0 := by omega
                rfl
  | j + 1, hj => by
    by_cases c : i = j + 1
    . subst c; rfl
    . have := chR_up h j (by omega)
      rw [chR, if_pos (by rw [this]; exact h), this]
theorem zJI {n : Nat} {L : Nat → Nat} {Z : Nat → Nat → Int} : ∀ {j : Nat}, chR n L Z j = 0 → ∀ i, i < j → L i = n ∧ wth 35184372088832 (Z i) (L i) = true
 | j + 1, h, i, hi => by
  have h0 : chR n L Z j = 0 := by
    by_cases c : chR n L Z j = 0
    . exact c
    . rw [chR, if_pos c] at h; exact absurd h c
  rw [chR, if_neg (by rw [h0]; decide)] at h
  by_cases c1 : L j = n
  . rw [if_neg (by rw [c1]; simp)] at h
    by_cases c2 : wth 35184372088832 (Z j) (L j) = true
    . by_cases c : i = j
      . subst c; exact ⟨c1, c2⟩
      . exact zJI h0 i (by omega)
    . rw [if_neg c2] at h; exact absurd h (by decide)
  . rw [if_pos c1] at h; exact absurd h (by decide)
theorem chk_ok {n : Nat} {L : Nat → Nat} {Z : Nat → Nat → Int} (h : chk n L Z = 0) : n ≤ 12 ∧ ∀ i, i < n → L i = n ∧ ∀ k, k < n → inb 35184372088832 (Z i k) := by
 unfold chk at h
 by_cases c : 12 < n
 . rw [if_pos c] at h; exact absurd h (by decide)
 . rw [if_neg c] at h
   refine ⟨by omega, fun i hi => ?_⟩
   obtain ⟨e, hw⟩ := zJI h i hi
   exact ⟨e, fun k hk => zEB hw k (by omega)⟩
theorem chR_sq {n : Nat} {L : Nat → Nat} {Z : Nat → Nat → Int} (hL : ∀ i, i < n → L i = n) (hz : ∀ i, i < n → ∀ k, k < n → inb 35184372088832 (Z i k)) : ∀ {j : Nat}, j ≤ n → chR n L Z j = 0
 | 0, _ => rfl
 | j + 1, hj => by
  rw [chR, chR_sq hL hz (by omega), if_neg (by decide), if_neg (by rw [hL j (by omega)]; simp), if_pos (zFF fun k hk => hz j (by omega) k (by rw [hL j (by omega)] at hk; exact hk))]
theorem chk_sq {n : Nat} {L : Nat → Nat} {Z : Nat → Nat → Int} (hn : n ≤ 12) (hL : ∀ i, i < n → L i = n) (hz : ∀ i, i < n → ∀ k, k < n → inb 35184372088832 (Z i k)) : chk n L Z = 0 := by
  unfold chk
  rw [if_neg (by omega)]
  exact chR_sq hL hz (Nat.le_refl _)
def RowAt (w : World) (v : Value) (l : Nat) (z : Nat → Int) : Prop :=
  ∃ p cap, v = .slice p l cap ∧ l ≤ cap ∧ cap ≤ maxLen ∧ (0 < l → ∃ g off, p = some ⟨g, off, none⟩ ∧ ∀ k, k < l → w.cell? ⟨g, off + k, none⟩ = some (.int .i64 (z k)))
def zA5 (w : World) (v : Value) (n : Nat) (L : Nat → Nat) (Z : Nat → Nat → Int) : Prop :=
  ∃ p cap, v = .slice p n cap ∧ n ≤ cap ∧ cap ≤ maxLen ∧ (0 < n → ∃ g off, p = some ⟨g, off, none⟩ ∧ ∀ i, i < n → ∃ u, w.cell? ⟨g, off + i, none⟩ = some u ∧ RowAt w u (L i) (Z i))
theorem RowAt.later {w w' : World} {v : Value} {l : Nat} {z : Nat → Int} (h : RowAt w v l z) (hb : Below w.heap.size w w') : RowAt w' v l z := by
  obtain ⟨p, cap, rfl, h1, h2, h3⟩ := h
  refine ⟨p, cap, rfl, h1, h2, fun h0 => ?_⟩
  obtain ⟨g, off, rfl, hc⟩ := h3 h0
  exact ⟨g, off, rfl, fun k hk => (hb.cell (p := ⟨g, off + k, none⟩) (World.block_lt_of_cell? _ _ (hc k hk))).trans (hc k hk)⟩
theorem zA5.later {w w' : World} {v : Value} {n : Nat} {L : Nat → Nat} {Z : Nat → Nat → Int} (h : zA5 w v n L Z) (hb : Below w.heap.size w w') : zA5 w' v n L Z := by
  obtain ⟨p, cap, rfl, h1, h2, h3⟩ := h
  refine ⟨p, cap, rfl, h1, h2, fun h0 => ?_⟩
  obtain ⟨g, off, rfl, hc⟩ := h3 h0
  refine ⟨g, off, rfl, fun i hi => ?_⟩
  obtain ⟨u, hu, hr⟩ := hc i hi
  exact ⟨u, (hb.cell (p := ⟨g, off + i, none⟩) (World.block_lt_of_cell? _ _ hu)).trans hu, hr.later hb⟩
theorem zA8 {B : Nat} {a b : World} (h : Below B a b) (n : Nat) : Below B a (b.drewN n) := ⟨h.os, h.tape, h.output, h.size, h.block⟩
theorem zAZ {B : Nat} {a b c : World} (h : Below B a b) (k : Below b.heap.size b c) (hB : B ≤ a.heap.size) : Below B a c := h.trans (k.mono (Nat.le_trans hB h.size))
theorem zCZ {W : World} {b o : Nat} {p : Addr} {v u : Value} (h : W.cell? p = some v) (hne : p.block ≠ b) : (W.setCell ⟨b, o, none⟩ u).cell? p = some v := by
  rw [World.cell?_setCell_other _ _ _ _ (fun e => hne (congrArg Addr.block e).symm)]
  exact h
def Blk (w : World) (g n : Nat) (z : Nat → Int) : Prop := ∃ c t, w.heap[g]? = some (.cells c t (0, 0)) ∧ ∀ k, k < n → c[k]? = some (.int .i64 (z k))
theorem Blk.cell {w : World} {g n : Nat} {z : Nat → Int} (h : Blk w g n z) {k : Nat} (hk : k < n) : w.cell? ⟨g, k, none⟩ = some (.int .i64 (z k)) := by
  obtain ⟨c, t, hb, hc⟩ := h
  simp [World.cell?, hb, hc k hk]
theorem Blk.frozen {w : World} {g n : Nat} {z : Nat → Int} (h : Blk w g n z) (k : Nat) : w.frozen? ⟨g, k, none⟩ = false := by
  obtain ⟨c, t, hb, _⟩ := h
  simp [World.frozen?, hb]
theorem Blk.lt {w : World} {g n : Nat} {z : Nat → Int} (h : Blk w g n z) : g < w.heap.size := by
  obtain ⟨c, t, hb, _⟩ := h
  exact (Array.getElem?_eq_some_iff.1 hb).1
theorem Blk.of_block {w w' : World} {g n : Nat} {z : Nat → Int} (h : Blk w g n z) (e : w'.heap[g]? = w.heap[g]?) : Blk w' g n z := by
  obtain ⟨c, t, hb, hc⟩ := h
  exact ⟨c, t, e.trans hb, hc⟩
theorem Blk.congr {w : World} {g n : Nat} {z y : Nat → Int} (h : Blk w g n z) (e : ∀ k, k < n → z k = y k) : Blk w g n y := by
  obtain ⟨c, t, hb, hc⟩ := h
  exact ⟨c, t, hb, fun k hk => by rw [hc k hk, e k hk]⟩
theorem Blk.set {w : World} {g n : Nat} {z : Nat → Int} (h : Blk w g n z) (i : Nat) (x : Int) : Blk (w.setCell ⟨g, i, none⟩ (.int .i64 x)) g n (fun k => if k = i then x else z k) := by
 obtain ⟨c, t, hb, hc⟩ := h
 refine ⟨c.setIfInBounds i (.int .i64 x), t, by simp [World.setCell, Array.getElem?_modify, hb], fun k hk => ?_⟩
 have hlt := (Array.getElem?_eq_some_iff.1 (hc k hk)).1
 rw [Array.getElem?_setIfInBounds]
 by_cases e : k = i
 . subst e; simp [hlt]
 . rw [if_neg (fun h => e h.symm)]
   show c[k]? = some (.int .i64 (if k = i then x else z k))
   rw [if_neg e]; exact hc k hk
structure OwnM (w : World) (B b n : Nat) (L G C : Nat → Nat) (Z : Nat → Nat → Int) : Prop where
  bB : B ≤ b
  gB : ∀ i, i < n → 0 < L i → B ≤ G i
  gb : ∀ i, i < n → 0 < L i → G i ≠ b
  inj : ∀ i j, i < n → j < n → 0 < L i → 0 < L j → G i = G j → i = j
  cp : ∀ i, i < n → L i ≤ C i ∧ C i ≤ maxLen
  top : ∀ i, i < n → ∃ q, w.cell? ⟨b, i, none⟩ = some (.slice q (L i) (C i)) ∧ (0 < L i → q = some ⟨G i, 0, none⟩)
  row : ∀ i, i < n → 0 < L i → Blk w (G i) (L i) (Z i)
def upd (Z : Nat → Nat → Int) (i k : Nat) (x : Int) : Nat → Nat → Int := fun a b => if a = i ∧ b = k then x else Z a b
theorem OwnM.mat {w : World} {B b n cap : Nat} {L G C : Nat → Nat} {Z : Nat → Nat → Int} {p : Option Addr} (h : OwnM w B b n L G C Z) (hp : 0 < n → p = some ⟨b, 0, none⟩) (h1 : n ≤ cap) (h2 : cap ≤ maxLen) : zA5 w (.slice p n cap) n L Z := by
  refine ⟨p, cap, rfl, h1, h2, fun h0 => ⟨b, 0, hp h0, fun i hi => ?_⟩⟩
  obtain ⟨q, hq, hg⟩ := h.top i hi
  refine ⟨_, by rw [Nat.zero_add]; exact hq, q, C i, rfl, (h.cp i hi).1, (h.cp i hi).2, fun h0 => ⟨G i, 0, hg h0, fun k hk => by rw [Nat.zero_add]; exact (h.row i hi h0).cell hk⟩⟩
theorem OwnM.of_below {w w' : World} {B b n : Nat} {L G C : Nat → Nat} {Z : Nat → Nat → Int} (h : OwnM w B b n L G C Z) (hb : Below w.heap.size w w') : OwnM w' B b n L G C Z := by
  refine ⟨h.bB, h.gB, h.gb, h.inj, h.cp, fun i hi => ?_, fun i hi h0 => (h.row i hi h0).of_block (hb.block _ (h.row i hi h0).lt)⟩
  obtain ⟨q, hq, hg⟩ := h.top i hi
  exact ⟨q, (hb.cell (p := ⟨b, i, none⟩) (World.block_lt_of_cell? _ _ hq)).trans hq, hg⟩
theorem OwnM.base {w : World} {B B' b n : Nat} {L G C : Nat → Nat} {Z : Nat → Nat → Int} (h : OwnM w B b n L G C Z) (hB : B' ≤ B) : OwnM w B' b n L G C Z :=
  ⟨Nat.le_trans hB h.bB, fun i hi h0 => Nat.le_trans hB (h.gB i hi h0), h.gb, h.inj, h.cp, h.top, h.row⟩
theorem OwnM.congr {w : World} {B b n : Nat} {L M G C : Nat → Nat} {Z Y : Nat → Nat → Int} (h : OwnM w B b n L G C Z) (hl : ∀ i, i < n → L i = M i) (hz : ∀ i, i < n → ∀ k, k < L i → Z i k = Y i k) : OwnM w B b n M G C Y := by
  refine ⟨h.bB, fun i hi h0 => h.gB i hi (by rw [hl i hi]; exact h0), fun i hi h0 => h.gb i hi (by rw [hl i hi]; exact h0), fun i j hi hj h0 h1 e => h.inj i j hi hj (by rw [hl i hi]; exact h0) (by rw [hl j hj]; exact h1) e, fun i hi => by rw [← hl i hi]; exact h.cp i hi, fun i hi => by rw [← hl i hi]; exact h.top i hi, fun i hi h0 => ?_⟩
  rw [← hl i hi] at h0 ⊢
  exact (h.row i hi h0).congr (hz i hi)
theorem OwnM.drewN {w : World} {B b n : Nat} {L G C : Nat → Nat} {Z : Nat → Nat → Int} (h : OwnM w B b n L G C Z) (m : Nat) : OwnM (w.drewN m) B b n L G C Z := ⟨h.bB, h.gB, h.gb, h.inj, h.cp, h.top, h.row⟩
theorem OwnM.drew {w : World} {B b n : Nat} {L G C : Nat → Nat} {Z : Nat → Nat → Int} (h : OwnM w B b n L G C Z) : OwnM w.drew B b n L G C Z := ⟨h.bB, h.gB, h.gb, h.inj, h.cp, h.top, h.row⟩
theorem OwnM.set {w : World} {B b n : Nat} {L G C : Nat → Nat} {Z : Nat → Nat → Int} (h : OwnM w B b n L G C Z) {i k : Nat} (hi : i < n) (hk : k < L i) (x : Int) : OwnM (w.setCell ⟨G i, k, none⟩ (.int .i64 x)) B b n L G C (upd Z i k x) := by
 have h0 : 0 < L i := by omega
 refine ⟨h.bB, h.gB, h.gb, h.inj, h.cp, fun j hj => ?_, fun j hj hz => ?_⟩
 . obtain ⟨q, hq, hg⟩ := h.top j hj
   refine ⟨q, ?_, hg⟩
   rw [World.cell?_setCell_other _ _ _ _ (fun e => h.gb i hi h0 (congrArg Addr.block e))]
   exact hq
 . by_cases e : j = i
   . subst e
     refine ((h.row j hj hz).set k x).congr fun m hm => ?_
     by_cases c : m = k
     . subst c; simp [upd]
     . simp [upd, c]
   . have hne : G j ≠ G i := fun c => e (h.inj j i hj hi hz h0 c)
     refine ((h.row j hj hz).of_block (Below.heap_setCell _ _ _ _ hne)).congr fun m hm => ?_
     simp [upd, e]
theorem infoI : (Tryz.prog.info? 3).map (fun i => (i.zero, i.size, i.bytes)) = some (some (.int .i64 0), 1, 8) := by kernel_rfl
theorem infoR : (Tryz.prog.info? 67).map (fun i => (i.zero, i.size, i.bytes)) = some (some (.slice none 0 0), 1, 24) := by kernel_rfl
def New (w w' : World) (V : Value) (n : Nat) (L : Nat → Nat) (Z : Nat → Nat → Int) : Prop :=
  ∃ p cap b G C, V = .slice p n cap ∧ (0 < n → p = some ⟨b, 0, none⟩) ∧ n ≤ cap ∧ cap ≤ maxLen ∧ OwnM w' w.heap.size b n L G C Z
theorem New.mat {w w' : World} {V : Value} {n : Nat} {L : Nat → Nat} {Z : Nat → Nat → Int} (h : New w w' V n L Z) : zA5 w' V n L Z := by
  obtain ⟨p, cap, b, G, C, rfl, h1, h2, h3, h4⟩ := h
  exact h4.mat h1 h2 h3
theorem New.later {w w' w2 : World} {V : Value} {n : Nat} {L : Nat → Nat} {Z : Nat → Nat → Int} (h : New w w' V n L Z) (hb : Below w'.heap.size w' w2) : New w w2 V n L Z := by
  obtain ⟨p, cap, b, G, C, rfl, h1, h2, h3, h4⟩ := h
  exact ⟨p, cap, b, G, C, rfl, h1, h2, h3, h4.of_below hb⟩
theorem New.congr {w w' : World} {V : Value} {n : Nat} {L M : Nat → Nat} {Z Y : Nat → Nat → Int} (h : New w w' V n L Z) (hl : ∀ i, i < n → L i = M i) (hz : ∀ i, i < n → ∀ k, k < L i → Z i k = Y i k) : New w w' V n M Y := by
  obtain ⟨p, cap, b, G, C, rfl, h1, h2, h3, h4⟩ := h
  exact ⟨p, cap, b, G, C, rfl, h1, h2, h3, h4.congr hl hz⟩
theorem New.from {w0 w w' : World} {V : Value} {n : Nat} {L : Nat → Nat} {Z : Nat → Nat → Int} (h : New w w' V n L Z) (hb : w0.heap.size ≤ w.heap.size) : New w0 w' V n L Z := by
  obtain ⟨p, cap, b, G, C, rfl, h1, h2, h3, h4⟩ := h
  exact ⟨p, cap, b, G, C, rfl, h1, h2, h3, h4.base hb⟩
theorem zAI (w : World) (o : Obj) : Below w.heap.size w (w.alloc o) := (Below.refl _ _).alloc (Nat.le_refl _) o
def fre : Nat → Nat → Int := fun i k => if i = k then 0 else 1152921504606846976
def topF (N n r : Nat) : Nat → Value := fun j => if j < r then .slice (some ⟨N + 1 + j, 0, none⟩) n n else .slice none 0 0
structure OutF (w wr : World) (n r : Nat) : Prop where
  since : Below w.heap.size w wr
  size : wr.heap.size = w.heap.size + 1 + r
  top : wr.rowIs w.heap.size 67 n (topF w.heap.size n r)
  done : ∀ j, j < r → wr.rowIs (w.heap.size + 1 + j) 3 n (fun c => .int .i64 (fre j c))
structure InF (w wi : World) (n r c : Nat) : Prop where
  since : Below w.heap.size w wi
  size : wi.heap.size = w.heap.size + 1 + r + 1
  top : wi.rowIs w.heap.size 67 n (topF w.heap.size n (r + 1))
  done : ∀ j, j < r → wi.rowIs (w.heap.size + 1 + j) 3 n (fun c => .int .i64 (fre j c))
  cur : wi.rowIs (w.heap.size + 1 + r) 3 n (fun i => if i < c then .int .i64 1152921504606846976 else .int .i64 0)
theorem zHQ (w : World) (n : Nat) : OutF w (w.alloc (.cells (madeCells #[.slice none 0 0] n) 67)) n 0 :=
  ⟨(Below.refl _ _).alloc (Nat.le_refl _) _, by simp, (World.rowIs_made w _ n 67).congr (fun j _ => by simp [topF]), fun j hj => absurd hj (Nat.not_lt_zero _)⟩
theorem zIF {w wr : World} {n r : Nat} (h : OutF w wr n r) :
   InF w ((wr.alloc (.cells (madeCells #[.int .i64 0] n) 3)).setCell ⟨w.heap.size, r, none⟩ (.slice (some ⟨w.heap.size + 1 + r, 0, none⟩) n n)) n r 0 := by
 have hnew := World.rowIs_made wr (.int .i64 0) n 3
 rw [h.size] at hnew
 refine ⟨(h.since.alloc (by rw [h.size]; omega) _).setCell (Nat.le_refl _) _, by simp [h.size], ((h.top.alloc _).set r _).congr (fun j _ => ?_), fun j hj => ((h.done j hj).alloc _).setOther (by show w.heap.size + 1 + j ≠ w.heap.size; omega) _,
   (hnew.setOther (by show w.heap.size + 1 + r ≠ w.heap.size; omega) _).congr (fun i _ => by simp)⟩
 simp only [topF]
 by_cases e : j = r
 . subst e; simp
 . rw [if_neg e]
   by_cases hlt : j < r
   . rw [if_pos hlt, if_pos (by omega)]
   . rw [if_neg hlt, if_neg (by omega)]
theorem inF_step {w wi : World} {n r c : Nat} (h : InF w wi n r c) : InF w (wi.setCell ⟨w.heap.size + 1 + r, c, none⟩ (.int .i64 1152921504606846976)) n r (c + 1) := by
 refine ⟨h.since.setCell (by show w.heap.size ≤ w.heap.size + 1 + r; omega) _, by simp [h.size], h.top.setOther (by show w.heap.size ≠ w.heap.size + 1 + r; omega) _,
   fun j hj => (h.done j hj).setOther (by show w.heap.size + 1 + j ≠ w.heap.size + 1 + r; omega) _, (h.cur.set c _).congr (fun i _ => ?_)⟩
 by_cases e : i = c
 . subst e; simp
 . rw [if_neg e]
   by_cases hlt : i < c
   . rw [if_pos hlt, if_pos (by omega)]
   . rw [if_neg hlt, if_neg (by omega)]
theorem inF_done {w wi : World} {n r : Nat} (h : InF w wi n r n) : OutF w (wi.setCell ⟨w.heap.size + 1 + r, r, none⟩ (.int .i64 0)) n (r + 1) := by
 refine ⟨h.since.setCell (by show w.heap.size ≤ w.heap.size + 1 + r; omega) _, by simp [h.size]; omega, h.top.setOther (by show w.heap.size ≠ w.heap.size + 1 + r; omega) _, fun j hj => ?_⟩
 by_cases e : j = r
 . subst e
   refine (h.cur.set j _).congr (fun i hi => ?_)
   by_cases c : i = j
   . subst c; simp [fre]
   . have c2 : ¬ j = i := fun h => c h.symm
     rw [if_neg c, if_pos hi]; simp [fre, c2]
 . exact (h.done j (by omega)).setOther (by show w.heap.size + 1 + j ≠ w.heap.size + 1 + r; omega) _
theorem OutF.new {w w' : World} {n : Nat} (h : OutF w w' n n) (hn : n ≤ 12) : New w w' (.slice (some ⟨w.heap.size, 0, none⟩) n n) n (fun _ => n) fre := by
 refine ⟨_, n, w.heap.size, fun j => w.heap.size + 1 + j, fun _ => n, rfl, fun _ => rfl, Nat.le_refl _, by unfold maxLen; omega, Nat.le_refl _, fun i hi _ => by omega, fun i hi _ => by show w.heap.size + 1 + i ≠ w.heap.size; omega, fun i j hi hj _ _ e => by have : w.heap.size + 1 + i = w.heap.size + 1 + j := e; omega, fun i hi => ⟨Nat.le_refl _, by unfold maxLen; omega⟩, fun i hi => ?_, fun i hi _ => ?_⟩
 . refine ⟨_, ?_, fun _ => rfl⟩
   have := h.top.cell hi
   rw [this]
   simp [topF, hi]
 . obtain ⟨c, h1, h2, h3⟩ := h.done i hi
   exact ⟨c, _, h1, h3⟩
theorem zAW (n : Nat) (w : World) (hn : n ≤ 12) :
  Calls Tryz.prog 114 #[.int .i64 (n : Int)] w fun e w' => (∃ V, e = .returned V ∧ New w w' V n (fun _ => n) fre) ∧ Below w.heap.size w w' := by
 have hmk := run_make_row' (P := Tryz.prog) 130 67 (.slice none 0 0) 24 Tryz.underlying130 infoR rfl .i64 .i64 n (by omega) (by omega)
 have HN := hid hn
 have hmx : (n : Int) ≤ 12 := by omega
 go_enter Tryz.func114, Tryz.ntmps114
 go_wp2
 clear hmk
 go_loopg [10] n (fun gg i wr => ∃ r : Nat, r ≤ n ∧ gg = n - r ∧ i = .int .i64 (r : Nat) ∧ OutF w wr n r)
 case atStart => exact ⟨0, by omega, by omega, rfl, zHQ w n⟩
 case round =>
  obtain ⟨r, hr, rfl, rfl, hO⟩ := hrel
  by_cases hrn : r < n
  . have i1 : (0 : Int) ≤ (r : Int) := by omega
    have i2 : (r : Int) < (n : Int) := by omega
    have hsize := hO.size
    have hmk := run_make_row' (P := Tryz.prog) 67 3 (.int .i64 0) 8 Tryz.underlying67 infoI rfl .i64 .i64 n (by omega) (by omega)
    have hst1 : ∀ o, (wr.alloc o).cell? ⟨w.heap.size, r, none⟩ = some (topF w.heap.size n r r) := fun o => (hO.top.alloc o).cell hrn
    have hst2 : ∀ o, (wr.alloc o).frozen? ⟨w.heap.size, r, none⟩ = false := fun o => (hO.top.alloc o).frozen r
    have hI0 := zIF hO
    have HI0 := hid hI0
    have g0 := (hI0.top.cell hrn)
    rw [show topF w.heap.size n (r + 1) r = .slice (some ⟨w.heap.size + 1 + r, 0, none⟩) n n by simp [topF]] at g0
    clear hI0 hO
    go_wp2
    clear hmk hst1 hst2 hsize g0
    go_loopg [23] n (fun gg i wi => ∃ c : Nat, c ≤ n ∧ gg = n - c ∧ i = .int .i64 (c : Nat) ∧ InF w wi n r c)
    case atStart => exact ⟨0, by omega, by omega, rfl, HI0.out⟩
    case round =>
     obtain ⟨c, hc, rfl, rfl, hI⟩ := hrel
     clear HI0
     have g0 := (hI.top.cell hrn)
     rw [show topF w.heap.size n (r + 1) r = .slice (some ⟨w.heap.size + 1 + r, 0, none⟩) n n by simp [topF]] at g0
     by_cases hcn : c < n
     . have j1 : (0 : Int) ≤ (c : Int) := by omega
       have j2 : (c : Int) < (n : Int) := by omega
       have t4 : wr.cell? ⟨w.heap.size + 1 + r, c, none⟩ = some (.int .i64 0) := by simpa using hI.cur.cell hcn
       have t5 : wr.frozen? ⟨w.heap.size + 1 + r, c, none⟩ = false := hI.cur.frozen c
       have HI := hid (inF_step hI)
       clear hI
       go_wp2
       go_roundg (n - (c + 1))
       case rel => exact ⟨c + 1, by omega, rfl, by go_num, HI.out⟩
       case measure => omega
     . obtain rfl : c = n := by omega
       have t4 : wr.cell? ⟨w.heap.size + 1 + r, r, none⟩ = some (.int .i64 1152921504606846976) := by simpa [hrn] using hI.cur.cell hrn
       have t5 : wr.frozen? ⟨w.heap.size + 1 + r, r, none⟩ = false := hI.cur.frozen r
       have HI := hid (inF_done hI)
       clear hI
       go_wp2
       go_roundg (c - (r + 1))
       case rel => exact ⟨r + 1, by omega, rfl, by go_num, HI.out⟩
       case measure => omega
  . obtain rfl : r = n := by omega
    have HO := hid hO
    clear hO
    go_wp2
    go_ret
    exact ⟨⟨_, rfl, HO.out.new HN.out⟩, HO.out.since⟩
def am (pm : Nat → Nat) (Z : Nat → Nat → Int) (p q : Nat) (m : Int) : Nat → Nat → Int := upd Z (pm p) (pm q) (min (Z (pm p) (pm q)) m)
structure Env (w : World) (B bA bM b cap : Nat) (G C pm : Nat → Nat) (K : List (Addr × Value)) (Z : Nat → Nat → Int) : Prop where
  own : OwnM w B b 4 (fun _ => 4) G C Z
  ar : ∀ k, k < 4 → w.cell? ⟨bA, k, none⟩ = some (.int .i64 (pm k : Nat))
  mv : w.cell? ⟨bM, 0, none⟩ = some (.slice (some ⟨b, 0, none⟩) 4 cap)
  lt : ∀ k, k < 4 → pm k < 4
  nA : ∀ i, i < 4 → G i ≠ bA
  nM : ∀ i, i < 4 → G i ≠ bM
  kp : ∀ x, x ∈ K → w.cell? x.1 = some x.2 ∧ ∀ i, i < 4 → G i ≠ x.1.block
theorem Env.below {w w' : World} {B bA bM b cap : Nat} {G C pm : Nat → Nat} {K : List (Addr × Value)} {Z : Nat → Nat → Int} (h : Env w B bA bM b cap G C pm K Z) (hb : Below w.heap.size w w') : Env w' B bA bM b cap G C pm K Z :=
  ⟨h.own.of_below hb, fun k hk => (hb.cell (p := ⟨bA, k, none⟩) (World.block_lt_of_cell? _ _ (h.ar k hk))).trans (h.ar k hk), (hb.cell (p := ⟨bM, 0, none⟩) (World.block_lt_of_cell? _ _ h.mv)).trans h.mv, h.lt, h.nA, h.nM, fun x hx => ⟨(hb.cell (p := x.1) (World.block_lt_of_cell? _ _ (h.kp x hx).1)).trans (h.kp x hx).1, (h.kp x hx).2⟩⟩
theorem Env.put {w : World} {B bA bM b cap : Nat} {G C pm : Nat → Nat} {K : List (Addr × Value)} {Z : Nat → Nat → Int} (h : Env w B bA bM b cap G C pm K Z) (r i k : Nat) (hi : i < 4) (hk : k < 4) (x : Int) : Env ((w.drewN r).setCell ⟨G i, k, none⟩ (.int .i64 x)) B bA bM b cap G C pm K (upd Z i k x) :=
  ⟨(h.own.drewN r).set hi hk x, fun j hj => zCZ (W := w.drewN r) (h.ar j hj) (fun e => h.nA i hi e.symm), zCZ (W := w.drewN r) h.mv (fun e => h.nM i hi e.symm), h.lt, h.nA, h.nM, fun y hy => ⟨zCZ (W := w.drewN r) (h.kp y hy).1 (fun e => (h.kp y hy).2 i hi e.symm), (h.kp y hy).2⟩⟩
theorem Env.add {w : World} {B bA bM b cap : Nat} {G C pm : Nat → Nat} {K : List (Addr × Value)} {Z : Nat → Nat → Int} (h : Env w B bA bM b cap G C pm K Z) (x : Addr × Value) (h1 : w.cell? x.1 = some x.2) (h2 : ∀ i, i < 4 → G i ≠ x.1.block) : Env w B bA bM b cap G C pm (x :: K) Z :=
 ⟨h.own, h.ar, h.mv, h.lt, h.nA, h.nM, fun y hy => by
  rcases List.mem_cons.1 hy with rfl | hy
  . exact ⟨h1, h2⟩
  . exact h.kp y hy⟩
theorem Env.rest {w : World} {B bA bM b cap : Nat} {G C pm : Nat → Nat} {K : List (Addr × Value)} {Z : Nat → Nat → Int} {x : Addr × Value} (h : Env w B bA bM b cap G C pm (x :: K) Z) : Env w B bA bM b cap G C pm K Z :=
  ⟨h.own, h.ar, h.mv, h.lt, h.nA, h.nM, fun y hy => h.kp y (List.mem_cons_of_mem _ hy)⟩
theorem zAF (B bA bM b cap : Nat) (G C pm : Nat → Nat) (K : List (Addr × Value)) (Z : Nat → Nat → Int) (p q : Nat) (m : Int) (w : World) (h : Env w B bA bM b cap G C pm K Z) (hp : p < 4) (hq : q < 4) (hcap : 4 ≤ cap) :
   Calls Tryz.prog 166 #[.int .i64 (p : Int), .int .i64 (q : Int), .int .i64 m, .pointer (some ⟨bA, 0, none⟩), .pointer (some ⟨bM, 0, none⟩)] w fun e w' => e = .returned (.tuple #[]) ∧ Env w' B bA bM b cap G C pm K (am pm Z p q m) ∧ Below B w w' := by
 have HE := hid h
 have p1 : (0 : Int) ≤ (p : Int) := by omega
 have p2 : (p : Int) < 4 := by omega
 have q1 : (0 : Int) ≤ (q : Int) := by omega
 have q2 : (q : Int) < 4 := by omega
 have a1 := h.ar p hp
 have a2 := h.ar q hq
 have a3 := h.mv
 have l1 := h.lt p hp
 have l2 := h.lt q hq
 obtain ⟨i, hi⟩ : ∃ i, pm p = i := ⟨_, rfl⟩
 obtain ⟨k, hk⟩ : ∃ k, pm q = k := ⟨_, rfl⟩
 rw [hi] at a1 l1
 rw [hk] at a2 l2
 have i1 : (0 : Int) ≤ (i : Int) := by omega
 have i2 : (i : Int) < 4 := by omega
 have k1 : (0 : Int) ≤ (k : Int) := by omega
 have k2 : (k : Int) < 4 := by omega
 obtain ⟨q0, c1, hc1⟩ := h.own.top i l1
 rw [hc1 (by decide)] at c1
 have c2 := (h.own.row i l1 (by decide)).cell (k := k) l2
 have c3 := (h.own.row i l1 (by decide)).frozen k
 have hcp := (h.own.cp i l1).1
 have HPT := hid (fun (r : Nat) (x : Int) => HE.out.put r i k l1 l2 x)
 have HBE := hid (fun (r : Nat) (x : Int) => (zA8 (Below.refl B w) r).setCell (p := ⟨G i, k, none⟩) (h.own.gB i l1 (by decide)) (.int .i64 x))
 have HAM := hid (show am pm Z p q m = upd Z i k (min (Z i k) m) by unfold am; rw [hi, hk])
 obtain ⟨gi, hgi⟩ : ∃ g, G i = g := ⟨_, rfl⟩
 obtain ⟨ci, hci⟩ : ∃ g, C i = g := ⟨_, rfl⟩
 obtain ⟨x, hx⟩ : ∃ g, Z i k = g := ⟨_, rfl⟩
 rw [hgi, hci] at c1
 rw [hgi, hx] at c2
 rw [hgi] at c3 HPT HBE
 rw [hci] at hcp
 rw [hx] at HAM
 clear hgi hci hx hc1 h hi hk
 by_cases hm : m < x
 . have HV := hid (show min x m = m by omega)
   go_enter Tryz.func166, Tryz.ntmps166
   go_wp2_with fail
   go_quiet (fail)
   go_wp2_with fail
   go_region
   all_goals
    go_wp2_with fail
    refine bodyPost_end (results_none rfl _ _ _) rfl ?_
    rw [HAM.out, HV.out]
    exact ⟨rfl, HPT.out _ _, HBE.out _ _⟩
 . have hm2 : x ≤ m := by omega
   have HV := hid (show min x m = x by omega)
   go_enter Tryz.func166, Tryz.ntmps166
   go_wp2_with fail
   go_quiet (fail)
   go_wp2_with fail
   go_region
   all_goals
    go_wp2_with fail
    refine bodyPost_end (results_none rfl _ _ _) rfl ?_
    rw [HAM.out, HV.out]
    exact ⟨rfl, HPT.out _ _, HBE.out _ _⟩
abbrev cloV (bA bM : Nat) : Value := .func (.func 166) #[] #[.pointer (some ⟨bA, 0, none⟩), .pointer (some ⟨bM, 0, none⟩)]
theorem zA0 (B bA bM b cap : Nat) (G C pm : Nat → Nat) (K : List (Addr × Value)) (Z : Nat → Nat → Int) (bF p q : Nat) (w : World) (h : Env w B bA bM b cap G C pm ((⟨bF, 0, none⟩, cloV bA bM) :: K) Z) (hp : p < 4) (hq : q < 4) (hcap : 4 ≤ cap) :
  Calls Tryz.prog 178 #[.int .i64 (p : Int), .int .i64 (q : Int), .pointer (some ⟨bF, 0, none⟩)] w fun e w' => e = .returned (.tuple #[]) ∧ Env w' B bA bM b cap G C pm ((⟨bF, 0, none⟩, cloV bA bM) :: K) (am pm Z p q (-1)) ∧ Below B w w' := by
 have HE := hid h
 have c0 : w.cell? ⟨bF, 0, none⟩ = some (cloV bA bM) := (h.kp _ (List.mem_cons_self ..)).1
 clear h
 go_enter Tryz.func178, Tryz.ntmps178
 go_wp2_with fail
 refine (zAF B bA bM b cap G C pm _ Z p q (-1) _ HE.out hp hq hcap).mono ?_
 rintro e w1 ⟨rfl, hE1, hB1⟩
 have HE1 := hid hE1
 have HB1 := hid hB1
 clear hE1 hB1 c0
 go_wp2_with fail
 refine bodyPost_end (results_none rfl _ _ _) rfl ?_
 exact ⟨rfl, HE1.out, HB1.out⟩
theorem zBK (B bA bM b cap : Nat) (G C pm : Nat → Nat) (K : List (Addr × Value)) (Z : Nat → Nat → Int) (bF p q : Nat) (w : World) (h : Env w B bA bM b cap G C pm ((⟨bF, 0, none⟩, cloV bA bM) :: K) Z) (hp : p < 4) (hq : q < 4) (hcap : 4 ≤ cap) :
  Calls Tryz.prog 179 #[.int .i64 (p : Int), .int .i64 (q : Int), .pointer (some ⟨bF, 0, none⟩)] w fun e w' => e = .returned (.tuple #[]) ∧ Env w' B bA bM b cap G C pm ((⟨bF, 0, none⟩, cloV bA bM) :: K) (am pm (am pm Z p q 0) q p 0) ∧ Below B w w' := by
 have HE := hid h
 have c0 : w.cell? ⟨bF, 0, none⟩ = some (cloV bA bM) := (h.kp _ (List.mem_cons_self ..)).1
 clear h
 go_enter Tryz.func179, Tryz.ntmps179
 go_wp2_with fail
 refine (zAF B bA bM b cap G C pm _ Z p q 0 _ HE.out hp hq hcap).mono ?_
 rintro e w1 ⟨rfl, hE1, hB1⟩
 have HE1 := hid hE1
 have HB1 := hid hB1
 have c1 : w1.cell? ⟨bF, 0, none⟩ = some (cloV bA bM) := (hE1.kp _ (List.mem_cons_self ..)).1
 clear hE1 hB1 c0
 go_wp2_with fail
 refine (zAF B bA bM b cap G C pm _ _ q p 0 _ HE1.out hq hp hcap).mono ?_
 rintro e w2 ⟨rfl, hE2, hB2⟩
 have HE2 := hid hE2
 have HB2 := hid (HB1.out.trans hB2)
 clear hE2 hB2 c1
 go_wp2_with fail
 refine bodyPost_end (results_none rfl _ _ _) rfl ?_
 exact ⟨rfl, HE2.out, HB2.out⟩
theorem zF0 (B bA bM b cap : Nat) (G C pm : Nat → Nat) (K : List (Addr × Value)) (Z : Nat → Nat → Int) (w : World) (h : Env w B bA bM b cap G C pm K Z) (hB : B ≤ w.heap.size) (hcap : 4 ≤ cap) :
  Calls Tryz.prog 167 #[.int .i64 1, cloV bA bM] w fun e w' => e = .returned (.tuple #[]) ∧ Env w' B bA bM b cap G C pm K (am pm Z 1 2 (-1)) ∧ Below B w w' := by
 have hlt : ∀ i, i < 4 → G i < w.heap.size := fun i hi => (h.own.row i hi (by decide)).lt
 have HE0 : Hid (Env (w.alloc (.cells #[cloV bA bM] 242)) B bA bM b cap G C pm ((⟨w.heap.size, 0, none⟩, cloV bA bM) :: K) Z) := (h.below (zAI _ _)).add (⟨w.heap.size, 0, none⟩, cloV bA bM) (by show (w.alloc (.cells #[cloV bA bM] 242)).cell? ⟨w.heap.size, 0, none⟩ = _; go_simp) (fun i hi => by have := hlt i hi; show G i ≠ w.heap.size; omega)
 have HB0 : Hid (Below B w (w.alloc (.cells #[cloV bA bM] 242))) := (Below.refl _ _).alloc hB _
 clear h hlt
 go_enter Tryz.func167, Tryz.ntmps167
 go_wp2_with fail
 refine (zA0 B bA bM b cap G C pm K _ w.heap.size 1 2 _ HE0.out (by decide) (by decide) hcap).mono ?_
 rintro e w1 ⟨rfl, hE, hBB⟩
 have HE1 := hid hE
 have HB1 := hid (HB0.out.trans hBB)
 clear hE hBB
 go_wp2_with fail
 refine bodyPost_end (results_none rfl _ _ _) rfl ?_
 exact ⟨rfl, HE1.out.rest, HB1.out⟩
theorem zFM (B bA bM b cap : Nat) (G C pm : Nat → Nat) (K : List (Addr × Value)) (Z : Nat → Nat → Int) (w : World) (h : Env w B bA bM b cap G C pm K Z) (hB : B ≤ w.heap.size) (hcap : 4 ≤ cap) :
  Calls Tryz.prog 167 #[.int .i64 3, cloV bA bM] w fun e w' => e = .returned (.tuple #[]) ∧ Env w' B bA bM b cap G C pm K (am pm (am pm (am pm (am pm Z 1 2 0) 2 1 0) 0 2 (-1)) 1 3 (-1)) ∧ Below B w w' := by
 have hlt : ∀ i, i < 4 → G i < w.heap.size := fun i hi => (h.own.row i hi (by decide)).lt
 have HE0 : Hid (Env (w.alloc (.cells #[cloV bA bM] 242)) B bA bM b cap G C pm ((⟨w.heap.size, 0, none⟩, cloV bA bM) :: K) Z) := (h.below (zAI _ _)).add (⟨w.heap.size, 0, none⟩, cloV bA bM) (by show (w.alloc (.cells #[cloV bA bM] 242)).cell? ⟨w.heap.size, 0, none⟩ = _; go_simp) (fun i hi => by have := hlt i hi; show G i ≠ w.heap.size; omega)
 have HB0 : Hid (Below B w (w.alloc (.cells #[cloV bA bM] 242))) := (Below.refl _ _).alloc hB _
 clear h hlt
 go_enter Tryz.func167, Tryz.ntmps167
 go_wp2_with fail
 refine (zBK B bA bM b cap G C pm K _ w.heap.size 1 2 _ HE0.out (by decide) (by decide) hcap).mono ?_
 rintro e w1 ⟨rfl, hE, hBB⟩
 have HE1 := hid hE
 have HB1 := hid (HB0.out.trans hBB)
 clear hE hBB
 go_wp2_with fail
 refine (zA0 B bA bM b cap G C pm K _ w.heap.size 0 2 _ HE1.out (by decide) (by decide) hcap).mono ?_
 rintro e w2 ⟨rfl, hE, hBB⟩
 have HE2 := hid hE
 have HB2 := hid (HB1.out.trans hBB)
 clear hE hBB
 go_wp2_with fail
 refine (zA0 B bA bM b cap G C pm K _ w.heap.size 1 3 _ HE2.out (by decide) (by decide) hcap).mono ?_
 rintro e w3 ⟨rfl, hE, hBB⟩
 have HE3 := hid hE
 have HB3 := hid (HB2.out.trans hBB)
 clear hE hBB
 go_wp2_with fail
 refine bodyPost_end (results_none rfl _ _ _) rfl ?_
 exact ⟨rfl, HE3.out.rest, HB3.out⟩
theorem zFB (B bA bM b cap : Nat) (G C pm : Nat → Nat) (K : List (Addr × Value)) (Z : Nat → Nat → Int) (w : World) (h : Env w B bA bM b cap G C pm K Z) (hB : B ≤ w.heap.size) (hcap : 4 ≤ cap) :
  Calls Tryz.prog 167 #[.int .i64 5, cloV bA bM] w fun e w' => e = .returned (.tuple #[]) ∧ Env w' B bA bM b cap G C pm K (am pm (am pm (am pm Z 0 2 (-1)) 2 1 (-1)) 1 3 (-1)) ∧ Below B w w' := by
 have hlt : ∀ i, i < 4 → G i < w.heap.size := fun i hi => (h.own.row i hi (by decide)).lt
 have HE0 : Hid (Env (w.alloc (.cells #[cloV bA bM] 242)) B bA bM b cap G C pm ((⟨w.heap.size, 0, none⟩, cloV bA bM) :: K) Z) := (h.below (zAI _ _)).add (⟨w.heap.size, 0, none⟩, cloV bA bM) (by show (w.alloc (.cells #[cloV bA bM] 242)).cell? ⟨w.heap.size, 0, none⟩ = _; go_simp) (fun i hi => by have := hlt i hi; show G i ≠ w.heap.size; omega)
 have HB0 : Hid (Below B w (w.alloc (.cells #[cloV bA bM] 242))) := (Below.refl _ _).alloc hB _
 clear h hlt
 go_enter Tryz.func167, Tryz.ntmps167
 go_wp2_with fail
 refine (zA0 B bA bM b cap G C pm K _ w.heap.size 0 2 _ HE0.out (by decide) (by decide) hcap).mono ?_
 rintro e w1 ⟨rfl, hE, hBB⟩
 have HE1 := hid hE
 have HB1 := hid (HB0.out.trans hBB)
 clear hE hBB
 go_wp2_with fail
 refine (zA0 B bA bM b cap G C pm K _ w.heap.size 2 1 _ HE1.out (by decide) (by decide) hcap).mono ?_
 rintro e w2 ⟨rfl, hE, hBB⟩
 have HE2 := hid hE
 have HB2 := hid (HB1.out.trans hBB)
 clear hE hBB
 go_wp2_with fail
 refine (zA0 B bA bM b cap G C pm K _ w.heap.size 1 3 _ HE2.out (by decide) (by decide) hcap).mono ?_
 rintro e w3 ⟨rfl, hE, hBB⟩
 have HE3 := hid hE
 have HB3 := hid (HB2.out.trans hBB)
 clear hE hBB
 go_wp2_with fail
 refine bodyPost_end (results_none rfl _ _ _) rfl ?_
 exact ⟨rfl, HE3.out.rest, HB3.out⟩
theorem zFC (B bA bM b cap : Nat) (G C pm : Nat → Nat) (K : List (Addr × Value)) (Z : Nat → Nat → Int) (w : World) (h : Env w B bA bM b cap G C pm K Z) (hB : B ≤ w.heap.size) (hcap : 4 ≤ cap) :
  Calls Tryz.prog 167 #[.int .i64 7, cloV bA bM] w fun e w' => e = .returned (.tuple #[]) ∧ Env w' B bA bM b cap G C pm K (am pm (am pm (am pm Z 0 2 0) 2 0 0) 1 3 (-1)) ∧ Below B w w' := by
 have hlt : ∀ i, i < 4 → G i < w.heap.size := fun i hi => (h.own.row i hi (by decide)).lt
 have HE0 : Hid (Env (w.alloc (.cells #[cloV bA bM] 242)) B bA bM b cap G C pm ((⟨w.heap.size, 0, none⟩, cloV bA bM) :: K) Z) := (h.below (zAI _ _)).add (⟨w.heap.size, 0, none⟩, cloV bA bM) (by show (w.alloc (.cells #[cloV bA bM] 242)).cell? ⟨w.heap.size, 0, none⟩ = _; go_simp) (fun i hi => by have := hlt i hi; show G i ≠ w.heap.size; omega)
 have HB0 : Hid (Below B w (w.alloc (.cells #[cloV bA bM] 242))) := (Below.refl _ _).alloc hB _
 clear h hlt
 go_enter Tryz.func167, Tryz.ntmps167
 go_wp2_with fail
 refine (zBK B bA bM b cap G C pm K _ w.heap.size 0 2 _ HE0.out (by decide) (by decide) hcap).mono ?_
 rintro e w1 ⟨rfl, hE, hBB⟩
 have HE1 := hid hE
 have HB1 := hid (HB0.out.trans hBB)
 clear hE hBB
 go_wp2_with fail
 refine (zA0 B bA bM b cap G C pm K _ w.heap.size 1 3 _ HE1.out (by decide) (by decide) hcap).mono ?_
 rintro e w2 ⟨rfl, hE, hBB⟩
 have HE2 := hid hE
 have HB2 := hid (HB1.out.trans hBB)
 clear hE hBB
 go_wp2_with fail
 refine bodyPost_end (results_none rfl _ _ _) rfl ?_
 exact ⟨rfl, HE2.out.rest, HB2.out⟩
theorem zF1 (B bA bM b cap : Nat) (G C pm : Nat → Nat) (K : List (Addr × Value)) (Z : Nat → Nat → Int) (w : World) (h : Env w B bA bM b cap G C pm K Z) (hB : B ≤ w.heap.size) (hcap : 4 ≤ cap) :
  Calls Tryz.prog 167 #[.int .i64 9, cloV bA bM] w fun e w' => e = .returned (.tuple #[]) ∧ Env w' B bA bM b cap G C pm K (am pm (am pm Z 2 0 (-1)) 1 3 (-1)) ∧ Below B w w' := by
 have hlt : ∀ i, i < 4 → G i < w.heap.size := fun i hi => (h.own.row i hi (by decide)).lt
 have HE0 : Hid (Env (w.alloc (.cells #[cloV bA bM] 242)) B bA bM b cap G C pm ((⟨w.heap.size, 0, none⟩, cloV bA bM) :: K) Z) := (h.below (zAI _ _)).add (⟨w.heap.size, 0, none⟩, cloV bA bM) (by show (w.alloc (.cells #[cloV bA bM] 242)).cell? ⟨w.heap.size, 0, none⟩ = _; go_simp) (fun i hi => by have := hlt i hi; show G i ≠ w.heap.size; omega)
 have HB0 : Hid (Below B w (w.alloc (.cells #[cloV bA bM] 242))) := (Below.refl _ _).alloc hB _
 clear h hlt
 go_enter Tryz.func167, Tryz.ntmps167
 go_wp2_with fail
 refine (zA0 B bA bM b cap G C pm K _ w.heap.size 2 0 _ HE0.out (by decide) (by decide) hcap).mono ?_
 rintro e w1 ⟨rfl, hE, hBB⟩
 have HE1 := hid hE
 have HB1 := hid (HB0.out.trans hBB)
 clear hE hBB
 go_wp2_with fail
 refine (zA0 B bA bM b cap G C pm K _ w.heap.size 1 3 _ HE1.out (by decide) (by decide) hcap).mono ?_
 rintro e w2 ⟨rfl, hE, hBB⟩
 have HE2 := hid hE
 have HB2 := hid (HB1.out.trans hBB)
 clear hE hBB
 go_wp2_with fail
 refine bodyPost_end (results_none rfl _ _ _) rfl ?_
 exact ⟨rfl, HE2.out.rest, HB2.out⟩
theorem zDX (B bA bM b cap : Nat) (G C pm : Nat → Nat) (K : List (Addr × Value)) (Z : Nat → Nat → Int) (w : World) (h : Env w B bA bM b cap G C pm K Z) (hB : B ≤ w.heap.size) (hcap : 4 ≤ cap) :
  Calls Tryz.prog 167 #[.int .i64 11, cloV bA bM] w fun e w' => e = .returned (.tuple #[]) ∧ Env w' B bA bM b cap G C pm K (am pm (am pm (am pm Z 2 0 (-1)) 1 3 0) 3 1 0) ∧ Below B w w' := by
 have hlt : ∀ i, i < 4 → G i < w.heap.size := fun i hi => (h.own.row i hi (by decide)).lt
 have HE0 : Hid (Env (w.alloc (.cells #[cloV bA bM] 242)) B bA bM b cap G C pm ((⟨w.heap.size, 0, none⟩, cloV bA bM) :: K) Z) := (h.below (zAI _ _)).add (⟨w.heap.size, 0, none⟩, cloV bA bM) (by show (w.alloc (.cells #[cloV bA bM] 242)).cell? ⟨w.heap.size, 0, none⟩ = _; go_simp) (fun i hi => by have := hlt i hi; show G i ≠ w.heap.size; omega)
 have HB0 : Hid (Below B w (w.alloc (.cells #[cloV bA bM] 242))) := (Below.refl _ _).alloc hB _
 clear h hlt
 go_enter Tryz.func167, Tryz.ntmps167
 go_wp2_with fail
 refine (zA0 B bA bM b cap G C pm K _ w.heap.size 2 0 _ HE0.out (by decide) (by decide) hcap).mono ?_
 rintro e w1 ⟨rfl, hE, hBB⟩
 have HE1 := hid hE
 have HB1 := hid (HB0.out.trans hBB)
 clear hE hBB
 go_wp2_with fail
 refine (zBK B bA bM b cap G C pm K _ w.heap.size 1 3 _ HE1.out (by decide) (by decide) hcap).mono ?_
 rintro e w2 ⟨rfl, hE, hBB⟩
 have HE2 := hid hE
 have HB2 := hid (HB1.out.trans hBB)
 clear hE hBB
 go_wp2_with fail
 refine bodyPost_end (results_none rfl _ _ _) rfl ?_
 exact ⟨rfl, HE2.out.rest, HB2.out⟩
theorem zD3 (B bA bM b cap : Nat) (G C pm : Nat → Nat) (K : List (Addr × Value)) (Z : Nat → Nat → Int) (w : World) (h : Env w B bA bM b cap G C pm K Z) (hB : B ≤ w.heap.size) (hcap : 4 ≤ cap) :
  Calls Tryz.prog 167 #[.int .i64 13, cloV bA bM] w fun e w' => e = .returned (.tuple #[]) ∧ Env w' B bA bM b cap G C pm K (am pm (am pm (am pm (am pm Z 0 2 0) 2 0 0) 1 3 0) 3 1 0) ∧ Below B w w' := by
 have hlt : ∀ i, i < 4 → G i < w.heap.size := fun i hi => (h.own.row i hi (by decide)).lt
 have HE0 : Hid (Env (w.alloc (.cells #[cloV bA bM] 242)) B bA bM b cap G C pm ((⟨w.heap.size, 0, none⟩, cloV bA bM) :: K) Z) := (h.below (zAI _ _)).add (⟨w.heap.size, 0, none⟩, cloV bA bM) (by show (w.alloc (.cells #[cloV bA bM] 242)).cell? ⟨w.heap.size, 0, none⟩ = _; go_simp) (fun i hi => by have := hlt i hi; show G i ≠ w.heap.size; omega)
 have HB0 : Hid (Below B w (w.alloc (.cells #[cloV bA bM] 242))) := (Below.refl _ _).alloc hB _
 clear h hlt
 go_enter Tryz.func167, Tryz.ntmps167
 go_wp2_with fail
 refine (zBK B bA bM b cap G C pm K _ w.heap.size 0 2 _ HE0.out (by decide) (by decide) hcap).mono ?_
 rintro e w1 ⟨rfl, hE, hBB⟩
 have HE1 := hid hE
 have HB1 := hid (HB0.out.trans hBB)
 clear hE hBB
 go_wp2_with fail
 refine (zBK B bA bM b cap G C pm K _ w.heap.size 1 3 _ HE1.out (by decide) (by decide) hcap).mono ?_
 rintro e w2 ⟨rfl, hE, hBB⟩
 have HE2 := hid hE
 have HB2 := hid (HB1.out.trans hBB)
 clear hE hBB
 go_wp2_with fail
 refine bodyPost_end (results_none rfl _ _ _) rfl ?_
 exact ⟨rfl, HE2.out.rest, HB2.out⟩
theorem zCS (r : Nat) (v : Int) (w : World) (h1 : 1 ≤ r) (h2 : r ≤ 13) (hz : 3 < w.heap.size) (hc : w.cell? ⟨3, r, none⟩ = some (.int .i64 v)) :
  Calls Tryz.prog 177 #[.int .i64 (r : Int)] w fun e w' => e = .returned (.tuple #[.int .i64 v, .int .i64 0]) ∧ Below w.heap.size w w' := by
 have a1 : (1 : Int) ≤ (r : Int) := by omega
 have a2 : (r : Int) ≤ 13 := by omega
 have a3 : (0 : Int) ≤ (r : Int) := by omega
 have a4 : (r : Int) < 14 := by omega
 go_enter Tryz.func177, Tryz.ntmps177
 go_wp2
 go_ret2
 exact ⟨rfl, by go_grown⟩
theorem res2c {P : Program} {fn : Func} {p a : Tmp} {ty : TypeId} (h : fn.results = #[.tmp a, .cell p ty]) (tmps : Array Value) (w : World) (g : Nat) (cs : List Value) (d : TypeDesc)
  (hp : tmps.getD p undef = .pointer (some ⟨g, 0, none⟩)) (hc : w.rangeAt g 0 cs) (hu : P.underlying ty = some d) (hd : d.isRow = true) (hi : (P.info? ty).map (·.size) = some cs.length) :
  (results fn tmps).run P w = .ok (.tuple #[tmps.getD a undef, .agg cs.toArray]) w := by
 have hp' : tmps[p]?.getD undef = .pointer (some ⟨g, 0, none⟩) := by simpa using hp
 simp [results, h, hp', asAddr, run_loadVar_mid w g 0 ty cs d hc hu hd hi]
theorem range4 {w : World} {m : Nat} {x y z u a b c d : Value} (h0 : w.cell? ⟨m, 0, none⟩ = some x) (h1 : w.cell? ⟨m, 1, none⟩ = some y) (h2 : w.cell? ⟨m, 2, none⟩ = some z) (h3 : w.cell? ⟨m, 3, none⟩ = some u) :
  ((((w.setCell ⟨m, 0, none⟩ a).setCell ⟨m, 1, none⟩ b).setCell ⟨m, 2, none⟩ c).setCell ⟨m, 3, none⟩ d).rangeAt m 0 [a, b, c, d] := by
 intro j v hv
 match j, hv with
 | 0, hv => simp at hv; subst hv; simp [go_sem, h0, h1, h2, h3]
 | 1, hv => simp at hv; subst hv; simp [go_sem, h0, h1, h2, h3]
 | 2, hv => simp at hv; subst hv; simp [go_sem, h0, h1, h2, h3]
 | 3, hv => simp at hv; subst hv; simp [go_sem, h0, h1, h2, h3]
theorem below4 {w w1 : World} {n : Nat} {a b c d : Value} (h : Below n w w1) (m : Nat) (hm : n ≤ m) : Below n w ((((w1.setCell ⟨m, 0, none⟩ a).setCell ⟨m, 1, none⟩ b).setCell ⟨m, 2, none⟩ c).setCell ⟨m, 3, none⟩ d) :=
  (((h.setCell (p := ⟨m, 0, none⟩) hm _).setCell (p := ⟨m, 1, none⟩) hm _).setCell (p := ⟨m, 2, none⟩) hm _).setCell (p := ⟨m, 3, none⟩) hm _
abbrev zBS (a b c d : Int) : Value := .agg #[.int .i64 a, .int .i64 b, .int .i64 c, .int .i64 d]
theorem size4 : (Tryz.prog.info? 239).map (·.size) = some 4 := by kernel_rfl
theorem zFX (r : Nat) (v : Nat) (w : World) (h1 : 1 ≤ r) (h2 : r ≤ 13) (hz : 3 < w.heap.size) (hc : w.cell? ⟨3, r, none⟩ = some (.int .i64 (v : Int))) (hv : v < r) :
  Calls Tryz.prog 165 #[.int .i64 (r : Int)] w fun e w' => e = .returned (.tuple #[.int .i64 (v : Int), zBS 2 3 0 1]) ∧ Below w.heap.size w w' := by
 have hb1 := zAI w (.cells #[.int .i64 0, .int .i64 0, .int .i64 0, .int .i64 0] 239)
 have HC := hid ((hb1.cell (p := ⟨3, r, none⟩) hz).trans hc)
 have HZ := hid (show 3 < (w.alloc (.cells #[.int .i64 0, .int .i64 0, .int .i64 0, .int .i64 0] 239)).heap.size by first | (simp; done) | (simp; omega))
 have HB := hid hb1
 have q1 : (v : Int) < (r : Int) := by omega
 have HX : Hid (∀ k, k < 4 → (w.alloc (.cells #[.int .i64 0, .int .i64 0, .int .i64 0, .int .i64 0] 239)).cell? ⟨w.heap.size, k, none⟩ = some (.int .i64 0) ∧ (w.alloc (.cells #[.int .i64 0, .int .i64 0, .int .i64 0, .int .i64 0] 239)).frozen? ⟨w.heap.size, k, none⟩ = false) := fun k hk => by
  rcases (by omega : k = 0 ∨ k = 1 ∨ k = 2 ∨ k = 3) with rfl | rfl | rfl | rfl <;> exact ⟨by go_simp, by go_simp⟩
 have H12 := hid (And.intro h1 h2)
 clear hb1 hc hz h1 h2 hv
 go_enter Tryz.func165, Tryz.ntmps165
 go_wp2_with fail
 refine (zCS r v _ H12.out.1 H12.out.2 HZ.out HC.out).mono ?_
 rintro e w1 ⟨rfl, hB1⟩
 have hlt : w.heap.size < (w.alloc (.cells #[.int .i64 0, .int .i64 0, .int .i64 0, .int .i64 0] 239)).heap.size := by simp
 have c0 := (hB1.cell (p := ⟨w.heap.size, 0, none⟩) hlt).trans (HX.out 0 (by decide)).1
 have c1 := (hB1.cell (p := ⟨w.heap.size, 1, none⟩) hlt).trans (HX.out 1 (by decide)).1
 have c2 := (hB1.cell (p := ⟨w.heap.size, 2, none⟩) hlt).trans (HX.out 2 (by decide)).1
 have c3 := (hB1.cell (p := ⟨w.heap.size, 3, none⟩) hlt).trans (HX.out 3 (by decide)).1
 have f0 := (hB1.frozen (p := ⟨w.heap.size, 0, none⟩) hlt).trans (HX.out 0 (by decide)).2
 have f1 := (hB1.frozen (p := ⟨w.heap.size, 1, none⟩) hlt).trans (HX.out 1 (by decide)).2
 have f2 := (hB1.frozen (p := ⟨w.heap.size, 2, none⟩) hlt).trans (HX.out 2 (by decide)).2
 have f3 := (hB1.frozen (p := ⟨w.heap.size, 3, none⟩) hlt).trans (HX.out 3 (by decide)).2
 have HR := hid (range4 (a := .int .i64 2) (b := .int .i64 3) (c := .int .i64 0) (d := .int .i64 1) c0 c1 c2 c3)
 have HB1 := hid (HB.out.trans (hB1.mono (by simp)))
 clear hB1 hlt HX
 go_wp2
 refine bodyPost_ret (res2c (g := w.heap.size) (cs := [.int .i64 2, .int .i64 3, .int .i64 0, .int .i64 1]) rfl _ _ _ (by rfl) HR.out Tryz.underlying239 rfl size4) rfl ?_
 exact ⟨rfl, below4 HB1.out _ (Nat.le_refl _)⟩
theorem zHN (r : Nat) (v : Nat) (w : World) (h1 : 1 ≤ r) (h2 : r ≤ 13) (hz : 3 < w.heap.size) (hc : w.cell? ⟨3, r, none⟩ = some (.int .i64 (v : Int))) (hv : r ≤ v) :
  Calls Tryz.prog 165 #[.int .i64 (r : Int)] w fun e w' => e = .returned (.tuple #[.int .i64 (r : Int), zBS 0 1 2 3]) ∧ Below w.heap.size w w' := by
 have hb1 := zAI w (.cells #[.int .i64 0, .int .i64 0, .int .i64 0, .int .i64 0] 239)
 have HC := hid ((hb1.cell (p := ⟨3, r, none⟩) hz).trans hc)
 have HZ := hid (show 3 < (w.alloc (.cells #[.int .i64 0, .int .i64 0, .int .i64 0, .int .i64 0] 239)).heap.size by first | (simp; done) | (simp; omega))
 have HB := hid hb1
 have q1 : (r : Int) ≤ (v : Int) := by omega
 have q2 : ¬ (v : Int) < (r : Int) := by omega
 have HX : Hid (∀ k, k < 4 → (w.alloc (.cells #[.int .i64 0, .int .i64 0, .int .i64 0, .int .i64 0] 239)).cell? ⟨w.heap.size, k, none⟩ = some (.int .i64 0) ∧ (w.alloc (.cells #[.int .i64 0, .int .i64 0, .int .i64 0, .int .i64 0] 239)).frozen? ⟨w.heap.size, k, none⟩ = false) := fun k hk => by
  rcases (by omega : k = 0 ∨ k = 1 ∨ k = 2 ∨ k = 3) with rfl | rfl | rfl | rfl <;> exact ⟨by go_simp, by go_simp⟩
 have H12 := hid (And.intro h1 h2)
 clear hb1 hc hz h1 h2 hv
 go_enter Tryz.func165, Tryz.ntmps165
 go_wp2_with fail
 refine (zCS r v _ H12.out.1 H12.out.2 HZ.out HC.out).mono ?_
 rintro e w1 ⟨rfl, hB1⟩
 have hlt : w.heap.size < (w.alloc (.cells #[.int .i64 0, .int .i64 0, .int .i64 0, .int .i64 0] 239)).heap.size := by simp
 have c0 := (hB1.cell (p := ⟨w.heap.size, 0, none⟩) hlt).trans (HX.out 0 (by decide)).1
 have c1 := (hB1.cell (p := ⟨w.heap.size, 1, none⟩) hlt).trans (HX.out 1 (by decide)).1
 have c2 := (hB1.cell (p := ⟨w.heap.size, 2, none⟩) hlt).trans (HX.out 2 (by decide)).1
 have c3 := (hB1.cell (p := ⟨w.heap.size, 3, none⟩) hlt).trans (HX.out 3 (by decide)).1
 have f0 := (hB1.frozen (p := ⟨w.heap.size, 0, none⟩) hlt).trans (HX.out 0 (by decide)).2
 have f1 := (hB1.frozen (p := ⟨w.heap.size, 1, none⟩) hlt).trans (HX.out 1 (by decide)).2
 have f2 := (hB1.frozen (p := ⟨w.heap.size, 2, none⟩) hlt).trans (HX.out 2 (by decide)).2
 have f3 := (hB1.frozen (p := ⟨w.heap.size, 3, none⟩) hlt).trans (HX.out 3 (by decide)).2
 have HR := hid (range4 (a := .int .i64 0) (b := .int .i64 1) (c := .int .i64 2) (d := .int .i64 3) c0 c1 c2 c3)
 have HB1 := hid (HB.out.trans (hB1.mono (by simp)))
 clear hB1 hlt HX
 go_wp2
 refine bodyPost_ret (res2c (g := w.heap.size) (cs := [.int .i64 0, .int .i64 1, .int .i64 2, .int .i64 3]) rfl _ _ _ (by rfl) HR.out Tryz.underlying239 rfl size4) rfl ?_
 exact ⟨rfl, below4 HB1.out _ (Nat.le_refl _)⟩
def apF (v : Nat) : Nat := if v = 1 ∨ v = 3 ∨ v = 7 then 1 else 2
def apT (v : Nat) : Nat := if v = 1 ∨ v = 3 then 2 else if v = 5 then 1 else if v = 7 then 3 else 0
theorem zAV (v : Nat) (w : World) (hv : v = 1 ∨ v = 3 ∨ v = 5 ∨ v = 7 ∨ v = 9 ∨ v = 11 ∨ v = 13) :
  Calls Tryz.prog 168 #[.int .i64 (v : Int)] w fun e w' => e = .returned (.tuple #[.int .i64 (apF v : Int), .int .i64 (apT v : Int)]) ∧ w' = w := by
 rcases hv with rfl | rfl | rfl | rfl | rfl | rfl | rfl
 all_goals
  go_enter Tryz.func168, Tryz.ntmps168
  go_wp2
  go_ret2
  exact ⟨rfl, rfl⟩
end Go.Proofs.YtnlmknbhppdliaaGreatDoor.B8
