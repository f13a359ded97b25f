/-
  A reader of tokens in memory; what its smallest functions do.
-/
import Derived.Test.YtngbobnodecloaaDoorKT
import Derived.Test.YtngbobnodecloaaDoorS
import Derived.Deep.MidRow
import Derived.Deep.QuietTactic
import Derived.BigQuiet
namespace Go.Proofs.YtngbobnodecloaaDoor
open Go.ChangeShapes Go.WideShapes Go.ChangeAt Go.RowKit
set_option linter.unusedVariables false
set_option linter.unusedSimpArgs false
theorem Fr.drewN {X : Nat → Prop} {a w : World} (h : Fr X a w) : ∀ n, Fr X a (w.drewN n)
  | 0 => h
  | n + 1 => (h.drewN n).drew
/-- The table of comparisons. -/
def Cmt (w : World) : Prop := 4 < w.heap.size ∧ ∀ i : Nat, i < 6 → w.cell? ⟨4, i * 3, none⟩ = some (.string (txt (cml.getD i ([], 0, false)).1)) ∧ w.cell? ⟨4, i * 3 + 1, none⟩ = some (.int .i64 (cml.getD i ([], 0, false)).2.1) ∧ w.cell? ⟨4, i * 3 + 2, none⟩ = some (.bool (cml.getD i ([], 0, false)).2.2)
/-- A reader in block g: its tokens (the slice V) and all tables lie in lower blocks. -/
structure Env (w : World) (g : Nat) (V : Value) (L : List Tk) (s : St) : Prop where
  blk : w.heap[g]? = some (.cells #[V, .int .i64 s.i, .int .i64 s.o, .int .i64 s.e] 58 (0, 0))
  tok : TokensAt w V L
  low : ∀ b, V.ownBlock = some b → b < g
  len : L.length ≤ 700
  pos : s.i ≤ L.length
  opn : s.o ≤ 7
  kp : Tab w 0 kpl
  rl : Tab w 1 rll
  cm : Cmt w
  tab : 0 < g ∧ 1 < g ∧ 4 < g
  num : ∀ t, t ∈ L → t.k = 2 → 0 ≤ t.n ∧ t.n ≤ 1125899906842624
  siz : ∀ t, t ∈ L → t.s.size ≤ 3000
theorem cell_of_blk {w : World} {g : Nat} {cs : Array Value} {T : TypeId} (h : w.heap[g]? = some (.cells cs T (0, 0))) (j : Nat) : w.cell? ⟨g, j, none⟩ = cs[j]? := cell_of_row _ _ j cs T (0, 0) h
theorem free_of_blk {w : World} {g : Nat} {cs : Array Value} {T : TypeId} (h : w.heap[g]? = some (.cells cs T (0, 0))) (j : Nat) : w.frozen? ⟨g, j, none⟩ = false := by
  simp [World.frozen?, h]
theorem blk_lt {w : World} {g : Nat} {o : Obj} (h : w.heap[g]? = some o) : g < w.heap.size := (Array.getElem?_eq_some_iff.1 h).1
/-- A reader stays as it is where the lower blocks do. -/
theorem Env.on {w w' : World} {g : Nat} {V : Value} {L : List Tk} {s s' : St} (h : Env w g V L s) (hs : w.heap.size ≤ w'.heap.size) (hb : ∀ k, k < g → w'.heap[k]? = w.heap[k]?)
    (hg : w'.heap[g]? = some (.cells #[V, .int .i64 s'.i, .int .i64 s'.o, .int .i64 s'.e] 58 (0, 0))) (hp : s'.i ≤ L.length) (ho : s'.o ≤ 7) : Env w' g V L s' := by
  have hc : ∀ (b o : Nat), b < g → w'.cell? ⟨b, o, none⟩ = w.cell? ⟨b, o, none⟩ := fun b o hlt => World.cell?_of_block (hb b hlt)
  refine ⟨hg, ?_, h.low, h.len, hp, ho, ⟨Nat.lt_of_lt_of_le h.kp.1 hs, fun i hi => (hc _ _ h.tab.1).trans (h.kp.2 i hi)⟩, ⟨Nat.lt_of_lt_of_le h.rl.1 hs, fun i hi => (hc _ _ h.tab.2.1).trans (h.rl.2 i hi)⟩,
    ⟨Nat.lt_of_lt_of_le h.cm.1 hs, fun i hi => ⟨(hc _ _ h.tab.2.2).trans (h.cm.2 i hi).1, (hc _ _ h.tab.2.2).trans (h.cm.2 i hi).2.1, (hc _ _ h.tab.2.2).trans (h.cm.2 i hi).2.2⟩⟩, h.tab, h.num, h.siz⟩
  obtain ⟨p, cap, rfl, h1, h2, h3⟩ := h.tok
  refine ⟨p, cap, rfl, h1, h2, fun h0 => ?_⟩
  obtain ⟨b, off, rfl, h4⟩ := h3 h0
  have hlt : b < g := h.low b rfl
  refine ⟨b, off, rfl, fun j hj => ?_⟩
  obtain ⟨a, b0, b1, b2⟩ := h4 j hj
  exact ⟨Nat.lt_of_lt_of_le a hs, (hc _ _ hlt).trans b0, (hc _ _ hlt).trans b1, (hc _ _ hlt).trans b2⟩
theorem Env.fr {w w' : World} {g : Nat} {V : Value} {L : List Tk} {s : St} (h : Env w g V L s) (hf : Fr (fun _ => False) w w') : Env w' g V L s :=
  h.on hf.size (fun k hk => hf.block k (by have := blk_lt h.blk; omega) id) ((hf.block g (blk_lt h.blk) id).trans h.blk) h.pos h.opn
theorem Env.alloc {w : World} {g : Nat} {V : Value} {L : List Tk} {s : St} (h : Env w g V L s) (o : Obj) : Env (w.alloc o) g V L s := h.fr ((Fr.refl _ _).alloc o)
theorem Env.drewN {w : World} {g : Nat} {V : Value} {L : List Tk} {s : St} (h : Env w g V L s) (n : Nat) : Env (w.drewN n) g V L s := h.fr ((Fr.refl _ _).drewN n)
/-- A store into a block behind the reader. -/
theorem Env.setCell {w : World} {g : Nat} {V : Value} {L : List Tk} {s : St} (h : Env w g V L s) (p : Addr) (hp : g < p.block) (u : Value) : Env (w.setCell p u) g V L s :=
  h.on (by simp [World.setCell]) (fun k hk => Below.heap_setCell _ _ _ _ (by omega)) ((Below.heap_setCell _ _ _ _ (by omega)).trans h.blk) h.pos h.opn
/-- A store into the reader. -/
theorem Env.put {w w' : World} {g : Nat} {V : Value} {L : List Tk} {s s' : St} (h : Env w g V L s) (hf : Fr (fun i => i = g) w w') (hg : w'.heap[g]? = some (.cells #[V, .int .i64 s'.i, .int .i64 s'.o, .int .i64 s'.e] 58 (0, 0))) (hp : s'.i ≤ L.length) (ho : s'.o ≤ 7) : Env w' g V L s' :=
  h.on hf.size (fun k hk => hf.block k (by have := blk_lt h.blk; omega) (by show ¬ k = g; omega)) hg hp ho
theorem blk_set {w : World} {g : Nat} {cs : Array Value} {T : TypeId} (h : w.heap[g]? = some (.cells cs T (0, 0))) (j : Nat) (u : Value) : (w.setCell ⟨g, j, none⟩ u).heap[g]? = some (.cells (cs.setIfInBounds j u) T (0, 0)) := by
  simp [World.setCell, Array.getElem?_modify, h]
end Go.Proofs.YtngbobnodecloaaDoor
