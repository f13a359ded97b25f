/-
  The rows of the document's arena.
-/
import Derived.Test.YtchiajedajabnaaK
namespace Go.Proofs.Ytchiajedajabnaa
open Go.ChangeShapes Go.WideShapes Go.ChangeAt Go.RowKit
set_option linter.unusedVariables false
set_option linter.unusedSimpArgs false
def sw (ps : List (Int × Int)) : List (Int × Int) := ps.map fun p => (p.2, p.1)
theorem sw_len (ps : List (Int × Int)) : (sw ps).length = ps.length := by simp [sw]
theorem sw_set (ps : List (Int × Int)) (j : Nat) (x : Int × Int) : sw (ps.set j x) = (sw ps).set j (x.2, x.1) := by simp [sw, List.map_set]
theorem sw_snoc (ps : List (Int × Int)) (x : Int × Int) : sw (ps ++ [x]) = sw ps ++ [(x.2, x.1)] := by simp [sw]
def Apart (A B : Value) : Prop := ∀ k, A.ownBlock = some k → B.ownBlock = some k → False
structure Jr (w wr : World) (V F U : Value) (s : As) (fs : List Q4) : Prop where
  rv : wr.ownsRow w.heap.size 52 2 V s.ps.length ((sw s.ps).flatMap enc2)
  rf : wr.ownsRow w.heap.size 3 1 F s.fr.length (s.fr.map encF)
  ru : wr.ownsRow w.heap.size 39 4 U fs.length (fs.flatMap enc4)
  vf : Apart V F
  vu : Apart V U
  fu : Apart F U
  below : Below w.heap.size w wr
theorem Jr.on {w wr wr' : World} {V F U : Value} {s : As} {fs : List Q4} (h : Jr w wr V F U s fs) (b : Below wr.heap.size wr wr') : Jr w wr' V F U s fs :=
  ⟨owns_block h.rv (fun k hk => b.block k (h.rv.lt k hk).2), owns_block h.rf (fun k hk => b.block k (h.rf.lt k hk).2), owns_block h.ru (fun k hk => b.block k (h.ru.lt k hk).2), h.vf, h.vu, h.fu, h.below.trans (b.mono h.below.size)⟩
theorem Jr.far {w wr wr' : World} {V F U : Value} {s : As} {fs : List Q4} {b : Nat} (h : Jr w wr V F U s fs) (t : Turn (fun k => k = b) wr wr') (hb : w.heap.size ≤ b) (h1 : V.ownBlock ≠ some b) (h2 : F.ownBlock ≠ some b) (h3 : U.ownBlock ≠ some b) : Jr w wr' V F U s fs :=
  ⟨owns_block h.rv (fun k hk => t.block k (h.rv.lt k hk).2 (fun e => h1 (e ▸ hk))), owns_block h.rf (fun k hk => t.block k (h.rf.lt k hk).2 (fun e => h2 (e ▸ hk))), owns_block h.ru (fun k hk => t.block k (h.ru.lt k hk).2 (fun e => h3 (e ▸ hk))), h.vf, h.vu, h.fu, h.below.trans (t.below h.below.size (fun k hk e => by omega))⟩
theorem Jr.setV {w wr w1 : World} {V V' F U : Value} {s : As} {fs : List Q4} {ps : List (Int × Int)} (h : Jr w wr V F U s fs) (t : Turn (fun k => V.ownBlock = some k) wr w1) (hrow : w1.ownsRow w.heap.size 52 2 V' ps.length ((sw ps).flatMap enc2)) (hat : ∀ g, V'.ownBlock = some g → V.ownBlock = some g ∨ wr.heap.size ≤ g) : Jr w w1 V' F U ⟨ps, s.fr⟩ fs := by
  refine ⟨hrow, owns_block h.rf (fun k hk => t.block k (h.rf.lt k hk).2 (fun c => h.vf k c hk)), owns_block h.ru (fun k hk => t.block k (h.ru.lt k hk).2 (fun c => h.vu k c hk)), fun k a b => ?_, fun k a b => ?_, h.fu, h.below.trans (t.below h.below.size (fun k hk c => by have := (h.rv.lt k c).1; omega))⟩
  · rcases hat k a with c | c
    · exact h.vf k c b
    · have := (h.rf.lt k b).2; omega
  · rcases hat k a with c | c
    · exact h.vu k c b
    · have := (h.ru.lt k b).2; omega
theorem Jr.setF {w wr w1 : World} {V F F' U : Value} {s : As} {fs : List Q4} {fr : List Nat} (h : Jr w wr V F U s fs) (t : Turn (fun k => F.ownBlock = some k) wr w1) (hrow : w1.ownsRow w.heap.size 3 1 F' fr.length (fr.map encF)) (hat : ∀ g, F'.ownBlock = some g → F.ownBlock = some g ∨ wr.heap.size ≤ g) : Jr w w1 V F' U ⟨s.ps, fr⟩ fs := by
  refine ⟨owns_block h.rv (fun k hk => t.block k (h.rv.lt k hk).2 (fun c => h.vf k hk c)), hrow, owns_block h.ru (fun k hk => t.block k (h.ru.lt k hk).2 (fun c => h.fu k c hk)), fun k a b => ?_, h.vu, fun k a b => ?_, h.below.trans (t.below h.below.size (fun k hk c => by have := (h.rf.lt k c).1; omega))⟩
  · rcases hat k b with c | c
    · exact h.vf k a c
    · have := (h.rv.lt k a).2; omega
  · rcases hat k a with c | c
    · exact h.fu k c b
    · have := (h.ru.lt k b).2; omega
theorem Jr.setU {w wr w1 : World} {V F U U' : Value} {s : As} {fs gs : List Q4} (h : Jr w wr V F U s fs) (t : Turn (fun k => U.ownBlock = some k) wr w1) (hrow : w1.ownsRow w.heap.size 39 4 U' gs.length (gs.flatMap enc4)) (hat : ∀ g, U'.ownBlock = some g → U.ownBlock = some g ∨ wr.heap.size ≤ g) : Jr w w1 V F U' s gs := by
  refine ⟨owns_block h.rv (fun k hk => t.block k (h.rv.lt k hk).2 (fun c => h.vu k hk c)), owns_block h.rf (fun k hk => t.block k (h.rf.lt k hk).2 (fun c => h.fu k hk c)), hrow, h.vf, fun k a b => ?_, fun k a b => ?_, h.below.trans (t.below h.below.size (fun k hk c => by have := (h.ru.lt k c).1; omega))⟩
  · rcases hat k b with c | c
    · exact h.vu k a c
    · have := (h.rv.lt k a).2; omega
  · rcases hat k b with c | c
    · exact h.fu k a c
    · have := (h.rf.lt k a).2; omega
theorem Jr.out {w X w9 : World} {V F U U' : Value} {S : As} {fs : List Q4} {q : Q4} {o : Obj} (h : Jr w X V F U S fs) (hown : w9.ownsRow w.heap.size 39 4 U' (fs.length + 1) (fs.flatMap enc4 ++ enc4 q)) (hg : (X.alloc o).grownBy w9 U.ownBlock) (hat : U'.ownBlock = U.ownBlock ∨ U'.ownBlock = some (X.alloc o).heap.size) : Jr w w9 V F U' S (fs ++ [q]) := by
  refine h.setU (((Turn.refl _ _).alloc o).grown hg (fun k hk _ => hk)) ?_ (fun k hk => ?_)
  · rw [flat4_snoc, List.length_append]; exact hown
  · rcases hat with c | c
    · exact Or.inl (c ▸ hk)
    · rw [c] at hk; simp at hk; exact Or.inr (by omega)
theorem heap_new' {X : World} {m : Nat} (h : X.heap.size = m) (cs : Array Value) (t : TypeId) : (X.alloc (.cells cs t)).heap[m]? = some (.cells cs t (0, 0)) := by
  subst h
  first | exact heap_alloc_new _ _ | exact _root_.Go.heap_alloc_new _ _
theorem Jr.notNew {w wr : World} {V F U : Value} {s : As} {fs : List Q4} (h : Jr w wr V F U s fs) {b : Nat} (hb : wr.heap.size ≤ b) : V.ownBlock ≠ some b ∧ F.ownBlock ≠ some b ∧ U.ownBlock ≠ some b :=
  ⟨fun c => by have := (h.rv.lt b c).2; omega, fun c => by have := (h.rf.lt b c).2; omega, fun c => by have := (h.ru.lt b c).2; omega⟩
theorem info52 : (Try.prog.info? 52).map (fun i => (i.zero, i.size, i.bytes)) = some (some (.agg #[.int .i64 0, .int .i64 0]), 2, 16) := by kernel_rfl
theorem play_take (js : List Q4) (k : Nat) (hk : k < js.length) : play s0 (js.take (k + 1)) = play s0 (js.take k) ++ [(step (after s0 (js.take k)) js[k]).1] := by
  rw [List.take_succ_eq_append_getElem hk, play_app]; rfl
theorem Jr.box {w wr : World} {F U : Value} {s : As} {fs : List Q4} {g cap : Nat} (h : Jr w wr (.slice (some ⟨g, 0, none⟩) s.ps.length cap) F U s fs) {j : Nat} (hj : j < s.ps.length) : wr.cell? ⟨g, j * 2, none⟩ = some (.int .i64 (s.turn j)) ∧ wr.cell? ⟨g, j * 2 + 1, none⟩ = some (.int .i64 (s.num j)) ∧ ∀ i, wr.frozen? ⟨g, i, none⟩ = false := by
  have hl : j < (sw s.ps).length := by rw [sw_len]; exact hj
  obtain ⟨h1, h2⟩ := flat2_at (sw s.ps) j hl
  have e : (sw s.ps)[j] = (s.ps[j].2, s.ps[j].1) := by simp [sw]
  rw [e] at h1 h2
  refine ⟨?_, ?_, fun i => h.rv.frozenAt i⟩
  · rw [h.rv.cellAt _ (by omega), h1, As.turn, getD_eq _ _ _ hj]
  · rw [h.rv.cellAt _ (by omega), h2, As.num, getD_eq _ _ _ hj]
/-- A box is written: its turn, its number. -/
theorem Jr.write {w X : World} {F U : Value} {s : As} {fs : List Q4} {g cap j : Nat} {a b : Int} (h : Jr w X (.slice (some ⟨g, 0, none⟩) s.ps.length cap) F U s fs) (hj : j < s.ps.length) :
    Jr w ((X.setCell ⟨g, j * 2, none⟩ (.int .i64 b)).setCell ⟨g, j * 2 + 1, none⟩ (.int .i64 a)) (.slice (some ⟨g, 0, none⟩) s.ps.length cap) F U ⟨s.ps.set j (a, b), s.fr⟩ fs := by
  obtain ⟨r1, g1⟩ := h.rv.stored (j * 2) (.int .i64 b)
  obtain ⟨r2, g2⟩ := r1.stored (j * 2 + 1) (.int .i64 a)
  have hl : (s.ps.set j (a, b)).length = s.ps.length := by simp
  refine h.setV (((Turn.refl _ _).grown g1 (fun k hk _ => hk)).grown g2 (fun k hk _ => hk)) ?_ (fun g hg => Or.inl hg)
  rw [hl, sw_set, ← flat2_set (sw s.ps) j (b, a) (by rw [sw_len]; exact hj)]
  exact r2
theorem own_form0 {w : World} {base : Nat} {e : TypeId} {size : Nat} {v : Value} {n : Nat} {xs : List Value} (h : w.ownsRow base e size v n xs) (hn : 0 < n) : ∃ g cap, v = .slice (some ⟨g, 0, none⟩) n cap := by
  rcases h.2 with ⟨_, h2⟩ | ⟨g, cap, cur, h1, _⟩
  · omega
  · exact ⟨g, cap, h1⟩
theorem lent_end {w W6 : World} {g cap j f n6 : Nat} {F U : Value} {S6 : As} {fs : List Q4} {a b : Int} (hn : S6.ps.length = n6) (h : Jr w W6 (.slice (some ⟨g, 0, none⟩) n6 cap) F U S6 fs) (hj : j < n6) (hf : w.heap.size ≤ f) (h1 : g ≠ f) (h2 : F.ownBlock ≠ some f) (h3 : U.ownBlock ≠ some f) (x y : Value) :
    Jr w ((((W6.setCell ⟨g, j * 2, none⟩ (.int .i64 b)).setCell ⟨g, j * 2 + 1, none⟩ (.int .i64 a)).setCell ⟨f, 2, none⟩ x).setCell ⟨f, 3, none⟩ y) (.slice (some ⟨g, 0, none⟩) n6 cap) F U ⟨S6.ps.set j (a, b), S6.fr⟩ fs := by
  subst hn
  exact (h.write hj).far (((Turn.refl (fun k => k = f) _).setCell (p := ⟨f, 2, none⟩) rfl _).setCell (p := ⟨f, 3, none⟩) rfl _) hf (fun c => h1 (by cases c; rfl)) h2 h3
theorem new_box {w Wb w6 : World} {pv : Option Addr} {m cv g3 cap3 : Nat} {F U : Value} {S : As} {fs : List Q4} {o : Obj} (hm : S.ps.length = m) (hJ : Jr w Wb (.slice pv m cv) F U S fs) (hown : w6.ownsRow w.heap.size 52 2 (.slice (some ⟨g3, 0, none⟩) (m + 1) cap3) (m + 1) ((sw S.ps).flatMap enc2 ++ enc2 (0, 0))) (hg : (Wb.alloc o).grownBy w6 (Value.slice pv m cv).ownBlock)
    (hat : (Value.slice (some ⟨g3, 0, none⟩) (m + 1) cap3).ownBlock = (Value.slice pv m cv).ownBlock ∨ (Value.slice (some ⟨g3, 0, none⟩) (m + 1) cap3).ownBlock = some (Wb.alloc o).heap.size) :
    Jr w w6 (.slice (some ⟨g3, 0, none⟩) (m + 1) cap3) F U ⟨S.ps ++ [(0, 0)], S.fr⟩ fs ∧ Turn (fun k => (Value.slice pv m cv).ownBlock = some k) Wb w6 ∧ w6.cell? ⟨g3, m * 2, none⟩ = some (.int .i64 0) ∧ w6.cell? ⟨g3, m * 2 + 1, none⟩ = some (.int .i64 0) ∧ (∀ i, w6.frozen? ⟨g3, i, none⟩ = false) ∧ ∀ f, f < Wb.heap.size → (Value.slice pv m cv).ownBlock ≠ some f → g3 ≠ f := by
  subst hm
  have t : Turn (fun k => (Value.slice pv S.ps.length cv).ownBlock = some k) Wb w6 := ((Turn.refl _ _).alloc o).grown hg (fun k hk _ => hk)
  have hl : (S.ps ++ [((0 : Int), (0 : Int))]).length = S.ps.length + 1 := by simp
  have hJ6 : Jr w w6 (.slice (some ⟨g3, 0, none⟩) (S.ps.length + 1) cap3) F U ⟨S.ps ++ [(0, 0)], S.fr⟩ fs := by
    refine hJ.setV t ?_ (fun k hk => ?_)
    · rw [hl, sw_snoc, List.flatMap_append]; simpa using hown
    · rcases hat with c | c
      · exact Or.inl (c ▸ hk)
      · rw [c] at hk; simp at hk; exact Or.inr (by omega)
  have hb := Jr.box (s := ⟨S.ps ++ [(0, 0)], S.fr⟩) (by rw [hl]; exact hJ6) (j := S.ps.length) (by rw [hl]; exact Nat.lt_succ_self _)
  rw [show (⟨S.ps ++ [(0, 0)], S.fr⟩ : As).turn S.ps.length = 0 by simp [As.turn], show (⟨S.ps ++ [(0, 0)], S.fr⟩ : As).num S.ps.length = 0 by simp [As.num]] at hb
  refine ⟨hJ6, t, hb.1, hb.2.1, hb.2.2, fun f hf hne e => ?_⟩
  subst e
  rcases hat with c | c
  · exact hne (c.symm.trans rfl)
  · simp [Value.ownBlock] at c; omega
theorem flat2_set2 (l : List (Int × Int)) (j : Nat) (b : Int) (hj : j < l.length) : (l.flatMap enc2).set (j * 2 + 1) (.int .i64 b) = (l.set j (l[j].1, b)).flatMap enc2 := by
  rw [← flat2_set l j (l[j].1, b) hj]
  have h1 := (flat2_at l j hj).1
  obtain ⟨h3, h4⟩ := List.getElem?_eq_some_iff.1 h1
  congr 1
  apply List.ext_getElem?
  intro i
  by_cases e : j * 2 = i
  · subst e; rw [h1, List.getElem?_set_self (by simpa using h3)]
  · rw [List.getElem?_set_ne e]
/-- A box is cleared. -/
theorem Jr.clear {w X : World} {F U : Value} {s : As} {fs : List Q4} {g cap j m : Nat} {u : Int} (hm : s.ps.length = m) (h : Jr w X (.slice (some ⟨g, 0, none⟩) m cap) F U s fs) (hj : j < m) (hu : s.turn j = u) :
    Jr w (X.setCell ⟨g, j * 2 + 1, none⟩ (.int .i64 0)) (.slice (some ⟨g, 0, none⟩) m cap) F U ⟨s.ps.set j (0, u), s.fr⟩ fs := by
  subst hm
  obtain ⟨r1, g1⟩ := h.rv.stored (j * 2 + 1) (.int .i64 0)
  have hl : (s.ps.set j (0, u)).length = s.ps.length := by simp
  refine h.setV ((Turn.refl _ _).grown g1 (fun k hk _ => hk)) ?_ (fun g hg => Or.inl hg)
  have e : (sw s.ps)[j]'(by rw [sw_len]; exact hj) = (u, s.ps[j].1) := by
    rw [← hu, As.turn, getD_eq _ _ _ hj]; simp [sw]
  rw [hl, sw_set]
  have := flat2_set2 (sw s.ps) j 0 (by rw [sw_len]; exact hj)
  rw [e] at this
  rw [← this]
  exact r1
theorem back_row {w X w6 : World} {V U : Value} {pf : Option Addr} {l cf g6 cap6 j : Nat} {S : As} {fs : List Q4} {o : Obj} (hJ : Jr w X V (.slice pf l cf) U S fs) (hl : S.fr.length = l) (hown : w6.ownsRow w.heap.size 3 1 (.slice (some ⟨g6, 0, none⟩) (l + 1) cap6) (l + 1) (S.fr.map encF ++ [encF j])) (hg : (X.alloc o).grownBy w6 (Value.slice pf l cf).ownBlock)
    (hat : (Value.slice (some ⟨g6, 0, none⟩) (l + 1) cap6).ownBlock = (Value.slice pf l cf).ownBlock ∨ (Value.slice (some ⟨g6, 0, none⟩) (l + 1) cap6).ownBlock = some (X.alloc o).heap.size) :
    Jr w w6 V (.slice (some ⟨g6, 0, none⟩) (l + 1) cap6) U ⟨S.ps, S.fr ++ [j]⟩ fs ∧ Turn (fun k => (Value.slice pf l cf).ownBlock = some k) X w6 := by
  have t : Turn (fun k => (Value.slice pf l cf).ownBlock = some k) X w6 := ((Turn.refl _ _).alloc o).grown hg (fun k hk _ => hk)
  refine ⟨hJ.setF t ?_ (fun k hk => ?_), t⟩
  · simpa [hl] using hown
  · rcases hat with c | c
    · exact Or.inl (c ▸ hk)
    · rw [c] at hk; simp at hk; exact Or.inr (by omega)
end Go.Proofs.Ytchiajedajabnaa
