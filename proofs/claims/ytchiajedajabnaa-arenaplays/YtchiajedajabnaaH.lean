/-
  What Play answers: what the plain play finds.
-/
import Derived.Test.YtchiajedajabnaaG
namespace Go.Proofs.Ytchiajedajabnaa
open Go.ChangeShapes Go.WideShapes Go.ChangeAt Go.RowKit Go.Maps
set_option linter.unusedVariables false
set_option linter.unusedSimpArgs false
def enc4 (q : Q4) : List Value := [.int .i64 q.1, .int .i64 q.2.1, .int .i64 q.2.2.1, .int .i64 q.2.2.2]
theorem length_flat4 (l : List Q4) : (l.flatMap enc4).length = l.length * 4 := by
  induction l with
  | nil => rfl
  | cons t r ih => rw [List.flatMap_cons, List.length_append, ih]; simp [enc4]; omega
theorem flat4_at : ∀ (l : List Q4) (j : Nat) (hj : j < l.length), (l.flatMap enc4)[j * 4]? = some (.int .i64 l[j].1) ∧ (l.flatMap enc4)[j * 4 + 1]? = some (.int .i64 l[j].2.1) ∧ (l.flatMap enc4)[j * 4 + 2]? = some (.int .i64 l[j].2.2.1) ∧ (l.flatMap enc4)[j * 4 + 3]? = some (.int .i64 l[j].2.2.2)
  | [], j, h => by simp at h
  | t :: r, 0, h => by simp [enc4]
  | t :: r, j + 1, h => by
    have hl : (enc4 t).length = 4 := rfl
    obtain ⟨h1, h2, h3, h4⟩ := flat4_at r j (by simpa using h)
    rw [List.flatMap_cons]
    refine ⟨?_, ?_, ?_, ?_⟩
    · rw [List.getElem?_append_right (by omega), show (j + 1) * 4 - (enc4 t).length = j * 4 by rw [hl]; omega]; exact h1
    · rw [List.getElem?_append_right (by omega), show (j + 1) * 4 + 1 - (enc4 t).length = j * 4 + 1 by rw [hl]; omega]; exact h2
    · rw [List.getElem?_append_right (by omega), show (j + 1) * 4 + 2 - (enc4 t).length = j * 4 + 2 by rw [hl]; omega]; exact h3
    · rw [List.getElem?_append_right (by omega), show (j + 1) * 4 + 3 - (enc4 t).length = j * 4 + 3 by rw [hl]; omega]; exact h4
theorem flat4_set : ∀ (l : List Q4) (j : Nat) (z : Q4) (hj : j < l.length), ((((l.flatMap enc4).set (j * 4) (.int .i64 z.1)).set (j * 4 + 1) (.int .i64 z.2.1)).set (j * 4 + 2) (.int .i64 z.2.2.1)).set (j * 4 + 3) (.int .i64 z.2.2.2) = (l.set j z).flatMap enc4
  | [], j, z, h => by simp at h
  | t :: r, 0, z, h => by simp [enc4]
  | t :: r, j + 1, z, h => by
    have ih := flat4_set r j z (by simpa using h)
    rw [List.set_cons_succ, List.flatMap_cons, List.flatMap_cons, ← ih]
    have e1 : (j + 1) * 4 = j * 4 + 1 + 1 + 1 + 1 := by omega
    rw [e1]
    simp [enc4]
/-- Jobs in a slice, as they are read. -/
def JobsAt (w : World) (v : Value) (js : List Q4) : Prop :=
  ∃ p cap, v = .slice p js.length cap ∧ (0 < js.length → ∃ g off, p = some ⟨g, off, none⟩ ∧ ∀ j (hj : j < js.length), g < w.heap.size ∧ w.cell? ⟨g, off + j * 4, none⟩ = some (.int .i64 js[j].1) ∧ w.cell? ⟨g, off + j * 4 + 1, none⟩ = some (.int .i64 js[j].2.1) ∧ w.cell? ⟨g, off + j * 4 + 2, none⟩ = some (.int .i64 js[j].2.2.1) ∧ w.cell? ⟨g, off + j * 4 + 3, none⟩ = some (.int .i64 js[j].2.2.2))
/-- What was found, in a slice, as it is read. -/
def FoundsAt (w : World) (v : Value) (fs : List Q4) : Prop :=
  ∃ p cap, v = .slice p fs.length cap ∧ (0 < fs.length → ∃ g, p = some ⟨g, 0, none⟩ ∧ ∀ j (hj : j < fs.length), g < w.heap.size ∧ w.cell? ⟨g, j * 4, none⟩ = some (.int .i64 fs[j].1) ∧ w.cell? ⟨g, j * 4 + 1, none⟩ = some (.int .i64 fs[j].2.1) ∧ w.cell? ⟨g, j * 4 + 2, none⟩ = some (.int .i64 fs[j].2.2.1) ∧ w.cell? ⟨g, j * 4 + 3, none⟩ = some (.int .i64 fs[j].2.2.2))
theorem founds_own {w : World} {base : Nat} {e : TypeId} {v : Value} {fs : List Q4} (h : w.ownsRow base e 4 v fs.length (fs.flatMap enc4)) : FoundsAt w v fs := by
  rcases h.2 with ⟨h1, h2⟩ | ⟨g, cap, cur, rfl, h1, h2, _⟩
  · exact ⟨none, 0, by rw [h1, h2], fun c => by omega⟩
  · have hlt := (Array.getElem?_eq_some_iff.1 h2).1
    refine ⟨_, cap, rfl, fun _ => ⟨g, rfl, fun j hj => ?_⟩⟩
    obtain ⟨q0, q1, q2, q3⟩ := flat4_at fs j hj
    refine ⟨hlt, ?_, ?_, ?_, ?_⟩ <;> rw [h.cellAt _ (by omega)] <;> assumption
theorem jobs_own {w : World} {base : Nat} {e : TypeId} {v : Value} {fs : List Q4} (h : w.ownsRow base e 4 v fs.length (fs.flatMap enc4)) : JobsAt w v fs := by
  obtain ⟨p, cap, h1, h2⟩ := founds_own h
  refine ⟨p, cap, h1, fun h0 => ?_⟩
  obtain ⟨g, h3, h4⟩ := h2 h0
  exact ⟨g, 0, h3, fun j hj => by rw [Nat.zero_add]; exact h4 j hj⟩
theorem FoundsAt.below {w w' : World} {v : Value} {fs : List Q4} (h : FoundsAt w v fs) (b : Below w.heap.size w w') : FoundsAt w' v fs := by
  obtain ⟨p, cap, h1, h2⟩ := h
  refine ⟨p, cap, h1, fun h0 => ?_⟩
  obtain ⟨g, h3, h4⟩ := h2 h0
  refine ⟨g, h3, fun j hj => ?_⟩
  obtain ⟨a, b0, b1, b2, b3⟩ := h4 j hj
  exact ⟨Nat.lt_of_lt_of_le a b.size, (b.cell (p := ⟨g, j * 4, none⟩) a).trans b0, (b.cell (p := ⟨g, j * 4 + 1, none⟩) a).trans b1, (b.cell (p := ⟨g, j * 4 + 2, none⟩) a).trans b2, (b.cell (p := ⟨g, j * 4 + 3, none⟩) a).trans b3⟩
theorem JobsAt.below {w w' : World} {v : Value} {fs : List Q4} (h : JobsAt w v fs) (b : Below w.heap.size w w') : JobsAt w' v fs := by
  obtain ⟨p, cap, h1, h2⟩ := h
  refine ⟨p, cap, h1, fun h0 => ?_⟩
  obtain ⟨g, off, h3, h4⟩ := h2 h0
  refine ⟨g, off, h3, fun j hj => ?_⟩
  obtain ⟨a, b0, b1, b2, b3⟩ := h4 j hj
  exact ⟨Nat.lt_of_lt_of_le a b.size, (b.cell (p := ⟨g, off + j * 4, none⟩) a).trans b0, (b.cell (p := ⟨g, off + j * 4 + 1, none⟩) a).trans b1, (b.cell (p := ⟨g, off + j * 4 + 2, none⟩) a).trans b2, (b.cell (p := ⟨g, off + j * 4 + 3, none⟩) a).trans b3⟩
def s0 : As := ⟨[], []⟩
theorem made4 (n : Nat) : (madeCells (Value.agg #[.int .i64 0, .int .i64 0, .int .i64 0, .int .i64 0]).cells (n * 4)).toList = (List.replicate n ((0, 0, 0, 0) : Q4)).flatMap enc4 := by
  apply List.ext_getElem?
  intro r
  by_cases hr : r < n * 4
  · have hl : r / 4 < (List.replicate n ((0, 0, 0, 0) : Q4)).length := by simp; omega
    obtain ⟨h0, h1, h2, h3⟩ := flat4_at (List.replicate n ((0, 0, 0, 0) : Q4)) (r / 4) hl
    simp only [List.getElem_replicate] at h0 h1 h2 h3
    have hv : ((madeCells (Value.agg #[.int .i64 0, .int .i64 0, .int .i64 0, .int .i64 0]).cells (n * 4)).toList)[r]? = some (.int .i64 0) := by
      have hm : r % 4 < 4 := Nat.mod_lt _ (by omega)
      rcases (by omega : r % 4 = 0 ∨ r % 4 = 1 ∨ r % 4 = 2 ∨ r % 4 = 3) with h | h | h | h <;> simp [madeCells, Value.cells, hr, h]
    rw [hv]
    rcases (by omega : r = r / 4 * 4 ∨ r = r / 4 * 4 + 1 ∨ r = r / 4 * 4 + 2 ∨ r = r / 4 * 4 + 3) with h | h | h | h
    · rw [h, h0]
    · rw [h, h1]
    · rw [h, h2]
    · rw [h, h3]
  · rw [List.getElem?_eq_none (by simp [madeCells]; omega), List.getElem?_eq_none (by rw [length_flat4]; simp; omega)]
theorem info39 : (Try.prog.info? 39).map (fun i => (i.zero, i.size, i.bytes)) = some (some (.agg #[.int .i64 0, .int .i64 0, .int .i64 0, .int .i64 0]), 4, 32) := by kernel_rfl
/-- How it stands behind k jobs. -/
structure Pr (w wr : World) (n : Nat) (js : List Q4) (k : Nat) (V F : Value) (L : List Q4) : Prop where
  am : Am wr (w.heap.size + 2) w.heap.size V F (after s0 (js.take k))
  len : L.length = n
  got : ∀ i, i < k → L[i]? = (play s0 js)[i]?
  out : wr.ownsRow (w.heap.size + 1) 39 4 (.slice (some ⟨w.heap.size + 1, 0, none⟩) n n) L.length (L.flatMap enc4)
  below : Below w.heap.size w wr
theorem Pr.free {w wr : World} {n : Nat} {js : List Q4} {k : Nat} {V F : Value} {L : List Q4} (h : Pr w wr n js k V F L) : ¬ Own w.heap.size V F (w.heap.size + 1) := by
  rintro (c | c | c)
  · omega
  · have := (h.am.rp.lt _ c).1; omega
  · have := (h.am.rf.lt _ c).1; omega
theorem Pr.rowAt {w wr W w2 : World} {n : Nat} {js : List Q4} {k : Nat} {V F : Value} {L : List Q4} (h : Pr w wr n js k V F L) (b : Below wr.heap.size wr W) {s' : As} (ha : After (w.heap.size + 2) w.heap.size s' V F W w2) : w2.ownsRow (w.heap.size + 1) 39 4 (.slice (some ⟨w.heap.size + 1, 0, none⟩) n n) L.length (L.flatMap enc4) := by
  obtain ⟨V', F', A', T', O'⟩ := ha
  have hlt := (h.out.lt _ rfl).2
  refine owns_block h.out (fun x hx => ?_)
  cases hx
  exact (T'.block _ (Nat.lt_of_lt_of_le hlt b.size) h.free).trans (b.block _ hlt)
theorem Pr.cells {w wr W w2 : World} {n : Nat} {js : List Q4} {k : Nat} {V F : Value} {L : List Q4} (h : Pr w wr n js k V F L) (b : Below wr.heap.size wr W) {s' : As} (ha : After (w.heap.size + 2) w.heap.size s' V F W w2) (hk : k < n) :
    ∃ z : Q4, w2.cell? ⟨w.heap.size + 1, k * 4, none⟩ = some (.int .i64 z.1) ∧ w2.cell? ⟨w.heap.size + 1, k * 4 + 1, none⟩ = some (.int .i64 z.2.1) ∧ w2.cell? ⟨w.heap.size + 1, k * 4 + 2, none⟩ = some (.int .i64 z.2.2.1) ∧ w2.cell? ⟨w.heap.size + 1, k * 4 + 3, none⟩ = some (.int .i64 z.2.2.2) ∧ ∀ i, w2.frozen? ⟨w.heap.size + 1, i, none⟩ = false := by
  have hr := h.rowAt b ha
  rw [h.len] at hr
  have hk' : k < L.length := by have := h.len; omega
  obtain ⟨q0, q1, q2, q3⟩ := flat4_at L k hk'
  refine ⟨L[k], ?_, ?_, ?_, ?_, fun i => hr.frozenAt i⟩ <;> rw [hr.cellAt _ (by omega)] <;> assumption
theorem Pr.step {w wr W w2 : World} {n : Nat} {js : List Q4} {k : Nat} {V F : Value} {L : List Q4} (h : Pr w wr n js k V F L) (b : Below wr.heap.size wr W) (hk : k < js.length) (hn : js.length = n) {q : Q4} {s' : As} (hq : Ytchiajedajabnaa.step (after s0 (js.take k)) js[k] = (q, s')) (ha : After (w.heap.size + 2) w.heap.size s' V F W w2) :
    ∃ V' F' L', Pr w ((((w2.setCell ⟨w.heap.size + 1, k * 4, none⟩ (.int .i64 q.1)).setCell ⟨w.heap.size + 1, k * 4 + 1, none⟩ (.int .i64 q.2.1)).setCell ⟨w.heap.size + 1, k * 4 + 2, none⟩ (.int .i64 q.2.2.1)).setCell ⟨w.heap.size + 1, k * 4 + 3, none⟩ (.int .i64 q.2.2.2)) n js (k + 1) V' F' L' := by
  have hr := h.rowAt b ha
  have hkL : k < L.length := by have := h.len; omega
  rw [h.len] at hr
  obtain ⟨V', F', A', T', O'⟩ := ha
  obtain ⟨r1, g1⟩ := hr.stored (k * 4) (.int .i64 q.1)
  obtain ⟨r2, g2⟩ := r1.stored (k * 4 + 1) (.int .i64 q.2.1)
  obtain ⟨r3, g3⟩ := r2.stored (k * 4 + 2) (.int .i64 q.2.2.1)
  obtain ⟨r4, g4⟩ := r3.stored (k * 4 + 3) (.int .i64 q.2.2.2)
  rw [flat4_set L k q hkL] at r4
  have tr : Turn (fun x => x = w.heap.size + 1) w2 ((((w2.setCell ⟨w.heap.size + 1, k * 4, none⟩ (.int .i64 q.1)).setCell ⟨w.heap.size + 1, k * 4 + 1, none⟩ (.int .i64 q.2.1)).setCell ⟨w.heap.size + 1, k * 4 + 2, none⟩ (.int .i64 q.2.2.1)).setCell ⟨w.heap.size + 1, k * 4 + 3, none⟩ (.int .i64 q.2.2.2)) :=
    ((((Turn.refl (fun x => x = w.heap.size + 1) w2).setCell (p := ⟨w.heap.size + 1, k * 4, none⟩) rfl _).setCell (p := ⟨w.heap.size + 1, k * 4 + 1, none⟩) rfl _).setCell (p := ⟨w.heap.size + 1, k * 4 + 2, none⟩) rfl _).setCell (p := ⟨w.heap.size + 1, k * 4 + 3, none⟩) rfl _
  have e1 : (Ytchiajedajabnaa.step (after s0 (js.take k)) js[k]).2 = s' := by rw [hq]
  have e2 : (Ytchiajedajabnaa.step (after s0 (js.take k)) js[k]).1 = q := by rw [hq]
  refine ⟨V', F', L.set k q, ⟨?_, by simpa using h.len, fun i hi => ?_, ?_, ?_⟩⟩
  · rw [after_step s0 js k hk, e1]
    refine A'.turn tr (fun x hx c => ?_)
    subst hx
    rcases c with c | c | c
    · omega
    · have := (A'.rp.lt _ c).1; omega
    · have := (A'.rf.lt _ c).1; omega
  · by_cases c : i = k
    · subst c
      rw [List.getElem?_set_self hkL, play_at s0 js i hk, e2]
    · rw [List.getElem?_set_ne (Ne.symm c)]; exact h.got i (by omega)
  · rw [show (L.set k q).length = n by simpa using h.len]; exact r4
  · have t1 : Turn (Own w.heap.size V F) wr w2 := (Turn.of_below b).trans T' (fun _ _ h => h)
    have b1 : Below w.heap.size w w2 := h.below.trans (t1.below h.below.size (fun x hx c => by
      rcases c with c | c | c
      · omega
      · have := (h.am.rp.lt _ c).1; omega
      · have := (h.am.rf.lt _ c).1; omega))
    exact b1.trans (tr.below b1.size (fun x hx c => by omega))
theorem Pr.done {w wr : World} {n : Nat} {js : List Q4} {V F : Value} {L : List Q4} (hn : js.length = n) (h : Pr w wr n js n V F L) : FoundsAt wr (.slice (some ⟨w.heap.size + 1, 0, none⟩) n n) (play s0 js) := by
  have e : L = play s0 js := List.ext_getElem? (fun i => by
    by_cases hi : i < n
    · exact h.got i hi
    · rw [List.getElem?_eq_none (by have := h.len; omega), List.getElem?_eq_none (by rw [play_len]; omega)])
  rw [← e]
  exact founds_own h.out
end Go.Proofs.Ytchiajedajabnaa
