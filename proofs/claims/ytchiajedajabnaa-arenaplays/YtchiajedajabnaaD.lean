/-
  What take leaves.
-/
import Derived.Test.YtchiajedajabnaaC
namespace Go.Proofs.Ytchiajedajabnaa
open Go.ChangeShapes Go.WideShapes Go.ChangeAt Go.RowKit Go.Maps
set_option linter.unusedVariables false
set_option linter.unusedSimpArgs false
theorem info61 : (Try.prog.info? 61).map (fun i => (i.zero, i.size, i.bytes)) = some (some (.agg #[.int .i64 0, .int .i64 0]), 2, 16) := by kernel_rfl
theorem info3 : (Try.prog.info? 3).map (fun i => (i.zero, i.size, i.bytes)) = some (some (.int .i64 0), 1, 8) := by kernel_rfl
theorem Am.notV {w : World} {B ab : Nat} {V F : Value} {s : As} (h : Am w B ab V F s) : V.ownBlock ≠ some ab := fun c => by
  have := (h.rp.lt ab c).1; have := h.abB; omega
theorem Am.notF {w : World} {B ab : Nat} {V F : Value} {s : As} (h : Am w B ab V F s) : F.ownBlock ≠ some ab := fun c => by
  have := (h.rf.lt ab c).1; have := h.abB; omega
theorem Am.sep {w : World} {B ab : Nat} {V F : Value} {s : As} (h : Am w B ab V F s) {k : Nat} (h1 : V.ownBlock = some k) (h2 : F.ownBlock = some k) : False := by
  rcases h.apart with c | c
  · rw [c] at h1; cases h1
  · exact c (h1.trans h2.symm)
theorem Am.sizeAb {w : World} {B ab : Nat} {V F : Value} {s : As} (h : Am w B ab V F s) : ab < w.heap.size := Nat.lt_of_lt_of_le h.abB h.BS
/-- The row of places is changed in its place. -/
theorem Am.put {w w1 : World} {B ab : Nat} {V F : Value} {s : As} (h : Am w B ab V F s) {ps : List (Int × Int)} (t : Turn (fun k => V.ownBlock = some k) w w1) (hrow : w1.ownsRow B 61 2 V ps.length (ps.flatMap enc2)) : Am w1 B ab V F ⟨ps, s.fr⟩ := by
  have hc := h.sizeAb
  refine ⟨h.abB, Nat.le_trans h.BS t.size, (t.cell (p := ⟨ab, 0, none⟩) hc h.notV).trans h.c0, (t.cell (p := ⟨ab, 1, none⟩) hc h.notV).trans h.c1, fun j => (t.frozen (p := ⟨ab, j, none⟩) hc h.notV).trans (h.fz j), hrow, owns_block h.rf (fun k hk => ?_), h.apart⟩
  exact t.block k (h.rf.lt k hk).2 (fun c => h.sep c hk)
/-- The row of places is another one. -/
theorem Am.setV {w w1 : World} {B ab : Nat} {V F : Value} {s : As} (h : Am w B ab V F s) {V' : Value} {ps : List (Int × Int)} (t : Turn (fun k => V.ownBlock = some k) w w1) (hrow : w1.ownsRow B 61 2 V' ps.length (ps.flatMap enc2)) (hat : ∀ g, V'.ownBlock = some g → V.ownBlock = some g ∨ w.heap.size ≤ g) :
    Am (w1.setCell ⟨ab, 0, none⟩ V') B ab V' F ⟨ps, s.fr⟩ := by
  have hc := h.sizeAb
  have hset : ∀ k, B ≤ k → (w1.setCell ⟨ab, 0, none⟩ V').heap[k]? = w1.heap[k]? := fun k hk => RowKit.Below.heap_setCell _ _ _ _ (fun c => by have := h.abB; simp at c; omega)
  refine ⟨h.abB, by rw [World.size_setCell]; exact Nat.le_trans h.BS t.size, World.cell?_setCell_same w1 _ _ ((t.cell (p := ⟨ab, 0, none⟩) hc h.notV).trans h.c0), ?_, fun j => ?_, ?_, ?_, ?_⟩
  · rw [World.cell?_setCell_other _ _ _ _ (fun c => by cases c)]; exact (t.cell (p := ⟨ab, 1, none⟩) hc h.notV).trans h.c1
  · rw [World.frozen?_setCell]; exact (t.frozen (p := ⟨ab, j, none⟩) hc h.notV).trans (h.fz j)
  · exact owns_block hrow (fun k hk => hset k (hrow.lt k hk).1)
  · refine owns_block h.rf (fun k hk => ?_)
    rw [hset k (h.rf.lt k hk).1]
    exact t.block k (h.rf.lt k hk).2 (fun c => h.sep c hk)
  · cases hv : V'.ownBlock with
    | none => exact Or.inl rfl
    | some g =>
      refine Or.inr (fun e => ?_)
      rcases hat g hv with c | c
      · exact h.sep c e.symm
      · have := (h.rf.lt g e.symm).2; omega
/-- The row of free places is another one. -/
theorem Am.setF {w w1 : World} {B ab : Nat} {V F : Value} {s : As} (h : Am w B ab V F s) {F' : Value} {fr : List Nat} (t : Turn (fun k => F.ownBlock = some k) w w1) (hrow : w1.ownsRow B 3 1 F' fr.length (fr.map encF)) (hat : ∀ g, F'.ownBlock = some g → F.ownBlock = some g ∨ w.heap.size ≤ g) :
    Am (w1.setCell ⟨ab, 1, none⟩ F') B ab V F' ⟨s.ps, fr⟩ := by
  have hc := h.sizeAb
  have hset : ∀ k, B ≤ k → (w1.setCell ⟨ab, 1, none⟩ F').heap[k]? = w1.heap[k]? := fun k hk => RowKit.Below.heap_setCell _ _ _ _ (fun c => by have := h.abB; simp at c; omega)
  refine ⟨h.abB, by rw [World.size_setCell]; exact Nat.le_trans h.BS t.size, ?_, World.cell?_setCell_same w1 _ _ ((t.cell (p := ⟨ab, 1, none⟩) hc h.notF).trans h.c1), fun j => ?_, ?_, ?_, ?_⟩
  · rw [World.cell?_setCell_other _ _ _ _ (fun c => by cases c)]; exact (t.cell (p := ⟨ab, 0, none⟩) hc h.notF).trans h.c0
  · rw [World.frozen?_setCell]; exact (t.frozen (p := ⟨ab, j, none⟩) hc h.notF).trans (h.fz j)
  · refine owns_block h.rp (fun k hk => ?_)
    rw [hset k (h.rp.lt k hk).1]
    exact t.block k (h.rp.lt k hk).2 (fun c => h.sep hk c)
  · exact owns_block hrow (fun k hk => hset k (hrow.lt k hk).1)
  · cases hv : V.ownBlock with
    | none => exact Or.inl rfl
    | some g =>
      refine Or.inr (fun e => ?_)
      rcases hat g e.symm with c | c
      · exact h.sep hv c
      · have := (h.rp.lt g hv).2; omega
theorem own_form {w : World} {base : Nat} {e : TypeId} {size : Nat} {v : Value} {n : Nat} {xs : List Value} (h : w.ownsRow base e size v (n + 1) xs) : ∃ g cap, v = .slice (some ⟨g, 0, none⟩) (n + 1) cap ∧ n + 1 ≤ cap ∧ cap ≤ maxLen := by
  rcases h.2 with ⟨_, h2⟩ | ⟨g, cap, cur, h1, _, _, h3, h4, _⟩
  · cases h2
  · exact ⟨g, cap, h1, h3, h4⟩
set_option maxHeartbeats 4000000 in
theorem take_any (B ab : Nat) (V F : Value) (s : As) (w : World) (h : Am w B ab V F s) (hp : s.ps.length ≤ 5000) (hf : s.fr.length ≤ 5000) :
    Calls Try.prog 19 #[.pointer (some ⟨ab, 0, none⟩)] w fun e w' => e = .returned (.int .i64 (tkAt s : Nat)) ∧ After B ab (tk s) V F w w' := by
  have c0 := h.c0
  have c1 := h.c1
  have f0 := h.fz 0
  have f1 := h.fz 1
  have HA : Hid (Am w B ab V F s) := h
  have HP : Hid (s.ps.length ≤ 5000) := hp
  unfold tkAt tk
  by_cases h0 : s.fr.length = 0
  · simp only [h0, if_true]
    obtain ⟨q, caq, hF, _⟩ := h.shapeF
    obtain ⟨p, cap, hV, _⟩ := h.shapeV
    rw [h0] at hF
    rw [hF] at c1
    rw [hV] at c0
    obtain ⟨i0, a1, a2, a3, a4⟩ := info_parts info61
    have HI : Hid (Try.prog.info? 61 = some i0 ∧ i0.zero = some (.agg #[.int .i64 0, .int .i64 0]) ∧ i0.size = 2 ∧ i0.bytes = 16) := ⟨a1, a2, a3, a4⟩
    have hab := h.sizeAb
    have HV : Hid (V = .slice p s.ps.length cap) := hV
    have HR : Hid (w.ownsRow B 61 2 (.slice p s.ps.length cap) s.ps.length (s.ps.flatMap enc2)) := by
      show World.ownsRow _ _ _ _ _ _ _
      rw [← hV]; exact h.rp
    have HNE : Hid (some ab ≠ (Value.slice p s.ps.length cap).ownBlock) := by
      show _ ≠ _
      rw [← hV]; exact Ne.symm h.notV
    have HBS : Hid (B ≤ w.heap.size) := h.BS
    have HAB : Hid (ab < w.heap.size) := hab
    obtain ⟨m, hm⟩ : ∃ m, s.ps.length = m := ⟨_, rfl⟩
    have HM : Hid (s.ps.length = m) := hm
    rw [hm] at hp c0 HR HNE HV ⊢
    clear h hf hF hV a1 a2 a3 a4 hm h0
    go_enter Try.func19, Try.ntmps19
    go_wp2_with (at_builtin; refine wpList_append_own_at _ (by rfl) _ _ 44 (by rfl) B 61 i0 (.agg #[.int .i64 0, .int .i64 0]) 2 16 Try.underlying44 HI.out.1 HI.out.2.1 HI.out.2.2.1 HI.out.2.2.2 rfl (by omega) (.slice p m cap) _ _ (by rfl) (HR.out.alloc _) ⟨w.heap.size, 0, none⟩ 1 1 (enc2 (0, 0)) (by rfl) (by rfl) (World.news_of_block (heap_alloc_new _ _)) (by simp [enc2, Value.oneCell']) (by unfold maxLen; omega) (by omega) (by simp; have := HBS.out; omega) ?_; intro x' w3 hown3 hg3 hnil3 hat3; obtain ⟨g3, cap3, rfl, hc3, hc4⟩ := own_form hown3; have g1 : w3.cell? ⟨ab, 0, none⟩ = some (.slice p m cap) := hg3.cell (cellA c0) HNE.out; have g2 : w3.frozen? ⟨ab, 0, none⟩ = false := (hg3.frozen_far ⟨ab, 0, none⟩ (by simp; have := HAB.out; omega) HNE.out).trans ((frozA (p := ⟨ab, 0, none⟩) HAB.out).trans f0))
    go_ret
    refine ⟨by simp, ?_⟩
    have tr : Turn (fun k => V.ownBlock = some k) w w3 := ((Turn.refl _ _).alloc _).grown hg3 (fun k hk _ => by rw [HV.out]; exact hk)
    refine ⟨_, F, HA.out.setV tr (ps := s.ps ++ [(0, 0)]) ?_ ?_, Turn.setCell (S := Own ab V F) (tr.mono (fun k _ hk => Or.inr (Or.inl hk))) (p := ⟨ab, 0, none⟩) (Or.inl rfl) _, ?_⟩
    · rw [List.length_append, HM.out, List.flatMap_append]; exact hown3
    · intro k hk
      rw [HV.out]
      rcases hat3 with c | c
      · exact Or.inl (c ▸ hk)
      · rw [c] at hk
        simp at hk
        exact Or.inr (by omega)
    · intro k hk
      rcases hk with c | c | c
      · exact Or.inl (Or.inl c)
      · rcases hat3 with d | d
        · exact Or.inl (Or.inr (Or.inl (by rw [HV.out]; exact d ▸ c)))
        · rw [d] at c
          simp at c
          exact Or.inr (by omega)
      · exact Or.inl (Or.inr (Or.inr c))
  · simp only [h0, if_false]
    obtain ⟨n, hn⟩ : ∃ n, s.fr.length = n + 1 := ⟨s.fr.length - 1, by omega⟩
    obtain ⟨g, caq, hF, hq1, hq2⟩ := own_form (hn ▸ h.rf)
    have hF' : F = .slice (some ⟨g, 0, none⟩) s.fr.length caq := by rw [hF, hn]
    have k0 : w.cell? ⟨g, n, none⟩ = some (.int .i64 (s.fr.getD n 0 : Nat)) := (hF' ▸ h).freeAt (by omega)
    rw [hF] at c1
    have hpop : w.ownsRow B 3 1 (.slice (some ⟨g, 0, none⟩) n caq) (s.fr.take n).length ((s.fr.take n).map encF) := by
      have hl : (s.fr.take n).length = n := by simp; omega
      rw [hl]
      have hsp : s.fr.map encF = (s.fr.take n).map encF ++ (s.fr.drop n).map encF := by rw [← List.map_append, List.take_append_drop]
      refine ownsRow_pop (last := (s.fr.drop n).map encF) (by simp; omega) ?_
      rw [← hsp, ← hn, ← hF']
      exact h.rf
    have HPOP : Hid (w.ownsRow B 3 1 (.slice (some ⟨g, 0, none⟩) n caq) (s.fr.take n).length ((s.fr.take n).map encF)) := hpop
    have HF : Hid (F = .slice (some ⟨g, 0, none⟩) (n + 1) caq) := hF
    have e1 : s.fr.length - 1 = n := by omega
    rw [e1]
    have i1 : (0 : Int) ≤ (n : Int) := by omega
    have i2 : (n : Int) < (n : Int) + 1 := by omega
    have i3 : (n : Int) ≤ (caq : Int) := by omega
    have i4 : (n : Int) ≤ 5000 := by omega
    unfold maxLen at hq2
    clear h hf hF hF' hn h0 e1 hpop
    generalize s.fr.getD n 0 = x at *
    go_enter Try.func19, Try.ntmps19
    go_wp2
    go_ret
    refine ⟨rfl, V, _, HA.out.setF (fr := s.fr.take n) (Turn.refl _ _) HPOP.out (fun k hk => Or.inl (by rw [HF.out]; exact hk)), Turn.setCell (S := Own ab V F) (Turn.refl _ _) (p := ⟨ab, 1, none⟩) (Or.inl rfl) _, ?_⟩
    intro k hk
    refine Or.inl ?_
    rcases hk with c | c | c
    · exact Or.inl c
    · exact Or.inr (Or.inl c)
    · exact Or.inr (Or.inr (by rw [HF.out]; exact c))
end Go.Proofs.Ytchiajedajabnaa
