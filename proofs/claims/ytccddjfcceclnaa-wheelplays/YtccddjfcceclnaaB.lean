/-
  A new clock in memory.
-/
import Derived.Test.YtccddjfcceclnaaDo
import Derived.Deep.MidRow
namespace Go.Proofs.Ytccddjfcceclnaa
open Go.ChangeShapes Go.WideShapes Go.ChangeAt Go.RowKit Go.Maps
set_option linter.unusedVariables false
set_option linter.unusedSimpArgs false
def midL (n : Nat) (x y z : Value) : List Value := x :: y :: (List.replicate n (.slice none 0 0) ++ [z])
theorem midL_at (n : Nat) (x y z : Value) (q : Nat) (hq : q < n) : (midL n x y z)[2 + q]? = some (.slice none 0 0) := by
  unfold midL
  rw [show 2 + q = q + 1 + 1 by omega, List.getElem?_cons_succ, List.getElem?_cons_succ, List.getElem?_append_left (by simpa using hq)]
  simp [hq]
theorem midL_len (n : Nat) (x y z : Value) : (midL n x y z).length = n + 3 := by simp [midL]
theorem midL_last (n : Nat) (x y z : Value) : (midL n x y z)[n + 2]? = some z := by
  unfold midL
  rw [List.getElem?_cons_succ, List.getElem?_cons_succ, List.getElem?_append_right (by simp)]
  simp
theorem midL_one (n : Nat) (x y z : Value) (hx : x.oneCell' = true) (hy : y.oneCell' = true) (hz : z.oneCell' = true) : ∀ v ∈ midL n x y z, v.oneCell' = true := by
  intro v hv
  unfold midL at hv
  rcases List.mem_cons.1 hv with rfl | hv
  · exact hx
  rcases List.mem_cons.1 hv with rfl | hv
  · exact hy
  rcases List.mem_append.1 hv with hv | hv
  · rw [(List.mem_replicate.1 hv).2]; rfl
  · rw [List.mem_singleton.1 hv]; exact hz
theorem there_new (w : World) (c : Array Value) (t : TypeId) (n : Nat) (hn : n ≤ c.size) : (w.alloc (.cells c t)).there w.heap.size 0 n := fun j hj => by
  have hb : (w.alloc (.cells c t)).heap[w.heap.size]? = some (.cells c t (0, 0)) := by first | exact heap_alloc_new w _ | exact _root_.Go.heap_alloc_new w _
  refine ⟨?_, ?_⟩
  · rw [Nat.zero_add, cell_of_row _ _ j c t (0, 0) hb, Array.getElem?_eq_getElem (by omega)]; rfl
  · rw [World.frozen?, hb]; simp
def clkL (now : Int) (mb : Nat) : List Value := midL 448 (.int .i64 now) (.int .i64 0) (.map (some mb))
def clkZ : List Value := midL 448 (.int .i64 0) (.int .i64 0) (.map none)
theorem run_build50 (now : Int) (mb : Nat) (w : World) : (Instr.build 50 #[(0, .int .i64 now), (3, .map (some mb))]).run Try.prog w = .ok (.agg (clkL now mb).toArray) w := by kernel_rfl
theorem run_zero50 (w : World) : (zeroValue 50).run Try.prog w = .ok (.agg clkZ.toArray) w := by kernel_rfl
theorem run_alloc50 (w : World) : (Instr.alloc 50 true (.tuple #[])).run Try.prog w = .ok (.pointer (some ⟨w.heap.size, 0, none⟩)) (w.alloc (.cells clkZ.toArray 50)) := by kernel_rfl
theorem size50 : (Try.prog.info? 50).map (·.size) = some 451 := by kernel_rfl
section
variable (w : World) {ops : Array Oper} {rest : List Oper} {o : Oper} {a : Act} {Q : Exit → Act → World → Prop}
theorem wpList_build50 (hg : o.guard = none) (x y : Operand) (hop : o.op = Op.build 50 #[(0, x), (3, y)]) (now : Int) (mb : Nat) (hx : a.eval x = .int .i64 now) (hy : a.eval y = .map (some mb))
    (hK : wpList Try.prog ops Q rest (a.put o.dst (.agg (clkL now mb).toArray)) w) : wpList Try.prog ops Q (o :: rest) a w := by
  refine wpList_plain hg fun K' hK' => ?_
  unfold Oper.wp
  simp only [execOp, hop, List.map_toArray, List.map_cons, List.map_nil, hx, hy, Sem.run_bind, run_build50, Result.andThen_ok, Sem.run_pure]
  exact hK' _ _ hK
theorem wpList_alloc50 (hg : o.guard = none) (hop : o.op = Op.alloc 50) (H : Nat) (hH : w.heap.size = H)
    (hK : wpList Try.prog ops Q rest (a.put o.dst (.pointer (some ⟨H, 0, none⟩))) (w.alloc (.cells clkZ.toArray 50))) : wpList Try.prog ops Q (o :: rest) a w := by
  subst hH
  refine wpList_plain hg fun K' hK' => ?_
  unfold Oper.wp
  simp only [execOp, hop, Sem.run_bind, run_alloc50, Result.andThen_ok, Sem.run_pure]
  exact hK' _ _ hK
end
theorem setCells_kept (b : Nat) : ∀ (vs : List Value) (o : Nat) (w : World), (∀ a, (w.setCells b o vs).frozen? a = w.frozen? a) ∧ (w.setCells b o vs).heap.size = w.heap.size ∧ (∀ k, k ≠ b → (w.setCells b o vs).heap[k]? = w.heap[k]?) ∧ (w.setCells b o vs).os = w.os ∧ (w.setCells b o vs).tape = w.tape ∧ (w.setCells b o vs).output = w.output
  | [], o, w => ⟨fun _ => rfl, rfl, fun _ _ => rfl, rfl, rfl, rfl⟩
  | v :: r, o, w => by
    obtain ⟨h1, h2, h3, h4, h5, h6⟩ := setCells_kept b r (o + 1) (w.setCell ⟨b, o, none⟩ v)
    refine ⟨fun a => (h1 a).trans (World.frozen?_setCell _ _ _ _), h2.trans (World.size_setCell _ _ _), fun k hk => (h3 k hk).trans (RowKit.Below.heap_setCell _ _ _ _ hk), h4, h5, h6⟩
theorem clkL_at (now : Int) (mb q : Nat) (hq : q < 448) : (clkL now mb)[2 + q]? = some (.slice none 0 0) := midL_at _ _ _ _ q hq
theorem clkL_len (now : Int) (mb : Nat) : (clkL now mb).length = 451 := midL_len _ _ _ _
theorem clkL_map (now : Int) (mb : Nat) : (clkL now mb)[450]? = some (.map (some mb)) := midL_last _ _ _ _
theorem clkL_one (now : Int) (mb : Nat) : ∀ v ∈ clkL now mb, v.oneCell' = true := midL_one _ _ _ _ rfl rfl rfl
theorem there50 (w : World) : (w.alloc (.cells clkZ.toArray 50)).there w.heap.size 0 451 := there_new w _ _ 451 (by rw [List.size_toArray]; exact Nat.le_of_eq (midL_len _ _ _ _).symm)
/-- A new clock. -/
theorem st_start (now : Nat) (hn : now ≤ mt) (w : World) :
    St (((w.alloc (.map #[] 0)).alloc (.cells clkZ.toArray 50)).setCells (w.heap.size + 1) 0 (clkL now w.heap.size)) (w.heap.size + 2) (w.heap.size + 1) w.heap.size ⟨now, 0, []⟩ (fun _ => .slice none 0 0) (fun _ => []) (fun _ => none) ∧
      Below w.heap.size w (((w.alloc (.map #[] 0)).alloc (.cells clkZ.toArray 50)).setCells (w.heap.size + 1) 0 (clkL now w.heap.size)) ∧
      (((w.alloc (.map #[] 0)).alloc (.cells clkZ.toArray 50)).setCells (w.heap.size + 1) 0 (clkL now w.heap.size)).heap.size = w.heap.size + 2 := by
  have ht := there50 (w.alloc (.map #[] 0))
  have hs0 : (w.alloc (.map #[] 0)).heap.size = w.heap.size + 1 := by simp
  rw [hs0] at ht
  obtain ⟨h1, h2, h3, h4, h5, h6⟩ := setCells_kept (w.heap.size + 1) (clkL now w.heap.size) 0 ((w.alloc (.map #[] 0)).alloc (.cells clkZ.toArray 50))
  have hr := World.rangeAt_setCells_same ((w.alloc (.map #[] 0)).alloc (.cells clkZ.toArray 50)) (w.heap.size + 1) 0 (clkL now w.heap.size) (by rw [clkL_len]; exact ht)
  have hsz : (((w.alloc (.map #[] 0)).alloc (.cells clkZ.toArray 50)).setCells (w.heap.size + 1) 0 (clkL now w.heap.size)).heap.size = w.heap.size + 2 := by rw [h2]; simp
  generalize (((w.alloc (.map #[] 0)).alloc (.cells clkZ.toArray 50)).setCells (w.heap.size + 1) 0 (clkL now w.heap.size)) = W at *
  have c : ∀ j v, (clkL now w.heap.size)[j]? = some v → W.cell? ⟨w.heap.size + 1, j, none⟩ = some v := fun j v hv => by
    have := hr j v hv; rw [Nat.zero_add] at this; exact this
  have hbm : W.heap[w.heap.size]? = (w.alloc (.map #[] 0)).heap[w.heap.size]? := by
    rw [h3 _ (by omega)]
    have : w.heap.size < (w.alloc (.map #[] 0)).heap.size := by simp
    first | exact heap_alloc_old _ _ this | exact heap_alloc_old _ _ _ this
  refine ⟨⟨⟨by omega, by omega, by omega, by omega, c 0 _ rfl, c 1 _ rfl, fun q hq => c _ _ (clkL_at _ _ q hq), c 450 _ (clkL_map _ _), fun j => ?_, fun q hq => ?_, fun q r _ _ _ => Or.inl rfl⟩, (mp_made w).block hbm, inv_none _, good_none hn⟩, ⟨?_, ?_, ?_, by omega, fun k hk => ?_⟩, hsz⟩
  · rw [h1]
    rw [World.frozen?]
    have hb : ((w.alloc (.map #[] 0)).alloc (.cells clkZ.toArray 50)).heap[w.heap.size + 1]? = some (.cells clkZ.toArray 50 (0, 0)) := by
      rw [← hs0]
      first | exact heap_alloc_new _ _ | exact _root_.Go.heap_alloc_new _ _
    simp only [hb]
    simp
  · simpa using World.ownsRow_nil W (w.heap.size + 2) 69 3
  · rw [h4]; rfl
  · rw [h5]; rfl
  · rw [h6]; rfl
  · rw [h3 _ (by omega)]
    have e1 : k < (w.alloc (.map #[] 0)).heap.size := by simp; omega
    have q1 : ((w.alloc (.map #[] 0)).alloc (.cells clkZ.toArray 50)).heap[k]? = (w.alloc (.map #[] 0)).heap[k]? := by
      first | exact heap_alloc_old _ _ e1 | exact heap_alloc_old _ _ _ e1
    have q2 : (w.alloc (.map #[] 0)).heap[k]? = w.heap[k]? := by
      first | exact heap_alloc_old _ _ hk | exact heap_alloc_old _ _ _ hk
    exact q1.trans q2
end Go.Proofs.Ytccddjfcceclnaa
