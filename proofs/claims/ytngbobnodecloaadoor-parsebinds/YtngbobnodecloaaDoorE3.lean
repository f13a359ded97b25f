/-
  The next token of a reader; whether it is a word or a mark.
-/
import Derived.Test.YtngbobnodecloaaDoorE2
namespace Go.Proofs.YtngbobnodecloaaDoor
open Go.ChangeShapes Go.WideShapes Go.ChangeAt Go.RowKit
set_option linter.unusedVariables false
set_option linter.unusedSimpArgs false
theorem new_blk (w : World) (o : Obj) (n : Nat) : ((w.alloc o).drewN n).heap[w.heap.size]? = some o := by
  have h : ((w.alloc o).drewN n).heap = (w.alloc o).heap := by
    induction n with
    | zero => rfl
    | succ n ih => exact ih
  rw [h]
  exact heap_alloc_new w o
theorem there_blk {w : World} {g : Nat} {cs : Array Value} {T : TypeId} (h : w.heap[g]? = some (.cells cs T (0, 0))) (o n : Nat) (hn : o + n ≤ cs.size) : w.there g o n := by
  intro j hj
  rw [cell_of_blk h, Array.getElem?_eq_getElem (by omega)]
  exact ⟨rfl, free_of_blk h _⟩
theorem Fr.setCells {X : Nat → Prop} {a : World} {b : Nat} : ∀ {vs : List Value} {o : Nat} {w : World}, Fr X a w → (X b ∨ a.heap.size ≤ b) → Fr X a (w.setCells b o vs)
  | [], _, _, h, _ => h
  | v :: r, o, w, h, hp => Fr.setCells (vs := r) (h.setCell (p := ⟨b, o, none⟩) hp v) hp
theorem Fr.stored {X : Nat → Prop} {a w w' : World} {b : Nat} (h : Fr X a w) (k : Fr (fun i => i = b) w w') (hb : X b ∨ a.heap.size ≤ b) : Fr X a w' := h.then k (fun i hi => (show i = b from hi) ▸ hb)
/-- A row of cells, some of which are written over. -/
def ovr (cs : List Value) (o : Nat) (vs : List Value) : List Value := cs.take o ++ (vs ++ cs.drop (o + vs.length))
theorem ovr_step (cs : List Value) (o : Nat) (v : Value) (r : List Value) (h : o < cs.length) : ovr (cs.set o v) (o + 1) r = ovr cs o (v :: r) := by
  unfold ovr
  have h1 : (cs.set o v).take (o + 1) = cs.take o ++ [v] := by
    rw [List.take_succ_eq_append_getElem (by simpa using h), List.take_set_of_le (Nat.le_refl _)]
    simp
  have h2 : (cs.set o v).drop (o + 1 + r.length) = cs.drop (o + (v :: r).length) := by
    rw [List.drop_set_of_lt (by omega), List.length_cons]
    congr 1
    omega
  rw [h1, h2]
  simp
theorem blk_sets {b : Nat} {T : TypeId} : ∀ (vs : List Value) (o : Nat) (cs : List Value) (w : World), w.heap[b]? = some (.cells cs.toArray T (0, 0)) → o + vs.length ≤ cs.length → (w.setCells b o vs).heap[b]? = some (.cells (ovr cs o vs).toArray T (0, 0))
  | [], o, cs, w, h, _ => by
    have : ovr cs o [] = cs := by simp [ovr]
    rw [this]
    exact h
  | v :: r, o, cs, w, h, hl => by
    have hl' : o < cs.length := by simp at hl; omega
    rw [← ovr_step cs o v r hl']
    refine blk_sets r (o + 1) (cs.set o v) (w.setCell ⟨b, o, none⟩ v) ?_ (by simp at hl ⊢; omega)
    rw [blk_set h]
    simp
theorem run_st {P : Program} (w : World) (b o : Nat) (ty : TypeId) (v : Value) (cells : Array Value) (hv : v.cells = cells) (ht : w.there b o cells.size) (hi : (P.info? ty).map (·.size) = some cells.size) (h1 : cells.all (·.oneCell') = true) :
    (storeVar ty ⟨b, o, none⟩ v).run P w = .ok () (w.setCells b o cells.toList) := by
  have := run_storeCells_cells (P := P) b o cells.toList 0 w (fun j hj => by simpa using (ht j (by simpa using hj)).1) (fun j hj => by simpa using (ht j (by simpa using hj)).2)
    (fun v hv => (Array.all_eq_true_iff_forall_mem.1 h1) v (by simpa using hv))
  cases hq : P.info? ty with
  | none => simp [hq] at hi
  | some i =>
    have hs : cells.size = i.size := by simp [hq] at hi; omega
    simp only [Nat.add_zero] at this
    simp [storeVar, sizeOf, typeInfo, hq, hv, hs, this]
/-- A store into a block: the world behind it is one of which this is known. -/
theorem wp_st {P : Program} {ops : Array Oper} {rest : List Oper} {op : Oper} {a : Act} {w : World} {Q : Exit → Act → World → Prop} (hgd : op.guard = none) (ty : TypeId) (x y : Operand) (ho : op.op = .store ty x y)
    (b o : Nat) (cs : List Value) (T : TypeId) (v : Value) (vs : List Value) (hx : a.eval x = .pointer (some ⟨b, o, none⟩)) (hy : a.eval y = v) (hv : v.cells = vs.toArray) (hb : w.heap[b]? = some (.cells cs.toArray T (0, 0)))
    (hl : o + vs.length ≤ cs.length) (hi : (P.info? ty).map (·.size) = some vs.length) (h1 : vs.all (·.oneCell') = true)
    (h : ∀ w', w'.heap[b]? = some (.cells (ovr cs o vs).toArray T (0, 0)) → Fr (fun i => i = b) w w' → wpList P ops Q rest (a.put op.dst undef) w') : wpList P ops Q (op :: rest) a w := by
  refine wpList_plain hgd fun K hK => ?_
  unfold Oper.wp execOp
  simp only [ho, hx, hy, Instr.storeAt, Instr.sureAddr, Sem.run_bind, Sem.run_pure, Result.andThen_ok, run_st w b o ty v vs.toArray hv (there_blk hb o _ (by simpa using hl)) (by simpa using hi) (all_oneCell_toArray (List.all_eq_true.1 h1))]
  exact hK _ _ (h _ (blk_sets vs o cs w hb hl) ((Fr.refl (fun i => i = b) w).setCells (.inl rfl)))
/-- A load of a struct out of a block. -/
theorem wp_ld {P : Program} {ops : Array Oper} {rest : List Oper} {op : Oper} {a : Act} {w : World} {Q : Exit → Act → World → Prop} (hgd : op.guard = none) (ty : TypeId) (x : Operand) (ho : op.op = .load ty x)
    (b : Nat) (cs : List Value) (T : TypeId) (d : TypeDesc) (hx : a.eval x = .pointer (some ⟨b, 0, none⟩)) (hb : w.heap[b]? = some (.cells cs.toArray T (0, 0))) (hu : P.underlying ty = some d) (hd : d.isRow = true) (hi : (P.info? ty).map (·.size) = some cs.length)
    (h : wpList P ops Q rest (a.put op.dst (.agg cs.toArray)) w) : wpList P ops Q (op :: rest) a w :=
  wpList_load_mid hgd ty x ho b 0 hx cs d (range_blk hb) hu hd hi h
set_option maxHeartbeats 2000000 in
theorem next_any (w : World) (g : Nat) (V : Value) (L : List Tk) (s : St) (h : Env w g V L s) :
    Calls Tryd.prog 79 #[rp g] w fun e w' => e = .returned (tV (nxt L s)) ∧ Fr (fun _ => False) w w' := by
  obtain ⟨p, cap, rfl⟩ := h.shape
  have h' := h
  have c0 : ∀ o, (w.alloc o).cell? ⟨g, 0, none⟩ = some (.slice p L.length cap) := fun o => (h.alloc o).c0
  have c1 : ∀ o, (w.alloc o).cell? ⟨g, 1, none⟩ = some (.int .i64 s.i) := fun o => (h.alloc o).c1
  have c3 : ∀ o, (w.alloc o).cell? ⟨g, 3, none⟩ = some (.int .i64 s.e) := fun o => (h.alloc o).c3
  have hpos := h.pos
  have hlen := h.len
  by_cases he : s.e = 0
  · have hb : (s.e != 0) = false := by simpa using he
    by_cases hi : s.i = L.length
    · have hn : nxt L s = no := by unfold nxt; rw [if_pos he, hi]; simp
      have hb2 : ((s.i : Int) == (L.length : Int)) = true := by simp; omega
      rw [hn]
      obtain ⟨n, hnn⟩ : ∃ n, L.length = n := ⟨_, rfl⟩
      rw [hnn] at c0 hb2
      clear he hi hn h h' hnn hpos hlen
      go_enter Tryd.func79, Tryd.ntmps79
      go_wp2_with fail
      go_quiet (fail)
      go_wp2_with (refine wp_st (by rfl) 53 _ _ (by rfl) w.heap.size 0 [.int .i64 0, .string ⟨#[]⟩, .int .i64 0] 53 (.agg #[.int .i64 0, .string ⟨#[]⟩, .int .i64 0]) [.int .i64 0, .string ⟨#[]⟩, .int .i64 0] (by rfl) (by rfl) (by rfl) (new_blk _ _ _) (by decide) (by kernel_rfl) (by rfl) ?_; intro w9 hw9 hf9)
      refine bodyPost_ret (res1 rfl _ _ w.heap.size [.int .i64 0, .string ⟨#[]⟩, .int .i64 0] _ (by rfl) (range_blk hw9) Tryd.underlying53 rfl (by kernel_rfl)) rfl ?_
      exact ⟨rfl, (((Fr.refl _ w).alloc _).drewN _).stored hf9 (.inr (Nat.le_refl _))⟩
    · have hlt : s.i < L.length := by omega
      obtain ⟨t, ht⟩ : ∃ t, nxt L s = t := ⟨_, rfl⟩
      have hb2 : ((s.i : Int) == (L.length : Int)) = false := by simp; omega
      have htl : L[s.i] = t := by rw [← ht]; unfold nxt; rw [if_pos he]; simp [List.getD, List.getElem?_eq_getElem hlt]
      rw [ht]
      obtain ⟨k, tx, m⟩ := t
      obtain ⟨p', cap', hv, hc1, hc2, hc⟩ := h.tok
      obtain ⟨b, off, hp, hc⟩ := hc (by omega)
      obtain ⟨hbl, t0, t1, t2⟩ := hc s.i hlt
      rw [htl] at t0 t1 t2
      simp at hv
      obtain ⟨rfl, rfl⟩ := hv
      subst hp
      have T0 : ∀ o, (w.alloc o).cell? ⟨b, off + s.i * 3, none⟩ = some (.int .i64 k) := fun o => (World.cell?_alloc_past _ _ _ hbl).trans t0
      have T1 : ∀ o, (w.alloc o).cell? ⟨b, off + s.i * 3 + 1, none⟩ = some (.string tx) := fun o => (World.cell?_alloc_past _ _ _ hbl).trans t1
      have T2 : ∀ o, (w.alloc o).cell? ⟨b, off + s.i * 3 + 2, none⟩ = some (.int .i64 m) := fun o => (World.cell?_alloc_past _ _ _ hbl).trans t2
      obtain ⟨n, hnn⟩ : ∃ n, L.length = n := ⟨_, rfl⟩
      obtain ⟨q, hq⟩ : ∃ q, s.i = q := ⟨_, rfl⟩
      rw [hq] at c1 hb2 T0 T1 T2 hlt
      rw [hnn] at c0 hb2 hlt hc1 hlen
      have i1 : (0 : Int) ≤ (q : Int) := by omega
      have i2 : (q : Int) < (n : Int) := by omega
      have hgl := blk_lt h.blk
      clear he hi ht h' hnn hpos hq hc t0 t1 t2 htl
      go_enter Tryd.func79, Tryd.ntmps79
      go_wp2_with fail
      go_quiet (fail)
      obtain ⟨W, hW⟩ : ∃ W, ((w.alloc (.cells #[.int .i64 0, .string ⟨#[]⟩, .int .i64 0] 53)).drewN nq) = W := ⟨_, rfl⟩
      have hB := new_blk w (.cells #[.int .i64 0, .string ⟨#[]⟩, .int .i64 0] 53) nq
      have hF : Fr (fun _ => False) w ((w.alloc (.cells #[.int .i64 0, .string ⟨#[]⟩, .int .i64 0] 53)).drewN nq) := ((Fr.refl _ w).alloc _).drewN _
      have hc : ∀ b o, b < w.heap.size → ((w.alloc (.cells #[.int .i64 0, .string ⟨#[]⟩, .int .i64 0] 53)).drewN nq).cell? ⟨b, o, none⟩ = w.cell? ⟨b, o, none⟩ := fun b o hb => World.cell?_of_block (hF.block b hb id)
      rw [hW] at hB hF hc ⊢
      have d0 : W.cell? ⟨g, 0, none⟩ = some (.slice (some ⟨b, off, none⟩) n cap) := by rw [hc _ _ hgl, ← c0 (.cells #[] 0), World.cell?_alloc_past _ _ _ hgl]
      have d1 : W.cell? ⟨g, 1, none⟩ = some (.int .i64 q) := by rw [hc _ _ hgl, ← c1 (.cells #[] 0), World.cell?_alloc_past _ _ _ hgl]
      have U0 : W.cell? ⟨b, off + q * 3, none⟩ = some (.int .i64 k) := by rw [hc _ _ hbl, ← T0 (.cells #[] 0), World.cell?_alloc_past _ _ _ hbl]
      have U1 : W.cell? ⟨b, off + q * 3 + 1, none⟩ = some (.string tx) := by rw [hc _ _ hbl, ← T1 (.cells #[] 0), World.cell?_alloc_past _ _ _ hbl]
      have U2 : W.cell? ⟨b, off + q * 3 + 2, none⟩ = some (.int .i64 m) := by rw [hc _ _ hbl, ← T2 (.cells #[] 0), World.cell?_alloc_past _ _ _ hbl]
      have r0 := cell_of_blk hB 0
      have r1 := cell_of_blk hB 1
      have r2 := cell_of_blk hB 2
      have f0 := free_of_blk hB 0
      have f1 := free_of_blk hB 1
      have f2 := free_of_blk hB 2
      simp at r0 r1 r2
      have HB : Hid (W.heap[w.heap.size]? = some (.cells #[.int .i64 0, .string ⟨#[]⟩, .int .i64 0] 53 (0, 0))) := hB
      have HF : Hid (Fr (fun _ => False) w W) := hF
      obtain ⟨M, hM⟩ : ∃ M, w.heap.size = M := ⟨_, rfl⟩
      have HM : Hid (w.heap.size = M) := hM
      rw [hM] at HB r0 r1 r2 f0 f1 f2 ⊢
      clear c0 c1 c3 T0 T1 T2 hB hF hc hW h hM
      go_wp2_with fail
      go_region
      all_goals (try go_wp2_with fail)
      have hq : ((W.setCells M 0 [.int .i64 k, .string tx, .int .i64 m]).drew).heap[M]? = some (.cells #[.int .i64 k, .string tx, .int .i64 m] 53 (0, 0)) := blk_sets [.int .i64 k, .string tx, .int .i64 m] 0 [.int .i64 0, .string ⟨#[]⟩, .int .i64 0] W HB.out (Nat.le_of_ble_eq_true rfl)
      refine bodyPost_ret (res1 rfl _ _ M [.int .i64 k, .string tx, .int .i64 m] _ (by rfl) (range_blk hq) Tryd.underlying53 rfl (by kernel_rfl)) rfl ?_
      refine ⟨rfl, ?_⟩
      have h9 : Fr (fun _ => False) w ((W.setCells M 0 [.int .i64 k, .string tx, .int .i64 m]).drew) := (HF.out.setCells (.inr (Nat.le_of_eq HM.out))).drew
      exact h9
  · have hb : (s.e != 0) = true := by simpa using he
    have hn : nxt L s = no := by unfold nxt; rw [if_neg he]
    rw [hn]
    clear he hn h h' hpos hlen
    go_enter Tryd.func79, Tryd.ntmps79
    go_wp2_with fail
    go_quiet (fail)
    go_wp2_with (refine wp_st (by rfl) 53 _ _ (by rfl) w.heap.size 0 [.int .i64 0, .string ⟨#[]⟩, .int .i64 0] 53 (.agg #[.int .i64 0, .string ⟨#[]⟩, .int .i64 0]) [.int .i64 0, .string ⟨#[]⟩, .int .i64 0] (by rfl) (by rfl) (by rfl) (new_blk _ _ _) (by decide) (by kernel_rfl) (by rfl) ?_; intro w9 hw9 hf9)
    refine bodyPost_ret (res1 rfl _ _ w.heap.size [.int .i64 0, .string ⟨#[]⟩, .int .i64 0] _ (by rfl) (range_blk hw9) Tryd.underlying53 rfl (by kernel_rfl)) rfl ?_
    exact ⟨rfl, (((Fr.refl _ w).alloc _).drewN _).stored hf9 (.inr (Nat.le_refl _))⟩
theorem sees_eq (t : Tk) (x : List UInt8) : (t.s.toList == (txt x).toList) = decide (t.s.data.toList = x) := by
  rw [Lib.toList_data, Lib.toList_data, txt_list]
  rw [Bool.eq_iff_iff]
  simp
set_option maxHeartbeats 2000000 in
theorem sees_any (w : World) (g : Nat) (V : Value) (L : List Tk) (s : St) (x : List UInt8) (h : Env w g V L s) :
    Calls Tryd.prog 65 #[rp g, .string (txt x)] w fun e w' => e = .returned (.bool (see L x s)) ∧ Fr (fun _ => False) w w' := by
  have HN : Hid (Calls Tryd.prog 79 #[rp g] w fun e w' => e = .returned (tV (nxt L s)) ∧ Fr (fun _ => False) w w') := next_any w g V L s h
  obtain ⟨b, hb⟩ : ∃ b, see L x s = b := ⟨_, rfl⟩
  have hs := sees_eq (nxt L s) x
  rw [hb]
  obtain ⟨t, ht⟩ : ∃ t, nxt L s = t := ⟨_, rfl⟩
  unfold see at hb
  rw [ht] at hb HN hs
  obtain ⟨k, tx, m⟩ := t
  have HB : Hid (((decide (k = 1) || decide (k = 4)) && decide (tx.data.toList = x)) = b) := hb
  obtain ⟨y, hy⟩ : ∃ y, txt x = y := ⟨_, rfl⟩
  have HS : Hid ((tx.toList == y.toList) = decide (tx.data.toList = x)) := by rw [← hy]; exact hs
  rw [hy]
  clear hb ht hs hy h
  go_enter Tryd.func65, Tryd.ntmps65
  go_wp2_with (go_at_call 79; refine HN.out.mono ?_; rintro e w1 ⟨rfl, hf1⟩)
  all_goals
    go_ret
    refine ⟨ret_bool ?_, hf1.alloc _⟩
    have h1 := HB.out
    have h2 := HS.out
    rw [← h1]
    first | (rw [h2]; simp_all; done) | (simp_all; done)
end Go.Proofs.YtngbobnodecloaaDoor
