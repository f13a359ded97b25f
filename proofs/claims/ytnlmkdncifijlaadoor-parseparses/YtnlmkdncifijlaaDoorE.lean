/-
  A reader of tokens in memory; what its smallest functions do. The smallest functions of a reader of tokens. The next token of a reader; whether it is a word or a mark. A reader goes past a word or a mark, a name, a number. A reader opens and closes what a condition is nested by; it reads a name, a number, a relation.
-/
import Derived.Test.YtnlmkdncifijlaaDoorKT
import Derived.Test.YtnlmkdncifijlaaDoorS
import Derived.Deep.MidRow
import Derived.Deep.QuietTactic
import Derived.BigQuiet
import Derived.Defers
namespace Go.Proofs.YtnlmkdncifijlaaDoor
open Go.ChangeShapes Go.WideShapes Go.ChangeAt Go.RowKit
set_option linter.unusedVariables false
set_option linter.unusedSimpArgs false
theorem Fr.drewN {X : Nat → Prop} {a w : World} (h : Fr X a w) : ∀ n, Fr X a (w.drewN n)
  | 0 => h
  | n + 1 => (h.drewN n).drew
/-- The table of comparisons. -/
def Cmt (w : World) : Prop := 4 < w.heap.size ∧ ∀ i : Nat, i < 6 → w.cell? ⟨4, i * 3, none⟩ = some (.string (txt (cml.getD i ([], 0, false)).1)) ∧ w.cell? ⟨4, i * 3 + 1, none⟩ = some (.int .i64 (cml.getD i ([], 0, false)).2.1) ∧ w.cell? ⟨4, i * 3 + 2, none⟩ = some (.bool (cml.getD i ([], 0, false)).2.2)
/-- A reader in block g: its tokens (the slice V) and all tables lie in lower blocks. -/
structure Env (w : World) (g : Nat) (V : Value) (L : List Tk) (s : St) : Prop where
  blk : w.heap[g]? = some (.cells #[V, .int .i64 s.i, .int .i64 s.o, .int .i64 s.e] 68 (0, 0))
  tok : TokensAt w V L
  low : ∀ b, V.ownBlock = some b → b < g
  len : L.length ≤ 700
  pos : s.i ≤ L.length
  opn : s.o ≤ 7
  kp : Tab w 0 kpl
  rl : Tab w 2 rll
  cm : Cmt w
  tab : 0 < g ∧ 2 < g ∧ 4 < g
  num : ∀ t, t ∈ L → t.k = 2 → 0 ≤ t.n ∧ t.n ≤ 1125899906842624
  siz : ∀ t, t ∈ L → t.s.size ≤ 3000
theorem cell_of_blk {w : World} {g : Nat} {cs : Array Value} {T : TypeId} (h : w.heap[g]? = some (.cells cs T (0, 0))) (j : Nat) : w.cell? ⟨g, j, none⟩ = cs[j]? := cell_of_row _ _ j cs T (0, 0) h
theorem free_of_blk {w : World} {g : Nat} {cs : Array Value} {T : TypeId} (h : w.heap[g]? = some (.cells cs T (0, 0))) (j : Nat) : w.frozen? ⟨g, j, none⟩ = false := by
  simp [World.frozen?, h]
theorem blk_lt {w : World} {g : Nat} {o : Obj} (h : w.heap[g]? = some o) : g < w.heap.size := (Array.getElem?_eq_some_iff.1 h).1
/-- A reader stays as it is where the lower blocks do. -/
theorem Env.on {w w' : World} {g : Nat} {V : Value} {L : List Tk} {s s' : St} (h : Env w g V L s) (hs : w.heap.size ≤ w'.heap.size) (hb : ∀ k, k < g → w'.heap[k]? = w.heap[k]?)
    (hg : w'.heap[g]? = some (.cells #[V, .int .i64 s'.i, .int .i64 s'.o, .int .i64 s'.e] 68 (0, 0))) (hp : s'.i ≤ L.length) (ho : s'.o ≤ 7) : Env w' g V L s' := by
  have hc : ∀ (b o : Nat), b < g → w'.cell? ⟨b, o, none⟩ = w.cell? ⟨b, o, none⟩ := fun b o hlt => World.cell?_of_block (hb b hlt)
  refine ⟨hg, ?_, h.low, h.len, hp, ho, ⟨Nat.lt_of_lt_of_le h.kp.1 hs, fun i hi => (hc _ _ h.tab.1).trans (h.kp.2 i hi)⟩, ⟨Nat.lt_of_lt_of_le h.rl.1 hs, fun i hi => (hc _ _ h.tab.2.1).trans (h.rl.2 i hi)⟩,
    ⟨Nat.lt_of_lt_of_le h.cm.1 hs, fun i hi => ⟨(hc _ _ h.tab.2.2).trans (h.cm.2 i hi).1, (hc _ _ h.tab.2.2).trans (h.cm.2 i hi).2.1, (hc _ _ h.tab.2.2).trans (h.cm.2 i hi).2.2⟩⟩, h.tab, h.num, h.siz⟩
  obtain ⟨p, cap, rfl, h1, h2, h3⟩ := h.tok
  refine ⟨p, cap, rfl, h1, h2, fun h0 => ?_⟩
  obtain ⟨b, off, rfl, h4⟩ := h3 h0
  have hlt : b < g := h.low b rfl
  refine ⟨b, off, rfl, fun j hj => ?_⟩
  obtain ⟨a, b0, b1, b2⟩ := h4 j hj
  exact ⟨Nat.lt_of_lt_of_le a hs, (hc _ _ hlt).trans b0, (hc _ _ hlt).trans b1, (hc _ _ hlt).trans b2⟩
theorem Env.fr {w w' : World} {g : Nat} {V : Value} {L : List Tk} {s : St} (h : Env w g V L s) (hf : Fr (fun _ => False) w w') : Env w' g V L s :=
  h.on hf.size (fun k hk => hf.block k (by have := blk_lt h.blk; omega) id) ((hf.block g (blk_lt h.blk) id).trans h.blk) h.pos h.opn
theorem Env.alloc {w : World} {g : Nat} {V : Value} {L : List Tk} {s : St} (h : Env w g V L s) (o : Obj) : Env (w.alloc o) g V L s := h.fr ((Fr.refl _ _).alloc o)
theorem Env.drewN {w : World} {g : Nat} {V : Value} {L : List Tk} {s : St} (h : Env w g V L s) (n : Nat) : Env (w.drewN n) g V L s := h.fr ((Fr.refl _ _).drewN n)
/-- A store into a block behind the reader. -/
theorem Env.setCell {w : World} {g : Nat} {V : Value} {L : List Tk} {s : St} (h : Env w g V L s) (p : Addr) (hp : g < p.block) (u : Value) : Env (w.setCell p u) g V L s :=
  h.on (by simp [World.setCell]) (fun k hk => Below.heap_setCell _ _ _ _ (by omega)) ((Below.heap_setCell _ _ _ _ (by omega)).trans h.blk) h.pos h.opn
/-- A store into the reader. -/
theorem Env.put {w w' : World} {g : Nat} {V : Value} {L : List Tk} {s s' : St} (h : Env w g V L s) (hf : Fr (fun i => i = g) w w') (hg : w'.heap[g]? = some (.cells #[V, .int .i64 s'.i, .int .i64 s'.o, .int .i64 s'.e] 68 (0, 0))) (hp : s'.i ≤ L.length) (ho : s'.o ≤ 7) : Env w' g V L s' :=
  h.on hf.size (fun k hk => hf.block k (by have := blk_lt h.blk; omega) (by show ¬ k = g; omega)) hg hp ho
theorem blk_set {w : World} {g : Nat} {cs : Array Value} {T : TypeId} (h : w.heap[g]? = some (.cells cs T (0, 0))) (j : Nat) (u : Value) : (w.setCell ⟨g, j, none⟩ u).heap[g]? = some (.cells (cs.setIfInBounds j u) T (0, 0)) := by
  simp [World.setCell, Array.getElem?_modify, h]
end Go.Proofs.YtnlmkdncifijlaaDoor
namespace Go.Proofs.YtnlmkdncifijlaaDoor
open Go.ChangeShapes Go.WideShapes Go.ChangeAt Go.RowKit
set_option linter.unusedVariables false
set_option linter.unusedSimpArgs false
section
variable {w : World} {g : Nat} {V : Value} {L : List Tk} {s : St}
theorem Env.c0 (h : Env w g V L s) : w.cell? ⟨g, 0, none⟩ = some V := by rw [cell_of_blk h.blk]; rfl
theorem Env.c1 (h : Env w g V L s) : w.cell? ⟨g, 1, none⟩ = some (.int .i64 s.i) := by rw [cell_of_blk h.blk]; rfl
theorem Env.c2 (h : Env w g V L s) : w.cell? ⟨g, 2, none⟩ = some (.int .i64 s.o) := by rw [cell_of_blk h.blk]; rfl
theorem Env.c3 (h : Env w g V L s) : w.cell? ⟨g, 3, none⟩ = some (.int .i64 s.e) := by rw [cell_of_blk h.blk]; rfl
theorem Env.fz (h : Env w g V L s) (j : Nat) : w.frozen? ⟨g, j, none⟩ = false := free_of_blk h.blk j
theorem Env.shape (h : Env w g V L s) : ∃ p cap, V = .slice p L.length cap := by
  obtain ⟨p, cap, h1, _⟩ := h.tok
  exact ⟨p, cap, h1⟩
end
theorem fr_put (w : World) (g j : Nat) (u : Value) : Fr (fun i => i = g) w (w.setCell ⟨g, j, none⟩ u) := (Fr.refl (fun i => i = g) w).setCell (p := ⟨g, j, none⟩) (.inl rfl) u
theorem res1 {P : Program} {fn : Func} {p : Tmp} {ty : TypeId} (h : fn.results = #[.cell p ty]) (tmps : Array Value) (w : World) (g : Nat) (cs : List Value) (d : TypeDesc)
    (hp : tmps.getD p undef = .pointer (some ⟨g, 0, none⟩)) (hc : w.rangeAt g 0 cs) (hu : P.underlying ty = some d) (hd : d.isRow = true) (hi : (P.info? ty).map (·.size) = some cs.length) :
    (results fn tmps).run P w = .ok (.agg cs.toArray) w := by
  have hp' : tmps[p]?.getD undef = .pointer (some ⟨g, 0, none⟩) := by simpa using hp
  simp [results, h, hp', asAddr, run_loadVar_mid w g 0 ty cs d hc hu hd hi]
theorem range_blk {w : World} {g : Nat} {cs : List Value} {T : TypeId} (h : w.heap[g]? = some (.cells cs.toArray T (0, 0))) : w.rangeAt g 0 cs := by
  intro j v hv
  rw [Nat.zero_add, cell_of_blk h]
  simpa using hv
abbrev rp (g : Nat) : Value := .pointer (some ⟨g, 0, none⟩)
set_option maxHeartbeats 1000000 in
theorem refuse_any (w : World) (g : Nat) (V : Value) (L : List Tk) (s : St) (x : Int) (h : Env w g V L s) :
    Calls Tryd.prog 86 #[rp g, .int .i64 x] w fun e w' => e = .returned (.tuple #[]) ∧ Env w' g V L (if s.e = 0 then ⟨s.i, s.o, x⟩ else s) ∧ Fr (fun i => i = g) w w' := by
  have HE : Hid (Env w g V L s) := h
  have c3 := h.c3
  have f3 := h.fz 3
  by_cases he : s.e = 0
  · have hb : (s.e == 0) = true := by simpa using he
    rw [if_pos he]
    clear he h
    go_enter Tryd.func86, Tryd.ntmps86
    go_wp2
    go_end0
    have h := HE.out
    exact ⟨rfl, h.put (fr_put _ _ _ _) (by rw [blk_set h.blk]; rfl) h.pos h.opn, fr_put _ _ _ _⟩
  · have hb : (s.e == 0) = false := by simpa using he
    rw [if_neg he]
    clear he h
    go_enter Tryd.func86, Tryd.ntmps86
    go_wp2
    go_end0
    exact ⟨rfl, HE.out, Fr.refl _ _⟩
set_option maxHeartbeats 1000000 in
theorem fail_any (w : World) (g : Nat) (V : Value) (L : List Tk) (s : St) (h : Env w g V L s) :
    Calls Tryd.prog 43 #[rp g] w fun e w' => e = .returned (.tuple #[]) ∧ Env w' g V L (fal L s) ∧ Fr (fun i => i = g) w w' := by
  obtain ⟨p, cap, rfl⟩ := h.shape
  have HE : Hid (Env w g (.slice p L.length cap) L s) := h
  have c0 := h.c0
  have c1 := h.c1
  have HC : Hid (∀ (n : Nat) (x : Int), Calls Tryd.prog 86 #[rp g, .int .i64 x] (w.drewN n) fun e w' => e = .returned (.tuple #[]) ∧ Env w' g (.slice p L.length cap) L (if s.e = 0 then ⟨s.i, s.o, x⟩ else s) ∧ Fr (fun i => i = g) (w.drewN n) w') := fun n x => refuse_any _ g _ L s x (h.drewN n)
  obtain ⟨S, hS⟩ : ∃ S, fal L s = S := ⟨_, rfl⟩
  rw [hS]
  by_cases he : s.i = L.length
  · have hb : ((s.i : Int) == (L.length : Int)) = true := by simp; omega
    have HC5 : Hid (∀ n : Nat, Calls Tryd.prog 86 #[rp g, .int .i64 5] (w.drewN n) fun e w' => e = .returned (.tuple #[]) ∧ Env w' g (.slice p L.length cap) L S ∧ Fr (fun i => i = g) (w.drewN n) w') := fun n => by
      have := HC.out n 5
      have e : (if s.e = 0 then (⟨s.i, s.o, 5⟩ : St) else s) = S := by rw [← hS, fal, if_pos he]
      rw [e] at this
      exact this
    obtain ⟨n, hn⟩ : ∃ n, L.length = n := ⟨_, rfl⟩
    have HN : Hid (L.length = n) := hn
    rw [hn] at c0 hb HC5 HE
    clear HC he hS h hn
    go_enter Tryd.func43, Tryd.ntmps43
    go_wp2_with fail
    go_quiet (fail)
    go_wp2_with (go_at_call 86; refine (HC5.out _).mono ?_; rintro e w1 ⟨rfl, he1, hf1⟩)
    refine bodyPost_ret (results_none rfl _ _ _) rfl ?_
    rw [HN.out]
    exact ⟨rfl, he1, ((Fr.refl _ w).drewN _).trans hf1⟩
  · have hb : ((s.i : Int) == (L.length : Int)) = false := by simp; omega
    have HC5 : Hid (∀ n : Nat, Calls Tryd.prog 86 #[rp g, .int .i64 4] (w.drewN n) fun e w' => e = .returned (.tuple #[]) ∧ Env w' g (.slice p L.length cap) L S ∧ Fr (fun i => i = g) (w.drewN n) w') := fun n => by
      have := HC.out n 4
      have e : (if s.e = 0 then (⟨s.i, s.o, 4⟩ : St) else s) = S := by rw [← hS, fal, if_neg he]
      rw [e] at this
      exact this
    obtain ⟨n, hn⟩ : ∃ n, L.length = n := ⟨_, rfl⟩
    have HN : Hid (L.length = n) := hn
    rw [hn] at c0 hb HC5 HE
    clear HC he hS h hn
    go_enter Tryd.func43, Tryd.ntmps43
    go_wp2_with fail
    go_quiet (fail)
    go_wp2_with (go_at_call 86; refine (HC5.out _).mono ?_; rintro e w1 ⟨rfl, he1, hf1⟩)
    go_end0
    rw [HN.out]
    exact ⟨rfl, he1, ((Fr.refl _ w).drewN _).trans hf1⟩
end Go.Proofs.YtnlmkdncifijlaaDoor
namespace Go.Proofs.YtnlmkdncifijlaaDoor
open Go.ChangeShapes Go.WideShapes Go.ChangeAt Go.RowKit
set_option linter.unusedVariables false
set_option linter.unusedSimpArgs false
theorem new_blk (w : World) (o : Obj) (n : Nat) : ((w.alloc o).drewN n).heap[w.heap.size]? = some o := by
  have h : ((w.alloc o).drewN n).heap = (w.alloc o).heap := by
    induction n with
    | zero => rfl
    | succ n ih => exact ih
  rw [h]
  exact heap_alloc_new w o
theorem there_blk {w : World} {g : Nat} {cs : Array Value} {T : TypeId} (h : w.heap[g]? = some (.cells cs T (0, 0))) (o n : Nat) (hn : o + n ≤ cs.size) : w.there g o n := by
  intro j hj
  rw [cell_of_blk h, Array.getElem?_eq_getElem (by omega)]
  exact ⟨rfl, free_of_blk h _⟩
theorem Fr.setCells {X : Nat → Prop} {a : World} {b : Nat} : ∀ {vs : List Value} {o : Nat} {w : World}, Fr X a w → (X b ∨ a.heap.size ≤ b) → Fr X a (w.setCells b o vs)
  | [], _, _, h, _ => h
  | v :: r, o, w, h, hp => Fr.setCells (vs := r) (h.setCell (p := ⟨b, o, none⟩) hp v) hp
theorem Fr.stored {X : Nat → Prop} {a w w' : World} {b : Nat} (h : Fr X a w) (k : Fr (fun i => i = b) w w') (hb : X b ∨ a.heap.size ≤ b) : Fr X a w' := h.then k (fun i hi => (show i = b from hi) ▸ hb)
/-- A row of cells, some of which are written over. -/
def ovr (cs : List Value) (o : Nat) (vs : List Value) : List Value := cs.take o ++ (vs ++ cs.drop (o + vs.length))
theorem ovr_step (cs : List Value) (o : Nat) (v : Value) (r : List Value) (h : o < cs.length) : ovr (cs.set o v) (o + 1) r = ovr cs o (v :: r) := by
  unfold ovr
  have h1 : (cs.set o v).take (o + 1) = cs.take o ++ [v] := by
    rw [List.take_succ_eq_append_getElem (by simpa using h), List.take_set_of_le (Nat.le_refl _)]
    simp
  have h2 : (cs.set o v).drop (o + 1 + r.length) = cs.drop (o + (v :: r).length) := by
    rw [List.drop_set_of_lt (by omega), List.length_cons]
    congr 1
    omega
  rw [h1, h2]
  simp
theorem blk_sets {b : Nat} {T : TypeId} : ∀ (vs : List Value) (o : Nat) (cs : List Value) (w : World), w.heap[b]? = some (.cells cs.toArray T (0, 0)) → o + vs.length ≤ cs.length → (w.setCells b o vs).heap[b]? = some (.cells (ovr cs o vs).toArray T (0, 0))
  | [], o, cs, w, h, _ => by
    have : ovr cs o [] = cs := by simp [ovr]
    rw [this]
    exact h
  | v :: r, o, cs, w, h, hl => by
    have hl' : o < cs.length := by simp at hl; omega
    rw [← ovr_step cs o v r hl']
    refine blk_sets r (o + 1) (cs.set o v) (w.setCell ⟨b, o, none⟩ v) ?_ (by simp at hl ⊢; omega)
    rw [blk_set h]
    simp
theorem run_st {P : Program} (w : World) (b o : Nat) (ty : TypeId) (v : Value) (cells : Array Value) (hv : v.cells = cells) (ht : w.there b o cells.size) (hi : (P.info? ty).map (·.size) = some cells.size) (h1 : cells.all (·.oneCell') = true) :
    (storeVar ty ⟨b, o, none⟩ v).run P w = .ok () (w.setCells b o cells.toList) := by
  have := run_storeCells_cells (P := P) b o cells.toList 0 w (fun j hj => by simpa using (ht j (by simpa using hj)).1) (fun j hj => by simpa using (ht j (by simpa using hj)).2)
    (fun v hv => (Array.all_eq_true_iff_forall_mem.1 h1) v (by simpa using hv))
  cases hq : P.info? ty with
  | none => simp [hq] at hi
  | some i =>
    have hs : cells.size = i.size := by simp [hq] at hi; omega
    simp only [Nat.add_zero] at this
    simp [storeVar, sizeOf, typeInfo, hq, hv, hs, this]
/-- A store into a block: the world behind it is one of which this is known. -/
theorem wp_st {P : Program} {ops : Array Oper} {rest : List Oper} {op : Oper} {a : Act} {w : World} {Q : Exit → Act → World → Prop} (hgd : op.guard = none) (ty : TypeId) (x y : Operand) (ho : op.op = .store ty x y)
    (b o : Nat) (cs : List Value) (T : TypeId) (v : Value) (vs : List Value) (hx : a.eval x = .pointer (some ⟨b, o, none⟩)) (hy : a.eval y = v) (hv : v.cells = vs.toArray) (hb : w.heap[b]? = some (.cells cs.toArray T (0, 0)))
    (hl : o + vs.length ≤ cs.length) (hi : (P.info? ty).map (·.size) = some vs.length) (h1 : vs.all (·.oneCell') = true)
    (h : ∀ w', w'.heap[b]? = some (.cells (ovr cs o vs).toArray T (0, 0)) → Fr (fun i => i = b) w w' → wpList P ops Q rest (a.put op.dst undef) w') : wpList P ops Q (op :: rest) a w := by
  refine wpList_plain hgd fun K hK => ?_
  unfold Oper.wp execOp
  simp only [ho, hx, hy, Instr.storeAt, Instr.sureAddr, Sem.run_bind, Sem.run_pure, Result.andThen_ok, run_st w b o ty v vs.toArray hv (there_blk hb o _ (by simpa using hl)) (by simpa using hi) (all_oneCell_toArray (List.all_eq_true.1 h1))]
  exact hK _ _ (h _ (blk_sets vs o cs w hb hl) ((Fr.refl (fun i => i = b) w).setCells (.inl rfl)))
/-- A load of a struct out of a block. -/
theorem wp_ld {P : Program} {ops : Array Oper} {rest : List Oper} {op : Oper} {a : Act} {w : World} {Q : Exit → Act → World → Prop} (hgd : op.guard = none) (ty : TypeId) (x : Operand) (ho : op.op = .load ty x)
    (b : Nat) (cs : List Value) (T : TypeId) (d : TypeDesc) (hx : a.eval x = .pointer (some ⟨b, 0, none⟩)) (hb : w.heap[b]? = some (.cells cs.toArray T (0, 0))) (hu : P.underlying ty = some d) (hd : d.isRow = true) (hi : (P.info? ty).map (·.size) = some cs.length)
    (h : wpList P ops Q rest (a.put op.dst (.agg cs.toArray)) w) : wpList P ops Q (op :: rest) a w :=
  wpList_load_mid hgd ty x ho b 0 hx cs d (range_blk hb) hu hd hi h
set_option maxHeartbeats 2000000 in
theorem next_any (w : World) (g : Nat) (V : Value) (L : List Tk) (s : St) (h : Env w g V L s) :
    Calls Tryd.prog 117 #[rp g] w fun e w' => e = .returned (tV (nxt L s)) ∧ Fr (fun _ => False) w w' := by
  obtain ⟨p, cap, rfl⟩ := h.shape
  have h' := h
  have c0 : ∀ o, (w.alloc o).cell? ⟨g, 0, none⟩ = some (.slice p L.length cap) := fun o => (h.alloc o).c0
  have c1 : ∀ o, (w.alloc o).cell? ⟨g, 1, none⟩ = some (.int .i64 s.i) := fun o => (h.alloc o).c1
  have c3 : ∀ o, (w.alloc o).cell? ⟨g, 3, none⟩ = some (.int .i64 s.e) := fun o => (h.alloc o).c3
  have hpos := h.pos
  have hlen := h.len
  by_cases he : s.e = 0
  · have hb : (s.e != 0) = false := by simpa using he
    by_cases hi : s.i = L.length
    · have hn : nxt L s = no := by unfold nxt; rw [if_pos he, hi]; simp
      have hb2 : ((s.i : Int) == (L.length : Int)) = true := by simp; omega
      rw [hn]
      obtain ⟨n, hnn⟩ : ∃ n, L.length = n := ⟨_, rfl⟩
      rw [hnn] at c0 hb2
      clear he hi hn h h' hnn hpos hlen
      go_enter Tryd.func117, Tryd.ntmps117
      go_wp2_with fail
      go_quiet (fail)
      go_wp2_with (refine wp_st (by rfl) 65 _ _ (by rfl) w.heap.size 0 [.int .i64 0, .string ⟨#[]⟩, .int .i64 0] 65 (.agg #[.int .i64 0, .string ⟨#[]⟩, .int .i64 0]) [.int .i64 0, .string ⟨#[]⟩, .int .i64 0] (by rfl) (by rfl) (by rfl) (new_blk _ _ _) (by decide) (by kernel_rfl) (by rfl) ?_; intro w9 hw9 hf9)
      refine bodyPost_ret (res1 rfl _ _ w.heap.size [.int .i64 0, .string ⟨#[]⟩, .int .i64 0] _ (by rfl) (range_blk hw9) Tryd.underlying65 rfl (by kernel_rfl)) rfl ?_
      exact ⟨rfl, (((Fr.refl _ w).alloc _).drewN _).stored hf9 (.inr (Nat.le_refl _))⟩
    · have hlt : s.i < L.length := by omega
      obtain ⟨t, ht⟩ : ∃ t, nxt L s = t := ⟨_, rfl⟩
      have hb2 : ((s.i : Int) == (L.length : Int)) = false := by simp; omega
      have htl : L[s.i] = t := by rw [← ht]; unfold nxt; rw [if_pos he]; simp [List.getD, List.getElem?_eq_getElem hlt]
      rw [ht]
      obtain ⟨k, tx, m⟩ := t
      obtain ⟨p', cap', hv, hc1, hc2, hc⟩ := h.tok
      obtain ⟨b, off, hp, hc⟩ := hc (by omega)
      obtain ⟨hbl, t0, t1, t2⟩ := hc s.i hlt
      rw [htl] at t0 t1 t2
      simp at hv
      obtain ⟨rfl, rfl⟩ := hv
      subst hp
      have T0 : ∀ o, (w.alloc o).cell? ⟨b, off + s.i * 3, none⟩ = some (.int .i64 k) := fun o => (World.cell?_alloc_past _ _ _ hbl).trans t0
      have T1 : ∀ o, (w.alloc o).cell? ⟨b, off + s.i * 3 + 1, none⟩ = some (.string tx) := fun o => (World.cell?_alloc_past _ _ _ hbl).trans t1
      have T2 : ∀ o, (w.alloc o).cell? ⟨b, off + s.i * 3 + 2, none⟩ = some (.int .i64 m) := fun o => (World.cell?_alloc_past _ _ _ hbl).trans t2
      obtain ⟨n, hnn⟩ : ∃ n, L.length = n := ⟨_, rfl⟩
      obtain ⟨q, hq⟩ : ∃ q, s.i = q := ⟨_, rfl⟩
      rw [hq] at c1 hb2 T0 T1 T2 hlt
      rw [hnn] at c0 hb2 hlt hc1 hlen
      have i1 : (0 : Int) ≤ (q : Int) := by omega
      have i2 : (q : Int) < (n : Int) := by omega
      have hgl := blk_lt h.blk
      clear he hi ht h' hnn hpos hq hc t0 t1 t2 htl
      go_enter Tryd.func117, Tryd.ntmps117
      go_wp2_with fail
      go_quiet (fail)
      obtain ⟨W, hW⟩ : ∃ W, ((w.alloc (.cells #[.int .i64 0, .string ⟨#[]⟩, .int .i64 0] 65)).drewN nq) = W := ⟨_, rfl⟩
      have hB := new_blk w (.cells #[.int .i64 0, .string ⟨#[]⟩, .int .i64 0] 65) nq
      have hF : Fr (fun _ => False) w ((w.alloc (.cells #[.int .i64 0, .string ⟨#[]⟩, .int .i64 0] 65)).drewN nq) := ((Fr.refl _ w).alloc _).drewN _
      have hc : ∀ b o, b < w.heap.size → ((w.alloc (.cells #[.int .i64 0, .string ⟨#[]⟩, .int .i64 0] 65)).drewN nq).cell? ⟨b, o, none⟩ = w.cell? ⟨b, o, none⟩ := fun b o hb => World.cell?_of_block (hF.block b hb id)
      rw [hW] at hB hF hc ⊢
      have d0 : W.cell? ⟨g, 0, none⟩ = some (.slice (some ⟨b, off, none⟩) n cap) := by rw [hc _ _ hgl, ← c0 (.cells #[] 0), World.cell?_alloc_past _ _ _ hgl]
      have d1 : W.cell? ⟨g, 1, none⟩ = some (.int .i64 q) := by rw [hc _ _ hgl, ← c1 (.cells #[] 0), World.cell?_alloc_past _ _ _ hgl]
      have U0 : W.cell? ⟨b, off + q * 3, none⟩ = some (.int .i64 k) := by rw [hc _ _ hbl, ← T0 (.cells #[] 0), World.cell?_alloc_past _ _ _ hbl]
      have U1 : W.cell? ⟨b, off + q * 3 + 1, none⟩ = some (.string tx) := by rw [hc _ _ hbl, ← T1 (.cells #[] 0), World.cell?_alloc_past _ _ _ hbl]
      have U2 : W.cell? ⟨b, off + q * 3 + 2, none⟩ = some (.int .i64 m) := by rw [hc _ _ hbl, ← T2 (.cells #[] 0), World.cell?_alloc_past _ _ _ hbl]
      have r0 := cell_of_blk hB 0
      have r1 := cell_of_blk hB 1
      have r2 := cell_of_blk hB 2
      have f0 := free_of_blk hB 0
      have f1 := free_of_blk hB 1
      have f2 := free_of_blk hB 2
      simp at r0 r1 r2
      have HB : Hid (W.heap[w.heap.size]? = some (.cells #[.int .i64 0, .string ⟨#[]⟩, .int .i64 0] 65 (0, 0))) := hB
      have HF : Hid (Fr (fun _ => False) w W) := hF
      obtain ⟨M, hM⟩ : ∃ M, w.heap.size = M := ⟨_, rfl⟩
      have HM : Hid (w.heap.size = M) := hM
      rw [hM] at HB r0 r1 r2 f0 f1 f2 ⊢
      clear c0 c1 c3 T0 T1 T2 hB hF hc hW h hM
      go_wp2_with fail
      go_region
      all_goals (try go_wp2_with fail)
      have hq : ((W.setCells M 0 [.int .i64 k, .string tx, .int .i64 m]).drew).heap[M]? = some (.cells #[.int .i64 k, .string tx, .int .i64 m] 65 (0, 0)) := blk_sets [.int .i64 k, .string tx, .int .i64 m] 0 [.int .i64 0, .string ⟨#[]⟩, .int .i64 0] W HB.out (Nat.le_of_ble_eq_true rfl)
      refine bodyPost_ret (res1 rfl _ _ M [.int .i64 k, .string tx, .int .i64 m] _ (by rfl) (range_blk hq) Tryd.underlying65 rfl (by kernel_rfl)) rfl ?_
      refine ⟨rfl, ?_⟩
      have h9 : Fr (fun _ => False) w ((W.setCells M 0 [.int .i64 k, .string tx, .int .i64 m]).drew) := (HF.out.setCells (.inr (Nat.le_of_eq HM.out))).drew
      exact h9
  · have hb : (s.e != 0) = true := by simpa using he
    have hn : nxt L s = no := by unfold nxt; rw [if_neg he]
    rw [hn]
    clear he hn h h' hpos hlen
    go_enter Tryd.func117, Tryd.ntmps117
    go_wp2_with fail
    go_quiet (fail)
    go_wp2_with (refine wp_st (by rfl) 65 _ _ (by rfl) w.heap.size 0 [.int .i64 0, .string ⟨#[]⟩, .int .i64 0] 65 (.agg #[.int .i64 0, .string ⟨#[]⟩, .int .i64 0]) [.int .i64 0, .string ⟨#[]⟩, .int .i64 0] (by rfl) (by rfl) (by rfl) (new_blk _ _ _) (by decide) (by kernel_rfl) (by rfl) ?_; intro w9 hw9 hf9)
    refine bodyPost_ret (res1 rfl _ _ w.heap.size [.int .i64 0, .string ⟨#[]⟩, .int .i64 0] _ (by rfl) (range_blk hw9) Tryd.underlying65 rfl (by kernel_rfl)) rfl ?_
    exact ⟨rfl, (((Fr.refl _ w).alloc _).drewN _).stored hf9 (.inr (Nat.le_refl _))⟩
theorem sees_eq (t : Tk) (x : List UInt8) : (t.s.toList == (txt x).toList) = decide (t.s.data.toList = x) := by
  rw [Lib.toList_data, Lib.toList_data, txt_list]
  rw [Bool.eq_iff_iff]
  simp
set_option maxHeartbeats 2000000 in
theorem sees_any (w : World) (g : Nat) (V : Value) (L : List Tk) (s : St) (x : List UInt8) (h : Env w g V L s) :
    Calls Tryd.prog 80 #[rp g, .string (txt x)] w fun e w' => e = .returned (.bool (see L x s)) ∧ Fr (fun _ => False) w w' := by
  have HN : Hid (Calls Tryd.prog 117 #[rp g] w fun e w' => e = .returned (tV (nxt L s)) ∧ Fr (fun _ => False) w w') := next_any w g V L s h
  obtain ⟨b, hb⟩ : ∃ b, see L x s = b := ⟨_, rfl⟩
  have hs := sees_eq (nxt L s) x
  rw [hb]
  obtain ⟨t, ht⟩ : ∃ t, nxt L s = t := ⟨_, rfl⟩
  unfold see at hb
  rw [ht] at hb HN hs
  obtain ⟨k, tx, m⟩ := t
  have HB : Hid (((decide (k = 1) || decide (k = 4)) && decide (tx.data.toList = x)) = b) := hb
  obtain ⟨y, hy⟩ : ∃ y, txt x = y := ⟨_, rfl⟩
  have HS : Hid ((tx.toList == y.toList) = decide (tx.data.toList = x)) := by rw [← hy]; exact hs
  rw [hy]
  clear hb ht hs hy h
  go_enter Tryd.func80, Tryd.ntmps80
  go_wp2_with (go_at_call 117; refine HN.out.mono ?_; rintro e w1 ⟨rfl, hf1⟩)
  all_goals
    go_ret
    refine ⟨ret_bool ?_, hf1.alloc _⟩
    have h1 := HB.out
    have h2 := HS.out
    rw [← h1]
    first | (rw [h2]; simp_all; done) | (simp_all; done)
end Go.Proofs.YtnlmkdncifijlaaDoor
namespace Go.Proofs.YtnlmkdncifijlaaDoor
open Go.ChangeShapes Go.WideShapes Go.ChangeAt Go.RowKit
set_option linter.unusedVariables false
set_option linter.unusedSimpArgs false
theorem nxt_lt {L : List Tk} {s : St} (h : (nxt L s).k ≠ 0) : s.e = 0 ∧ s.i < L.length := by
  unfold nxt at h
  by_cases he : s.e = 0
  · rw [if_pos he] at h
    refine ⟨he, ?_⟩
    rcases Nat.lt_or_ge s.i L.length with c | c
    · exact c
    · exact absurd (by simp [List.getD, List.getElem?_eq_none c, no]) h
  · rw [if_neg he] at h
    exact absurd rfl h
theorem nxt_mem {L : List Tk} {s : St} (h : (nxt L s).k ≠ 0) : nxt L s ∈ L := by
  obtain ⟨he, hi⟩ := nxt_lt h
  have : nxt L s = L[s.i] := by unfold nxt; rw [if_pos he]; simp [List.getD, List.getElem?_eq_getElem hi]
  rw [this]
  exact List.getElem_mem hi
theorem see_lt {L : List Tk} {x : List UInt8} {s : St} (h : see L x s = true) : s.e = 0 ∧ s.i < L.length := by
  refine nxt_lt fun h0 => ?_
  unfold see at h
  rw [h0] at h
  simp at h
section
variable {w : World} {g : Nat} {V : Value} {L : List Tk} {s : St}
/-- One token on. -/
theorem Env.step (h : Env w g V L s) (hi : s.i < L.length) : Env (w.setCell ⟨g, 1, none⟩ (.int .i64 ((s.i : Int) + 1))) g V L s.adv :=
  h.put (fr_put _ _ _ _) (by rw [blk_set h.blk]; rfl) (by show s.i + 1 ≤ _; omega) h.opn
end
def tks (L : List Tk) (x : List UInt8) (s : St) : St := if see L x s = true then s.adv else s
set_option maxHeartbeats 2000000 in
theorem takes_any (w : World) (g : Nat) (V : Value) (L : List Tk) (s : St) (x : List UInt8) (h : Env w g V L s) :
    Calls Tryd.prog 40 #[rp g, .string (txt x)] w fun e w' => e = .returned (.bool (see L x s)) ∧ Env w' g V L (tks L x s) ∧ Fr (fun i => i = g) w w' := by
  have HN := sees_any w g V L s x h
  have HE : Hid (Env w g V L s) := h
  have hp := h.pos
  have hl := h.len
  unfold tks
  cases hb : see L x s
  · rw [hb] at HN
    rw [if_neg (by decide)]
    have HN2 : Hid (Calls Tryd.prog 80 #[rp g, .string (txt x)] w fun e w' => e = .returned (.bool false) ∧ Fr (fun _ => False) w w') := HN
    clear HN h hb
    generalize txt x = y at HN2 ⊢
    go_enter Tryd.func40, Tryd.ntmps40
    go_wp2_with (go_at_call 80; refine HN2.out.mono ?_; rintro e w1 ⟨rfl, hf1⟩)
    go_ret
    exact ⟨rfl, HE.out.fr hf1, hf1.mono (fun _ h _ => h.elim)⟩
  · have hi := (see_lt hb).2
    rw [hb] at HN
    rw [if_pos rfl]
    have HN2 : Hid (Calls Tryd.prog 80 #[rp g, .string (txt x)] w fun e w' => e = .returned (.bool true) ∧ Fr (fun _ => False) w w') := HN
    have HI : Hid (s.i < L.length) := hi
    have hq : (s.i : Int) ≤ 700 := by omega
    clear HN h hb hp hl hi
    generalize txt x = y at HN2 ⊢
    go_enter Tryd.func40, Tryd.ntmps40
    go_wp2_with (go_at_call 80; refine HN2.out.mono ?_; rintro e w1 ⟨rfl, hf1⟩; have hE := HE.out.fr hf1; have c1 := hE.c1; have f1 := hE.fz 1; have HE1 : Hid (Env w1 g V L s) := hE; clear hE)
    go_ret
    exact ⟨rfl, HE1.out.step HI.out, (hf1.mono (fun _ h _ => h.elim)).trans (fr_put _ _ _ _)⟩
set_option maxHeartbeats 2000000 in
theorem wants_any (w : World) (g : Nat) (V : Value) (L : List Tk) (s : St) (x : List UInt8) (h : Env w g V L s) :
    Calls Tryd.prog 82 #[rp g, .string (txt x)] w fun e w' => e = .returned (.tuple #[]) ∧ Env w' g V L (wnt L x s) ∧ Fr (fun i => i = g) w w' := by
  have HN := takes_any w g V L s x h
  unfold tks at HN
  unfold wnt
  cases hb : see L x s
  · rw [hb] at HN
    rw [if_neg (by decide)] at HN ⊢
    have HN2 : Hid (Calls Tryd.prog 40 #[rp g, .string (txt x)] w fun e w' => e = .returned (.bool false) ∧ Env w' g V L s ∧ Fr (fun i => i = g) w w') := HN
    clear HN h hb
    generalize txt x = y at HN2 ⊢
    go_enter Tryd.func82, Tryd.ntmps82
    go_wp2_with (first
      | (go_at_call 40; refine HN2.out.mono ?_; rintro e w1 ⟨rfl, he1, hf1⟩)
      | (go_at_call 43; refine (fail_any w1 g V L s he1).mono ?_; rintro e w2 ⟨rfl, he2, hf2⟩))
    go_end0
    exact ⟨rfl, he2, hf1.trans hf2⟩
  · rw [hb] at HN
    rw [if_pos rfl] at HN ⊢
    have HN2 : Hid (Calls Tryd.prog 40 #[rp g, .string (txt x)] w fun e w' => e = .returned (.bool true) ∧ Env w' g V L s.adv ∧ Fr (fun i => i = g) w w') := HN
    clear HN h hb
    generalize txt x = y at HN2 ⊢
    go_enter Tryd.func82, Tryd.ntmps82
    go_wp2_with (go_at_call 40; refine HN2.out.mono ?_; rintro e w1 ⟨rfl, he1, hf1⟩)
    go_end0
    exact ⟨rfl, he1, hf1⟩
end Go.Proofs.YtnlmkdncifijlaaDoor
namespace Go.Proofs.YtnlmkdncifijlaaDoor
open Go.ChangeShapes Go.WideShapes Go.ChangeAt Go.RowKit
set_option linter.unusedVariables false
set_option linter.unusedSimpArgs false
theorem see_bad {L : List Tk} {x : List UInt8} {s : St} (h : s.e ≠ 0) : see L x s = false := by
  cases hb : see L x s
  · rfl
  · exact absurd (see_lt hb).1 h
set_option maxHeartbeats 4000000 in
theorem opens_any (w : World) (g : Nat) (V : Value) (L : List Tk) (s : St) (x : List UInt8) (h : Env w g V L s) :
    Calls Tryd.prog 160 #[rp g, .string (txt x)] w fun e w' => e = .returned (.bool (opn L x s).1) ∧ Env w' g V L (opn L x s).2 ∧ Fr (fun i => i = g) w w' := by
  have HN := sees_any w g V L s x h
  have HE : Hid (Env w g V L s) := h
  have hop := h.opn
  have HT : Hid (∀ W s', Env W g V L s' → Calls Tryd.prog 40 #[rp g, .string (txt x)] W fun e w' => e = .returned (.bool (see L x s')) ∧ Env w' g V L (tks L x s') ∧ Fr (fun i => i = g) W w') := fun W s' h => takes_any W g V L s' x h
  unfold opn
  cases hb : see L x s
  · rw [hb] at HN
    simp only [Bool.false_eq_true, if_false]
    have HN2 : Hid (Calls Tryd.prog 80 #[rp g, .string (txt x)] w fun e w' => e = .returned (.bool false) ∧ Fr (fun _ => False) w w') := HN
    have HT2 : Hid (∀ W, Env W g V L s → Calls Tryd.prog 40 #[rp g, .string (txt x)] W fun e w' => e = .returned (.bool false) ∧ Env w' g V L s ∧ Fr (fun i => i = g) W w') := fun W hW => by
      have := HT.out W s hW
      unfold tks at this
      rw [hb, if_neg (by decide)] at this
      exact this
    clear HN h hb HT
    generalize txt x = y at HN2 HT2 ⊢
    go_enter Tryd.func160, Tryd.ntmps160
    go_wp2_with (first
      | (go_at_call 80; refine HN2.out.mono ?_; rintro e w1 ⟨rfl, hf1⟩)
      | (go_at_call 40; refine (HT2.out _ (HE.out.fr hf1)).mono ?_; rintro e w2 ⟨rfl, he2, hf2⟩))
    go_ret
    exact ⟨rfl, he2, (hf1.mono (fun _ h _ => h.elim)).trans hf2⟩
  · have hlt := see_lt hb
    rw [hb] at HN
    simp only [if_true]
    have HN2 : Hid (Calls Tryd.prog 80 #[rp g, .string (txt x)] w fun e w' => e = .returned (.bool true) ∧ Fr (fun _ => False) w w') := HN
    by_cases ho : s.o = 7
    · simp only [ho, if_true]
      have hb7 : ((s.o : Int) == 7) = true := by simp; omega
      have HR : Hid (∀ W, Env W g V L s → Calls Tryd.prog 86 #[rp g, .int .i64 14] W fun e w' => e = .returned (.tuple #[]) ∧ Env w' g V L ⟨s.i, s.o, 14⟩ ∧ Fr (fun i => i = g) W w') := fun W hW => by
        have := refuse_any W g V L s 14 hW
        rw [if_pos hlt.1] at this
        exact this
      have HT2 : Hid (∀ W, Env W g V L ⟨s.i, s.o, 14⟩ → Calls Tryd.prog 40 #[rp g, .string (txt x)] W fun e w' => e = .returned (.bool false) ∧ Env w' g V L ⟨s.i, s.o, 14⟩ ∧ Fr (fun i => i = g) W w') := fun W hW => by
        have := HT.out W ⟨s.i, s.o, 14⟩ hW
        unfold tks at this
        rw [see_bad (show (14 : Int) ≠ 0 by decide), if_neg (by decide)] at this
        exact this
      have HO : Hid (s.o = 7) := ho
      clear HN h hb HT ho hlt
      generalize txt x = y at HN2 HT2 ⊢
      go_enter Tryd.func160, Tryd.ntmps160
      go_wp2_with (first
        | (go_at_call 80; refine HN2.out.mono ?_; rintro e w1 ⟨rfl, hf1⟩; have c2 := (HE.out.fr hf1).c2)
        | (go_at_call 86; refine (HR.out _ (HE.out.fr hf1)).mono ?_; rintro e w3 ⟨rfl, he3, hf3⟩)
        | (go_at_call 40; refine (HT2.out _ he3).mono ?_; rintro e w2 ⟨rfl, he2, hf2⟩))
      go_ret
      have ho := HO.out
      rw [ho] at he2
      exact ⟨rfl, he2, ((hf1.mono (fun _ h _ => h.elim)).trans hf3).trans hf2⟩
    · simp only [ho, if_false]
      have hb7 : ((s.o : Int) == 7) = false := by simp; omega
      have ho7 : (s.o : Int) ≤ 7 := by omega
      have HT2 : Hid (∀ W, Env W g V L s → Calls Tryd.prog 40 #[rp g, .string (txt x)] W fun e w' => e = .returned (.bool true) ∧ Env w' g V L s.adv ∧ Fr (fun i => i = g) W w') := fun W hW => by
        have := HT.out W s hW
        unfold tks at this
        rw [hb, if_pos rfl] at this
        exact this
      have HO : Hid (s.o < 7) := by show s.o < 7; omega
      clear HN h hb HT ho hlt
      generalize txt x = y at HN2 HT2 ⊢
      go_enter Tryd.func160, Tryd.ntmps160
      go_wp2_with (first
        | (go_at_call 80; refine HN2.out.mono ?_; rintro e w1 ⟨rfl, hf1⟩; have c2 := (HE.out.fr hf1).c2)
        | (go_at_call 40; refine (HT2.out _ (HE.out.fr hf1)).mono ?_; rintro e w2 ⟨rfl, he2, hf2⟩; have c2' : w2.cell? ⟨g, 2, none⟩ = some (.int .i64 s.o) := he2.c2; have f2' := he2.fz 2))
      go_ret
      refine ⟨rfl, he2.put (fr_put _ _ _ _) (by rw [blk_set he2.blk]; rfl) he2.pos (by have := HO.out; show s.o + 1 ≤ 7; omega), ((hf1.mono (fun _ h _ => h.elim)).trans hf2).trans (fr_put _ _ _ _)⟩
set_option maxHeartbeats 1000000 in
theorem closes_d (w : World) (g : Nat) (V : Value) (L : List Tk) (s : St) (u : FrameMode) (h : Env w g V L s) (h1 : 0 < s.o) :
    CallsD Tryd.prog 161 #[rp g] u w fun e u' w' => u' = u ∧ e = .returned (.tuple #[]) ∧ Env w' g V L (cls s) ∧ Fr (fun i => i = g) w w' := by
  have HE : Hid (Env w g V L s) := h
  have c2 := h.c2
  have f2 := h.fz 2
  have ho : (s.o : Int) ≤ 7 := by have := h.opn; omega
  have ho1 : (0 : Int) < (s.o : Int) := by omega
  have H1 : Hid (0 < s.o) := h1
  clear h h1
  go_enter_d Tryd.func161, Tryd.ntmps161
  go_wp2_with fail
  go_end0
  have h := HE.out
  refine ⟨rfl, h.put (fr_put _ _ _ _) ?_ h.pos (by have := h.opn; show s.o - 1 ≤ 7; omega), fr_put _ _ _ _⟩
  rw [blk_set h.blk, show ((cls s).o : Int) = (s.o : Int) - 1 from by have := H1.out; show ((s.o - 1 : Nat) : Int) = _; omega]
  rfl
set_option maxHeartbeats 2000000 in
theorem number_any (w : World) (g : Nat) (V : Value) (L : List Tk) (s : St) (h : Env w g V L s) :
    Calls Tryd.prog 137 #[rp g] w fun e w' => e = .returned (.int .i64 (num L s).1) ∧ Env w' g V L (num L s).2 ∧ Fr (fun i => i = g) w w' := by
  have HN := next_any w g V L s h
  have HE : Hid (Env w g V L s) := h
  have hp := h.pos
  have hl := h.len
  unfold num
  obtain ⟨t, ht⟩ : ∃ t, nxt L s = t := ⟨_, rfl⟩
  have hlt : t.k ≠ 0 → s.e = 0 ∧ s.i < L.length := fun h0 => nxt_lt (by rw [ht]; exact h0)
  rw [ht] at HN ⊢
  obtain ⟨k, tx, m⟩ := t
  have HN2 : Hid (Calls Tryd.prog 117 #[rp g] w fun e w' => e = .returned (.agg #[.int .i64 k, .string tx, .int .i64 m]) ∧ Fr (fun _ => False) w w') := HN
  clear HN ht h
  by_cases hk : k = 2
  · have hb : (k != 2) = false := by simpa using hk
    rw [if_pos hk]
    have hi : s.i < L.length := (hlt (by show k ≠ 0; omega)).2
    have HI : Hid (s.i < L.length) := hi
    have hq : (s.i : Int) ≤ 700 := by omega
    clear hk hlt hi hp hl
    go_enter Tryd.func137, Tryd.ntmps137
    go_wp2_with (go_at_call 117; refine HN2.out.mono ?_; rintro e w1 ⟨rfl, hf1⟩; have hE : ∀ o, Env (w1.alloc o) g V L s := fun o => (HE.out.fr hf1).alloc o; have c1 : ∀ o, (w1.alloc o).cell? ⟨g, 1, none⟩ = some (.int .i64 s.i) := fun o => (hE o).c1; have f1 : ∀ o, (w1.alloc o).frozen? ⟨g, 1, none⟩ = false := fun o => (hE o).fz 1; have HE1 : Hid (∀ o, Env (w1.alloc o) g V L s) := hE; clear hE)
    go_ret
    exact ⟨rfl, (HE1.out _).step HI.out, ((hf1.mono (fun _ h _ => h.elim)).alloc _).trans (fr_put _ _ _ _)⟩
  · have hb : (k != 2) = true := by simpa using hk
    rw [if_neg hk]
    clear hk hlt hp hl
    go_enter Tryd.func137, Tryd.ntmps137
    go_wp2_with (first
      | (go_at_call 117; refine HN2.out.mono ?_; rintro e w1 ⟨rfl, hf1⟩; have HE1 : Hid (∀ o, Env (w1.alloc o) g V L s) := fun o => (HE.out.fr hf1).alloc o)
      | (go_at_call 43; refine (fail_any _ g V L s (HE1.out _)).mono ?_; rintro e w2 ⟨rfl, he2, hf2⟩))
    go_ret
    exact ⟨rfl, he2, ((hf1.mono (fun _ h _ => h.elim)).alloc _).trans hf2⟩
set_option maxHeartbeats 2000000 in
theorem relation_any (w : World) (g : Nat) (V : Value) (L : List Tk) (s : St) (h : Env w g V L s) :
    Calls Tryd.prog 150 #[rp g] w fun e w' => e = .returned (.int .i64 (rel L s).1) ∧ Env w' g V L (rel L s).2 ∧ Fr (fun i => i = g) w w' := by
  have HN := next_any w g V L s h
  have HE : Hid (Env w g V L s) := h
  have hp := h.pos
  have hl := h.len
  unfold rel
  obtain ⟨t, ht⟩ : ∃ t, nxt L s = t := ⟨_, rfl⟩
  have hlt : t.k ≠ 0 → s.e = 0 ∧ s.i < L.length := fun h0 => nxt_lt (by rw [ht]; exact h0)
  rw [ht] at HN ⊢
  obtain ⟨k, tx, m⟩ := t
  obtain ⟨r, hr⟩ : ∃ r, rln tx = r := ⟨_, rfl⟩
  have HN2 : Hid (Calls Tryd.prog 117 #[rp g] w fun e w' => e = .returned (.agg #[.int .i64 k, .string tx, .int .i64 m]) ∧ Fr (fun _ => False) w w') := HN
  have HR : Hid (∀ W, Env W g V L s → Calls Tryd.prog 90 #[.string tx] W fun e w' => e = .returned (.int .i64 (r : Int)) ∧ w' = W) := fun W hW => by
    have := relno_any tx W hW.rl
    rw [hr] at this
    exact this
  show Calls _ _ _ _ fun e w' => e = .returned (.int .i64 (if k = 1 ∧ rln tx ≠ 0 then ((rln tx : Int), s.adv) else (0, fal L s)).1) ∧ Env w' g V L (if k = 1 ∧ rln tx ≠ 0 then ((rln tx : Int), s.adv) else (0, fal L s)).2 ∧ _
  rw [hr]
  clear HN ht h hr
  by_cases hk : k = 1 ∧ r ≠ 0
  · have hb : (k != 1) = false := by simp [hk.1]
    have hb2 : ((r : Int) == 0) = false := by simp; exact hk.2
    rw [if_pos hk]
    have hi : s.i < L.length := (hlt (by show k ≠ 0; omega)).2
    have HI : Hid (s.i < L.length) := hi
    have hq : (s.i : Int) ≤ 700 := by omega
    clear hk hlt hi hp hl
    go_enter Tryd.func150, Tryd.ntmps150
    go_wp2_with (first
      | (go_at_call 117; refine HN2.out.mono ?_; rintro e w1 ⟨rfl, hf1⟩; have hE : ∀ o, Env (w1.alloc o) g V L s := fun o => (HE.out.fr hf1).alloc o; have c1 : ∀ o, (w1.alloc o).cell? ⟨g, 1, none⟩ = some (.int .i64 s.i) := fun o => (hE o).c1; have f1 : ∀ o, (w1.alloc o).frozen? ⟨g, 1, none⟩ = false := fun o => (hE o).fz 1; have HE1 : Hid (∀ o, Env (w1.alloc o) g V L s) := hE; clear hE)
      | (go_at_call 90; refine (HR.out _ (HE1.out _)).mono ?_; rintro e w2 ⟨rfl, rfl⟩))
    go_ret
    exact ⟨rfl, (HE1.out _).step HI.out, ((hf1.mono (fun _ h _ => h.elim)).alloc _).trans (fr_put _ _ _ _)⟩
  · rw [if_neg hk]
    have hcase : k ≠ 1 ∨ r = 0 := by
      by_cases c : k = 1
      · right; rcases Nat.eq_zero_or_pos r with d | d
        · exact d
        · exact absurd ⟨c, by omega⟩ hk
      · exact .inl c
    clear hk hlt hp hl
    rcases hcase with c | c
    · have hb : (k != 1) = true := by simpa using c
      clear c
      go_enter Tryd.func150, Tryd.ntmps150
      go_wp2_with (first
        | (go_at_call 117; refine HN2.out.mono ?_; rintro e w1 ⟨rfl, hf1⟩; have HE1 : Hid (∀ o, Env (w1.alloc o) g V L s) := fun o => (HE.out.fr hf1).alloc o)
        | (go_at_call 90; refine (HR.out _ (HE1.out _)).mono ?_; rintro e w2 ⟨rfl, rfl⟩)
        | (go_at_call 43; refine (fail_any _ g V L s (HE1.out _)).mono ?_; rintro e w2 ⟨rfl, he2, hf2⟩))
      go_ret
      exact ⟨rfl, he2, ((hf1.mono (fun _ h _ => h.elim)).alloc _).trans hf2⟩
    · subst c
      obtain ⟨b, hb⟩ : ∃ b, (k != 1) = b := ⟨_, rfl⟩
      go_enter Tryd.func150, Tryd.ntmps150
      cases b
      all_goals
        go_wp2_with (first
          | (go_at_call 117; refine HN2.out.mono ?_; rintro e w1 ⟨rfl, hf1⟩; have HE1 : Hid (∀ o, Env (w1.alloc o) g V L s) := fun o => (HE.out.fr hf1).alloc o)
          | (go_at_call 90; refine (HR.out _ (HE1.out _)).mono ?_; rintro e w2 ⟨rfl, rfl⟩)
          | (go_at_call 43; refine (fail_any _ g V L s (HE1.out _)).mono ?_; rintro e w2 ⟨rfl, he2, hf2⟩))
        go_ret
        exact ⟨rfl, he2, ((hf1.mono (fun _ h _ => h.elim)).alloc _).trans hf2⟩
set_option maxHeartbeats 2000000 in
theorem ident_any (w : World) (g : Nat) (V : Value) (L : List Tk) (s : St) (h : Env w g V L s) :
    Calls Tryd.prog 81 #[rp g] w fun e w' => e = .returned (.string (nam L s).1) ∧ Env w' g V L (nam L s).2 ∧ Fr (fun i => i = g) w w' := by
  have HN := next_any w g V L s h
  have HE : Hid (Env w g V L s) := h
  have hp := h.pos
  have hl := h.len
  have hsz : (nxt L s).k ≠ 0 → (nxt L s).s.size ≤ 3000 := fun h0 => h.siz _ (nxt_mem h0)
  unfold nam
  obtain ⟨t, ht⟩ : ∃ t, nxt L s = t := ⟨_, rfl⟩
  have hlt : t.k ≠ 0 → s.e = 0 ∧ s.i < L.length := fun h0 => nxt_lt (by rw [ht]; exact h0)
  rw [ht] at HN hsz ⊢
  obtain ⟨k, tx, m⟩ := t
  obtain ⟨r, hr⟩ : ∃ r, kpt tx = r := ⟨_, rfl⟩
  have HN2 : Hid (Calls Tryd.prog 117 #[rp g] w fun e w' => e = .returned (.agg #[.int .i64 k, .string tx, .int .i64 m]) ∧ Fr (fun _ => False) w w') := HN
  have HR : Hid (∀ W, Env W g V L s → Calls Tryd.prog 58 #[.string tx] W fun e w' => e = .returned (.bool r) ∧ w' = W) := fun W hW => by
    have := kept_any tx W hW.kp hW.rl
    rw [hr] at this
    exact this
  show Calls _ _ _ _ fun e w' => e = .returned (.string (if k = 1 ∧ kpt tx = false then (tx, s.adv) else (txt [], fal L s)).1) ∧ Env w' g V L (if k = 1 ∧ kpt tx = false then (tx, s.adv) else (txt [], fal L s)).2 ∧ _
  rw [hr]
  clear HN ht h hr
  by_cases hk : k = 1 ∧ r = false
  · have hb : (k != 1) = false := by simp [hk.1]
    rw [if_pos hk]
    obtain ⟨hk1, rfl⟩ := hk
    have hi : s.i < L.length := (hlt (by show k ≠ 0; omega)).2
    have hz : tx.size ≤ 3000 := hsz (by show k ≠ 0; omega)
    have HI : Hid (s.i < L.length) := hi
    have HC : Hid (∀ W, Calls Tryd.prog 118 #[.string tx] W fun e w' => e = .returned (.string tx) ∧ Below W.heap.size W w') := fun W => clone_any tx W (by omega)
    have hq : (s.i : Int) ≤ 700 := by omega
    clear hk1 hlt hi hp hl hsz hz
    go_enter Tryd.func81, Tryd.ntmps81
    go_wp2_with (first
      | (go_at_call 117; refine HN2.out.mono ?_; rintro e w1 ⟨rfl, hf1⟩; have hE : ∀ o, Env (w1.alloc o) g V L s := fun o => (HE.out.fr hf1).alloc o; have c1 : ∀ o, (w1.alloc o).cell? ⟨g, 1, none⟩ = some (.int .i64 s.i) := fun o => (hE o).c1; have f1 : ∀ o, (w1.alloc o).frozen? ⟨g, 1, none⟩ = false := fun o => (hE o).fz 1; have HE1 : Hid (∀ o, Env (w1.alloc o) g V L s) := hE; have hne1 : ¬ g = w1.heap.size := by { have := blk_lt (HE.out.fr hf1).blk; omega }; have hne2 : ¬ w1.heap.size = g := by { omega }; clear hE)
      | (go_at_call 58; refine (HR.out _ (HE1.out _)).mono ?_; rintro e w2 ⟨rfl, rfl⟩)
      | (go_at_call 118; refine (HC.out _).mono ?_; rintro e w3 ⟨rfl, hb3⟩))
    go_ret
    have hf3 : Fr (fun _ => False) _ w3 := Fr.of_below hb3
    exact ⟨rfl, ((HE1.out _).step HI.out).fr hf3, (((hf1.mono (fun _ h _ => h.elim)).alloc _).trans (fr_put _ _ _ _)).trans (hf3.mono (fun _ h _ => h.elim))⟩
  · rw [if_neg hk]
    have hcase : k ≠ 1 ∨ r = true := by
      by_cases c : k = 1
      · right
        cases r
        · exact absurd ⟨c, rfl⟩ hk
        · rfl
      · exact .inl c
    clear hk hlt hp hl hsz
    obtain ⟨b, hb⟩ : ∃ b, (k != 1) = b := ⟨_, rfl⟩
    have HB : Hid (b = true ∨ r = true) := by
      show b = true ∨ r = true
      rcases hcase with c | c
      · left; rw [← hb]; simpa using c
      · exact .inr c
    clear hcase
    cases b
    · obtain rfl : r = true := by rcases HB.out with c | c <;> first | (cases c; done) | exact c
      go_enter Tryd.func81, Tryd.ntmps81
      go_wp2_with (first
        | (go_at_call 117; refine HN2.out.mono ?_; rintro e w1 ⟨rfl, hf1⟩; have HE1 : Hid (∀ o, Env (w1.alloc o) g V L s) := fun o => (HE.out.fr hf1).alloc o)
        | (go_at_call 58; refine (HR.out _ (HE1.out _)).mono ?_; rintro e w2 ⟨rfl, rfl⟩)
        | (go_at_call 43; refine (fail_any _ g V L s (HE1.out _)).mono ?_; rintro e w2 ⟨rfl, he2, hf2⟩))
      go_ret
      exact ⟨rfl, he2, ((hf1.mono (fun _ h _ => h.elim)).alloc _).trans hf2⟩
    · go_enter Tryd.func81, Tryd.ntmps81
      go_wp2_with (first
        | (go_at_call 117; refine HN2.out.mono ?_; rintro e w1 ⟨rfl, hf1⟩; have HE1 : Hid (∀ o, Env (w1.alloc o) g V L s) := fun o => (HE.out.fr hf1).alloc o)
        | (go_at_call 43; refine (fail_any _ g V L s (HE1.out _)).mono ?_; rintro e w2 ⟨rfl, he2, hf2⟩))
      go_ret
      exact ⟨rfl, he2, ((hf1.mono (fun _ h _ => h.elim)).alloc _).trans hf2⟩
end Go.Proofs.YtnlmkdncifijlaaDoor
