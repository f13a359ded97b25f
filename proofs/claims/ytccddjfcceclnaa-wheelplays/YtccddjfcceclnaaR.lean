/-
  What pass answers, and what it leaves.
-/
import Derived.Test.YtccddjfcceclnaaQ
namespace Go.Proofs.Ytccddjfcceclnaa
open Go.ChangeShapes Go.WideShapes Go.ChangeAt Go.RowKit Go.Maps
set_option linter.unusedVariables false
set_option linter.unusedSimpArgs false
def lateP (n : Nat) (t : Tm) : Bool := decide (n < t.a)
structure Lp (w wr : World) (B cb mb n ords : Nat) (V0 : Nat → Value) (U R : List Tm) (rv x : Value) (k : Nat) (V : Nat → Value) (T : Nat → List Tm) (M : Places) : Prop where
  clk : Clk wr B cb mb n ords V T
  mp : Mp wr mb M (U.length + ((R.take k).filter (lateP n)).length + (R.length - k))
  inv : Inv n (U ++ (R.take k).filter (lateP n)) (R.drop k) T M
  rrow : wr.ownsRow w.heap.size 69 3 rv R.length (R.flatMap encT)
  drow : wr.ownsRow w.heap.size 69 3 x ((R.take k).filter fun t => !lateP n t).length (((R.take k).filter fun t => !lateP n t).flatMap encT)
  rout : ∀ b, rv.ownBlock = some b → ¬ Own cb mb V b
  dout : ∀ b, x.ownBlock = some b → ¬ Own cb mb V b
  rd : ∀ b, rv.ownBlock = some b → x.ownBlock ≠ some b
  turn : Turn (Own cb mb V0) w wr
  own : ∀ b, Own cb mb V b → Own cb mb V0 b ∨ w.heap.size ≤ b
section
variable {w wr : World} {B cb mb n ords : Nat} {V0 : Nat → Value} {U R : List Tm} {rv x : Value} {k : Nat} {V : Nat → Value} {T : Nat → List Tm} {M : Places}
theorem Lp.below (h : Lp w wr B cb mb n ords V0 U R rv x k V T M) {w' : World} (b : Below wr.heap.size wr w') : Lp w w' B cb mb n ords V0 U R rv x k V T M where
  clk := h.clk.turn (Turn.of_below (S := fun _ => False) b) (fun _ h => h.elim)
  mp := h.mp.block (b.block mb h.mp.lt)
  inv := h.inv
  rrow := owns_block h.rrow (fun i hi => b.block i (h.rrow.lt i hi).2)
  drow := owns_block h.drow (fun i hi => b.block i (h.drow.lt i hi).2)
  rout := h.rout
  dout := h.dout
  rd := h.rd
  turn := h.turn.trans (Turn.of_below (S := fun _ => False) b) (fun _ _ h => h.elim)
  own := h.own
theorem take_step {k : Nat} {R : List Tm} (hk : k < R.length) (p : Tm → Bool) : (R.take (k + 1)).filter p = (R.take k).filter p ++ (if p R[k] then [R[k]] else []) := by
  rw [List.take_succ_eq_append_getElem hk, List.filter_append]
  congr 1
  by_cases c : p R[k] <;> simp [c]
theorem Lp.put (h : Lp w wr B cb mb n ords V0 U R rv x k V T M) (hk : k < R.length) (hl : lateP n R[k] = true) (hm : R[k].a ≤ mt) {w' : World} {N : Nat} (hN : N = U.length + ((R.take k).filter (lateP n)).length + (R.length - k)) (hp : PutPost B cb mb n ords V T M N R[k] wr w') :
    ∃ V' T' M', Lp w w' B cb mb n ords V0 U R rv x (k + 1) V' T' M' := by
  obtain ⟨v, hC, hM, hT, hO⟩ := hp
  have hdrop : R.drop k = R[k] :: R.drop (k + 1) := List.drop_eq_getElem_cons hk
  have hin : (M R[k].i).isSome = true := (h.inv.there _).2 ⟨R[k], List.mem_append_right _ (by rw [hdrop]; exact List.mem_cons_self), rfl⟩
  have hlt : n < R[k].a := by simpa [lateP] using hl
  have hlow : ∀ b, b < wr.heap.size → ¬ Own cb mb V b → ¬ Own cb mb (updV V (ix n R[k].a) v) b := fun b hb hn ho => by
    rcases hO b ho with h1 | h1
    · exact hn h1
    · omega
  refine ⟨updV V (ix n R[k].a) v, upd T (ix n R[k].a) (T (ix n R[k].a) ++ [R[k]]), M.put R[k].i (wh n R[k].a, sl (wh n R[k].a) R[k].a, (T (ix n R[k].a)).length), ⟨hC, ?_, ?_, ?_, ?_, fun b hb => hlow b (h.rrow.lt b hb).2 (h.rout b hb), fun b hb => hlow b (h.drow.lt b hb).2 (h.dout b hb), h.rd, h.turn.trans hT (fun b hb ho => ?_), fun b ho => ?_⟩⟩
  · rw [hin] at hM
    rw [take_step hk, hl]
    simp only [if_true, List.length_append, List.length_singleton] at hM ⊢
    rw [hN] at hM
    rw [show U.length + (((R.take k).filter (lateP n)).length + 1) + (R.length - (k + 1)) = U.length + ((R.take k).filter (lateP n)).length + (R.length - k) by omega]
    exact hM
  · rw [take_step hk, hl]
    simp only [if_true]
    rw [← List.append_assoc]
    have := h.inv
    rw [hdrop] at this
    exact this.put_out ⟨hlt, hm⟩
  · exact owns_block h.rrow (fun i hi => hT.block i (h.rrow.lt i hi).2 (h.rout i hi))
  · have e : ((R.take (k + 1)).filter fun t => !lateP n t) = (R.take k).filter fun t => !lateP n t := by
      rw [take_step hk]; simp [hl]
    rw [e]
    exact owns_block h.drow (fun i hi => hT.block i (h.drow.lt i hi).2 (h.dout i hi))
  · rcases h.own b ho with h1 | h1
    · exact h1
    · omega
  · rcases hO b ho with h1 | h1
    · exact h.own b h1
    · exact Or.inr (Nat.le_trans h.turn.size h1)
theorem Lp.due (h : Lp w wr B cb mb n ords V0 U R rv x k V T M) (hk : k < R.length) (hl : lateP n R[k] = false) {w1 w2 : World} {o : Obj} {x' : Value} {N : Nat} (hN : N = U.length + ((R.take k).filter (lateP n)).length + (R.length - k))
    (hM : Mp w1 mb (M.del R[k].i) (N - if (M R[k].i).isSome then 1 else 0)) (t1 : Turn (fun b => b = mb) wr w1)
    (hown : w2.ownsRow w.heap.size 69 3 x' (((R.take k).filter fun t => !lateP n t).length + 1) (((R.take k).filter fun t => !lateP n t).flatMap encT ++ encT R[k])) (hg : (w1.alloc o).grownBy w2 x.ownBlock) (hat : x'.ownBlock = x.ownBlock ∨ x'.ownBlock = some (w1.alloc o).heap.size) :
    Lp w w2 B cb mb n ords V0 U R rv x' (k + 1) V T (M.del R[k].i) := by
  have hdrop : R.drop k = R[k] :: R.drop (k + 1) := List.drop_eq_getElem_cons hk
  have hin : (M R[k].i).isSome = true := (h.inv.there _).2 ⟨R[k], List.mem_append_right _ (by rw [hdrop]; exact List.mem_cons_self), rfl⟩
  have ew : ∀ b, Own cb mb V b → b < wr.heap.size := fun b hb => by
    rcases hb with rfl | rfl | ⟨q, hq, hb⟩
    · exact Nat.lt_of_lt_of_le h.clk.cbB h.clk.BS
    · exact h.mp.lt
    · exact ((h.clk.rows q hq).lt b hb).2
  have t2 : Turn (fun b => b = mb ∨ x.ownBlock = some b) wr w2 := ((t1.mono (S := fun b => b = mb ∨ x.ownBlock = some b) (fun _ _ h => Or.inl h)).alloc o).grown hg (fun b hb _ => Or.inr hb)
  have hs1 : wr.heap.size ≤ (w1.alloc o).heap.size := by have := t1.size; simp; omega
  have nomb : ∀ b, (∀ c, c = mb → ¬ b = c) → True := fun _ _ => trivial
  have hxn : ∀ b, x'.ownBlock = some b → x.ownBlock = some b ∨ wr.heap.size ≤ b := fun b hb => by
    rcases hat with h1 | h1
    · exact Or.inl (by rw [← h1]; exact hb)
    · rw [h1] at hb; cases hb; exact Or.inr hs1
  have hmbo : Own cb mb V mb := Or.inr (Or.inl rfl)
  refine ⟨?_, ?_, ?_, ?_, ?_, h.rout, fun b hb ho => ?_, fun b hb hx => ?_, h.turn.trans t2 (fun b hb c => ?_), h.own⟩
  · refine h.clk.turn t2 (fun b hb => ?_)
    rcases hb with rfl | hb
    · exact ⟨h.clk.ne, fun q hq c => by have := ((h.clk.rows q hq).lt b c).1; have := h.clk.mbB; omega⟩
    · exact ⟨fun e => h.dout b hb (Or.inl e), fun q hq c => h.dout b hb (Or.inr (Or.inr ⟨q, hq, c⟩))⟩
  · have e1 : ((R.take (k + 1)).filter (lateP n)) = (R.take k).filter (lateP n) := by rw [take_step hk]; simp [hl]
    rw [e1]
    rw [hin, if_pos rfl, hN] at hM
    rw [show U.length + ((R.take k).filter (lateP n)).length + (R.length - (k + 1)) = U.length + ((R.take k).filter (lateP n)).length + (R.length - k) - 1 by omega]
    refine (hM.block (w' := w1.alloc o) ?_).block ?_
    · have := hM.lt
      first | exact heap_alloc_old _ _ this | exact heap_alloc_old _ _ _ this
    · exact hg.block mb (by have := hM.lt; simp; omega) (fun e => h.dout mb e.symm hmbo)
  · have e1 : ((R.take (k + 1)).filter (lateP n)) = (R.take k).filter (lateP n) := by rw [take_step hk]; simp [hl]
    rw [e1]
    have := h.inv
    rw [hdrop] at this
    exact this.del_out
  · refine owns_block h.rrow (fun i hi => t2.block i (h.rrow.lt i hi).2 (fun c => ?_))
    rcases c with rfl | c
    · exact h.rout i hi hmbo
    · exact h.rd i hi c
  · have e1 : ((R.take (k + 1)).filter fun t => !lateP n t) = ((R.take k).filter fun t => !lateP n t) ++ [R[k]] := by rw [take_step hk]; simp [hl]
    rw [e1, List.length_append, List.flatMap_append]
    simpa using hown
  · rcases hxn b hb with h1 | h1
    · exact h.dout b h1 ho
    · have := ew b ho; omega
  · rcases hxn b hx with h1 | h1
    · exact h.rd b hb h1
    · have := (h.rrow.lt b hb).2; omega
  · rcases c with rfl | c
    · rcases h.own b hmbo with h1 | h1
      · exact h1
      · omega
    · have := (h.drow.lt b c).1; omega
end
theorem reach_len {s : Sp} {T : Nat → List Tm} {M : Places} (h : Inv s.now s.L [] T M) {m : Nat} (hm : m ≤ 448) : (s.L.filter fun t => !decide (ix s.now t.a < m)).length + ((List.range m).flatMap T).length = s.L.length := by
  rw [(reached_perm h m hm).length_eq, Nat.add_comm, ← List.length_append]
  exact (List.filter_append_perm _ _).length_eq
theorem lp_start {w w1 : World} {B cb mb n : Nat} {s : Sp} {V : Nat → Value} {T : Nat → List Tm} {M : Places} {rv : Value} (h : St w B cb mb s V T M) (hn : s.now ≤ n) (hnm : n ≤ mt) (O : Outs w w1 B cb mb s.now s.ords V T (ix s.now n + 1) rv) :
    Lp w (w1.setCell ⟨cb, 0, none⟩ (.int .i64 n)) B cb mb n s.ords V (s.L.filter fun t => !decide (ix s.now t.a < ix s.now n + 1)) ((List.range (ix s.now n + 1)).flatMap T) rv (.slice none 0 0) 0
      (fun q => if q < ix s.now n + 1 then .slice none 0 0 else V q) (fun q => if q < ix s.now n + 1 then [] else T q) M := by
  have hm : ix s.now n + 1 ≤ 448 := ix_lt (by unfold mt at hnm; omega) (by unfold mt at hnm; omega)
  have hcb : cb < w.heap.size := Nat.lt_of_lt_of_le h.clk.cbB h.clk.BS
  have hmb : mb < w.heap.size := h.mp.lt
  have hown : ∀ b, Own cb mb (fun q => if q < ix s.now n + 1 then .slice none 0 0 else V q) b → Own cb mb V b ∧ b < w.heap.size := fun b hb => by
    rcases hb with rfl | rfl | ⟨q, hq, hb⟩
    · exact ⟨Or.inl rfl, hcb⟩
    · exact ⟨Or.inr (Or.inl rfl), hmb⟩
    · dsimp only at hb
      split at hb
      · cases hb
      · exact ⟨Or.inr (Or.inr ⟨q, hq, hb⟩), ((h.clk.rows q hq).lt b hb).2⟩
  refine ⟨O.clk.num.1 n, ?_, ?_, ?_, ?_, fun b hb ho => ?_, fun b hb => (by cases hb), fun b hb => (by simp [Value.ownBlock]), ?_, fun b ho => Or.inl (hown b ho).1⟩
  · have := reach_len h.inv hm
    simp only [List.take_zero, List.filter_nil, List.length_nil, Nat.add_zero, Nat.sub_zero]
    rw [this]
    refine (h.mp.block (O.turn.block mb hmb h.clk.ne)).block (RowKit.Below.heap_setCell _ _ _ _ h.clk.ne)
  · simpa using h.inv.take hn hnm
  · exact owns_block O.row (fun k hk => RowKit.Below.heap_setCell _ _ _ _ (fun e => by have := (O.row.lt k hk).1; simp at e; omega))
  · simpa using World.ownsRow_nil _ w.heap.size 69 3
  · have := (O.row.lt b hb).1
    have := (hown b ho).2
    omega
  · exact (O.turn.mono (fun k _ hk => Or.inl hk)).setCell (Or.inl rfl) _
/-- What a pass leaves: the clock, and what is due apart from it. -/
def After2 (B cb mb : Nat) (s' : Sp) (V : Nat → Value) (w w' : World) (u : Value) : Prop :=
  ∃ V' T' M', St w' B cb mb s' V' T' M' ∧ Turn (Own cb mb V) w w' ∧ (∀ k, Own cb mb V' k → Own cb mb V k ∨ w.heap.size ≤ k) ∧ ∀ k, u.ownBlock = some k → w.heap.size ≤ k ∧ ¬ Own cb mb V' k
theorem After.two {B cb mb : Nat} {s' : Sp} {V : Nat → Value} {w w' : World} (h : After B cb mb s' V w w') : After2 B cb mb s' V w w' (.slice none 0 0) := by
  obtain ⟨V', T', M', h1, h2, h3⟩ := h
  exact ⟨V', T', M', h1, h2, h3, fun k hk => by cases hk⟩
theorem pass_perm {s : Sp} {T : Nat → List Tm} {M : Places} {n m : Nat} (h : Inv s.now s.L [] T M) (hm : m ≤ 448) (hU : ∀ t, t ∈ (s.L.filter fun t => !decide (ix s.now t.a < m)) → n < t.a) :
    ((s.L.filter fun t => !decide (ix s.now t.a < m)) ++ ((List.range m).flatMap T).filter (lateP n)).Perm (s.L.filter fun t => !decide ((t.a : Int) ≤ (n : Int))) ∧
      (((List.range m).flatMap T).filter fun t => !lateP n t).Perm (s.L.filter fun t => decide ((t.a : Int) ≤ (n : Int))) := by
  have hall : ((s.L.filter fun t => !decide (ix s.now t.a < m)) ++ (List.range m).flatMap T).Perm s.L :=
    ((List.Perm.refl _).append (reached_perm h m hm)).trans (List.perm_append_comm.trans (List.filter_append_perm _ _))
  have e1 : (fun t : Tm => !decide ((t.a : Int) ≤ (n : Int))) = lateP n := by
    funext t; rw [Bool.eq_iff_iff]; simp [lateP]
  have e2 : (fun t : Tm => decide ((t.a : Int) ≤ (n : Int))) = fun t => !lateP n t := by
    funext t; rw [Bool.eq_iff_iff]; simp [lateP]
  rw [e1, e2]
  constructor
  · refine List.Perm.trans ?_ (hall.filter (lateP n))
    rw [List.filter_append]
    refine List.Perm.append_right _ (List.Perm.of_eq ?_)
    exact (List.filter_eq_self.2 (fun t ht => by simp [lateP]; exact hU t ht)).symm
  · refine List.Perm.trans ?_ (hall.filter fun t => !lateP n t)
    rw [List.filter_append]
    have e3 : ((s.L.filter fun t => !decide (ix s.now t.a < m)).filter fun t => !lateP n t) = [] := List.filter_eq_nil_iff.2 (fun t ht => by simp [lateP]; exact hU t ht)
    rw [e3]
    exact List.Perm.refl _
theorem pass_end {w wr w2 w3 : World} {B cb mb n : Nat} {s : Sp} {V V1 : Nat → Value} {T T1 : Nat → List Tm} {M M1 : Places} {U R l' : List Tm} {rv x u : Value} (h : St w B cb mb s V T M) (hn : s.now ≤ n) (hnm : n ≤ mt)
    (hU : (s.L.filter fun t => !decide (ix s.now t.a < ix s.now n + 1)) = U) (hR : (List.range (ix s.now n + 1)).flatMap T = R) (L : Lp w wr B cb mb n s.ords V U R rv x R.length V1 T1 M1)
    (hg : Good ⟨(n : Int).toNat, s.ords, s.L.filter fun t => !decide ((t.a : Int) ≤ (n : Int))⟩)
    (hp : l'.Perm (R.filter fun t => !lateP n t)) (hs : l'.Pairwise fun t u => tle t u = true) (t2 : Turn (fun k => x.ownBlock = some k) wr w2) (hI : IntsAt w3 u (l'.map fun t => (t.i : Int))) (hu : ∀ k, u.ownBlock = some k → w2.heap.size ≤ k) (b3 : Below w2.heap.size w2 w3) :
    IntsAt w3 u ((srt (s.L.filter fun t => decide ((t.a : Int) ≤ (n : Int)))).map fun t => (t.i : Int)) ∧
      After2 B cb mb ⟨(n : Int).toNat, s.ords, s.L.filter fun t => !decide ((t.a : Int) ≤ (n : Int))⟩ V w w3 u := by
  have hm : ix s.now n + 1 ≤ 448 := ix_lt (by unfold mt at hnm; omega) (by unfold mt at hnm; omega)
  have hlate : ∀ t, t ∈ (s.L.filter fun t => !decide (ix s.now t.a < ix s.now n + 1)) → n < t.a := fun t ht => by
    rw [hU] at ht
    exact (L.inv.late t (List.mem_append_left _ ht)).1
  obtain ⟨q1, q2⟩ := pass_perm h.inv hm hlate
  rw [hU, hR] at q1
  rw [hR] at q2
  have hsrt : l' = srt (s.L.filter fun t => decide ((t.a : Int) ≤ (n : Int))) := srt_one hs (hp.trans q2) (fun t u ht hu e => ordd_one h.good.ordd (List.mem_filter.1 ht).1 (List.mem_filter.1 hu).1 e)
  have hxo : ∀ k, x.ownBlock = some k → k ≠ cb ∧ ∀ q, q < 448 → (V1 q).ownBlock ≠ some k := fun k hk => ⟨fun e => L.dout k hk (Or.inl e), fun q hq c => L.dout k hk (Or.inr (Or.inr ⟨q, hq, c⟩))⟩
  have hnx : ¬ x.ownBlock = some mb := fun c => L.dout mb c (Or.inr (Or.inl rfl))
  have hsz : w.heap.size ≤ w2.heap.size := Nat.le_trans L.turn.size t2.size
  have ew : ∀ b, Own cb mb V1 b → b < wr.heap.size := fun b hb => by
    rcases hb with rfl | rfl | ⟨q, hq, hb⟩
    · exact Nat.lt_of_lt_of_le L.clk.cbB L.clk.BS
    · exact L.mp.lt
    · exact ((L.clk.rows q hq).lt b hb).2
  refine ⟨hsrt ▸ hI, V1, T1, M1, ⟨?_, ?_, ?_, hg⟩, ?_, L.own, fun k hk => ⟨Nat.le_trans hsz (hu k hk), fun c => by have := ew k c; have := hu k hk; have := t2.size; omega⟩⟩
  · exact ((L.clk.turn t2 (fun k hk => hxo k hk)).turn (Turn.of_below (S := fun _ => False) b3) (fun _ h => h.elim))
  · have e : (s.L.filter fun t => !decide ((t.a : Int) ≤ (n : Int))).length = U.length + ((R.take R.length).filter (lateP n)).length + (R.length - R.length) := by
      rw [← q1.length_eq, List.take_length, List.length_append]; omega
    show Mp w3 mb M1 (s.L.filter fun t => !decide ((t.a : Int) ≤ (n : Int))).length
    rw [e]
    have m2 := L.mp.block (t2.block mb L.mp.lt hnx)
    exact m2.block (b3.block mb m2.lt)
  · have := L.inv
    rw [List.take_length, List.drop_length] at this
    exact this.swap q1 (List.Perm.refl _)
  · refine (L.turn.trans t2 (fun k hk c => ?_)).trans (Turn.of_below (S := fun _ => False) b3) (fun _ _ h => h.elim)
    have := (L.drow.lt k c).1
    omega
set_option maxHeartbeats 4000000 in
theorem pass_any (B cb mb : Nat) (s : Sp) (V : Nat → Value) (T : Nat → List Tm) (M : Places) (id at' : Int) (w : World) (h : St w B cb mb s V T M) (hat : wfI at') :
    Calls Try.prog 26 #[.pointer (some ⟨cb, 0, none⟩), .int .i64 at'] w fun e w' => ∃ u, e = .returned (.tuple #[.int .i64 (step s (3, id, at')).1, u]) ∧ IntsAt w' u ((step s (3, id, at')).2.1.map fun t => (t.i : Int)) ∧
      After2 B cb mb (step s (3, id, at')).2.2 V w w' u := by
  have c0 := h.clk.c0
  have HS : Hid (St w B cb mb s V T M) := h
  have hnow := h.good.now
  have hit := isTime_any at'
  have hg := h.good.step (3, id, at')
  unfold step at hg ⊢
  simp only [show ¬ ((3 : Int) = 1) by omega, show ¬ ((3 : Int) = 2) by omega, if_false, if_true] at hg ⊢
  clear h hat
  rcases (by omega : at' < s.now ∨ (¬ at' < s.now ∧ 1099511627776 < at') ∨ (¬ at' < s.now ∧ ¬ 1099511627776 < at')) with h1 | ⟨h1, h2⟩ | ⟨h1, h2⟩
  · simp only [h1, true_or, if_true]
    clear hit hg
    go_enter Try.func26, Try.ntmps26
    go_wp2
    go_ret2
    exact ⟨_, rfl, Or.inl ⟨rfl, rfl⟩, (After.same HS.out (Below.refl _ _)).two⟩
  · simp only [h1, h2, or_true, if_true]
    have e : decide (0 ≤ at' ∧ at' ≤ 1099511627776) = false := by simp; omega
    rw [e] at hit
    have HT : Hid (∀ w, Calls Try.prog 16 #[.int .i64 at'] w fun e w' => e = .returned (.bool false) ∧ w' = w) := hit
    clear hit e hg
    go_enter Try.func26, Try.ntmps26
    go_wp2_with (go_at_call 16; refine (HT.out _).mono ?_; rintro e w ⟨rfl, rfl⟩)
    go_ret2
    exact ⟨_, rfl, Or.inl ⟨rfl, rfl⟩, (After.same HS.out (Below.refl _ _)).two⟩
  · obtain ⟨n, rfl⟩ := Int.eq_ofNat_of_zero_le (show 0 ≤ at' by omega)
    simp only [h1, h2, or_self, if_false] at hg ⊢
    have e : decide (0 ≤ (n : Int) ∧ (n : Int) ≤ 1099511627776) = true := by simp; omega
    rw [e] at hit
    have HT : Hid (∀ w, Calls Try.prog 16 #[.int .i64 n] w fun e w' => e = .returned (.bool true) ∧ w' = w) := hit
    have HG : Hid (Good ⟨(n : Int).toNat, s.ords, s.L.filter fun t => !decide ((t.a : Int) ≤ (n : Int))⟩) := hg
    have hnn : s.now ≤ n := by omega
    have hnm : n ≤ mt := by unfold mt; omega
    have HN : Hid (s.now ≤ n ∧ n ≤ mt) := ⟨hnn, hnm⟩
    have htk : ∀ m, m ≤ 448 → ((List.range m).flatMap T).length ≤ 1000 := fun m hm => by
      have := reach_len HS.out.inv hm
      have := HS.out.good.few
      omega
    have HK : Hid (∀ m, m ≤ 448 → ((List.range m).flatMap T).length ≤ 1000) := htk
    have HNW : Hid (s.now ≤ 1099511627776) := by show _ ≤ _; unfold mt at hnow; exact hnow
    have HNM : Hid (n ≤ 1099511627776) := by show _ ≤ _; omega
    have hh1 : (s.now : Int) ≤ (n : Int) := by omega
    clear hit e hg htk hnn hnm hnow h1 h2
    go_enter Try.func26, Try.ntmps26
    go_wp2_with (first | (go_at_call 16; refine (HT.out _).mono ?_; rintro e w ⟨rfl, rfl⟩))
    refine (take_any B cb mb s.now s.ords n V T _ HS.out.clk HNW.out HNM.out HK.out).mono ?_
    rintro e w1 ⟨rv, rfl, O⟩
    have d0 := O.clk.c0
    have f0 := O.clk.fz 0
    have HO : Hid (Outs w w1 B cb mb s.now s.ords V T (ix s.now n + 1) rv) := O
    clear O
    have LS := lp_start HS.out HN.out.1 HN.out.2 HO.out
    generalize hU : (s.L.filter fun t => !decide (ix s.now t.a < ix s.now n + 1)) = U at LS
    generalize hR : (List.range (ix s.now n + 1)).flatMap T = R at LS
    have HLS : Hid (∃ V1 T1 M1, Lp w (w1.setCell ⟨cb, 0, none⟩ (.int .i64 n)) B cb mb n s.ords V U R rv (.slice none 0 0) 0 V1 T1 M1) := ⟨_, _, _, LS⟩
    obtain ⟨p, cap, hv, hp⟩ : ∃ p cap, rv = .slice p R.length cap ∧ (0 < R.length → ∃ g, p = some ⟨g, 0, none⟩) := by
      rcases LS.rrow.2 with ⟨h1, h0⟩ | ⟨g, cap, cur, h1, _⟩
      · exact ⟨none, 0, by rw [h0]; exact h1, fun h => by omega⟩
      · exact ⟨_, cap, h1, fun _ => ⟨g, rfl⟩⟩
    subst hv
    have HP : Hid (0 < R.length → ∃ g, p = some ⟨g, 0, none⟩) := hp
    have hRl : R.length ≤ 1000 := by
      rw [← hR]; exact HK.out _ (ix_lt HNW.out HNM.out)
    have HUR : Hid ((s.L.filter fun t => !decide (ix s.now t.a < ix s.now n + 1)) = U ∧ (List.range (ix s.now n + 1)).flatMap T = R) := ⟨hU, hR⟩
    have HRM : Hid (∀ t, t ∈ R → t ∈ s.L) := by
      intro t ht
      rw [← hR] at ht
      have := (reached_perm HS.out.inv _ (ix_lt HNW.out HNM.out)).mem_iff.1 ht
      exact (List.mem_filter.1 this).1
    have HSUM : Hid (U.length + R.length ≤ 1000) := by
      show _ ≤ _
      have h1 := reach_len HS.out.inv (m := ix s.now n + 1) (ix_lt HNW.out HNM.out)
      rw [hU, hR] at h1
      have := HS.out.good.few
      omega
    clear LS hU hR hp HO
    go_wp2
    go_loopw [7, 30] (fun x i wr => ∃ k V1 T1 M1, k ≤ R.length ∧ i = .int .i64 (k : Nat) ∧ Lp w wr B cb mb n s.ords V U R (.slice p R.length cap) x k V1 T1 M1) (fun _ i _ => R.length + 1 - (intOf i).toNat)
    case atStart =>
      obtain ⟨V1, T1, M1, h1⟩ := HLS.out
      exact ⟨0, V1, T1, M1, by omega, rfl, h1⟩
    case round =>
      obtain ⟨k, V1, T1, M1, hk, rfl, L⟩ := hrel
      by_cases hlt : k < R.length
      · obtain ⟨g, hg⟩ := HP.out (by omega)
        subst hg
        have hgs : g < wr.heap.size := (L.rrow.lt g rfl).2
        obtain ⟨b0, b1, b2⟩ := cell3 L.rrow hlt
        obtain ⟨t, ht⟩ : ∃ t, R[k] = t := ⟨_, rfl⟩
        rw [ht] at b0 b1 b2
        have HTK : Hid (R[k] = t) := ht
        have i1 : (0 : Int) ≤ (k : Int) := by omega
        have i2 : (k : Int) < (R.length : Int) := by omega
        have HK2 : Hid (k < R.length) := hlt
        have HR : Hid (t.a ≤ mt ∧ wfI t.i) := by
          show _ ∧ _
          have hm := HRM.out t (by rw [← ht]; exact List.getElem_mem _)
          have h1 := HS.out.good.late _ hm
          have h2 := HS.out.good.ids _ hm
          exact ⟨h1.2, by unfold wfI; omega⟩
        have HL : Hid (Lp w wr B cb mb n s.ords V U R (.slice (some ⟨g, 0, none⟩) R.length cap) u7 k V1 T1 M1) := L
        have hcnt : U.length + ((R.take k).filter (lateP n)).length + (R.length - k) ≤ 1000 := by
          have h1 := HSUM.out
          have h2 := List.length_filter_le (lateP n) (R.take k)
          simp only [List.length_take] at h2
          omega
        have HCN : Hid (U.length + ((R.take k).filter (lateP n)).length + (R.length - k) ≤ 1000) := hcnt
        clear ht
        by_cases hl : lateP n t = true
        · have hlt2 : (n : Int) < (t.a : Int) := by simp [lateP] at hl; omega
          have HLT : Hid (lateP n t = true) := hl
          clear hl L hcnt
          go_wp2_with fail
          refine (put_any B cb mb n s.ords V1 T1 M1 _ t _ (HL.out.below (below_new' _ _)).clk (HL.out.below (below_new' _ _)).mp HNM.out (by have := HR.out.1; unfold mt at this; exact this) HR.out.2 (by have := HCN.out; omega) (by
            have h1 := HL.out.inv.len (ix_lt (a := n) (b := t.a) HNM.out (by have := HR.out.1; unfold mt at this; exact this))
            have h2 := HCN.out
            simp only [List.length_append] at h1
            omega)).mono ?_
          rintro e w2 ⟨rfl, hp⟩
          go_wp2
          go_roundw
          case rel =>
            obtain ⟨V2, T2, M2, h2⟩ := (HL.out.below (below_new' _ _)).put HK2.out (by rw [HTK.out]; exact HLT.out) (by rw [HTK.out]; exact HR.out.1) rfl (by rw [HTK.out]; exact hp)
            exact ⟨k + 1, V2, T2, M2, by omega, by go_num, h2⟩
          case measure => simp [intOf]; omega
        · have hl' : lateP n t = false := by simpa using hl
          have hlt3 : t.a ≤ n := by simp [lateP] at hl'; exact hl'
          have hlt2 : (n < t.a) = False := by simp; exact hlt3
          have HLT : Hid (lateP n t = false) := hl'
          obtain ⟨W, hW⟩ : ∃ W, W = wr.alloc (.cells #[.int .i64 t.i, .int .i64 t.a, .int .i64 t.o] 69) := ⟨_, rfl⟩
          have LW : Lp w W B cb mb n s.ords V U R (.slice (some ⟨g, 0, none⟩) R.length cap) u7 k V1 T1 M1 := by rw [hW]; exact L.below (below_new' _ _)
          have a0 : W.cell? ⟨wr.heap.size, 0, none⟩ = some (.int .i64 t.i) := by rw [hW]; go_simp
          have a1 : W.cell? ⟨wr.heap.size, 1, none⟩ = some (.int .i64 t.a) := by rw [hW]; go_simp
          have a2 : W.cell? ⟨wr.heap.size, 2, none⟩ = some (.int .i64 t.o) := by rw [hW]; go_simp
          have dm := LW.clk.cm
          have n4 : wr.heap.size ≠ mb := by have := L.mp.lt; omega
          have hcm : cb ≠ mb := LW.clk.ne.symm
          have HW : Hid (Lp w W B cb mb n s.ords V U R (.slice (some ⟨g, 0, none⟩) R.length cap) u7 k V1 T1 M1) := LW
          obtain ⟨i0, hi, hz0, hz1, hz2⟩ := info_parts info69
          have HI : Hid (Try.prog.info? 69 = some i0 ∧ i0.zero = some (.agg #[.int .i64 0, .int .i64 0, .int .i64 0]) ∧ i0.size = 3 ∧ i0.bytes = 24) := ⟨hi, hz0, hz1, hz2⟩
          have HDL : Hid (((R.take k).filter fun t => !lateP n t).length ≤ 1000) := by
            show _ ≤ _
            have h2 := List.length_filter_le (fun t => !lateP n t) (R.take k)
            simp only [List.length_take] at h2
            omega
          clear hl hl' L hcnt LW hi hz0 hz1 hz2
          go_wp2_with fail
          rw [← hW]
          clear hW
          go_region_held3 (fun w' => w'.cell? ⟨cb, 450, none⟩ = some (.map (some mb)) ∧ w'.cell? ⟨wr.heap.size, 0, none⟩ = some (.int .i64 t.i)) (go_keep)
            ((refine step_delete_mp _ (by rfl) _ _ (by rfl) mb M1 _ (by rfl) (HW.out.mp.block rfl) t.i HR.out.2 (by rfl) ?_; intro w2 hM2 ht2; have ym : w2.cell? ⟨cb, 450, none⟩ = some (.map (some mb)) := cell_of_turned ht2 dm hcm; have y0 : w2.cell? ⟨wr.heap.size, 0, none⟩ = some (.int .i64 t.i) := cell_of_turned ht2 a0 n4; have y1 : w2.cell? ⟨wr.heap.size, 1, none⟩ = some (.int .i64 t.a) := cell_of_turned ht2 a1 n4; have y2 : w2.cell? ⟨wr.heap.size, 2, none⟩ = some (.int .i64 t.o) := cell_of_turned ht2 a2 n4))
          have t1 : Turn (fun b => b = mb) W w2 := ((Turn.refl _ _).drew).grown ht2.grown (fun k hk _ => by cases hk; rfl)
          have hown2 : w2.ownsRow w.heap.size 69 3 u7 ((R.take k).filter fun t => !lateP n t).length (((R.take k).filter fun t => !lateP n t).flatMap encT) :=
            owns_block HW.out.drow (fun i hi => t1.block i (HW.out.drow.lt i hi).2 (fun c => HW.out.dout i hi (Or.inr (Or.inl c))))
          have hbase : w.heap.size ≤ w2.heap.size := Nat.le_trans HW.out.turn.size t1.size
          have HO2 : Hid (w2.ownsRow w.heap.size 69 3 u7 ((R.take k).filter fun t => !lateP n t).length (((R.take k).filter fun t => !lateP n t).flatMap encT)) := hown2
          have HBS : Hid (w.heap.size ≤ w2.heap.size) := hbase
          have HT1 : Hid (Turn (fun b => b = mb) W w2) := t1
          have HM2 : Hid (Mp w2 mb (M1.del t.i) (U.length + ((R.take k).filter (lateP n)).length + (R.length - k) - if (M1 t.i).isSome then 1 else 0)) := hM2
          clear t1 hown2 hbase hM2 ht2 ym
          go_wp2_with (at_builtin; refine wpList_append_own_at _ (by rfl) _ _ 46 (by rfl) w.heap.size 69 i0 (.agg #[.int .i64 0, .int .i64 0, .int .i64 0]) 3 24 Try.underlying46 HI.out.1 HI.out.2.1 HI.out.2.2.1 HI.out.2.2.2 rfl (by omega) u7 _ _ (by rfl) (HO2.out.alloc _) ⟨w2.heap.size, 0, none⟩ 1 1 (encT t) (by rfl) (by rfl) (World.news_of_block (heap_alloc_new _ _)) (by simp [encT, Value.oneCell']) (by have := HDL.out; unfold maxLen; omega) (by have := HDL.out; omega) (by simp; exact Nat.le_succ_of_le HBS.out) ?_; intro x' w3 hown3 hg3 hnil3 hat3)
          go_roundw
          case rel =>
            refine ⟨k + 1, V1, T1, M1.del t.i, by omega, by go_num, ?_⟩
            have := HW.out.due (o := .cells #[.int .i64 t.i, .int .i64 t.a, .int .i64 t.o] 69) HK2.out (by rw [HTK.out]; exact HLT.out) rfl (by rw [HTK.out]; exact HM2.out) HT1.out (by rw [HTK.out]; exact hown3) hg3 hat3
            rw [HTK.out] at this
            exact this
          case measure => simp [intOf]; omega
      · obtain rfl : k = R.length := by omega
        have HL : Hid (Lp w wr B cb mb n s.ords V U R (.slice p R.length cap) u7 R.length V1 T1 M1) := L
        have hdl : ((R.take R.length).filter fun t => !lateP n t).length ≤ 1000 := by
          have h2 := List.length_filter_le (fun t => !lateP n t) (R.take R.length)
          simp only [List.length_take] at h2
          omega
        clear L
        go_wp2_with fail
        refine (sort_any _ w.heap.size u7 _ HL.out.drow (by omega)).mono ?_
        rintro e w2 ⟨rfl, l', hp, hs, hrow, t2⟩
        have hll : l'.length ≤ 1000 := by rw [hp.length_eq]; exact hdl
        rw [List.take_length] at hp
        go_wp2_with fail
        refine (ids_any l' w.heap.size u7 _ hrow hll).mono ?_
        rintro e w3 ⟨u, rfl, hI, hu, b3⟩
        go_wp2
        go_ret2
        exact ⟨u, rfl, pass_end HS.out HN.out.1 HN.out.2 HUR.out.1 HUR.out.2 HL.out HG.out hp hs t2 hI hu b3⟩
end Go.Proofs.Ytccddjfcceclnaa
