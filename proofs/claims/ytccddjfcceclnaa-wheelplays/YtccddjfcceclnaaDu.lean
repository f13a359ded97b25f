/-
  A map of times by numbers; what a deed of the law WheelDue answers.
-/
import Derived.Test.YtccddjfcceclnaaWs
namespace Go.Proofs.Ytccddjfcceclnaa
open Go.ChangeShapes Go.WideShapes Go.ChangeAt Go.RowKit Go.Maps
set_option linter.unusedVariables false
set_option linter.unusedSimpArgs false
abbrev Seen := Int → Option Nat
def Seen.put (F : Seen) (x : Int) (a : Nat) : Seen := fun y => if y = x then some a else F y
def Seen.del (F : Seen) (x : Int) : Seen := fun y => if y = x then none else F y
def tims (L : List Tm) : Seen := fun x => (L.find? fun t => decide ((t.i : Int) = x)).map Tm.a
/-- A map of times by numbers. -/
def Mi (w : World) (mb : Nat) (F : Seen) (N : Nat) : Prop :=
  ∃ D : DataW Unit, w.ownsMap Try.prog 3 (plainElem Try.prog 3) mb N D ∧ (∀ x, Maps.has D (.int .i64 x) = (F x).isSome) ∧ ∀ x a, F x = some a → D.atKey (.int .i64 x) (.lit (.int .i64 0)) = .lit (.int .i64 (a : Nat))
theorem zero3 (w : World) : (zeroValue 3).run Try.prog w = .ok (.int .i64 0) w := by kernel_rfl
theorem Mi.block {w w' : World} {mb : Nat} {F : Seen} {N : Nat} (h : Mi w mb F N) (e : w'.heap[mb]? = w.heap[mb]?) : Mi w' mb F N := by
  obtain ⟨D, ⟨es, clock, hb, r⟩, r2⟩ := h
  exact ⟨D, ⟨es, clock, by rw [e]; exact hb, r⟩, r2⟩
theorem Mi.lt {w : World} {mb : Nat} {F : Seen} {N : Nat} (h : Mi w mb F N) : mb < w.heap.size := let ⟨_, h, _⟩ := h; h.lt
theorem mi_made (w : World) : Mi (w.alloc (.map #[] 0)) w.heap.size (tims []) 0 := ⟨.map [], World.ownsMap_made _ _ _ _, fun x => rfl, fun x p h => by cases h⟩
theorem Mi.mono {w : World} {mb : Nat} {F : Seen} {N N' : Nat} (h : Mi w mb F N) (hn : N ≤ N') : Mi w mb F N' := let ⟨D, h1, h2⟩ := h; ⟨D, h1.mono hn, h2⟩
theorem Mi.look {w : World} {mb : Nat} {F : Seen} {N : Nat} (h : Mi w mb F N) {x : Int} (hx : wfI x) :
    (Instr.lookup 34 (.map (some mb)) (.int .i64 x) true).run Try.prog w = .ok (.tuple #[.int .i64 ((F x).getD 0 : Nat), .bool (F x).isSome]) w := by
  obtain ⟨D, h, h1, h2⟩ := h
  obtain ⟨v, ps, hrun, hv⟩ := h.look_ok law3 Try.underlying34 (zero3 w) (plainElem_int Try.underlying3 (by decide)) (key3 hx)
  rw [hrun, h1 x]
  have e : v = .int .i64 ((F x).getD 0 : Nat) := by
    obtain ⟨c, rfl, hc, _⟩ := plainElem_int_inv Try.underlying3 hv
    have hc1 := congrArg Prod.fst hc
    simp only at hc1
    cases hm : F x with
    | none =>
      have := h1 x
      rw [hm] at this
      rw [atKey_of_not_has this] at hc1
      simp at hc1
      simp [← hc1]
    | some p =>
      rw [h2 x p hm] at hc1
      simp at hc1
      simp [← hc1]
  rw [e]
theorem Mi.store {w : World} {mb : Nat} {F : Seen} {N : Nat} (h : Mi w mb F N) {x : Int} (hx : wfI x) (hn : N ≤ 2000) (a : Nat) (ha : wfI a) :
    ∃ w', (Instr.mapUpdate 34 (.map (some mb)) (.int .i64 x) (.int .i64 a)).run Try.prog w = .ok () w' ∧ Mi w' mb (F.put x a) (N + 1) ∧ w.mapTurned w' mb := by
  obtain ⟨D, h, h1, h2⟩ := h
  obtain ⟨w', hrun, ho, ht⟩ := h.store law3 Try.underlying34 (by unfold maxLen; omega) (key3 hx) (plainElem_int Try.underlying3 (WalkArith.wf_i64 ha))
  refine ⟨w', hrun, ⟨D.put (.int .i64 x) (.lit (.int .i64 a)), ho, fun y => ?_, fun y q hq => ?_⟩, ht⟩
  · by_cases e : y = x
    · subst e; rw [has_put_same h.isMap (by trivial)]; simp [Seen.put]
    · rw [has_put_other (lit_ne e), h1 y]; simp [Seen.put, e]
  · by_cases e : y = x
    · subst e; rw [atKey_put_same h.isMap (by trivial)]; simp [Seen.put] at hq; rw [hq]
    · rw [atKey_put_other (lit_ne e)]; simp [Seen.put, e] at hq; exact h2 y q hq
theorem Mi.drop {w : World} {mb : Nat} {F : Seen} {N : Nat} (h : Mi w mb F N) {x : Int} (hx : wfI x) (ty : TypeId) :
    ∃ w', (Builtin.delete_ #[34, 3] ty #[.map (some mb), .int .i64 x]).run Try.prog w = .ok (.tuple #[]) w' ∧ Mi w' mb (F.del x) N ∧ w.mapTurned w' mb := by
  obtain ⟨D, h, h1, h2⟩ := h
  obtain ⟨w', hrun, ho, ht⟩ := h.drop law3 Try.underlying34 (key3 hx) ty
  refine ⟨w', hrun, ⟨D.del (.int .i64 x), ho, fun y => ?_, fun y q hq => ?_⟩, ht⟩
  · by_cases e : y = x
    · subst e; rw [has_del_same]; simp [Seen.del]
    · rw [has_del_other (lit_ne e), h1 y]; simp [Seen.del, e]
  · by_cases e : y = x
    · subst e; simp [Seen.del] at hq
    · rw [atKey_del_other (lit_ne e)]; simp [Seen.del, e] at hq; exact h2 y q hq
section
variable (w : World) {ops : Array Oper} {rest : List Oper} {o : Oper} {a : Act} {Q : Exit → Act → World → Prop}
theorem wpList_look_mi (hg : o.guard = none) (m x : Operand) (hop : o.op = Op.lookup 34 m x true) (mb : Nat) (F : Seen) (N : Nat) (hm : a.eval m = .map (some mb)) (h : Mi w mb F N) (id : Int) (hid : wfI id) (hx : a.eval x = .int .i64 id)
    (p : Nat) (b : Bool) (hp : (F id).getD 0 = p) (hb : (F id).isSome = b)
    (hK : wpList Try.prog ops Q rest (a.put o.dst (.tuple #[.int .i64 p, .bool b])) w) : wpList Try.prog ops Q (o :: rest) a w := by
  refine wpList_plain hg fun K' hK' => ?_
  subst hp hb
  unfold Oper.wp
  simp [execOp, hop, hm, hx, h.look hid, Result.andThen]
  exact hK' _ _ hK
theorem wpList_store_mi (hg : o.guard = none) (m x v : Operand) (hop : o.op = Op.mapUpdate 34 m x v) (mb : Nat) (F : Seen) (N : Nat) (hm : a.eval m = .map (some mb)) (h : Mi w mb F N) (hn : N ≤ 2000) (id : Int) (hid : wfI id) (hx : a.eval x = .int .i64 id) (t : Nat) (ht : wfI t) (hv : a.eval v = .int .i64 t)
    (hK : ∀ w', Mi w' mb (F.put id t) (N + 1) → w.mapTurned w' mb → wpList Try.prog ops Q rest (a.put o.dst undef) w') : wpList Try.prog ops Q (o :: rest) a w := by
  refine wpList_plain hg fun K' hK' => ?_
  obtain ⟨w', hrun, r1, r2⟩ := h.store hid hn t ht
  unfold Oper.wp
  simp [execOp, hop, hm, hx, hv, hrun, Result.andThen]
  exact hK' _ _ (hK w' r1 r2)
theorem wpList_delete_mi (hg : o.guard = none) (m x : Operand) (hop : o.op = Op.call { callee := Callee.builtin Builtin.delete, args := #[m, x], argTypes := #[34, 3] }) (mb : Nat) (F : Seen) (N : Nat) (hm : a.eval m = .map (some mb)) (h : Mi w mb F N) (id : Int) (hid : wfI id) (hx : a.eval x = .int .i64 id)
    (hK : ∀ w', Mi w' mb (F.del id) N → w.mapTurned w' mb → wpList Try.prog ops Q rest (a.put o.dst (.tuple #[])) w') : wpList Try.prog ops Q (o :: rest) a w := by
  refine wpList_plain hg fun K' hK' => ?_
  obtain ⟨w', hrun, r1, r2⟩ := h.drop hid o.type
  unfold Oper.wp
  simp [execOp, hop, resolve, invoke, builtin, hm, hx, hrun, Result.andThen]
  exact hK' _ _ (hK w' r1 r2)
end
/-! ### plain facts -/
theorem tims_some {L : List Tm} (hn : (L.map Tm.i).Nodup) {t : Tm} (ht : t ∈ L) : tims L t.i = some t.a := by
  unfold tims
  cases h : L.find? (fun u => decide ((u.i : Int) = t.i)) with
  | none =>
    have := List.find?_eq_none.1 h t ht
    simp at this
  | some u =>
    have h1 := List.find?_some h
    have h2 := List.mem_of_find?_eq_some h
    simp at h1
    have e : u.i = t.i := by exact_mod_cast h1
    rw [nodup_one hn h2 ht e]; rfl
theorem tims_none {L : List Tm} {x : Int} (h : ∀ t, t ∈ L → (t.i : Int) ≠ x) : tims L x = none := by
  unfold tims
  rw [List.find?_eq_none.2 (fun t ht => by simpa using h t ht)]; rfl
theorem tims_mem {L : List Tm} {x : Int} {a : Nat} (h : tims L x = some a) : ∃ t, t ∈ L ∧ (t.i : Int) = x ∧ t.a = a := by
  unfold tims at h
  obtain ⟨t, ht, rfl⟩ := Option.map_eq_some_iff.1 h
  exact ⟨t, List.mem_of_find?_eq_some ht, by simpa using List.find?_some ht, rfl⟩
theorem tims_has (s : Sp) (x : Int) : (tims s.L x).isSome = s.has x := by
  unfold tims Sp.has
  rw [Bool.eq_iff_iff, Option.isSome_map, List.find?_isSome, List.any_eq_true]
theorem tims_put {L : List Tm} (hn : (L.map Tm.i).Nodup) {t : Tm} (h : ∀ u, u ∈ L → u.i ≠ t.i) : tims (L ++ [t]) = (tims L).put t.i t.a := by
  funext x
  unfold tims Seen.put
  rw [List.find?_append]
  by_cases e : x = t.i
  · subst e
    rw [List.find?_eq_none.2 (fun u hu => by simp; exact fun c => h u hu (by exact_mod_cast c))]
    simp
  · have : ¬ (t.i : Int) = x := fun c => e c.symm
    simp [e, this]
theorem tims_del (L : List Tm) (x : Int) : tims (L.filter fun t => decide ((t.i : Int) ≠ x)) = (tims L).del x := by
  funext y
  unfold tims Seen.del
  rw [List.find?_filter]
  by_cases e : y = x
  · subst e
    rw [if_pos rfl, List.find?_eq_none.2 (fun u hu => by simp)]; rfl
  · rw [if_neg e]
    congr 1
    congr 1
    funext t
    rw [Bool.eq_iff_iff]; simp
    intro h1
    subst h1
    exact e
def dropIds (F : Seen) (E : List Tm) : Seen := fun x => if E.any fun t => decide ((t.i : Int) = x) then none else F x
theorem dropIds_step (F : Seen) (E : List Tm) (k : Nat) (hk : k < E.length) : dropIds F (E.take (k + 1)) = (dropIds F (E.take k)).del E[k].i := by
  funext x
  unfold dropIds Seen.del
  rw [List.take_succ_eq_append_getElem hk, List.any_append]
  by_cases e : x = E[k].i
  · subst e; simp
  · have : ¬ (E[k].i : Int) = x := fun c => e c.symm
    simp [e, this]
theorem dropIds_all {L : List Tm} (hn : (L.map Tm.i).Nodup) (p : Tm → Bool) : dropIds (tims L) (srt (L.filter p)) = tims (L.filter fun t => !p t) := by
  funext x
  unfold dropIds
  by_cases c : (srt (L.filter p)).any (fun t => decide ((t.i : Int) = x)) = true
  · rw [if_pos c]
    obtain ⟨t, ht, hx⟩ := List.any_eq_true.1 c
    simp at hx
    obtain ⟨h1, h2⟩ := List.mem_filter.1 ((srt_perm _).mem_iff.1 ht)
    refine (tims_none (fun u hu e => ?_)).symm
    obtain ⟨h3, h4⟩ := List.mem_filter.1 hu
    have := nodup_one hn h3 h1 (by exact_mod_cast e.trans hx.symm)
    subst this
    simp [h2] at h4
  · rw [if_neg c]
    have hno : ∀ t, t ∈ L → p t = true → (t.i : Int) ≠ x := fun t ht hp e => c (List.any_eq_true.2 ⟨t, (srt_perm _).mem_iff.2 (List.mem_filter.2 ⟨ht, hp⟩), by simpa using e⟩)
    have hn' : ((L.filter fun t => !p t).map Tm.i).Nodup := List.Nodup.sublist (List.Sublist.map _ List.filter_sublist) hn
    by_cases ex : ∃ t, t ∈ L ∧ (t.i : Int) = x
    · obtain ⟨t, ht, rfl⟩ := ex
      have hp : p t = false := by
        cases hpt : p t with
        | false => rfl
        | true => exact absurd rfl (hno t ht hpt)
      rw [tims_some hn ht, tims_some hn' (List.mem_filter.2 ⟨ht, by simp [hp]⟩)]
    · rw [tims_none (fun t ht e => ex ⟨t, ht, e⟩), tims_none (fun t ht e => ex ⟨t, (List.mem_filter.1 ht).1, e⟩)]
theorem step_len (s : Sp) (d : Dd) : (step s d).2.2.L.length ≤ s.L.length + 1 := by
  unfold step
  repeat' split
  all_goals first | exact Nat.le_succ _ | (simp; done) | (exact Nat.le_succ_of_le (List.length_filter_le _ _))
theorem after_len (s : Sp) (ds : List Dd) (k : Nat) (hk : k ≤ ds.length) : (after s (ds.take k)).L.length ≤ s.L.length + k := by
  induction k with
  | zero => simp [after]
  | succ k ih =>
    rw [after_step s ds k (by omega)]
    have := step_len (after s (ds.take k)) (ds[k]'(by omega))
    have := ih (by omega)
    omega
/-- What a deed of the law's answers. -/
theorem due_step {s : Sp} {d : Dd} {m : Nat} (h : Step1 s.now d m) (hm : m ≤ 1099511000000) (hg : Good s) (hl : s.L.length < 1000) :
    (d.1 = 1 ∧ s.has d.2.1 = true ∧ (step s d).1 = 7 ∧ (step s d).2.1 = [] ∧ (step s d).2.2 = s) ∨
    (d.1 = 1 ∧ s.has d.2.1 = false ∧ (step s d).1 = 0 ∧ (step s d).2.1 = [] ∧ ∃ i a : Nat, d.2.1 = i ∧ d.2.2 = a ∧ (step s d).2.2.L = s.L ++ [⟨i, a, s.ords + 1⟩]) ∨
    (d.1 = 2 ∧ s.has d.2.1 = true ∧ (step s d).1 = 0 ∧ (step s d).2.2.L = s.L.filter fun t => decide ((t.i : Int) ≠ d.2.1)) ∨
    (d.1 = 2 ∧ s.has d.2.1 = false ∧ (step s d).1 = 6 ∧ (step s d).2.2 = s) ∨
    (d.1 = 3 ∧ d.2.2 = m ∧ (step s d).2.1 = srt (s.L.filter fun t => decide ((t.a : Int) ≤ m)) ∧ (step s d).2.2.L = s.L.filter fun t => !decide ((t.a : Int) ≤ m)) := by
  unfold Step1 at h
  obtain ⟨h1, h2, h3⟩ := h
  unfold step
  rcases h3 with ⟨q1, q2, q3, rfl⟩ | ⟨q1, q2, rfl⟩ | ⟨q1, q2, q3, q4⟩
  · have e1 : ¬ (d.2.1 < 1 ∨ 1048576 < d.2.1) := by omega
    have e2 : ¬ (d.2.2 ≤ (s.now : Int) ∨ 1099511627776 < d.2.2) := by omega
    have e3 : ¬ 1000 ≤ s.L.length := by omega
    simp only [q1, e1, e2, e3, if_true, if_false]
    cases hh : s.has d.2.1 with
    | true => exact Or.inl ⟨trivial, rfl, rfl, rfl, rfl⟩
    | false =>
      refine Or.inr (Or.inl ⟨trivial, rfl, rfl, rfl, d.2.1.toNat, d.2.2.toNat, by omega, by omega, rfl⟩)
  · simp only [q1, show ¬ ((2 : Int) = 1) by omega, if_true, if_false]
    cases hh : s.has d.2.1 with
    | true => exact Or.inr (Or.inr (Or.inl ⟨trivial, rfl, rfl, rfl⟩))
    | false => exact Or.inr (Or.inr (Or.inr (Or.inl ⟨trivial, rfl, rfl, rfl⟩)))
  · have e1 : ¬ ((m : Int) < (s.now : Int) ∨ 1099511627776 < (m : Int)) := by omega
    simp only [q1, q2, show ¬ ((3 : Int) = 1) by omega, show ¬ ((3 : Int) = 2) by omega, e1, if_true, if_false]
    exact Or.inr (Or.inr (Or.inr (Or.inr ⟨trivial, trivial, by first | rfl | trivial, by first | rfl | trivial⟩)))
set_option maxHeartbeats 1000000 in
theorem play_neg (w : World) : Calls Try.prog 9 #[.int .i64 (-1), .slice none 0 0] w fun e w' => e = .returned (.tuple #[.slice none 0 0, .slice none 0 0, .int .i64 2]) ∧ w' = w := by
  have hit := isTime_any (-1)
  rw [show decide ((0 : Int) ≤ -1 ∧ (-1 : Int) ≤ 1099511627776) = false by decide] at hit
  have HT : Hid (∀ w, Calls Try.prog 16 #[.int .i64 (-1)] w fun e w' => e = .returned (.bool false) ∧ w' = w) := hit
  clear hit
  go_enter Try.func9, Try.ntmps9
  go_wp2_with (go_at_call 16; refine (HT.out _).mono ?_; rintro e w ⟨rfl, rfl⟩)
  go_ret3
  exact ⟨rfl, rfl⟩
end Go.Proofs.Ytccddjfcceclnaa
