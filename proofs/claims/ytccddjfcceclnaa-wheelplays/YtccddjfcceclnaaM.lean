/-
  What set answers, and what it leaves.
-/
import Derived.Test.YtccddjfcceclnaaI
namespace Go.Proofs.Ytccddjfcceclnaa
open Go.ChangeShapes Go.WideShapes Go.ChangeAt Go.RowKit Go.Maps
set_option linter.unusedVariables false
set_option linter.unusedSimpArgs false
section
variable (w : World) {ops : Array Oper} {rest : List Oper} {o : Oper} {a : Act} {Q : Exit → Act → World → Prop}
theorem wpList_len_mp (hg : o.guard = none) (m : Operand) (hop : o.op = Op.call { callee := Callee.builtin Builtin.len, args := #[m], argTypes := #[45] }) (mb : Nat) (M : Places) (n : Nat) (hm : a.eval m = .map (some mb)) (h : Mp w mb M n)
    (hK : wpList Try.prog ops Q rest (a.put o.dst (.int .i64 n)) w) : wpList Try.prog ops Q (o :: rest) a w := by
  refine wpList_plain hg fun K' hK' => ?_
  unfold Oper.wp
  simp [execOp, hop, resolve, invoke, builtin, hm, h.len o.type, Result.andThen]
  exact hK' _ _ hK
theorem wpList_look_mp (hg : o.guard = none) (m x : Operand) (hop : o.op = Op.lookup 45 m x true) (mb : Nat) (M : Places) (n : Nat) (hm : a.eval m = .map (some mb)) (h : Mp w mb M n) (id : Int) (hid : wfI id) (hx : a.eval x = .int .i64 id)
    (p : Nat × Nat × Nat) (b : Bool) (hp : (M id).getD (0, 0, 0) = p) (hb : (M id).isSome = b)
    (hK : wpList Try.prog ops Q rest (a.put o.dst (.tuple #[.agg #[.int .i64 p.1, .int .i64 p.2.1, .int .i64 p.2.2], .bool b])) w) : wpList Try.prog ops Q (o :: rest) a w := by
  refine wpList_plain hg fun K' hK' => ?_
  subst hp hb
  unfold Oper.wp
  simp [execOp, hop, hm, hx, h.look hid, Result.andThen]
  exact hK' _ _ hK
theorem wpList_delete_mp (hg : o.guard = none) (m x : Operand) (hop : o.op = Op.call { callee := Callee.builtin Builtin.delete, args := #[m, x], argTypes := #[45, 3] }) (mb : Nat) (M : Places) (n : Nat) (hm : a.eval m = .map (some mb)) (h : Mp w mb M n) (id : Int) (hid : wfI id) (hx : a.eval x = .int .i64 id)
    (hK : ∀ w', Mp w' mb (M.del id) (n - if (M id).isSome then 1 else 0) → w.mapTurned w' mb → wpList Try.prog ops Q rest (a.put o.dst (.tuple #[])) w') : wpList Try.prog ops Q (o :: rest) a w := by
  refine wpList_plain hg fun K' hK' => ?_
  obtain ⟨w', hrun, r1, r2⟩ := h.drop hid o.type
  unfold Oper.wp
  simp [execOp, hop, resolve, invoke, builtin, hm, hx, hrun, Result.andThen]
  exact hK' _ _ (hK w' r1 r2)
theorem step_delete_mp {E : Prop} {K : Act → World → Prop} (hg : o.guard = none) (m x : Operand) (hop : o.op = Op.call { callee := Callee.builtin Builtin.delete, args := #[m, x], argTypes := #[45, 3] }) (mb : Nat) (M : Places) (n : Nat) (hm : a.eval m = .map (some mb)) (h : Mp w mb M n) (id : Int) (hid : wfI id) (hx : a.eval x = .int .i64 id)
    (hK : ∀ w', Mp w' mb (M.del id) (n - if (M id).isSome then 1 else 0) → w.mapTurned w' mb → K (a.put o.dst (.tuple #[])) w') : if Region.wanted o (yielded ops a.tmps) = true then Oper.wp Try.prog o a w K Q else E := by
  have hw : Region.wanted o (yielded ops a.tmps) = true := by simp [Region.wanted, hg]
  rw [if_pos hw]
  obtain ⟨w', hrun, r1, r2⟩ := h.drop hid o.type
  unfold Oper.wp
  simp [execOp, hop, resolve, invoke, builtin, hm, hx, hrun, Result.andThen]
  exact hK w' r1 r2
end
/-- A clock in memory, and what it stands for. -/
structure St (w : World) (B cb mb : Nat) (s : Sp) (V : Nat → Value) (T : Nat → List Tm) (M : Places) : Prop where
  clk : Clk w B cb mb s.now s.ords V T
  mp : Mp w mb M s.L.length
  inv : Inv s.now s.L [] T M
  good : Good s
def After (B cb mb : Nat) (s' : Sp) (V : Nat → Value) (w w' : World) : Prop :=
  ∃ V' T' M', St w' B cb mb s' V' T' M' ∧ Turn (Own cb mb V) w w' ∧ ∀ k, Own cb mb V' k → Own cb mb V k ∨ w.heap.size ≤ k
theorem St.has {w : World} {B cb mb : Nat} {s : Sp} {V : Nat → Value} {T : Nat → List Tm} {M : Places} (h : St w B cb mb s V T M) (x : Int) : (M x).isSome = s.has x := by
  rw [Bool.eq_iff_iff, h.inv.there x, s.has_iff]; simp
theorem St.below {w w' : World} {B cb mb : Nat} {s : Sp} {V : Nat → Value} {T : Nat → List Tm} {M : Places} (h : St w B cb mb s V T M) (b : Below w.heap.size w w') : St w' B cb mb s V T M :=
  ⟨h.clk.turn (Turn.of_below (S := fun _ => False) b) (fun _ h => h.elim), h.mp.block (b.block mb h.mp.lt), h.inv, h.good⟩
theorem After.same {w w' : World} {B cb mb : Nat} {s : Sp} {V : Nat → Value} {T : Nat → List Tm} {M : Places} (h : St w B cb mb s V T M) (b : Below w.heap.size w w') : After B cb mb s V w w' :=
  ⟨V, T, M, h.below b, Turn.of_below b, fun k hk => Or.inl hk⟩
set_option maxHeartbeats 4000000 in
theorem set_any (B cb mb : Nat) (s : Sp) (V : Nat → Value) (T : Nat → List Tm) (M : Places) (id at' : Int) (w : World) (h : St w B cb mb s V T M) (hid : wfI id) (hat : wfI at') (ho : s.ords ≤ 2000) :
    Calls Try.prog 24 #[.pointer (some ⟨cb, 0, none⟩), .int .i64 id, .int .i64 at'] w fun e w' => e = .returned (.int .i64 (step s (1, id, at')).1) ∧ After B cb mb (step s (1, id, at')).2.2 V w w' := by
  have c0 := h.clk.c0
  have cm := h.clk.cm
  have HS : Hid (St w B cb mb s V T M) := h
  have hnow := h.good.now
  unfold mt at hnow
  have HI : Hid (wfI id) := hid
  have HA : Hid (wfI at') := hat
  have hit := isTime_any at'
  clear h hid hat
  unfold step
  simp only [if_true]
  rcases (by omega : id < 1 ∨ (¬ id < 1 ∧ 1048576 < id) ∨ (¬ id < 1 ∧ ¬ 1048576 < id ∧ at' ≤ s.now) ∨ (¬ id < 1 ∧ ¬ 1048576 < id ∧ ¬ at' ≤ s.now ∧ 1099511627776 < at') ∨ (¬ id < 1 ∧ ¬ 1048576 < id ∧ ¬ at' ≤ s.now ∧ ¬ 1099511627776 < at' ∧ 1000 ≤ s.L.length) ∨ (¬ id < 1 ∧ ¬ 1048576 < id ∧ ¬ at' ≤ s.now ∧ ¬ 1099511627776 < at' ∧ ¬ 1000 ≤ s.L.length)) with h1 | ⟨h1, h2⟩ | ⟨h1, h2, h3⟩ | ⟨h1, h2, h3, h4⟩ | ⟨h1, h2, h3, h4, h5⟩ | ⟨h1, h2, h3, h4, h5⟩
  · simp only [h1, true_or, if_true]
    clear hit
    go_enter Try.func24, Try.ntmps24
    go_wp2
    go_ret
    exact ⟨rfl, After.same HS.out (Below.refl _ _)⟩
  · simp only [h1, h2, or_true, if_true]
    clear hit
    go_enter Try.func24, Try.ntmps24
    go_wp2
    go_ret
    exact ⟨rfl, After.same HS.out (Below.refl _ _)⟩
  · simp only [h1, h2, h3, or_self, true_or, if_true, if_false]
    clear hit
    go_enter Try.func24, Try.ntmps24
    go_wp2
    go_ret
    exact ⟨rfl, After.same HS.out (Below.refl _ _)⟩
  · simp only [h1, h2, h3, h4, or_self, or_true, if_true, if_false]
    have e : decide (0 ≤ at' ∧ at' ≤ 1099511627776) = false := by simp; omega
    rw [e] at hit
    have HT : Hid (∀ w, Calls Try.prog 16 #[.int .i64 at'] w fun e w' => e = .returned (.bool false) ∧ w' = w) := hit
    clear hit e
    go_enter Try.func24, Try.ntmps24
    go_wp2_with (go_at_call 16; refine (HT.out _).mono ?_; rintro e w ⟨rfl, rfl⟩)
    go_ret
    exact ⟨rfl, After.same HS.out (Below.refl _ _)⟩
  · simp only [h1, h2, h3, h4, h5, or_self, if_true, if_false]
    have e : decide (0 ≤ at' ∧ at' ≤ 1099511627776) = true := by simp; omega
    rw [e] at hit
    have HT : Hid (∀ w, Calls Try.prog 16 #[.int .i64 at'] w fun e w' => e = .returned (.bool true) ∧ w' = w) := hit
    have h5' : (1000 : Int) ≤ (s.L.length : Int) := by omega
    clear hit e h5
    go_enter Try.func24, Try.ntmps24
    go_wp2_with (first | (go_at_call 16; refine (HT.out _).mono ?_; rintro e w ⟨rfl, rfl⟩) | (at_len; go_loud (refine wpList_len_mp _ (by rfl) _ (by rfl) mb M s.L.length (by rfl) HS.out.mp ?_)))
    go_ret
    exact ⟨rfl, After.same HS.out (Below.refl _ _)⟩
  · have hM := HS.out.has id
    obtain ⟨n, hn⟩ : ∃ n, s.L.length = n := ⟨_, rfl⟩
    have HN : Hid (s.L.length = n) := hn
    have HMp : Hid (Mp w mb M n) := by show Mp w mb M n; rw [← hn]; exact HS.out.mp
    clear hn
    have e : decide (0 ≤ at' ∧ at' ≤ 1099511627776) = true := by simp; omega
    rw [e] at hit
    have HT : Hid (∀ w, Calls Try.prog 16 #[.int .i64 at'] w fun e w' => e = .returned (.bool true) ∧ w' = w) := hit
    obtain ⟨p, hp⟩ : ∃ p, (M id).getD (0, 0, 0) = p := ⟨_, rfl⟩
    obtain ⟨p1, p2, p3⟩ := p
    have HP : Hid ((M id).getD (0, 0, 0) = (p1, p2, p3)) := hp
    by_cases hh : s.has id = true
    · simp only [h1, h2, h3, h4, h5, hh, or_self, if_true, if_false]
      rw [hh] at hM
      have HM : Hid ((M id).isSome = true) := hM
      have h5' : decide ((1000 : Int) ≤ (n : Int)) = false := by have := HN.out; simp; omega
      clear hit e h5 hM hh hp
      go_enter Try.func24, Try.ntmps24
      go_wp2_with (first | (go_at_call 16; refine (HT.out _).mono ?_; rintro e w ⟨rfl, rfl⟩) | (at_len; refine wpList_len_mp _ (by rfl) _ (by rfl) mb M n (by rfl) HMp.out ?_) | (at_lookup; refine wpList_look_mp _ (by rfl) _ _ (by rfl) mb M n (by rfl) HMp.out id HI.out (by rfl) (p1, p2, p3) true HP.out HM.out ?_))
      go_ret
      exact ⟨rfl, After.same HS.out (below_new' _ _)⟩
    · obtain ⟨i, rfl⟩ := Int.eq_ofNat_of_zero_le (show 0 ≤ id by omega)
      obtain ⟨a, rfl⟩ := Int.eq_ofNat_of_zero_le (show 0 ≤ at' by omega)
      have hh' : s.has (i : Int) = false := by simpa using hh
      have g := HS.out.good.step (1, (i : Int), (a : Int))
      unfold step at g
      simp only [if_true, h1, h2, h3, h4, h5, hh', or_self, if_false, Bool.false_eq_true] at g
      have HGd : Hid (Good ⟨s.now, s.ords + 1, s.L ++ [⟨(i : Int).toNat, (a : Int).toNat, s.ords + 1⟩]⟩) := g
      clear g
      simp only [h1, h2, h3, h4, h5, hh', or_self, if_false, Bool.false_eq_true]
      rw [hh'] at hM
      have HM : Hid ((M i).isSome = false) := hM
      have h5' : decide ((1000 : Int) ≤ (n : Int)) = false := by have := HN.out; simp; omega
      have c1 := HS.out.clk.c1
      have f1 := HS.out.clk.fz 1
      have ca : ∀ o, (w.alloc o).cell? ⟨cb, 1, none⟩ = some (.int .i64 s.ords) := fun o => cellA c1
      have hcb : cb < w.heap.size := Nat.lt_of_lt_of_le HS.out.clk.cbB HS.out.clk.BS
      have fa : ∀ o, (w.alloc o).frozen? ⟨cb, 1, none⟩ = false := fun o => (frozA (p := ⟨cb, 1, none⟩) hcb).trans f1
      have hne : w.heap.size ≠ cb := by omega
      have HG : Hid (¬ 1000 ≤ s.L.length) := h5
      have HA4 : Hid (¬ 1099511627776 < (a : Int)) := h4
      have HA3 : Hid (¬ (a : Int) ≤ s.now) := h3
      clear hit e h5 hM hh hp hh'
      go_enter Try.func24, Try.ntmps24
      go_wp2_with (first | (go_at_call 16; refine (HT.out _).mono ?_; rintro e w ⟨rfl, rfl⟩) | (at_len; refine wpList_len_mp _ (by rfl) _ (by rfl) mb M n (by rfl) HMp.out ?_) | (at_lookup; refine wpList_look_mp _ (by rfl) _ _ (by rfl) mb M n (by rfl) HMp.out i HI.out (by rfl) (p1, p2, p3) false HP.out HM.out ?_))
      obtain ⟨W, hW⟩ : ∃ W, W = (w.setCell ⟨cb, 1, none⟩ (.int .i64 (s.ords + 1))).alloc (.cells #[.int .i64 p1, .int .i64 p2, .int .i64 p3] 65) := ⟨_, rfl⟩
      have CW : Clk W B cb mb s.now (s.ords + 1) V T := by rw [hW]; exact (HS.out.clk.num.2 (s.ords + 1)).alloc _
      have MW : Mp W mb M n := by
        rw [hW]
        refine (HMp.out.block (w' := w.setCell ⟨cb, 1, none⟩ (.int .i64 (s.ords + 1))) (RowKit.Below.heap_setCell _ _ _ _ HS.out.clk.ne)).block ?_
        have hlt : mb < (w.setCell ⟨cb, 1, none⟩ (.int .i64 (s.ords + 1))).heap.size := by rw [World.size_setCell]; exact HMp.out.lt
        first | exact heap_alloc_old _ _ hlt | exact heap_alloc_old _ _ _ hlt
      have TW : Turn (Own cb mb V) w W := by rw [hW]; exact ((Turn.refl _ _).setCell (Or.inl rfl) _).alloc _
      rw [← hW]
      clear hW
      have hta : a ≤ 1099511627776 := by have := HA4.out; omega
      refine (put_any B cb mb s.now (s.ords + 1) V T M n ⟨i, a, s.ords + 1⟩ W CW MW (by omega) hta HI.out (by have := HN.out; have := HG.out; omega) (by
        have h1 := HS.out.inv.len (ix_lt (a := s.now) (b := a) (by omega) hta)
        have := HG.out
        show (T (ix s.now a)).length ≤ 1000
        omega)).mono ?_
      rintro e w' ⟨rfl, v, hC, hM, hT, hO⟩
      go_wp2
      go_ret
      refine ⟨rfl, _, _, M.put (i : Int) (wh s.now a, sl (wh s.now a) a, (T (ix s.now a)).length), ⟨hC, ?_, ?_, ?_⟩, TW.trans hT (fun k _ h => h), fun k hk => ?_⟩
      · rw [HM.out] at hM
        simpa [HN.out] using hM
      · exact HS.out.inv.put_new (t := ⟨i, a, s.ords + 1⟩) HM.out ⟨by have := HA3.out; show s.now < a; omega, by unfold mt; exact hta⟩
      · exact HGd.out
      · rcases hO k hk with h | h
        · exact Or.inl h
        · exact Or.inr (Nat.le_trans TW.size h)
end Go.Proofs.Ytccddjfcceclnaa
