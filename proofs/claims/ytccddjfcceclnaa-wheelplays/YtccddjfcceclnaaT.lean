/-
  What take hands back: the timers of the slots that a time reaches; the slots are empty behind it.
-/
import Derived.Test.YtccddjfcceclnaaP
namespace Go.Proofs.Ytccddjfcceclnaa
open Go.ChangeShapes Go.WideShapes Go.ChangeAt Go.RowKit Go.Maps
set_option linter.unusedVariables false
set_option linter.unusedSimpArgs false
theorem cells_oneCell (l : List Tm) : ∀ u ∈ l.flatMap encT, u.oneCell' = true := by
  intro u hu
  obtain ⟨t, _, ht⟩ := List.mem_flatMap.1 hu
  simp [encT] at ht
  rcases ht with rfl | rfl | rfl <;> rfl
theorem run_append_slot (w : World) (ty : TypeId) (base B : Nat) {v u : Value} {n m : Nat} {xs : List Value} {l : List Tm} (hown : w.ownsRow base 69 3 v n xs) (hu : w.ownsRow B 69 3 u m (l.flatMap encT))
    (hb : n + m ≤ 2000) (hbase : base ≤ w.heap.size) :
    ∃ v' w', (Builtin.append_ #[46, 46] ty #[v, u]).run Try.prog w = .ok v' w' ∧ w'.ownsRow base 69 3 v' (n + m) (xs ++ l.flatMap encT) ∧ w.grownBy w' v.ownBlock ∧ (v'.ownBlock = v.ownBlock ∨ v'.ownBlock = some w.heap.size) := by
  obtain ⟨i0, hi, hz0, hz1, hz2⟩ := info_parts info69
  rcases hu.2 with ⟨rfl, rfl⟩ | ⟨g, cap, cur, rfl, h1, h2, h3, h4, h5, h6⟩
  · have e : l.flatMap encT = [] := List.eq_nil_of_length_eq_zero (by simpa using hu.1)
    rw [e]
    refine ⟨v, w, ?_, by simpa using hown, World.grownBy.refl _ _, Or.inl rfl⟩
    rcases hown.2 with ⟨rfl, rfl⟩ | ⟨g, cap, cur, rfl, h1, h2, h3, h4, h5, h6⟩
    · simp [Builtin.append_, run_underlying Try.underlying46, sizeOf, typeInfo, hi, Builtin.lenOf, Builtin.firstCells, loadCells, loadCellsFrom]
    · simp [Builtin.append_, run_underlying Try.underlying46, sizeOf, typeInfo, hi, Builtin.lenOf, Builtin.firstCells, loadCells, loadCellsFrom, h3, storeCells]
  · obtain ⟨v', w', r1, r2, r3, _, r5⟩ := run_append_own_at (P := Try.prog) w base 46 ty 69 i0 (.agg #[.int .i64 0, .int .i64 0, .int .i64 0]) 3 24 Try.underlying46 hi hz0 hz1 hz2 rfl (by omega) v n xs hown ⟨g, 0, none⟩ m cap (l.flatMap encT) hu.1 (hu.cells rfl) (cells_oneCell l) (by unfold maxLen; omega) (by omega) hbase
    exact ⟨v', w', r1, r2, r3, r5⟩
theorem wpList_append_slot (w : World) {ops : Array Oper} {rest : List Oper} {o : Oper} {a : Act} {Q : Exit → Act → World → Prop} (hgd : o.guard = none) (s x : Operand)
    (ho : o.op = .call { callee := .builtin .append, args := #[s, x], argTypes := #[46, 46] }) (base B : Nat) (v u : Value) (n m : Nat) (xs : List Value) (l : List Tm) (hs : a.eval s = v) (hx : a.eval x = u)
    (hown : w.ownsRow base 69 3 v n xs) (hu : w.ownsRow B 69 3 u m (l.flatMap encT)) (hb : n + m ≤ 2000) (hbase : base ≤ w.heap.size)
    (h : ∀ v' w', w'.ownsRow base 69 3 v' (n + m) (xs ++ l.flatMap encT) → w.grownBy w' v.ownBlock → (v'.ownBlock = v.ownBlock ∨ v'.ownBlock = some w.heap.size) → wpList Try.prog ops Q rest (a.put o.dst v') w') :
    wpList Try.prog ops Q (o :: rest) a w := by
  refine wpList_plain hgd fun K hK => ?_
  obtain ⟨v', w', hr, h2, h3, h5⟩ := run_append_slot w o.type base B hown hu hb hbase
  unfold Oper.wp execOp
  simp only [ho, resolve, invoke, builtin, Sem.run_bind, Sem.run_pure, Result.andThen_ok, List.map_toArray, List.map_cons, List.map_nil, hs, hx, hr]
  exact hK _ _ (h v' w' h2 h3 h5)
/-- The slots below m are taken out, in v. -/
structure Outs (w W : World) (B cb mb now ords : Nat) (V : Nat → Value) (T : Nat → List Tm) (m : Nat) (v : Value) : Prop where
  clk : Clk W B cb mb now ords (fun q => if q < m then .slice none 0 0 else V q) (fun q => if q < m then [] else T q)
  row : W.ownsRow w.heap.size 69 3 v ((List.range m).flatMap T).length (((List.range m).flatMap T).flatMap encT)
  turn : Turn (fun k => k = cb) w W
theorem outs_start {w : World} {B cb mb now ords : Nat} {V : Nat → Value} {T : Nat → List Tm} (C : Clk w B cb mb now ords V T) (n : Nat) : Outs w (w.drewN n) B cb mb now ords V T 0 (.slice none 0 0) := by
  refine ⟨?_, ?_, (Turn.refl _ _).drewN n⟩
  · simpa using C.drewN n
  · simpa using World.ownsRow_nil (w.drewN n) w.heap.size 69 3
theorem Outs.step {w W w1 : World} {B cb mb now ords : Nat} {V : Nat → Value} {T : Nat → List Tm} {m : Nat} {v v' : Value} (C : Clk w B cb mb now ords V T) (h : Outs w W B cb mb now ords V T m v) (hm : m < 448)
    (hown : w1.ownsRow w.heap.size 69 3 v' (((List.range m).flatMap T).length + (T m).length) (((List.range m).flatMap T).flatMap encT ++ (T m).flatMap encT)) (hg : W.grownBy w1 v.ownBlock) (hat : v'.ownBlock = v.ownBlock ∨ v'.ownBlock = some W.heap.size) :
    Outs w (w1.setCell ⟨cb, 2 + m, none⟩ (.slice none 0 0)) B cb mb now ords V T (m + 1) v' := by
  have hc : cb < w.heap.size := Nat.lt_of_lt_of_le C.cbB C.BS
  have hv : ∀ k, v.ownBlock = some k → w.heap.size ≤ k := fun k hk => (h.row.lt k hk).1
  have hold : ∀ q, q < 448 → ∀ k, (V q).ownBlock = some k → k < w.heap.size := fun q hq k hk => ((C.rows q hq).lt k hk).2
  have C1 : Clk w1 B cb mb now ords (fun q => if q < m then .slice none 0 0 else V q) (fun q => if q < m then [] else T q) := by
    refine h.clk.turn (S := fun k => v.ownBlock = some k) ⟨hg.os, hg.tape, hg.output, hg.size, fun k hk hne => hg.block k hk (fun e => hne e.symm)⟩ (fun k hk => ⟨fun e => ?_, fun q hq c => ?_⟩)
    · have := hv k hk; omega
    · have := hv k hk
      split at c
      · cases c
      · have := hold q hq k c; omega
  have C2 := C1.row hm (Turn.refl _ w1) (v := .slice none 0 0) (l := []) (by simpa using World.ownsRow_nil w1 B 69 3) (fun g hg => by cases hg)
  refine ⟨?_, ?_, ?_⟩
  · have e1 : updV (fun q => if q < m then .slice none 0 0 else V q) m (.slice none 0 0) = fun q => if q < m + 1 then .slice none 0 0 else V q := by
      funext q; simp only [updV]
      by_cases c : q = m
      · subst c; simp
      · by_cases d : q < m
        · simp [c, d, Nat.lt_succ_of_lt d]
        · have : ¬ q < m + 1 := by omega
          simp [c, d, this]
    have e2 : upd (fun q => if q < m then [] else T q) m [] = fun q => if q < m + 1 then [] else T q := by
      funext q; simp only [upd]
      by_cases c : q = m
      · subst c; simp
      · by_cases d : q < m
        · simp [c, d, Nat.lt_succ_of_lt d]
        · have : ¬ q < m + 1 := by omega
          simp [c, d, this]
    rw [← e1, ← e2]; exact C2
  · have e3 : (List.range (m + 1)).flatMap T = (List.range m).flatMap T ++ T m := by simp [List.range_succ, List.flatMap_append]
    rw [e3, List.flatMap_append, List.length_append]
    exact owns_block hown (fun k hk => RowKit.Below.heap_setCell _ _ _ _ (fun e => by
      have h1 := (hown.lt k hk).1
      simp at e; omega))
  · exact (h.turn.grown hg (fun k hk hlt => by have := hv k hk; omega)).setCell rfl _
set_option maxHeartbeats 4000000 in
theorem take_any (B cb mb now ords at' : Nat) (V : Nat → Value) (T : Nat → List Tm) (w : World) (C : Clk w B cb mb now ords V T)
    (hnow : now ≤ 1099511627776) (hat : at' ≤ 1099511627776) (hl : ∀ m, m ≤ 448 → ((List.range m).flatMap T).length ≤ 1000) :
    Calls Try.prog 28 #[.pointer (some ⟨cb, 0, none⟩), .int .i64 at'] w fun e w' => ∃ v, e = .returned v ∧ Outs w w' B cb mb now ords V T (ix now at' + 1) v := by
  have hix := ix_lt hnow hat
  have hixe : ix now at' = 64 * wh now at' + sl (wh now at') at' := rfl
  have hw6 := (wh_is hnow hat).1
  have hs64 : sl (wh now at') at' < 64 := Nat.mod_lt _ (by decide)
  have c0 := C.c0
  have HC : Hid (Clk w B cb mb now ords V T) := C
  have HL : Hid (∀ m, m ≤ 448 → ((List.range m).flatMap T).length ≤ 1000) := hl
  clear hl C
  go_enter Try.func28, Try.ntmps28
  go_wp2_with (go_at_call 34; refine (wheelOf_any _ _ hnow hat _).mono ?_; rintro e w1 ⟨rfl, nd, rfl⟩)
  generalize hwd : wh now at' = top at *
  have hso := fun W => slotOf_any top at' hw6 hat W
  generalize hsd : sl top at' = sd at *
  have HSO : Hid (∀ W, Calls Try.prog 35 #[.int .i64 top, .int .i64 at'] W fun e w' => e = .returned (.int .i64 sd) ∧ w' = W) := hso
  clear hso hwd hsd c0 hnow hat
  go_loopw [5, 18] (fun x i wr => ∃ k : Nat, k ≤ top + 1 ∧ i = .int .i64 k ∧ Outs w wr B cb mb now ords V T (if k ≤ top then 64 * k else ix now at' + 1) x) (fun _ i _ => top + 2 - (intOf i).toNat)
  case atStart => exact ⟨0, by omega, rfl, by simpa using outs_start HC.out nd⟩
  case round =>
    obtain ⟨k, hk, rfl, hO⟩ := hrel
    rcases (by omega : k < top ∨ k = top ∨ k = top + 1) with hkt | rfl | rfl
    · have hO : Outs w wr B cb mb now ords V T (64 * k + 0) u5 := by rw [if_pos (by omega)] at hO; exact hO
      have j1 : (k : Int) < (top : Int) + 1 := by omega
      have j2 : ((k : Int) == (top : Int)) = false := by simp; omega
      have HKT : Hid (k < top) := hkt
      go_wp2
      go_loopw [5, 29] (fun x i wr => ∃ s : Nat, s ≤ 64 ∧ i = .int .i64 s ∧ Outs w wr B cb mb now ords V T (64 * k + s) x) (fun _ i _ => 64 + 1 - (intOf i).toNat)
      case atStart => exact ⟨0, by omega, rfl, hO⟩
      case round =>
        obtain ⟨s, hs, rfl, hS⟩ := hrel
        by_cases hlt : s < 64
        · have hq : 64 * k + s < 448 := by omega
          have i1 : (0 : Int) ≤ (k : Int) := by omega
          have i2 : (k : Int) < 7 := by omega
          have i3 : (0 : Int) ≤ (s : Int) := by omega
          have i4 : (s : Int) < 64 := by omega
          have cq : wr.cell? ⟨cb, 2 + k * 64 + s, none⟩ = some (V (64 * k + s)) := by
            have := hS.clk.cv _ hq
            simp only [Nat.lt_irrefl, if_false] at this
            rw [← this]; congr 2; omega
          have hu : wr.ownsRow B 69 3 (V (64 * k + s)) (T (64 * k + s)).length ((T (64 * k + s)).flatMap encT) := by
            have := hS.clk.rows _ hq
            simpa only [Nat.lt_irrefl, if_false] using this
          have hb : ((List.range (64 * k + s)).flatMap T).length + (T (64 * k + s)).length ≤ 2000 := by
            have := HL.out (64 * k + s + 1) (by omega)
            rw [List.range_succ, List.flatMap_append] at this
            simp at this ⊢
            omega
          have HS : Hid (Outs w wr B cb mb now ords V T (64 * k + s) u5) := hS
          have HU : Hid (wr.ownsRow B 69 3 (V (64 * k + s)) (T (64 * k + s)).length ((T (64 * k + s)).flatMap encT)) := hu
          have HBd : Hid (((List.range (64 * k + s)).flatMap T).length + (T (64 * k + s)).length ≤ 2000) := hb
          have hsz := hS.turn.size
          have HSZ : Hid (w.heap.size ≤ wr.heap.size) := hsz
          have HNE : Hid (u5.ownBlock ≠ some cb) := by
            intro c
            have := (hS.row.lt cb c).1
            have := HC.out.cbB
            have := HC.out.BS
            omega
          have hfz := hS.clk.fz (2 + k * 64 + s)
          clear hS hu hb hsz hO
          go_wp2_with (at_builtin; go_loud (refine wpList_append_slot _ (by rfl) _ _ (by rfl) w.heap.size B _ _ _ _ _ (T (64 * k + s)) (by rfl) (by rfl) HS.out.row HU.out HBd.out HSZ.out ?_); intro v' w1 hown hg hat2; have g1 : w1.cell? ⟨cb, 2 + k * 64 + s, none⟩ = some (V (64 * k + s)) := hg.cell cq (Ne.symm HNE.out); have g2 : w1.frozen? ⟨cb, 2 + k * 64 + s, none⟩ = false := (hg.frozen_far ⟨cb, 2 + k * 64 + s, none⟩ (World.block_lt_of_cell? _ _ cq) (Ne.symm HNE.out)).trans hfz)
          go_roundw
          case rel =>
            refine ⟨s + 1, by omega, by go_num, ?_⟩
            have := HS.out.step HC.out hq hown hg hat2
            rw [show 2 + (64 * k + s) = 2 + k * 64 + s by omega] at this
            exact this
          case measure => simp [intOf]; omega
        · obtain rfl : s = 64 := by omega
          go_wp2
          go_roundw
          case rel => exact ⟨k + 1, by have := HKT.out; omega, by go_num, by rw [if_pos (by have := HKT.out; omega)]; exact hS⟩
          case measure => have := HKT.out; simp [intOf]; omega
    · have hO : Outs w wr B cb mb now ords V T (64 * k + 0) u5 := by rw [if_pos (by omega)] at hO; exact hO
      go_wp2_with (go_at_call 35; refine (HSO.out _).mono ?_; rintro e w1 ⟨rfl, rfl⟩)
      go_loopw [5, 29] (fun x i wr => ∃ s : Nat, s ≤ (sd + 1) ∧ i = .int .i64 s ∧ Outs w wr B cb mb now ords V T (64 * k + s) x) (fun _ i _ => (sd + 1) + 1 - (intOf i).toNat)
      case atStart => exact ⟨0, by omega, rfl, hO⟩
      case round =>
        obtain ⟨s, hs, rfl, hS⟩ := hrel
        by_cases hlt : s < (sd + 1)
        · have hq : 64 * k + s < 448 := by omega
          have i1 : (0 : Int) ≤ (k : Int) := by omega
          have i2 : (k : Int) < 7 := by omega
          have i3 : (0 : Int) ≤ (s : Int) := by omega
          have i4 : (s : Int) < 64 := by omega
          have cq : wr.cell? ⟨cb, 2 + k * 64 + s, none⟩ = some (V (64 * k + s)) := by
            have := hS.clk.cv _ hq
            simp only [Nat.lt_irrefl, if_false] at this
            rw [← this]; congr 2; omega
          have hu : wr.ownsRow B 69 3 (V (64 * k + s)) (T (64 * k + s)).length ((T (64 * k + s)).flatMap encT) := by
            have := hS.clk.rows _ hq
            simpa only [Nat.lt_irrefl, if_false] using this
          have hb : ((List.range (64 * k + s)).flatMap T).length + (T (64 * k + s)).length ≤ 2000 := by
            have := HL.out (64 * k + s + 1) (by omega)
            rw [List.range_succ, List.flatMap_append] at this
            simp at this ⊢
            omega
          have HS : Hid (Outs w wr B cb mb now ords V T (64 * k + s) u5) := hS
          have HU : Hid (wr.ownsRow B 69 3 (V (64 * k + s)) (T (64 * k + s)).length ((T (64 * k + s)).flatMap encT)) := hu
          have HBd : Hid (((List.range (64 * k + s)).flatMap T).length + (T (64 * k + s)).length ≤ 2000) := hb
          have hsz := hS.turn.size
          have HSZ : Hid (w.heap.size ≤ wr.heap.size) := hsz
          have HNE : Hid (u5.ownBlock ≠ some cb) := by
            intro c
            have := (hS.row.lt cb c).1
            have := HC.out.cbB
            have := HC.out.BS
            omega
          have hfz := hS.clk.fz (2 + k * 64 + s)
          clear hS hu hb hsz hO
          go_wp2_with (at_builtin; go_loud (refine wpList_append_slot _ (by rfl) _ _ (by rfl) w.heap.size B _ _ _ _ _ (T (64 * k + s)) (by rfl) (by rfl) HS.out.row HU.out HBd.out HSZ.out ?_); intro v' w1 hown hg hat2; have g1 : w1.cell? ⟨cb, 2 + k * 64 + s, none⟩ = some (V (64 * k + s)) := hg.cell cq (Ne.symm HNE.out); have g2 : w1.frozen? ⟨cb, 2 + k * 64 + s, none⟩ = false := (hg.frozen_far ⟨cb, 2 + k * 64 + s, none⟩ (World.block_lt_of_cell? _ _ cq) (Ne.symm HNE.out)).trans hfz)
          go_roundw
          case rel =>
            refine ⟨s + 1, by omega, by go_num, ?_⟩
            have := HS.out.step HC.out hq hown hg hat2
            rw [show 2 + (64 * k + s) = 2 + k * 64 + s by omega] at this
            exact this
          case measure => simp [intOf]; omega
        · obtain rfl : s = (sd + 1) := by omega
          go_wp2
          go_roundw
          case rel => exact ⟨k + 1, by omega, by go_num, by rw [if_neg (by omega), hixe]; exact hS⟩
          case measure => simp [intOf]
    · go_wp2
      go_ret
      rw [if_neg (by omega)] at hO
      exact ⟨_, rfl, hO⟩
end Go.Proofs.Ytccddjfcceclnaa
