/-
  What put leaves: the timer stands at the end of its slot, its place in the map.
-/
import Derived.Test.YtccddjfcceclnaaH
import Derived.Deep.RegionHeld3
import Derived.Deep.AppendLies
import Derived.Deep.RegionLaw
import Derived.OwnWalk
namespace Go.Proofs.Ytccddjfcceclnaa
open Go.ChangeShapes Go.WideShapes Go.ChangeAt Go.RowKit Go.Maps
set_option linter.unusedVariables false
set_option linter.unusedSimpArgs false
/-- The world behind a store into the map of places. -/
noncomputable def putW (mb : Nat) (x : Int) (p : Nat × Nat × Nat) (w : World) : World :=
  match (Instr.mapUpdate 45 (.map (some mb)) (.int .i64 x) (plV p)).run Try.prog w with
  | .ok _ w' => w'
  | _ => w
theorem Mp.putW_run {w : World} {mb : Nat} {M : Places} {n : Nat} (h : Mp w mb M n) {x : Int} (hx : wfI x) (hn : n ≤ 2000) (p : Nat × Nat × Nat) :
    (Instr.mapUpdate 45 (.map (some mb)) (.int .i64 x) (.agg #[.int .i64 p.1, .int .i64 p.2.1, .int .i64 p.2.2])).run Try.prog w = .ok () (putW mb x p w) ∧ Mp (putW mb x p w) mb (M.put x p) (if (M x).isSome then n else n + 1) ∧ w.mapTurned (putW mb x p w) mb := by
  obtain ⟨w', h1, h2, h3⟩ := h.store hx hn p
  have e : putW mb x p w = w' := by unfold putW; rw [h1]
  rw [e]
  exact ⟨h1, h2, h3⟩
theorem cell_of_turned {w w' : World} {b : Nat} (h : w.mapTurned w' b) {p : Addr} {v : Value} (hp : w.cell? p = some v) (hne : p.block ≠ b) : w'.cell? p = some v :=
  h.grown.cell hp (fun e => hne (by cases e; rfl))
theorem cellA {W : World} {p : Addr} {v : Value} {o : Obj} (h : W.cell? p = some v) : (W.alloc o).cell? p = some v := by
  have := World.block_lt_of_cell? W p h
  rw [← h]; exact World.cell?_of_block (by first | exact heap_alloc_old _ _ this | exact heap_alloc_old _ _ _ this)
theorem frozA {W : World} {p : Addr} {o : Obj} (h : p.block < W.heap.size) : (W.alloc o).frozen? p = W.frozen? p :=
  World.frozen?_of_block (by first | exact heap_alloc_old _ _ h | exact heap_alloc_old _ _ _ h)
theorem cellS {W : World} {b o : Nat} {p : Addr} {v u : Value} (h : W.cell? p = some v) (hne : p.block ≠ b) : (W.setCell ⟨b, o, none⟩ u).cell? p = some v := by
  rw [World.cell?_setCell_other _ _ _ _ (fun c => hne (by rw [← c]))]; exact h
theorem info69 : (Try.prog.info? 69).map (fun i => (i.zero, i.size, i.bytes)) = some (some (.agg #[.int .i64 0, .int .i64 0, .int .i64 0]), 3, 24) := by kernel_rfl
/-- What a put leaves. -/
def PutPost (B cb mb now ords : Nat) (V : Nat → Value) (T : Nat → List Tm) (M : Places) (n : Nat) (t : Tm) (w w' : World) : Prop :=
  ∃ v, Clk w' B cb mb now ords (updV V (ix now t.a) v) (upd T (ix now t.a) (T (ix now t.a) ++ [t])) ∧ Mp w' mb (M.put t.i (wh now t.a, sl (wh now t.a) t.a, (T (ix now t.a)).length)) (if (M t.i).isSome then n else n + 1) ∧
    Turn (Own cb mb V) w w' ∧ ∀ k, Own cb mb (updV V (ix now t.a) v) k → Own cb mb V k ∨ w.heap.size ≤ k
theorem put_end {B cb mb now ords : Nat} {V : Nat → Value} {T : Nat → List Tm} {M' : Places} {n' : Nat} {t : Tm} {w W2 w1 : World} {q len cap cap' g : Nat} {p : Option Addr} {o : Obj} (C : Clk W2 B cb mb now ords V T) (m : Mp W2 mb M' n') (tw : Turn (fun k => k = mb) w W2)
    (hq : q < 448) (hv : V q = .slice p len cap) (hl : (T q).length = len) (hown : w1.ownsRow B 69 3 (.slice (some ⟨g, 0, none⟩) (len + 1) cap') (len + 1) ((T q).flatMap encT ++ encT t))
    (hgrow : ((W2.alloc o).drew).grownBy w1 (Value.slice p len cap).ownBlock) (hat : (Value.slice p len cap).ownBlock = some g ∨ g = W2.heap.size + 1) :
    ∃ v, Clk (w1.setCell ⟨cb, 2 + q, none⟩ (.slice (some ⟨g, 0, none⟩) (len + 1) cap')) B cb mb now ords (updV V q v) (upd T q (T q ++ [t])) ∧ Mp (w1.setCell ⟨cb, 2 + q, none⟩ (.slice (some ⟨g, 0, none⟩) (len + 1) cap')) mb M' n' ∧
      Turn (Own cb mb V) w (w1.setCell ⟨cb, 2 + q, none⟩ (.slice (some ⟨g, 0, none⟩) (len + 1) cap')) ∧ ∀ k, Own cb mb (updV V q v) k → Own cb mb V k ∨ w.heap.size ≤ k := by
  rw [← hv] at hgrow hat
  have tr : Turn (fun k => (V q).ownBlock = some k) W2 w1 := (((Turn.refl _ _).alloc o).drew).grown hgrow (fun k hk _ => hk)
  have hat' : ∀ k, (Value.slice (some ⟨g, 0, none⟩) (len + 1) cap').ownBlock = some k → (V q).ownBlock = some k ∨ W2.heap.size ≤ k := fun k hk => by
    simp [Value.ownBlock] at hk
    subst hk
    rcases hat with h | h
    · exact Or.inl h
    · exact Or.inr (by omega)
  have hrow : w1.ownsRow B 69 3 (.slice (some ⟨g, 0, none⟩) (len + 1) cap') (T q ++ [t]).length ((T q ++ [t]).flatMap encT) := by
    simpa [hl] using hown
  have hm : mb < w1.heap.size := Nat.lt_of_lt_of_le m.lt tr.size
  have hnm : ¬ (V q).ownBlock = some mb := fun c => by have := ((C.rows q hq).lt mb c).1; have := C.mbB; omega
  refine ⟨_, C.row hq tr hrow hat', ?_, ?_, fun k hk => ?_⟩
  · refine (m.block (tr.block mb m.lt hnm)).block ?_
    exact RowKit.Below.heap_setCell _ _ _ _ C.ne
  · refine ((tw.mono (S := Own cb mb V) (fun k _ h => Or.inr (Or.inl h))).trans tr (fun k _ h => Or.inr (Or.inr ⟨q, hq, h⟩))).setCell (Or.inl rfl) _
  · rcases own_upd hq hat' k hk with h | h
    · exact Or.inl h
    · exact Or.inr (Nat.le_trans tw.size h)
set_option maxHeartbeats 4000000 in
theorem put_any (B cb mb now ords : Nat) (V : Nat → Value) (T : Nat → List Tm) (M : Places) (n : Nat) (t : Tm) (w : World) (C : Clk w B cb mb now ords V T) (m : Mp w mb M n)
    (hnow : now ≤ 1099511627776) (hta : t.a ≤ 1099511627776) (hti : wfI t.i) (hn : n ≤ 2000) (hl : (T (ix now t.a)).length ≤ 1000) :
    Calls Try.prog 27 #[.pointer (some ⟨cb, 0, none⟩), .agg #[.int .i64 t.i, .int .i64 t.a, .int .i64 t.o]] w fun e w' => e = .returned (.tuple #[]) ∧ PutPost B cb mb now ords V T M n t w w' := by
  have hq := ix_lt hnow hta
  have hw6 := (wh_is hnow hta).1
  have hs64 : sl (wh now t.a) t.a < 64 := Nat.mod_lt _ (by decide)
  obtain ⟨W, hW⟩ : ∃ W, W = w.alloc (.cells #[.int .i64 t.i, .int .i64 t.a, .int .i64 t.o] 69) := ⟨_, rfl⟩
  have CW : Clk W B cb mb now ords V T := by rw [hW]; exact C.alloc _
  have mW : Mp W mb M n := by rw [hW]; exact m.block (by first | exact heap_alloc_old _ _ m.lt | exact heap_alloc_old _ _ _ m.lt)
  have b0 : W.cell? ⟨w.heap.size, 0, none⟩ = some (.int .i64 t.i) := by rw [hW]; go_simp
  have b1 : W.cell? ⟨w.heap.size, 1, none⟩ = some (.int .i64 t.a) := by rw [hW]; go_simp
  have b2 : W.cell? ⟨w.heap.size, 2, none⟩ = some (.int .i64 t.o) := by rw [hW]; go_simp
  have c0 := CW.c0
  have tW : Turn (fun _ => False) w W := by rw [hW]; exact (Turn.refl _ _).alloc _
  have HC : Hid (Clk W B cb mb now ords V T) := CW
  have HM : Hid (Mp W mb M n) := mW
  have HT : Hid (Turn (fun _ => False) w W) := tW
  have HQ : Hid (ix now t.a < 448) := hq
  clear CW mW tW hq
  go_enter Try.func27, Try.ntmps27
  go_wp2_with fail
  rw [← hW]
  clear hW
  go_quiet ((go_at_call 34; refine Calls.quiet_of (wheelOf_any _ _ hnow hta _)))
  generalize hwd : wh now t.a = wd at *
  go_wp2_with (go_at_call 35; refine (slotOf_any _ _ hw6 hta _).mono ?_; rintro e w' ⟨rfl, rfl⟩)
  generalize hsd : sl wd t.a = sd at *
  have hqe : ix now t.a = 64 * wd + sd := by unfold ix; rw [hwd, hsd]
  have i1 : (0 : Int) ≤ (wd : Int) := by omega
  have i2 : (wd : Int) < 7 := by omega
  have i3 : (0 : Int) ≤ (sd : Int) := by omega
  have i4 : (sd : Int) < 64 := by omega
  obtain ⟨p, cap, hv⟩ : ∃ p cap, V (ix now t.a) = .slice p (T (ix now t.a)).length cap := by
    rcases (HC.out.rows _ HQ.out).2 with ⟨h1, h2⟩ | ⟨g, cap, cur, h1, _⟩
    · exact ⟨none, 0, by rw [h1, h2]⟩
    · exact ⟨_, cap, h1⟩
  have cq : W.cell? ⟨cb, 2 + wd * 64 + sd, none⟩ = some (.slice p (T (ix now t.a)).length cap) := by
    rw [← hv, ← HC.out.cv _ HQ.out, hqe]; congr 2; omega
  have cm := HC.out.cm
  generalize hln : (T (ix now t.a)).length = len at *
  have hrun : ∀ k, (Instr.mapUpdate 45 (.map (some mb)) (.int .i64 t.i) (.agg #[.int .i64 wd, .int .i64 sd, .int .i64 len])).run Try.prog (W.drewN k) = .ok () (putW mb t.i (wd, sd, len) (W.drewN k)) := fun k =>
    ((HM.out.block (w' := W.drewN k) rfl).putW_run hti hn (wd, sd, len)).1
  have hk : ∀ k, Mp (putW mb t.i (wd, sd, len) (W.drewN k)) mb (M.put t.i (wd, sd, len)) (if (M t.i).isSome then n else n + 1) ∧ (W.drewN k).mapTurned (putW mb t.i (wd, sd, len) (W.drewN k)) mb := fun k =>
    ((HM.out.block (w' := W.drewN k) rfl).putW_run hti hn (wd, sd, len)).2
  have hmc : mb < w.heap.size := m.lt
  have k1 : ∀ k, (putW mb t.i (wd, sd, len) (W.drewN k)).cell? ⟨cb, 450, none⟩ = some (.map (some mb)) := fun k => cell_of_turned (hk k).2 cm HC.out.ne.symm
  have k2 : ∀ k, (putW mb t.i (wd, sd, len) (W.drewN k)).cell? ⟨w.heap.size, 0, none⟩ = some (.int .i64 t.i) := fun k => cell_of_turned (hk k).2 b0 (by simp; omega)
  have k3 : ∀ k, (putW mb t.i (wd, sd, len) (W.drewN k)).cell? ⟨cb, 2 + wd * 64 + sd, none⟩ = some (.slice p len cap) := fun k => cell_of_turned (hk k).2 cq HC.out.ne.symm
  have HK : Hid (∀ k, Mp (putW mb t.i (wd, sd, len) (W.drewN k)) mb (M.put t.i (wd, sd, len)) (if (M t.i).isSome then n else n + 1) ∧ (W.drewN k).mapTurned (putW mb t.i (wd, sd, len) (W.drewN k)) mb) := hk
  have HV : Hid (V (ix now t.a) = .slice p len cap) := hv
  have HL : Hid ((T (ix now t.a)).length = len) := hln
  have HE : Hid (ix now t.a = 64 * wd + sd) := hqe
  have HB : Hid (mb < w.heap.size) := hmc
  have HWD : Hid (wh now t.a = wd) := hwd
  have HSD : Hid (sl wd t.a = sd) := hsd
  have Hm : Hid (Mp w mb M n) := m
  clear hv hln hqe hwd hsd c0 hs64 hw6 hnow hta hk hmc m
  go_region_held3 (fun w' => w'.cell? ⟨cb, 450, none⟩ = some (.map (some mb)) ∧ w'.cell? ⟨w.heap.size, 0, none⟩ = some (.int .i64 t.i) ∧ w'.cell? ⟨cb, 2 + wd * 64 + sd, none⟩ = some (.slice p len cap)) (go_keep) (fail)
  go_wp2_with fail
  obtain ⟨W2, hW2⟩ : ∃ W2, W2 = putW mb t.i (wd, sd, len) (W.drewN (nq + 1)) := ⟨_, rfl⟩
  have tmb : Turn (fun k => k = mb) W W2 := by
    rw [hW2]
    exact ((Turn.refl _ _).drewN (nq + 1)).grown (HK.out (nq + 1)).2.grown (fun k hk _ => by cases hk; rfl)
  have C2 : Clk W2 B cb mb now ords V T := HC.out.turn tmb (fun k hk => by
    subst hk
    exact ⟨HC.out.ne, fun q hq c => by have := ((HC.out.rows q hq).lt k c).1; have := HC.out.mbB; omega⟩)
  have M2 : Mp W2 mb (M.put t.i (wd, sd, len)) (if (M t.i).isSome then n else n + 1) := by rw [hW2]; exact (HK.out (nq + 1)).1
  have hs1 : w.heap.size < W.heap.size := World.block_lt_of_cell? W ⟨w.heap.size, 0, none⟩ b0
  have hne1 : w.heap.size ≠ mb := by have := HB.out; omega
  have d0 : W2.cell? ⟨w.heap.size, 0, none⟩ = some (.int .i64 t.i) := (tmb.cell (p := ⟨w.heap.size, 0, none⟩) hs1 hne1).trans b0
  have d1 : W2.cell? ⟨w.heap.size, 1, none⟩ = some (.int .i64 t.a) := (tmb.cell (p := ⟨w.heap.size, 1, none⟩) hs1 hne1).trans b1
  have d2 : W2.cell? ⟨w.heap.size, 2, none⟩ = some (.int .i64 t.o) := (tmb.cell (p := ⟨w.heap.size, 2, none⟩) hs1 hne1).trans b2
  have dq : W2.cell? ⟨cb, 2 + wd * 64 + sd, none⟩ = some (.slice p len cap) := by rw [hW2]; exact k3 _
  have df := C2.fz
  have dqa : ∀ o, (W2.alloc o).cell? ⟨cb, 2 + wd * 64 + sd, none⟩ = some (.slice p len cap) := fun o => cellA dq
  have T2 : Turn (fun k => k = mb) w W2 := (HT.out.mono (fun _ _ h => h.elim)).trans tmb (fun _ _ h => h)
  have hcb : cb < w.heap.size := by
    have h1 := HC.out.cbB
    have h2 := C.BS
    omega
  rw [← hW2]
  clear hW2 k1 k2 k3 b0 b1 b2 cm cq hrun HK HM
  have H2 : Hid (Clk W2 B cb mb now ords V T) := C2
  have HM2 : Hid (Mp W2 mb (M.put t.i (wd, sd, len)) (if (M t.i).isSome then n else n + 1)) := M2
  have HT2 : Hid (Turn (fun k => k = mb) w W2) := T2
  have hsz2 : w.heap.size < W2.heap.size := World.block_lt_of_cell? W2 ⟨w.heap.size, 0, none⟩ d0
  have e1 : W2.heap.size ≠ w.heap.size := by omega
  have e2 : W2.heap.size ≠ cb := by omega
  have e3 : w.heap.size ≠ cb := by omega
  have N1 : Hid (some w.heap.size ≠ (Value.slice p len cap).ownBlock) := by
    show _ ≠ _
    rw [← HV.out]
    intro c
    have := ((C.rows _ HQ.out).lt w.heap.size c.symm).2
    omega
  have N2 : Hid (some cb ≠ (Value.slice p len cap).ownBlock) := by
    show _ ≠ _
    rw [← HV.out]
    intro c
    have := ((HC.out.rows _ HQ.out).lt cb c.symm).1
    have := HC.out.cbB
    omega
  have hrow : Hid (W2.ownsRow B 69 3 (.slice p len cap) len ((T (ix now t.a)).flatMap encT)) := by
    show W2.ownsRow _ _ _ _ _ _
    have := C2.rows _ HQ.out
    rw [HV.out, HL.out] at this
    exact this
  obtain ⟨i0, hi, hz0, hz1, hz2⟩ := info_parts info69
  have HI : Hid (Try.prog.info? 69 = some i0 ∧ i0.zero = some (.agg #[.int .i64 0, .int .i64 0, .int .i64 0]) ∧ i0.size = 3 ∧ i0.bytes = 24) := ⟨hi, hz0, hz1, hz2⟩
  have HBS : Hid (B ≤ W2.heap.size) := C2.BS
  have HL1 : Hid (len ≤ 1000) := hl
  have HCB : Hid (cb < W2.heap.size) := by show cb < W2.heap.size; omega
  clear hi hz0 hz1 hz2 C2 M2 T2 tmb HC hs1 hsz2 hne1 C hl HT
  go_region_law
    ((refine step_append_lies _ (by rfl) _ _ _ (by rfl) B 69 i0 (.agg #[.int .i64 0, .int .i64 0, .int .i64 0]) 3 24 Try.underlying46 HI.out.1 HI.out.2.1 HI.out.2.2.1 HI.out.2.2.2 rfl (by omega) (.slice p len cap) len _ (by rfl) (hrow.out.alloc _) ⟨W2.heap.size, 0, none⟩ 1 1 (encT t) (by rfl) (by rfl) (World.news_of_block (heap_alloc_new _ _)) (by simp [encT, Value.oneCell']) (by omega) (by have := HL1.out; unfold maxLen; omega) (by have := HL1.out; omega) (by simp; exact Nat.le_succ_of_le HBS.out) (W2.heap.size + 1) (by simp) ?_; intro g cap' w1 hown hgrow hat hlt; have s1 : w1.cell? ⟨cb, 2 + wd * 64 + sd, none⟩ = some (.slice p len cap) := hgrow.cell (cellA dq) N2.out; have s2 : w1.frozen? ⟨cb, 2 + wd * 64 + sd, none⟩ = false := (hgrow.frozen_far ⟨cb, 2 + wd * 64 + sd, none⟩ (by simp; have := HCB.out; omega) N2.out).trans ((frozA (p := ⟨cb, 2 + wd * 64 + sd, none⟩) HCB.out).trans (df _))))
  all_goals go_wp2
  all_goals
    go_end0
    refine ⟨rfl, ?_⟩
    have hfin := put_end (t := t) (w := w) (M' := M.put t.i (wd, sd, len)) (n' := if (M t.i).isSome then n else n + 1) H2.out HM2.out HT2.out HQ.out HV.out HL.out hown hgrow hat
    rw [show 2 + wd * 64 + sd = 2 + ix now t.a by rw [HE.out]; omega]
    obtain ⟨v, h1, h2, h3, h4⟩ := hfin
    exact ⟨v, h1, by rw [HWD.out, HSD.out, HL.out]; exact h2, h3, h4⟩
end Go.Proofs.Ytccddjfcceclnaa
