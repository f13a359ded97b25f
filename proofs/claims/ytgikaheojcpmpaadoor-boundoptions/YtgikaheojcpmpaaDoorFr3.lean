/-
  Options that came in; the table of inverses; a copy of options; BoundOptions: the walk.
-/
import Derived.Test.YtgikaheojcpmpaaDoorOc
import Derived.LaidMore
import Derived.Stop.Joined
import Derived.Deep.Slices
import Derived.Deep.Strs
import Derived.SizedLaws
import Derived.Lib.SmallJoins
namespace Go.Proofs.YtgikaheojcpmpaaDoor
open Go.ChangeShapes Go.WideShapes Go.ChangeAt Go.RowKit Go.Maps Go.Deep Go.Joins
set_option linter.unusedVariables false
set_option linter.unusedSimpArgs false
set_option maxRecDepth 20000
theorem gInv : Tryd.prog.globalNamed "dotterel/tick.inverses" = some 0 := by kernel_rfl
theorem tInv : (Tryd.prog.globals[0]?).map (·.type) = some 62 := by kernel_rfl
theorem laid_list (i : Nat) (h1 : 1 ≤ i) (hi : i < 14) : ([.lit (.int .i64 0), .lit (.int .i64 2), .lit (.int .i64 1), .lit (.int .i64 4), .lit (.int .i64 3), .lit (.int .i64 6), .lit (.int .i64 5), .lit (.int .i64 8), .lit (.int .i64 7), .lit (.int .i64 10), .lit (.int .i64 9), .lit (.int .i64 12), .lit (.int .i64 11), .lit (.int .i64 13)] : List (DataW Unit))[i]? = some (.lit (.int .i64 (invN i : Nat))) := by
  rcases (by omega : i = 1 ∨ i = 2 ∨ i = 3 ∨ i = 4 ∨ i = 5 ∨ i = 6 ∨ i = 7 ∨ i = 8 ∨ i = 9 ∨ i = 10 ∨ i = 11 ∨ i = 12 ∨ i = 13) with rfl | rfl | rfl | rfl | rfl | rfl | rfl | rfl | rfl | rfl | rfl | rfl | rfl <;> rfl
theorem laid_cells {W : World} (h : laidMetH Tryd.prog [("dotterel/tick.inverses", Rows.laid_dotterel_tick_inverses)] W) : Tab W := by
  rw [MakeChecks.laidMetH_plain _ _ _ (by kernel_rfl)] at h
  obtain ⟨ps, ⟨g0, t0, cs0, f0, p0, q0, hg0, ht0, hv0, hd0, _, _⟩, _, _⟩ := h
  obtain rfl := Option.some.inj (gInv.symm.trans hg0)
  obtain rfl := Option.some.inj (tInv.symm.trans ht0)
  obtain ⟨xs, m, rfl, hx, hlen, hn, hel⟩ := DataW.trod_array Tryd.underlying62 hd0
  have c3 : Tryd.prog.cellsOf 3 = 1 := by kernel_rfl
  simp only [Prod.mk.injEq, Rows.laid_dotterel_tick_inverses, DataW.agg.injEq] at hx
  have hxl := hx.1
  have key : ∀ i : Nat, 1 ≤ i → i < 14 → W.cell? ⟨0, i, none⟩ = some (.int .i64 (invN i : Nat)) := by
    intro i h1 hi
    have he := hel i hi
    rw [c3] at he
    have hlt : i < xs.length := by omega
    rw [List.getElem?_eq_getElem hlt] at he
    obtain ⟨k, e1, e2, _⟩ := DataW.trod_int Tryd.underlying3 he
    have hk := laid_list i h1 hi
    rw [hxl, List.getElem?_map, List.getElem?_eq_getElem hlt] at hk
    simp only [Option.map_some, e2, Option.some.injEq, DataW.lit.injEq, Lit.int.injEq, true_and] at hk
    subst hk
    have hc := World.var?_cell hg0 hv0 i
    rw [hc]
    have e3 : (cs0.toList.drop (i * 1)).take 1 = [.int .i64 (invN i : Nat)] := e1
    have e4 : cs0.toList[i]? = some (.int .i64 (invN i : Nat)) := by
      have := congrArg (fun l => l[0]?) e3
      simpa using this
    simpa using e4
  exact ⟨World.block_lt_of_cell? _ _ (key 1 (by decide) (by decide)), fun k h1 h2 => key k h1 (by omega)⟩
theorem cells3o {w : World} {base : Nat} {a : Addr} {cs : List Value} (h : w.cells? base a 3 = some cs) : ∃ x y z, cs = [x, y, z] ∧ w.cell? (a.add 0) = some x ∧ w.cell? (a.add 1) = some y ∧ w.cell? (a.add 2) = some z := by
  unfold World.cells? at h
  split at h
  · simp [List.range_succ, List.mapM_cons] at h
    cases h0 : w.cell? (a.add 0) with
    | none => simp [h0] at h
    | some x =>
      cases h1 : w.cell? (a.add 1) with
      | none => simp [h0, h1] at h
      | some y =>
        cases h2 : w.cell? (a.add 2) with
        | none => simp [h0, h1, h2] at h
        | some z =>
          simp [h0, h1, h2] at h
          exact ⟨x, y, z, h.symm, rfl, rfl, rfl⟩
  · cases h
theorem spot_noneo {w : World} {a : Addr} {v : Value} (h : w.cell? a = some v) : a.spot = none := by
  unfold World.cell? at h
  split at h
  · split at h
    · cases h
    · rename_i hs
      cases hp : a.spot with
      | none => rfl
      | some _ => rw [hp] at hs; simp at hs
  · cases h
theorem spot_ofo {x : Addr} (hs : (x.add 0).spot = none) : x.spot = none := by
  cases hxs : x.spot with
  | none => rfl
  | some q =>
    exfalso
    cases x
    simp at hxs
    subst hxs
    revert hs
    simp [Addr.add]
theorem key_ofo {x : Addr} (hx0 : x.spot = none) : ∀ k, x.add k = ⟨x.block, x.off + k, none⟩ := fun k => by
  cases x; simp at hx0; subst hx0; exact Addr.add_mid _ _ _
theorem addr_ofo {x : Addr} (hx0 : x.spot = none) : x = ⟨x.block, x.off, none⟩ := by cases x; simp at hx0; subst hx0; rfl
theorem cOpt : Tryd.prog.cellsOf 31 = 3 := by kernel_rfl
theorem cInt : Tryd.prog.cellsOf 3 = 1 := by kernel_rfl
theorem bytesO : Tryd.prog.bytesOf 31 = 24 := by kernel_rfl
theorem infoO : (Tryd.prog.info? 31).map (fun i => (i.zero, i.size, i.bytes)) = some (some (.agg #[.int .i64 0, .int .i64 0, .int .i64 0]), 3, 24) := by kernel_rfl
theorem open_opts {H : Type} {enc : TypeId × Value → H} {W : World} {base b0 : Nat} {r : Reach} {spare : Nat → Bool} {held : Bool} {v : Value} {d : DataW H} {p : List MemPlace} {ts : List TypeId} {ds : List (DataW H)} {j : Nat}
    (hv : Value.okWide Tryd.prog W r b0 22 v) (h : DataW.Trod enc Tryd.prog W base spare held 22 v d p) (hsz : (DataW.weightsEach Tryd.prog ts ds).all (· ≤ reachBytes) = true) (h1 : ts[j]? = some 22) (h2 : ds[j]? = some d) : ∃ n o, OptsAt W v n o ∧ n * 24 ≤ 140737488355328 := by
  obtain ⟨s, n, c, rfl⟩ := okWide_slice Tryd.underlying22 hv
  obtain ⟨fuel, hf⟩ := h
  rcases open_slice Tryd.underlying22 (by simpa [Value.cells] using hf) with ⟨hcs, _⟩ | ⟨x, l, c', m, n', D, Pl, hcs, _, hl, hm, hme, hx, hcell⟩
  · simp at hcs
    obtain ⟨rfl, rfl, rfl⟩ := hcs
    exact ⟨0, fun _ => ⟨0, 0, 0⟩, ⟨none, 0, rfl, Nat.le_refl _, Nat.zero_le _, fun h => by omega⟩, by omega⟩
  · simp at hcs
    obtain ⟨rfl, rfl, rfl⟩ := hcs
    have hlm : n ≤ m := by rw [hme]; split <;> omega
    have each : ∀ i, i < n → ∃ y : Op3, W.cell? (x.add (i * 3)) = some (.int .i64 y.r) ∧ W.cell? (x.add (i * 3 + 1)) = some (.int .i64 y.lo) ∧ W.cell? (x.add (i * 3 + 2)) = some (.int .i64 y.hi) := fun i hi => by
      obtain ⟨cs', hq1, hq2⟩ := hcell i (by omega)
      rw [cOpt] at hq1
      obtain ⟨u0, u1, u2, rfl, q0, q1, q2⟩ := cells3o hq1
      obtain ⟨y0, y1, y2, k', _, _, r0, r1, r2⟩ := trod_struct3 Tryd.underlying31 hq2
      simp [cInt] at r0 r1 r2
      obtain ⟨a0, s0, _, w0⟩ := DataW.trod_int Tryd.underlying3 r0
      obtain ⟨a1, s1, _, w1⟩ := DataW.trod_int Tryd.underlying3 r1
      obtain ⟨a2, s2, _, w2⟩ := DataW.trod_int Tryd.underlying3 r2
      simp at s0 s1 s2
      subst s0 s1 s2
      rw [add_add] at q0 q1 q2
      exact ⟨⟨a0, a1, a2⟩, q0, q1, q2⟩
    obtain ⟨o, ho⟩ : ∃ o : Nat → Op3, ∀ i, i < n → W.cell? (x.add (i * 3)) = some (.int .i64 (o i).r) ∧ W.cell? (x.add (i * 3 + 1)) = some (.int .i64 (o i).lo) ∧ W.cell? (x.add (i * 3 + 2)) = some (.int .i64 (o i).hi) := by
      refine ⟨fun i => if h : i < n then (each i h).choose else ⟨0, 0, 0⟩, fun i hi => ?_⟩
      simp only [hi, dif_pos]
      exact (each i hi).choose_spec
    refine ⟨n, o, ⟨some x, c, rfl, hl, hm, fun h0 => ?_⟩, ?_⟩
    · have hs : x.spot = none := spot_ofo (by have := spot_noneo (ho 0 h0).1; simpa using this)
      refine ⟨x.block, x.off, by rw [← addr_ofo hs], fun i hi => ?_⟩
      obtain ⟨e1, e2, e3⟩ := ho i hi
      rw [key_ofo hs] at e1 e2 e3
      exact ⟨e1, by rw [Nat.add_assoc]; exact e2, by rw [Nat.add_assoc]; exact e3⟩
    · simp at hx
      have := hx.1
      subst this
      have hz := sized_slice hsz h1 h2 Tryd.underlying22
      rw [bytesO] at hz
      have hr : reachBytes ≤ 140737488355328 := by decide
      simp at hz
      omega
def flO (o : Nat → Op3) (n : Nat) : List Value := (List.range n).flatMap fun i => [.int .i64 (o i).r, .int .i64 (o i).lo, .int .i64 (o i).hi]
theorem flO_succ (o : Nat → Op3) (n : Nat) : flO o (n + 1) = flO o n ++ [.int .i64 (o n).r, .int .i64 (o n).lo, .int .i64 (o n).hi] := by simp [flO, List.range_succ]
theorem flO_len (o : Nat → Op3) : ∀ n, (flO o n).length = n * 3
  | 0 => rfl
  | n + 1 => by rw [flO_succ, List.length_append, flO_len o n]; simp; omega
theorem flO_at (o : Nat → Op3) : ∀ (n i : Nat), i < n → (flO o n)[i * 3]? = some (.int .i64 (o i).r) ∧ (flO o n)[i * 3 + 1]? = some (.int .i64 (o i).lo) ∧ (flO o n)[i * 3 + 2]? = some (.int .i64 (o i).hi)
  | n + 1, i, h => by
    rw [flO_succ]
    have hl := flO_len o n
    by_cases c : i = n
    · subst c
      refine ⟨?_, ?_, ?_⟩ <;> rw [List.getElem?_append_right (by omega)] <;> simp [hl]
    · obtain ⟨h1, h2, h3⟩ := flO_at o n i (by omega)
      refine ⟨?_, ?_, ?_⟩ <;> rw [List.getElem?_append_left (by omega)] <;> assumption
theorem flO_one (o : Nat → Op3) (n : Nat) : ∀ u ∈ flO o n, u.oneCell' = true := by
  intro u hu
  obtain ⟨t, _, ht⟩ := List.mem_flatMap.1 hu
  simp at ht
  rcases ht with rfl | rfl | rfl <;> rfl
theorem opts_own {w : World} {base : Nat} {v : Value} {n : Nat} {o : Nat → Op3} (h : w.ownsRow base 31 3 v n (flO o n)) : OptsAt w v n o := by
  rcases h.2 with ⟨h1, h2⟩ | ⟨g, cap, cur, rfl, h1, h2, h3, h4, _⟩
  · exact ⟨none, 0, by rw [h1, h2], by omega, Nat.zero_le _, fun c => by omega⟩
  · refine ⟨_, cap, rfl, h3, h4, fun _ => ⟨g, 0, rfl, fun j hj => ?_⟩⟩
    obtain ⟨q0, q1, q2⟩ := flO_at o n j hj
    rw [Nat.zero_add]
    refine ⟨?_, ?_, ?_⟩ <;> rw [h.cellAt _ (by omega)] <;> assumption
theorem run_copyO (w : World) (ty : TypeId) {v : Value} {n : Nat} {o : Nat → Op3} (hd : OptsAt w v n o) (hb : n * 24 ≤ 140737488355328) :
    ∃ v' w', (Builtin.append_ #[22, 22] ty #[.slice none 0 0, v]).run Tryd.prog w = .ok v' w' ∧ OptsAt w' v' n o ∧ Below w.heap.size w w' := by
  obtain ⟨i0, hi, hz0, hz1, hz2⟩ := info_parts' infoO
  obtain ⟨p, cap, rfl, _, _, hp⟩ := hd
  by_cases h0 : n = 0
  · subst h0
    refine ⟨.slice none 0 0, w, ?_, ⟨none, 0, rfl, Nat.le_refl _, Nat.zero_le _, fun h => by omega⟩, Below.refl _ _⟩
    cases p <;> simp [Builtin.append_, run_underlying Tryd.underlying22, sizeOf, typeInfo, hi, Builtin.lenOf, Builtin.firstCells, loadCells, loadCellsFrom]
  · obtain ⟨g, off, rfl, hc⟩ := hp (by omega)
    obtain ⟨v', w', r1, r2, r3, _, r5⟩ := run_append_own_at (P := Tryd.prog) w w.heap.size 22 ty 31 i0 (.agg #[.int .i64 0, .int .i64 0, .int .i64 0]) 3 24 Tryd.underlying22 hi hz0 hz1 hz2 rfl (by omega) (.slice none 0 0) 0 [] (World.ownsRow_nil w w.heap.size 31 3) ⟨g, off, none⟩ n cap (flO o n) (flO_len _ _) (fun r u hr => by
      have hlt := (List.getElem?_eq_some_iff.1 hr).1
      rw [flO_len] at hlt
      have hq : r / 3 < n := by omega
      obtain ⟨a0, a1, a2⟩ := flO_at o n (r / 3) hq
      obtain ⟨c0, c1, c2⟩ := hc (r / 3) hq
      rw [Addr.add_mid]
      rcases (by omega : r = r / 3 * 3 ∨ r = r / 3 * 3 + 1 ∨ r = r / 3 * 3 + 2) with h | h | h
      · rw [h] at hr ⊢; rw [a0] at hr; cases hr; exact c0
      · rw [h] at hr ⊢; rw [a1] at hr; cases hr; rw [← Nat.add_assoc]; exact c1
      · rw [h] at hr ⊢; rw [a2] at hr; cases hr; rw [← Nat.add_assoc]; exact c2) (flO_one o n) (by unfold maxLen; omega) (by omega) (Nat.le_refl _)
    refine ⟨v', w', r1, opts_own (by simpa using r2), ?_⟩
    exact (Below.refl _ _).grown r3 (Nat.le_refl _) (fun k hk => by cases hk)
theorem wp_copyO {ops : Array Oper} {rest : List Oper} {x0 : Oper} {a : Act} {w : World} {Q : Exit → Act → World → Prop} (hgd : x0.guard = none) (s x : Operand)
    (ho : x0.op = .call { callee := .builtin .append, args := #[s, x], argTypes := #[22, 22] }) (v : Value) (n : Nat) (o : Nat → Op3) (hs : a.eval s = .slice none 0 0) (hx : a.eval x = v) (hd : OptsAt w v n o) (hb : n * 24 ≤ 140737488355328)
    (h : ∀ v' w', OptsAt w' v' n o → Below w.heap.size w w' → wpList Tryd.prog ops Q rest (a.put x0.dst v') w') : wpList Tryd.prog ops Q (x0 :: rest) a w := by
  refine wpList_plain hgd fun K hK => ?_
  obtain ⟨v', w', hr, h2, h3⟩ := run_copyO w x0.type hd hb
  unfold Oper.wp execOp
  simp only [ho, resolve, invoke, builtin, Sem.run_bind, Sem.run_pure, Result.andThen_ok, List.map_toArray, List.map_cons, List.map_nil, hs, hx, hr]
  exact hK _ _ (h v' w' h2 h3)
theorem mat_nil9 (w : World) (L : Nat → Nat) (Z : Nat → Nat → Int) : MatAt w (.slice none 0 0) 0 L Z := ⟨none, 0, rfl, Nat.le_refl _, Nat.zero_le _, fun h => by omega⟩
theorem below_dn9 {w : World} {m : Nat} {w' : World} (h : w' = w.drewN m) : Below w.heap.size w w' := by subst h; exact below_drewN (Below.refl _ _) _
set_option maxHeartbeats 16000000 in
theorem boundOptions_walk (v : Value) (n : Nat) (o : Nat → Op3) (w : World) (h : OptsAt w v n o) (hb : n * 24 ≤ 140737488355328) (ht : Tab w) :
    Calls Tryd.prog 3 #[v] w fun e w' => e = .returned (.bool true) ∧ Below w.heap.size w w' := by
  have HOP := hid h
  have HT := hid ht
  have HBD := hid hb
  obtain ⟨p, cap, rfl, _, _, _⟩ := h
  clear ht hb
  go_enter Tryd.func3, Tryd.ntmps3
  go_wp2_with (at_builtin; refine wp_copyO (by rfl) _ _ (by rfl) (.slice p n cap) n o (by rfl) (by rfl) HOP.out HBD.out ?_; intro v1 w1 h1 h2; have HO1 := hid h1; have HB1 := hid h2; obtain ⟨p1, cap1, rfl, _⟩ := h1; clear h2)
  refine (options_any _ n o _ HO1.out (HT.out.later HB1.out)).mono ?_
  rintro e w2 ⟨hR2, hB2⟩
  have HB2 := hid (below_then HB1.out hB2 (Nat.le_refl _))
  clear hB2
  rcases hR2 with ⟨hne, rfl⟩ | ⟨h0, hnone, rfl⟩ | ⟨h0, R, V, hsome, rfl, hN⟩
  · have HNE := hid hne
    clear hne
    obtain ⟨c, hc⟩ : ∃ c, opE o n = c := ⟨_, rfl⟩
    have HC := hid hc
    rw [hc]
    clear hc
    go_wp2_with fail
    refine (optionsOf_any _ n o _ (HOP.out.later HB2.out)).mono ?_
    rintro e w3 ⟨hR3, hB3⟩
    have HB3 := hid (below_then HB2.out hB3 (Nat.le_refl _))
    clear hB3
    rcases hR3 with ⟨_, hE⟩ | ⟨h0, _⟩ | ⟨h0, _⟩
    · rw [HC.out] at hE
      subst hE
      go_wp2_with fail
      refine (sameRows_any _ _ 0 (fun _ => 0) (fun _ _ => 0) _ (mat_nil9 _ _ _) (mat_nil9 _ _ _)).mono ?_
      rintro e w4 ⟨rfl, t, hB4⟩
      have HB4 := hid (below_then HB3.out (below_dn9 hB4) (Nat.le_refl _))
      clear hB4
      go_wp2_with fail
      go_ret
      exact ⟨rfl, HB4.out⟩
    · exact absurd h0 HNE.out
    · exact absurd h0 HNE.out
  · have H0 := hid h0
    have HNO := hid hnone
    clear h0 hnone
    go_wp2_with fail
    refine (optionsOf_any _ n o _ (HOP.out.later HB2.out)).mono ?_
    rintro e w3 ⟨hR3, hB3⟩
    have HB3 := hid (below_then HB2.out hB3 (Nat.le_refl _))
    clear hB3
    rcases hR3 with ⟨hne, _⟩ | ⟨_, _, rfl⟩ | ⟨_, R, V, hs, _⟩
    · exact absurd H0.out hne
    · go_wp2_with fail
      refine (sameRows_any _ _ 0 (fun _ => 0) (fun _ _ => 0) _ (mat_nil9 _ _ _) (mat_nil9 _ _ _)).mono ?_
      rintro e w4 ⟨rfl, t, hB4⟩
      have HB4 := hid (below_then HB3.out (below_dn9 hB4) (Nat.le_refl _))
      clear hB4
      go_wp2_with fail
      go_ret
      exact ⟨rfl, HB4.out⟩
    · rw [HNO.out] at hs; simp at hs
  · have H0 := hid h0
    have HSO := hid hsome
    have HN := hid hN.mat
    clear h0 hsome hN
    go_wp2_with fail
    refine (optionsOf_any _ n o _ (HOP.out.later HB2.out)).mono ?_
    rintro e w3 ⟨hR3, hB3⟩
    have HB3 := hid (below_then HB2.out hB3 (Nat.le_refl _))
    have HN3 := hid (HN.out.later hB3)
    clear hB3
    rcases hR3 with ⟨hne, _⟩ | ⟨_, hno, _⟩ | ⟨_, R2, V2, hs, rfl, hN2⟩
    · exact absurd H0.out hne
    · rw [HSO.out] at hno; simp at hno
    · obtain rfl : R = R2 := Option.some.inj (HSO.out.symm.trans hs)
      have HN2 := hid hN2.mat
      clear hs hN2
      go_wp2_with fail
      refine (sameRows_any V V2 4 (fun _ => 4) R _ HN3.out HN2.out).mono ?_
      rintro e w4 ⟨rfl, t, hB4⟩
      have HB4 := hid (below_then HB3.out (below_dn9 hB4) (Nat.le_refl _))
      clear hB4
      go_wp2_with fail
      go_ret
      exact ⟨rfl, HB4.out⟩
end Go.Proofs.YtgikaheojcpmpaaDoor
