/-
  The walk of the law ArenaPlays.
-/
import Derived.Test.YtchiajedajabnaaJb
namespace Go.Proofs.Ytchiajedajabnaa
open Go.ChangeShapes Go.WideShapes Go.ChangeAt Go.RowKit
set_option linter.unusedVariables false
set_option linter.unusedSimpArgs false
theorem one4 (l : List Q4) : ∀ u ∈ l.flatMap enc4, u.oneCell' = true := by
  intro u hu
  obtain ⟨t, _, ht⟩ := List.mem_flatMap.1 hu
  simp [enc4] at ht
  rcases ht with rfl | rfl | rfl | rfl <;> rfl
/-- Jobs that came in, behind none. -/
theorem run_copy (w : World) (ty : TypeId) {v : Value} {js : List Q4} (hd : JobsAt w v js) (hb : js.length * 32 ≤ 140737488355328) :
    ∃ v' w', (Builtin.append_ #[22, 22] ty #[.slice none 0 0, v]).run Try.prog w = .ok v' w' ∧ w'.ownsRow w.heap.size 37 4 v' js.length (js.flatMap enc4) ∧ Below w.heap.size w w' := by
  obtain ⟨i0, hi, hz0, hz1, hz2⟩ := info_parts info37
  obtain ⟨p, cap, rfl, hp⟩ := hd
  by_cases h0 : js.length = 0
  · have e : js = [] := List.eq_nil_of_length_eq_zero h0
    subst e
    refine ⟨.slice none 0 0, w, ?_, by simpa using World.ownsRow_nil w w.heap.size 37 4, Below.refl _ _⟩
    cases p <;> simp [Builtin.append_, run_underlying Try.underlying22, sizeOf, typeInfo, hi, Builtin.lenOf, Builtin.firstCells, loadCells, loadCellsFrom]
  · obtain ⟨g, off, rfl, hc⟩ := hp (by omega)
    obtain ⟨v', w', r1, r2, r3, _, r5⟩ := run_append_own_at (P := Try.prog) w w.heap.size 22 ty 37 i0 (.agg #[.int .i64 0, .int .i64 0, .int .i64 0, .int .i64 0]) 4 32 Try.underlying22 hi hz0 hz1 hz2 rfl (by omega) (.slice none 0 0) 0 [] (World.ownsRow_nil w w.heap.size 37 4) ⟨g, off, none⟩ js.length cap (js.flatMap enc4) (length_flat4 _) (fun r u hr => by
      have hlt := (List.getElem?_eq_some_iff.1 hr).1
      rw [length_flat4] at hlt
      have hq : r / 4 < js.length := by omega
      obtain ⟨a0, a1, a2, a3⟩ := flat4_at js (r / 4) hq
      obtain ⟨_, c0, c1, c2, c3⟩ := hc (r / 4) hq
      rw [Addr.add_mid]
      rcases (by omega : r = r / 4 * 4 ∨ r = r / 4 * 4 + 1 ∨ r = r / 4 * 4 + 2 ∨ r = r / 4 * 4 + 3) with h | h | h | h
      · rw [h] at hr ⊢; rw [a0] at hr; cases hr; exact c0
      · rw [h] at hr ⊢; rw [a1] at hr; cases hr; rw [← Nat.add_assoc]; exact c1
      · rw [h] at hr ⊢; rw [a2] at hr; cases hr; rw [← Nat.add_assoc]; exact c2
      · rw [h] at hr ⊢; rw [a3] at hr; cases hr; rw [← Nat.add_assoc]; exact c3) (one4 js) (by unfold maxLen; omega) (by omega) (Nat.le_refl _)
    refine ⟨v', w', r1, by simpa using r2, ?_⟩
    exact (Below.refl _ _).grown r3 (Nat.le_refl _) (fun k hk => by cases hk)
theorem wpList_copy (w : World) {ops : Array Oper} {rest : List Oper} {o : Oper} {a : Act} {Q : Exit → Act → World → Prop} (hgd : o.guard = none) (s x : Operand)
    (ho : o.op = .call { callee := .builtin .append, args := #[s, x], argTypes := #[22, 22] }) (v : Value) (js : List Q4) (hs : a.eval s = .slice none 0 0) (hx : a.eval x = v) (hd : JobsAt w v js) (hb : js.length * 32 ≤ 140737488355328)
    (h : ∀ v' w', w'.ownsRow w.heap.size 37 4 v' js.length (js.flatMap enc4) → Below w.heap.size w w' → wpList Try.prog ops Q rest (a.put o.dst v') w') :
    wpList Try.prog ops Q (o :: rest) a w := by
  refine wpList_plain hgd fun K hK => ?_
  obtain ⟨v', w', hr, h2, h3⟩ := run_copy w o.type hd hb
  unfold Oper.wp execOp
  simp only [ho, resolve, invoke, builtin, Sem.run_bind, Sem.run_pure, Result.andThen_ok, List.map_toArray, List.map_cons, List.map_nil, hs, hx, hr]
  exact hK _ _ (h v' w' h2 h3)
theorem founds_none (w : World) : FoundsAt w (.slice none 0 0) [] := ⟨none, 0, rfl, fun h => absurd h (by simp)⟩
set_option maxHeartbeats 4000000 in
theorem arenaPlays_walk (v : Value) (js : List Q4) (w : World) (hd : JobsAt w v js) (hb : js.length * 32 ≤ 140737488355328) :
    Calls Try.prog 3 #[v] w fun e w' => e = .returned (.bool true) ∧ Below w.heap.size w w' := by
  obtain ⟨p, cap, hv⟩ : ∃ p cap, v = .slice p js.length cap := by obtain ⟨p, cap, h, _⟩ := hd; exact ⟨p, cap, h⟩
  subst hv
  have HD : Hid (JobsAt w (.slice p js.length cap) js ∧ js.length * 32 ≤ 140737488355328) := ⟨hd, hb⟩
  clear hd hb
  go_enter Try.func3, Try.ntmps3
  go_wp2_with (at_builtin; refine wpList_copy _ (by rfl) _ _ (by rfl) (.slice p js.length cap) js (by rfl) (by rfl) HD.out.1 HD.out.2 ?_; intro v' w1 hown hB1)
  have HO : Hid (w1.ownsRow w.heap.size 37 4 v' js.length (js.flatMap enc4)) := hown
  have HB1 : Hid (Below w.heap.size w w1) := hB1
  obtain ⟨p', cap', hv'⟩ := own_shape hown
  subst hv'
  clear hown hB1
  by_cases hl : js.length ≤ 2000
  · refine (play_any _ js _ (jobs_own HO.out) hl).mono ?_
    rintro e w2 ⟨u, rfl, hF, hB2⟩
    have HF : Hid (FoundsAt w2 u (play s0 js)) := hF
    have HB2 : Hid (Below w.heap.size w w2) := HB1.out.trans (hB2.mono HB1.out.size)
    clear hF hB2
    go_wp2_with fail
    refine (jobbed_any _ js _ (HD.out.1.below HB2.out) hl).mono ?_
    rintro e w3 ⟨u', rfl, hF', hB3⟩
    have HF' : Hid (FoundsAt w3 u' (play s0 js)) := hF'
    have HF2 : Hid (FoundsAt w3 u (play s0 js)) := HF.out.below hB3
    have HB3 : Hid (Below w.heap.size w w3) := HB2.out.trans (hB3.mono HB2.out.size)
    clear hF' hB3
    go_wp2_with fail
    refine (sameFounds_any u u' _ _ _ HF2.out HF'.out rfl rfl (by rw [play_len]; exact hl)).mono ?_
    rintro e w4 ⟨rfl, nd, rfl⟩
    go_wp2
    go_ret
    exact ⟨rfl, below_drewN HB3.out _⟩
  · refine (play_big p' _ cap' _ (by omega)).mono ?_
    rintro e w1 ⟨rfl, rfl⟩
    go_wp2_with fail
    refine (jobbed_big p _ cap _ (by omega)).mono ?_
    rintro e w1 ⟨rfl, rfl⟩
    go_wp2_with fail
    refine (sameFounds_any _ _ [] [] _ (founds_none _) (founds_none _) rfl rfl (by simp)).mono ?_
    rintro e w4 ⟨rfl, nd, rfl⟩
    go_wp2
    go_ret
    exact ⟨rfl, below_drewN HB1.out _⟩
end Go.Proofs.Ytchiajedajabnaa
