/-
  tick.Fits answers, at every option and every two spans, just what the document's own FitsOf answers: the law TickFits returns true at every input.
  Conditions: none beyond the row's own (the table that the row lists is laid as the program's text lays it; the card ties it).
-/
import Derived.Test.YtakimdbkkmafnabDoorRows
import Derived.Test.YtakimdbkkmafnabDoorTie
import Derived.Test.YtakimdbkkmafnabDoorCards
import Derived.Test.YtakimdbkkmafnabDoorD
import Derived.Handy
import Derived.Lib.SmallJoins
import Derived.LaidMore
import Derived.Stop.Joined
import Derived.SevenTiedAt
namespace Go.Proofs.YtakimdbkkmafnabDoor.tickFits
open Go.ChangeShapes Go.WideShapes Go.ChangeAt Go.RowKit Go.Joins
set_option linter.unusedVariables false
theorem own : ownKnob Tryd.prog.godebug = none := by kernel_rfl
theorem cells23 : Tryd.prog.cellsOf 23 = 3 := by kernel_rfl
theorem cells25 : Tryd.prog.cellsOf 25 = 2 := by kernel_rfl
theorem door_met (os : Os) (args : Array Value) : laidMetH Tryd.prog [("dotterel/tick.inverses", Rows.laid_dotterel_tick_inverses)] ((World.doorLaid Tryd.prog 400 os).forCall (fun _ _ => 0) ⟨#[], args, []⟩).memory :=
  laidMetH_of_parts3 (fuel := 8) (laidMet_of_run' 8 (by kernel_rfl) (by kernel_rfl)) (by kernel_rfl) (by kernel_rfl)
set_option maxRecDepth 100000 in
theorem lifted (os : Os) (started : os.Started) (H : Type) (enc : TypeId × Value → H) :
    ReturnsInHanded {} Tryd.checked os 3 .any (fun w args => (Rows.tickFitsSpec.pre enc Tryd.prog Tryd.f3 [] false w args ∧ laidMetH Tryd.prog [("dotterel/tick.inverses", Rows.laid_dotterel_tick_inverses)] w) ∧ sizedMet enc Tryd.prog Tryd.f3 (OpenSpec.ofChange Rows.tickFitsSpec) false w args)
      (Rows.tickFitsSpec.post enc Tryd.prog Tryd.f3 false true false false) := by
  refine returnsInHanded_of_change_and (C := Tryd.checked) (X := fun w _ => laidMetH Tryd.prog [("dotterel/tick.inverses", Rows.laid_dotterel_tick_inverses)] w) (fun _ _ _ hh h => h.of_heap hh) own started (by kernel_rfl) Tryd.func3
    (ChangeSpec.witness_shaped (enc := enc) (C := Tryd.checked) (os := os) (X := fun w _ => laidMetH Tryd.prog [("dotterel/tick.inverses", Rows.laid_dotterel_tick_inverses)] w) false (World.doorLaid Tryd.prog 400 os) #[.agg #[.int .i64 0, .int .i64 0, .int .i64 0], .agg #[.int .i64 0, .int .i64 0], .agg #[.int .i64 0, .int .i64 0]] 8 rfl (World.shaped_of_RefB (by kernel_rfl) (by kernel_rfl)) (by kernel_rfl) (by kernel_rfl) (by kernel_rfl) (door_met os _)) ?_
  intro W base args ds gs before hval0 hW _ _ hL _
  have hval : ∀ (j : Nat) t v, Tryd.f3.params[j]? = some t → args[j]? = some v → Value.okWide Tryd.prog W .any base t v := hval0
  have hW' := hW
  obtain ⟨p, q, hA0, hV, rfl, hfz, hnd⟩ := hW
  have hA : DataW.TrodAll enc Tryd.prog W 0 (fun _ => true) true Tryd.f3.params.toList args.toList ds p := hA0
  rw [Tryd.params3] at hA hval
  obtain ⟨v0, vs0, d0, ds0, p0, q0, hargs, rfl, rfl, h0, r0⟩ := trodAll_cons hA
  obtain ⟨v1, vs1, d1, ds1, p1, q1, rfl, rfl, rfl, h1, r1⟩ := trodAll_cons r0
  obtain ⟨v2, vs2, d2, ds2, p2, q2, rfl, rfl, rfl, h2, r2⟩ := trodAll_cons r1
  obtain ⟨rfl, rfl, rfl⟩ := trodAll_nil r2
  obtain rfl : args = #[v0, v1, v2] := by cases args; simp_all
  obtain ⟨rfl, rfl⟩ := trodVars_none hV
  obtain ⟨c0_0, c0_1, c0_2, y0_0, y0_1, y0_2, m0, rfl, rfl, rfl, z0_0, z0_1, z0_2⟩ := open_agg3 Tryd.underlying23 (by kernel_rfl) cells23 (hval 0 23 v0 rfl rfl) h0
  obtain ⟨a0_0, e0_0, rfl, b0_0⟩ := DataW.trod_int Tryd.underlying3 z0_0
  simp at e0_0
  subst e0_0
  obtain ⟨a0_1, e0_1, rfl, b0_1⟩ := DataW.trod_int Tryd.underlying3 z0_1
  simp at e0_1
  subst e0_1
  obtain ⟨a0_2, e0_2, rfl, b0_2⟩ := DataW.trod_int Tryd.underlying3 z0_2
  simp at e0_2
  subst e0_2
  obtain ⟨c1_0, c1_1, y1_0, y1_1, m1, rfl, rfl, rfl, z1_0, z1_1⟩ := open_agg2 Tryd.underlying25 (by kernel_rfl) cells25 (hval 1 25 v1 rfl rfl) h1
  obtain ⟨a1_0, e1_0, rfl, b1_0⟩ := DataW.trod_int Tryd.underlying3 z1_0
  simp at e1_0
  subst e1_0
  obtain ⟨a1_1, e1_1, rfl, b1_1⟩ := DataW.trod_int Tryd.underlying3 z1_1
  simp at e1_1
  subst e1_1
  obtain ⟨c2_0, c2_1, y2_0, y2_1, m2, rfl, rfl, rfl, z2_0, z2_1⟩ := open_agg2 Tryd.underlying25 (by kernel_rfl) cells25 (hval 2 25 v2 rfl rfl) h2
  obtain ⟨a2_0, e2_0, rfl, b2_0⟩ := DataW.trod_int Tryd.underlying3 z2_0
  simp at e2_0
  subst e2_0
  obtain ⟨a2_1, e2_1, rfl, b2_1⟩ := DataW.trod_int Tryd.underlying3 z2_1
  simp at e2_1
  subst e2_1
  have hL0 := laid_cells hL
  clear hA0 hval0
  simp only [List.append_nil] at hW'
  refine (tickFits_walk a0_0 a0_1 a0_2 a1_0 a1_1 a2_0 a2_1 W hL0).mono fun e W' ⟨he, bel⟩ => ?_
  subst he
  exact ⟨_, rfl, _, _, _, [], [], [], hW', trodAll_mk1 (shut_bool Tryd.underlying4 _), (trodAll_cons_mk (shut_agg3 (y0 := (.lit (.int .i64 a0_0), [])) (y1 := (.lit (.int .i64 a0_1), [])) (y2 := (.lit (.int .i64 a0_2), [])) Tryd.underlying23 (by kernel_rfl) cells23 ⟨1, by simp [DataW.trod, Tryd.underlying3, b0_0]⟩ ⟨1, by simp [DataW.trod, Tryd.underlying3, b0_1]⟩ ⟨1, by simp [DataW.trod, Tryd.underlying3, b0_2]⟩) (trodAll_cons_mk (shut_agg2 (y0 := (.lit (.int .i64 a1_0), [])) (y1 := (.lit (.int .i64 a1_1), [])) Tryd.underlying25 (by kernel_rfl) cells25 ⟨1, by simp [DataW.trod, Tryd.underlying3, b1_0]⟩ ⟨1, by simp [DataW.trod, Tryd.underlying3, b1_1]⟩) (trodAll_cons_mk (shut_agg2 (y0 := (.lit (.int .i64 a2_0), [])) (y1 := (.lit (.int .i64 a2_1), [])) Tryd.underlying25 (by kernel_rfl) cells25 ⟨1, by simp [DataW.trod, Tryd.underlying3, b2_0]⟩ ⟨1, by simp [DataW.trod, Tryd.underlying3, b2_1]⟩) trodAll_mk0))), rfl, bel.frame _, fun h => by cases h⟩
theorem over : Rows.tickFitsRow.holds Tryd.pinned (OpenSpec.ofChange Rows.tickFitsSpec) :=
  OpenClaim.holds_of_wide 3 Tryd.f3 rfl rfl rfl rfl rfl rfl rfl ⟨rfl, rfl, rfl, rfl, rfl⟩ rfl rfl rfl rfl rfl (by kernel_rfl) Tryd.func3 (by kernel_rfl)
    (of_decide_eq_true (by kernel_rfl)) (by unfold Func.isWrapper; first | (rw [if_pos (by decide +kernel)]; kernel_rfl) | (rw [if_neg (by decide +kernel)]; exact ⟨rfl, rfl⟩))
    (fun os started H enc _ => lifted os started H enc)
theorem card : Rows.TickFitsCardSaid :=
  Claim7.holds_tied_plain_at .later [] [.data] true (true, "53dae9b228f277a70ce06a3345fd4c4296efcc31b7ea39b9d4c6fcda9f855018") false
    over (fun _ h => by cases h) (by kernel_rfl) (fun _ h => by cases h) tickFits_row_tie rfl ⟨rfl, rfl⟩ (by kernel_rfl) rfl
    (fun f fn hf hfn => by
      obtain rfl : f = 3 := Option.some.inj ((show Tryd.prog.funcNamed "dotterel/dotterellaw.TickFits" = some 3 by kernel_rfl).symm.trans hf) |>.symm
      obtain rfl : fn = Tryd.f3 := (Option.some.inj (Tryd.func3.symm.trans hfn)).symm
      exact ⟨by kernel_rfl, fun j t ht => by
        rw [Tryd.params3] at ht
        have hm : t ∈ [23, 25] := by
          have := Array.mem_of_getElem? ht
          simp at this
          simp [this]
        have hall : ([23, 25].all fun u => !Tryd.prog.wantsStandIn u) = true := by kernel_rfl
        exact (show Tryd.prog.wantsStandIn t = false by simpa using List.all_eq_true.1 hall t hm)⟩)
    (by kernel_rfl)
end Go.Proofs.YtakimdbkkmafnabDoor.tickFits
namespace Go.Proofs.YtakimdbkkmafnabDoor
theorem tickFits_holds : Rows.TickFitsCardSaid := tickFits.card
#print axioms tickFits_holds
end Go.Proofs.YtakimdbkkmafnabDoor
