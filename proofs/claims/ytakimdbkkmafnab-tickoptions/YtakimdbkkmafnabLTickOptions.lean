/-
  tick.CheckOption answers, at every option, just what the document's own OptionFault answers: the law TickOptions returns true at every option.
  Conditions: none beyond the row's own.
-/
import Derived.Test.YtakimdbkkmafnabRows
import Derived.Test.YtakimdbkkmafnabC
import Derived.Handy
import Derived.Lib.SmallJoins
namespace Go.Proofs.Ytakimdbkkmafnab.tickOptions
open Go.ChangeShapes Go.WideShapes Go.ChangeAt Go.RowKit Go.Joins
set_option linter.unusedVariables false
theorem own : ownKnob Try.prog.godebug = none := by kernel_rfl
theorem cells23 : Try.prog.cellsOf 23 = 3 := by kernel_rfl
set_option maxRecDepth 100000 in
theorem lifted (os : Os) (started : os.Started) (H : Type) (enc : TypeId × Value → H) :
    ReturnsInHanded {} Try.checked os 3 .any (Rows.tickOptionsSpec.pre6 enc Try.prog Try.f3 Rows.tickOptionsRow.domain false) (Rows.tickOptionsSpec.post enc Try.prog Try.f3 false true false false) := by
  refine returnsInHanded_of_change (C := Try.checked) own started (by kernel_rfl) Try.func3
    (ChangeSpec.witness6 (enc := enc) (C := Try.checked) false ⟨#[], #[.agg #[.int .i64 0, .int .i64 0, .int .i64 0]], []⟩ 8 (by kernel_rfl) (by kernel_rfl) (by kernel_rfl) (by kernel_rfl)) ?_
  intro W base args ds gs before hval0 hW hcnd _
  have hval : ∀ (j : Nat) t v, Try.f3.params[j]? = some t → args[j]? = some v → Value.okWide Try.prog W .any base t v := hval0
  have hW' := hW
  obtain ⟨p, q, hA0, hV, rfl, hfz, hnd⟩ := hW
  have hA : DataW.TrodAll enc Try.prog W 0 (fun _ => true) true Try.f3.params.toList args.toList ds p := hA0
  rw [Try.params3] at hA hval
  obtain ⟨v0, vs0, d0, ds0, p0, q0, hargs, rfl, rfl, h0, r0⟩ := trodAll_cons hA
  obtain ⟨rfl, rfl, rfl⟩ := trodAll_nil r0
  obtain rfl : args = #[v0] := by cases args; simp_all
  obtain ⟨rfl, rfl⟩ := trodVars_none hV
  obtain ⟨c0_0, c0_1, c0_2, y0_0, y0_1, y0_2, m0, rfl, rfl, rfl, z0_0, z0_1, z0_2⟩ := open_agg3 Try.underlying23 (by kernel_rfl) cells23 (hval 0 23 v0 rfl rfl) h0
  obtain ⟨a0_0, e0_0, rfl, b0_0⟩ := DataW.trod_int Try.underlying3 z0_0
  simp at e0_0
  subst e0_0
  obtain ⟨a0_1, e0_1, rfl, b0_1⟩ := DataW.trod_int Try.underlying3 z0_1
  simp at e0_1
  subst e0_1
  obtain ⟨a0_2, e0_2, rfl, b0_2⟩ := DataW.trod_int Try.underlying3 z0_2
  simp at e0_2
  subst e0_2
  clear hA0 hval0
  simp only [List.append_nil] at hW'
  refine (tickOptions_walk a0_0 a0_1 a0_2 W).mono fun e W' ⟨he, bel⟩ => ?_
  subst he
  exact ⟨_, rfl, _, _, _, [], [], [], hW', trodAll_mk1 (shut_bool Try.underlying4 _), (trodAll_cons_mk (shut_agg3 (y0 := (.lit (.int .i64 a0_0), [])) (y1 := (.lit (.int .i64 a0_1), [])) (y2 := (.lit (.int .i64 a0_2), [])) Try.underlying23 (by kernel_rfl) cells23 ⟨1, by simp [DataW.trod, Try.underlying3, b0_0]⟩ ⟨1, by simp [DataW.trod, Try.underlying3, b0_1]⟩ ⟨1, by simp [DataW.trod, Try.underlying3, b0_2]⟩) trodAll_mk0), rfl, bel.frame _, fun h => by cases h⟩
theorem over : Rows.tickOptionsRow.holds Try.pinned (OpenSpec.ofChange Rows.tickOptionsSpec) :=
  OpenClaim.holds_of_wide 3 Try.f3 rfl rfl rfl rfl rfl rfl rfl ⟨rfl, rfl, rfl, rfl, rfl⟩ rfl rfl rfl rfl rfl (by kernel_rfl) Try.func3 (by kernel_rfl)
    (of_decide_eq_true (by kernel_rfl)) (by unfold Func.isWrapper; first | (rw [if_pos (by decide +kernel)]; kernel_rfl) | (rw [if_neg (by decide +kernel)]; exact ⟨rfl, rfl⟩))
    (fun os started H enc _ => lifted os started H enc)
end Go.Proofs.Ytakimdbkkmafnab.tickOptions
namespace Go.Proofs.Ytakimdbkkmafnab
theorem tickOptions_holds : Rows.TickOptionsSaid := tickOptions.over
#print axioms tickOptions_holds
end Go.Proofs.Ytakimdbkkmafnab
