/-
  Just what ends within the window ahead of the latest End is counted: FiresWithin is true at all numbers.
  Conditions: none beyond the row's own.
-/
import Derived.Test.YtnlmknbhppdliaaGreatDoorRows
import Derived.Test.YtnlmknbhppdliaaGreatDoorTie
import Derived.Test.YtnlmknbhppdliaaGreatDoorCards
import Derived.Handy
import Derived.Lib.SmallJoins
import Derived.LaidMore
import Derived.Stop.Joined
import Derived.SevenTiedAt
import Derived.Test.YtnlmknbhppdliaaGreatDoorA
import Derived.Test.YtnlmknbhppdliaaGreatDoorB8K
import Derived.Test.YtnlmknbhppdliaaGreatDoorLb
namespace Go.Proofs.YtnlmknbhppdliaaGreatDoor.firesWithin
open Go.ChangeShapes Go.WideShapes Go.ChangeAt Go.RowKit Go.Joins
open Go.ChangeMaps (open_string shut_string)
set_option linter.unusedVariables false
set_option linter.unusedSimpArgs false
theorem own : ownKnob Tryz.prog.godebug = none := by kernel_rfl
theorem zHC : laidOutB Tryz.prog = true := by kernel_rfl
theorem door_met (os : Os) (args : Array Value) : laidMetH Tryz.prog [("dotterel/tick.inverses", Rows.laid_dotterel_tick_inverses), ("dotterel/parse.kept", Rows.laid_dotterel_parse_kept), ("dotterel/parse.relations", Rows.laid_dotterel_parse_relations)] ((World.doorLaid Tryz.prog 400 os).forCall (fun _ _ => 0) ⟨#[], args, []⟩).memory :=
  laidMetH_of_parts3 (fuel := 8) (laidMet_of_run' 8 (by kernel_rfl) (by kernel_rfl)) (by kernel_rfl) (by kernel_rfl)
set_option maxRecDepth 100000 in
theorem lifted (os : Os) (started : os.Started) (H : Type) (enc : TypeId × Value → H) :
  ReturnsInHanded {} Tryz.checked os 7 .any (fun w args => (Rows.firesWithinSpec.pre enc Tryz.prog Tryz.f7 [] false w args ∧ laidMetH Tryz.prog [("dotterel/tick.inverses", Rows.laid_dotterel_tick_inverses), ("dotterel/parse.kept", Rows.laid_dotterel_parse_kept), ("dotterel/parse.relations", Rows.laid_dotterel_parse_relations)] w) ∧ sizedMet enc Tryz.prog Tryz.f7 (OpenSpec.ofChange Rows.firesWithinSpec) false w args)
   (Rows.firesWithinSpec.post enc Tryz.prog Tryz.f7 false true false false) := by
 refine returnsInHanded_of_change_and (C := Tryz.checked) (X := fun w _ => laidMetH Tryz.prog [("dotterel/tick.inverses", Rows.laid_dotterel_tick_inverses), ("dotterel/parse.kept", Rows.laid_dotterel_parse_kept), ("dotterel/parse.relations", Rows.laid_dotterel_parse_relations)] w) (fun _ _ _ hh h => h.of_heap hh) own started (by kernel_rfl) Tryz.func7
  (ChangeSpec.witness_shaped (enc := enc) (C := Tryz.checked) (os := os) (X := fun w _ => laidMetH Tryz.prog [("dotterel/tick.inverses", Rows.laid_dotterel_tick_inverses), ("dotterel/parse.kept", Rows.laid_dotterel_parse_kept), ("dotterel/parse.relations", Rows.laid_dotterel_parse_relations)] w) false (World.doorLaid Tryz.prog 400 os) #[.int .i64 0, .int .i64 0] 8 rfl (World.shaped_of_RefB (by kernel_rfl) (by kernel_rfl)) (by kernel_rfl) (by kernel_rfl) (by kernel_rfl) (door_met os _)) ?_
 intro W base args ds gs before hval0 hW _ hsz hL _
 have hval : ∀ (j : Nat) t v, Tryz.f7.params[j]? = some t → args[j]? = some v → Value.okWide Tryz.prog W .any base t v := hval0
 have hW' := hW
 obtain ⟨p, q, hA0, hV, rfl, hfz, hnd⟩ := hW
 have hA : DataW.TrodAll enc Tryz.prog W 0 (fun _ => true) true Tryz.f7.params.toList args.toList ds p := hA0
 rw [Tryz.params7] at hA hval
 obtain ⟨v0, vs0, d0, ds0, p0, q0, hargs, rfl, rfl, h0, r0⟩ := trodAll_cons hA
 obtain ⟨v1, vs1, d1, ds1, p1, q1, rfl, rfl, rfl, h1, r1⟩ := trodAll_cons r0
 obtain ⟨rfl, rfl, rfl⟩ := trodAll_nil r1
 obtain rfl : args = #[v0, v1] := by cases args; simp_all
 obtain ⟨rfl, rfl⟩ := trodVars_none hV
 have o0 := hval 0 3 v0 rfl rfl
 have k0 := h0
 have lt0 : ∀ x ∈ p0, x.block < W.heap.size := by obtain ⟨m, hm⟩ := k0; exact DataW.trod_lt m _ _ _ hm
 obtain ⟨a0, rfl, _, _, b0'⟩ := open_int Tryz.underlying3 o0 h0
 have o1 := hval 1 3 v1 rfl rfl
 have k1 := h1
 have lt1 : ∀ x ∈ p1, x.block < W.heap.size := by obtain ⟨m, hm⟩ := k1; exact DataW.trod_lt m _ _ _ hm
 obtain ⟨a1, rfl, _, _, b1'⟩ := open_int Tryz.underlying3 o1 h1
 have hI0 := zF1 hL
 rw [MakeChecks.laidMetH_plain _ _ _ (by kernel_rfl)] at hL
 have hK0 := zG0 (by simp) hL
 have hT0 := laid_rel (by simp) hL
 clear hA0 hval0
 refine (Chk.firesWithin_walk a0 a1 (bounds_i64 b0').1 (bounds_i64 b0').2 (bounds_i64 b1').1 (bounds_i64 b1').2 W hK0 hT0).mono fun e W' ⟨he, bel⟩ => ?_
 subst he
 exact ⟨_, rfl, _, _, _, [], _, [], hW', trodAll_mk1 (shut_bool Tryz.underlying4 _), (trodAll_cons_mk (Below.trod zHC (by kernel_rfl) (of_decide_eq_true (by kernel_rfl)) k0 bel lt0) (trodAll_cons_mk (Below.trod zHC (by kernel_rfl) (of_decide_eq_true (by kernel_rfl)) k1 bel lt1) trodAll_mk0)), rfl, bel.frame _, fun h => by cases h⟩
theorem over : Rows.firesWithinRow.holds Tryz.pinned (OpenSpec.ofChange Rows.firesWithinSpec) :=
 OpenClaim.holds_of_wide 7 Tryz.f7 rfl rfl rfl rfl rfl rfl rfl ⟨rfl, rfl, rfl, rfl, rfl⟩ rfl rfl rfl rfl rfl (by kernel_rfl) Tryz.func7 (by kernel_rfl)
  (of_decide_eq_true (by kernel_rfl)) (by unfold Func.isWrapper; first | (rw [if_pos (by decide +kernel)]; kernel_rfl) | (rw [if_neg (by decide +kernel)]; exact ⟨rfl, rfl⟩))
  (fun os started H enc _ => lifted os started H enc)
theorem card : Rows.FiresWithinCardSaid :=
 Claim7.holds_tied_plain_at .later [] [.data, .data, .data] true (true, "cb7956a01983798f239c92b3725aad0e8e14dfded3fd0eefdbccdb9a32abeb15") false
  over (fun _ h => by cases h) (by kernel_rfl) (fun _ h => by cases h) firesWithin_row_tie rfl ⟨rfl, rfl⟩ (by kernel_rfl) rfl
  (fun f fn hf hfn => by
   obtain rfl : f = 7 := Option.some.inj ((show Tryz.prog.funcNamed "dotterel/dotterelkeep.FiresWithin" = some 7 by kernel_rfl).symm.trans hf) |>.symm
   obtain rfl : fn = Tryz.f7 := (Option.some.inj (Tryz.func7.symm.trans hfn)).symm
   exact ⟨by kernel_rfl, fun j t ht => by
    rw [Tryz.params7] at ht
    have hm : t ∈ [3] := by
     have := Array.mem_of_getElem? ht
     simp at this
     first | (simp [this]; done) | (rcases this with h | h <;> simp [h]; done) | (rcases this with h | h | h <;> simp [h]; done) | (simp; omega)
    have hall : ([3].all fun u => !Tryz.prog.wantsStandIn u) = true := by kernel_rfl
    exact (show Tryz.prog.wantsStandIn t = false by simpa using List.all_eq_true.1 hall t hm)⟩)
  (by kernel_rfl)
end Go.Proofs.YtnlmknbhppdliaaGreatDoor.firesWithin
namespace Go.Proofs.YtnlmknbhppdliaaGreatDoor
theorem firesWithin_holds : Rows.FiresWithinCardSaid := firesWithin.card
#print axioms firesWithin_holds
end Go.Proofs.YtnlmknbhppdliaaGreatDoor

