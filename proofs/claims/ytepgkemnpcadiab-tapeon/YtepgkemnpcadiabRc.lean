/-
  A region that draws its order, by what each of its operations yields, side by side.
-/
import Derived.Test.YtepgkemnpcadiabRa
namespace Go.Proofs.Ytepgkemnpcadiab
open Go.ChangeShapes Go.WideShapes Go.ChangeAt Go.RowKit
set_option linter.unusedVariables false
set_option linter.unusedSimpArgs false
set_option maxRecDepth 20000
/-- One more has come up. -/
def upv (vs : Nat → Value) (i : Nat) (v : Value) : Nat → Value := fun j => if j = i then v else vs j
theorem upv_eq (vs : Nat → Value) (i : Nat) (v : Value) : upv vs i v i = v := if_pos rfl
theorem upv_ne (vs : Nat → Value) {i j : Nat} (v : Value) (h : j ≠ i) : upv vs i v j = vs j := if_neg h
/-- Does one wait for another? -/
def waitB (ops : Array Oper) (j i : Nat) : Bool := match ops[j]? with | none => false | some o => o.after.any (fun e => e.on == i && Region.binds .any e)
/-- **A region by its operations, what they yield side by side**: T: what is known of what each has yielded; B: what holds throughout. -/
theorem wp_region_vs {P : Program} {Q : Exit → Act → World → Prop} {id : Nat} {ops : Array Oper} {a0 : Act} {w0 : World} (hm : P.follows .mixedOrders = true) (T : Nat → (Nat → Value) → World → Prop) (B : (Nat → Value) → World → Prop) (n : Nat) (hn : a0.tmps.size = n) (hp : plainOps 0 ops.toList [] n = true) (hB : B (fun _ => undef) w0.drew)
    (hop : AllOps (fun i o => ∀ a w vs, vs i = undef → B vs w → (∀ k d, depB ops o k d = true → a.eval (.tmp d) = vs k ∧ T k vs w) → (∀ d, outB ops.toList d = true → a.eval (.tmp d) = a0.eval (.tmp d)) → Oper.wp P o a w (fun a' w' => ∃ v, a' = a.put o.dst v ∧ T i (upv vs i v) w' ∧ B (upv vs i v) w' ∧ ∀ j, j ≠ i → waitB ops j i = false → T j vs w → T j (upv vs i v) w') Q) 0 ops.toList)
    (hend : ∀ (vs : Nat → Value) w, B vs w → (∀ i, i < ops.size → T i vs w) → Q .normal (fill vs (fun _ => true) 0 ops.toList a0) w) : (Code.region id ops true).wp P Q a0 w0 := by
  refine wp_region_any hm ?_
  have key : ∀ (fuel : Nat) (listed : Array Bool) (vs : Nat → Value) (w : World), listed.size = ops.size → left listed ≤ fuel → Shut1 ops listed → (∀ i, listed.getD i false = false → vs i = undef) → B vs w → (∀ i, i < ops.size → listed.getD i false = true → T i vs w) → wpAny P .any ops Q fuel listed (fill vs (fun i => listed.getD i false) 0 ops.toList a0) w := by
    intro fuel
    induction fuel with
    | zero =>
      intro listed vs w hs hl hc hu hb hT
      have hall : ∀ i, i < ops.size → listed.getD i true = true := fun i hi => by
        refine Classical.byContradiction fun c => ?_
        have := left_set (listed := listed) (i := i) (by simpa using c)
        omega
      have hr : Region.ready .any ops listed = [] := List.eq_nil_iff_forall_not_mem.2 fun i hi => by
        obtain ⟨h1, o, h2, _⟩ := mem_ready.1 hi
        have h3 : i < ops.size := (Array.getElem?_eq_some_iff.1 h2).1
        rw [hall i h3] at h1
        cases h1
      refine ⟨hr, ?_⟩
      have hf : ∀ i, i < ops.size → listed.getD i false = true := fun i hi => by
        have h := hall i hi
        have h3 : i < listed.size := by omega
        simp [h3] at h ⊢
        exact h
      have e : fill vs (fun i => listed.getD i false) 0 ops.toList a0 = fill vs (fun _ => true) 0 ops.toList a0 := by
        have : ∀ (l : List Oper) (k : Nat) (a : Act), k + l.length ≤ ops.size → fill vs (fun i => listed.getD i false) k l a = fill vs (fun _ => true) k l a := by
          intro l
          induction l with
          | nil => intro k a _; rfl
          | cons x r ih =>
            intro k a h
            simp at h
            rw [fill, fill, hf k (by omega)]
            exact ih (k + 1) _ (by omega)
        exact this _ _ _ (by simp)
      rw [e]
      exact hend vs w hb (fun i hi => hT i hi (hf i hi))
    | succ fuel ih =>
      intro listed vs w hs hl hc hu hb hT
      refine ⟨fun hr => ?_, fun i hi => ?_⟩
      · have hall := ready_end hp hs hr
        have hf : ∀ i, i < ops.size → listed.getD i false = true := fun i hi => by
          have h := hall i hi
          have h3 : i < listed.size := by omega
          simp [h3] at h ⊢
          exact h
        have e : fill vs (fun i => listed.getD i false) 0 ops.toList a0 = fill vs (fun _ => true) 0 ops.toList a0 := by
          have : ∀ (l : List Oper) (k : Nat) (a : Act), k + l.length ≤ ops.size → fill vs (fun i => listed.getD i false) k l a = fill vs (fun _ => true) k l a := by
            intro l
            induction l with
            | nil => intro k a _; rfl
            | cons x r ih =>
              intro k a h
              simp at h
              rw [fill, fill, hf k (by omega)]
              exact ih (k + 1) _ (by omega)
          exact this _ _ _ (by simp)
        rw [e]
        exact hend vs w hb (fun i hi => hT i hi (hf i hi))
      · obtain ⟨h1, o, h2, h3⟩ := mem_ready.1 hi
        have hio : i < ops.size := (Array.getElem?_eq_some_iff.1 h2).1
        have hil : i < listed.size := by omega
        have h2' : ops.toList[i]? = some o := by simpa using h2
        have hg := (plain_at _ _ _ _ hp i o h2').1
        have hlf : listed.getD i false = false := by simp [hil] at h1 ⊢; exact h1
        unfold wpOp
        rw [h2]
        simp only
        rw [if_pos (by simp [Region.wanted, hg])]
        have hopi := AllOps.at _ _ hop i o h2'
        rw [Nat.zero_add] at hopi
        have hstep := hopi (fill vs (fun i => listed.getD i false) 0 ops.toList a0) w vs (hu i hlf) hb (fun k d hd => ?_) (fun d hd => ?_)
        · refine .inl (Oper.wp_mono ?_ hstep)
          rintro a' w' ⟨v, rfl, hTi, hb', hbel⟩
          have hup : upv vs i v = fun j => if j = i then v else vs j := rfl
          rw [hup] at hTi hb' hbel
          have e := fill_more vs (fun i => listed.getD i false) v n ops.toList 0 [] a0 hp i o h2' (by simpa using hlf)
          rw [← e]
          have e2 : fill (fun j => if j = 0 + i then v else vs j) (fun j => if j = 0 + i then true else listed.getD j false) 0 ops.toList a0 = fill (fun j => if j = i then v else vs j) (fun j => (listed.setIfInBounds i true).getD j false) 0 ops.toList a0 := by
            refine fill_congr _ _ _ fun j _ => ⟨?_, by simp⟩
            by_cases c : j = i
            · subst c; simp [hil]
            · rw [if_neg (by simpa using c), getD_set_ne false (Ne.symm c)]
          rw [e2]
          refine ih (listed.setIfInBounds i true) _ w' (by simpa using hs) (by have := left_set h1; omega) (fun j o' ho' hl' ed he hbd => ?_) (fun j hj => ?_) hb' (fun j hj hl' => ?_)
          · by_cases ce : ed.on = i
            · rw [ce]; simp [hil]
            · rw [getD_set_ne false (Ne.symm ce)]
              by_cases c : j = i
              · subst c
                rw [h2] at ho'
                cases ho'
                exact h3 ed he hbd
              · rw [getD_set_ne false (Ne.symm c)] at hl'
                exact hc j o' ho' hl' ed he hbd
          · by_cases c : j = i
            · subst c; simp [hil] at hj
            · rw [getD_set_ne false (Ne.symm c)] at hj
              show (if j = i then v else vs j) = undef
              rw [if_neg c]; exact hu j hj
          · by_cases c : j = i
            · subst c; exact hTi
            · rw [getD_set_ne false (Ne.symm c)] at hl'
              refine hbel j c ?_ (hT j hj hl')
              unfold waitB
              cases hoj : ops[j]? with
              | none => rfl
              | some oj =>
                show oj.after.any (fun e => e.on == i && Region.binds .any e) = false
                rw [Array.any_eq_false']
                intro e he hh
                simp only [Bool.and_eq_true, beq_iff_eq] at hh
                have := hc j oj hoj hl' e he hh.2
                rw [hh.1, hlf] at this
                cases this
        · unfold depB at hd
          simp only [Bool.and_eq_true, Array.any_eq_true', beq_iff_eq] at hd
          obtain ⟨⟨e, he, rfl, hbd⟩, hdst⟩ := hd
          cases ho : ops[e.on]? with
          | none => rw [ho] at hdst; cases hdst
          | some o' =>
            rw [ho] at hdst
            simp only [beq_iff_eq] at hdst
            have hle := h3 e he hbd
            have := fill_get vs (fun i => listed.getD i false) n ops.toList 0 [] a0 hp hn e.on o' d (by simpa using ho) hdst (by simpa using hle)
            rw [Nat.zero_add] at this
            exact ⟨this, hT e.on (Array.getElem?_eq_some_iff.1 ho).1 hle⟩
        · show (fill vs (fun i => listed.getD i false) 0 ops.toList a0).tmps.getD d undef = a0.tmps.getD d undef
          refine fill_out vs _ d _ _ _ fun o' ho' c => ?_
          unfold outB at hd
          have := List.all_eq_true.1 hd o' ho'
          simp [c] at this
  have hz : left (Array.replicate ops.size false) ≤ ops.size := by
    unfold left
    exact Nat.le_trans List.countP_le_length (by simp)
  have h := key ops.size (Array.replicate ops.size false) (fun _ => undef) w0.drew (by simp) hz (fun j o ho hl => by by_cases c : j < ops.size <;> simp [c] at hl) (fun _ _ => rfl) hB (fun i hi h => by simp [hi] at h)
  have e : fill (fun _ => undef) (fun i => (Array.replicate ops.size false).getD i false) 0 ops.toList a0 = a0 := by
    have : ∀ (l : List Oper) (k : Nat) (a : Act), fill (fun _ => undef) (fun i => (Array.replicate ops.size false).getD i false) k l a = a := by
      intro l
      induction l with
      | nil => intro k a; rfl
      | cons x r ih =>
        intro k a
        rw [fill, ih, if_neg (by by_cases c : k < ops.size <;> simp [c])]
    exact this _ _ _
  rw [e] at h
  exact h
end Go.Proofs.Ytepgkemnpcadiab
