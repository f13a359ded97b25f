/-
  A region that draws its order, in which a row is appended to, and what is made of it is stored last.
-/
import Derived.Test.YtepgkemnpcadiabVa
namespace Go.Proofs.Ytepgkemnpcadiab
open Go.ChangeShapes Go.WideShapes Go.ChangeAt Go.RowKit
set_option linter.unusedVariables false
set_option linter.unusedSimpArgs false
set_option maxRecDepth 20000
/-- Slots one by one. -/
def putsD (vs : Nat → Value) : Nat → List (Option Tmp) → Act → Act
  | _, [], a => a
  | k, d :: r, a => putsD vs (k + 1) r (a.put d (vs k))
theorem fill_dst {vs : Nat → Value} : ∀ {l : List Oper} {k : Nat} {a : Act} (ds : List (Option Tmp)) (h : l.map Oper.dst = ds), fill vs (fun _ => true) k l a = putsD vs k ds a
  | [], k, a, ds, h => by subst h; rfl
  | x :: r, k, a, ds, h => by
    subst h
    rw [fill, if_pos rfl, List.map_cons, putsD]
    exact fill_dst _ rfl
theorem set_c20 {α : Type} (a0 a1 a2 a3 a4 a5 a6 a7 a8 a9 a10 a11 a12 a13 a14 a15 a16 a17 a18 a19 : α) (l : List α) (n : Nat) (v : α) : (a0 :: a1 :: a2 :: a3 :: a4 :: a5 :: a6 :: a7 :: a8 :: a9 :: a10 :: a11 :: a12 :: a13 :: a14 :: a15 :: a16 :: a17 :: a18 :: a19 :: l).set (n + 20) v = a0 :: a1 :: a2 :: a3 :: a4 :: a5 :: a6 :: a7 :: a8 :: a9 :: a10 :: a11 :: a12 :: a13 :: a14 :: a15 :: a16 :: a17 :: a18 :: a19 :: l.set n v := rfl
/-- One that waits, by and by, for all ahead of it. -/
theorem last_pre {ops : Array Oper} {listed : Array Bool} {m : Nat} {o : Oper} (hl : lastB (ops.toList.take (m + 1)) = true) (hc : Shut1 ops listed) (ho : ops[m]? = some o) (hr : ∀ e ∈ o.after, Region.binds .any e = true → listed.getD e.on false = true) : ∀ d k, k + d + 1 = m → listed.getD k false = true := by
  have hms : m < ops.size := (Array.getElem?_eq_some_iff.1 ho).1
  intro d
  induction d using Nat.strongRecOn with
  | _ d ih =>
    intro k hk
    unfold lastB at hl
    rw [List.all_eq_true] at hl
    have h1 := hl k (List.mem_range.2 (by simp; omega))
    simp only [List.any_eq_true, Array.any_eq_true', Bool.and_eq_true, beq_iff_eq] at h1
    obtain ⟨o', ho', e, he, hek, hb⟩ := h1
    obtain ⟨j, hj⟩ := List.getElem?_of_mem ho'
    rw [List.getElem?_drop, List.getElem?_take] at hj
    split at hj
    · rename_i hjm
      have hjo : ops[k + 1 + j]? = some o' := by simpa using hj
      by_cases c : k + 1 + j = m
      · rw [c] at hjo
        rw [hjo] at ho
        cases ho
        have := hr e he hb
        rwa [hek] at this
      · have h2 := ih (d - 1 - j) (by omega) (k + 1 + j) (by omega)
        have := hc _ _ hjo h2 e he hb
        rwa [hek] at this
    · cases hj
/-- **A region by its operations**: one (s) comes behind all ahead of it and changes memory at will (B2: what it leaves); those behind it look at no memory, but for the last, which comes last. -/
theorem wp_region_two {P : Program} {Q : Exit → Act → World → Prop} {id : Nat} {ops : Array Oper} {a0 : Act} {w0 : World} (hm : P.follows .mixedOrders = true) (T : Nat → World → Value → Prop) (B : World → Prop) (s m : Nat) (B2 : World → Value → Prop) (n : Nat) (hn : a0.tmps.size = n) (hsz : ops.size = m + 1) (hsm : s < m) (ds : List (Option Tmp)) (hds : (ops.toList.take m).map Oper.dst = ds) (tyS : TypeId) (xS yS : Operand) (hst : (ops[m]'(by omega)).op = .store tyS xS yS) (hdn : (ops[m]'(by omega)).dst = none) (hp : plainOps 0 ops.toList [] n = true) (hls : lastB (ops.toList.take (s + 1)) = true) (hlb : lastB ops.toList = true)
    (Mo : World → World → Prop) (hmon : ∀ k w w' v, Mo w w' → T k w v → T k w' v) (hpi : ∀ i w w' v, s < i → T i w v → T i w' v) (hB : B w0.drew)
    (hop : AllOps (fun i o => i ≠ s → i ≠ m → ∀ a w, (i < s → B w) → (∀ k d, depB ops o k d = true → (i < s ∨ s < k) → T k w (a.eval (.tmp d))) → (∀ d, outB ops.toList d = true → a.eval (.tmp d) = a0.eval (.tmp d)) → Oper.wp P o a w (fun a' w' => ∃ v, a' = a.put o.dst v ∧ T i w' v ∧ (i < s → B w') ∧ (i < s → Mo w w') ∧ (s < i → w' = w)) Q) 0 ops.toList)
    (hS : ∀ a w (vs : Nat → Value), B w → (∀ i, i < s → T i w (vs i)) → (∀ k d, depB ops (ops[s]'(by omega)) k d = true → a.eval (.tmp d) = vs k) → (∀ d, outB ops.toList d = true → a.eval (.tmp d) = a0.eval (.tmp d)) → Oper.wp P (ops[s]'(by omega)) a w (fun a' w' => ∃ v, a' = a.put (ops[s]'(by omega)).dst v ∧ B2 w' v) Q)
    (hend : ∀ (vs : Nat → Value) w, B2 w (vs s) → (∀ i, s < i → i < m → T i w (vs i)) → ∃ (b f : Nat) (cs : List Value) (U : TypeId) (v : Value) (us : List Value), (putsD vs 0 ds a0).eval xS = .pointer (some ⟨b, f, none⟩) ∧ (putsD vs 0 ds a0).eval yS = v ∧ v.cells = us.toArray ∧ w.heap[b]? = some (.cells cs.toArray U (0, 0)) ∧ f + us.length ≤ cs.length ∧ (P.info? tyS).map (·.size) = some us.length ∧ us.all (·.oneCell') = true ∧ ∀ w', w'.heap[b]? = some (.cells (ovr cs f us).toArray U (0, 0)) → Fr (fun i => i = b) w w' → Q .normal (putsD vs 0 ds a0) w') : (Code.region id ops true).wp P Q a0 w0 := by
  refine wp_region_any hm ?_
  have fl : ∀ (vs : Nat → Value) (ls : Nat → Bool), (∀ i, i < m → ls i = true) → ls m = false → fill vs ls 0 ops.toList a0 = fill vs (fun _ => true) 0 (ops.toList.take m) a0 := by
    intro vs ls h1 h2
    have : ∀ (l : List Oper) (k : Nat) (a : Act), k + l.length = m + 1 → k ≤ m → fill vs ls k l a = fill vs (fun _ => true) k (l.take (m - k)) a := by
      intro l
      induction l with
      | nil => intro k a h hk; simp at h; omega
      | cons x r ih =>
        intro k a h hk
        simp at h
        by_cases c : k = m
        · subst c
          obtain rfl : r = [] := List.eq_nil_of_length_eq_zero (by omega)
          simp [fill, h2]
        · rw [show m - k = (m - (k + 1)) + 1 by omega, List.take_succ_cons, fill, fill, h1 k (by omega)]
          exact ih (k + 1) _ (by omega) (by omega)
    have := this ops.toList 0 a0 (by simp [hsz]) (by omega)
    simpa using this
  have key : ∀ (fuel : Nat) (listed : Array Bool) (vs : Nat → Value) (w : World), listed.size = ops.size → left listed ≤ fuel → Shut1 ops listed → listed.getD m false = false → (listed.getD s false = true → ∀ k, k < s → listed.getD k false = true) → (listed.getD s false = false → B w ∧ ∀ i, i < s → listed.getD i false = true → T i w (vs i)) → (listed.getD s false = true → B2 w (vs s)) → (∀ i, s < i → i < m → listed.getD i false = true → T i w (vs i)) → wpAny P .any ops Q fuel listed (fill vs (fun i => listed.getD i false) 0 ops.toList a0) w := by
    intro fuel
    induction fuel with
    | zero =>
      intro listed vs w hs hl hc hml hpre h1 h2 h3
      have := left_set (listed := listed) (i := m) (by have h3 : m < listed.size := by omega
                                                       simp [h3] at hml ⊢; exact hml)
      omega
    | succ fuel ih =>
      intro listed vs w hs hl hc hml hpre hb1 hb2 hT
      refine ⟨fun hr => ?_, fun i hi => ?_⟩
      · have h := ready_end hp hs hr m (by omega)
        have h3 : m < listed.size := by omega
        simp [h3] at h hml
        rw [h] at hml
        cases hml
      · obtain ⟨h1, o, h2, h3⟩ := mem_ready.1 hi
        have hio : i < ops.size := (Array.getElem?_eq_some_iff.1 h2).1
        have hil : i < listed.size := by omega
        have h2' : ops.toList[i]? = some o := by simpa using h2
        have hg := (plain_at _ _ _ _ hp i o h2').1
        have hlf : listed.getD i false = false := by simp [hil] at h1 ⊢; exact h1
        have hdep : ∀ k d, depB ops o k d = true → k < i ∧ listed.getD k false = true ∧ (fill vs (fun i => listed.getD i false) 0 ops.toList a0).tmps.getD d undef = vs k := fun k d hd => by
          unfold depB at hd
          simp only [Bool.and_eq_true, Array.any_eq_true', beq_iff_eq] at hd
          obtain ⟨⟨e, he, rfl, hbd⟩, hdst⟩ := hd
          cases ho : ops[e.on]? with
          | none => rw [ho] at hdst; cases hdst
          | some o' =>
            rw [ho] at hdst
            simp only [beq_iff_eq] at hdst
            have hle := h3 e he hbd
            have := fill_get vs (fun i => listed.getD i false) n ops.toList 0 [] a0 hp hn e.on o' d (by simpa using ho) hdst (by simpa using hle)
            rw [Nat.zero_add] at this
            have hlt := (plain_at _ _ _ _ hp i o h2').2.1 e he hbd
            exact ⟨by omega, hle, this⟩
        have hout : ∀ d, outB ops.toList d = true → (fill vs (fun i => listed.getD i false) 0 ops.toList a0).eval (.tmp d) = a0.eval (.tmp d) := fun d hd => by
          show (fill vs (fun i => listed.getD i false) 0 ops.toList a0).tmps.getD d undef = a0.tmps.getD d undef
          refine fill_out vs _ d _ _ _ fun o' ho' c => ?_
          unfold outB at hd
          have := List.all_eq_true.1 hd o' ho'
          simp [c] at this
        have hnew : ∀ v : Value, (fill vs (fun i => listed.getD i false) 0 ops.toList a0).put o.dst v = fill (fun j => if j = i then v else vs j) (fun j => (listed.setIfInBounds i true).getD j false) 0 ops.toList a0 := fun v => by
          have e := fill_more vs (fun i => listed.getD i false) v n ops.toList 0 [] a0 hp i o h2' (by simpa using hlf)
          rw [← e]
          refine fill_congr _ _ _ fun j _ => ⟨?_, by simp⟩
          by_cases c : j = i
          · subst c; simp [hil]
          · rw [if_neg (by simpa using c), getD_set_ne false (Ne.symm c)]
        have hshut : Shut1 ops (listed.setIfInBounds i true) := fun j o' ho' hl' ed he hbd => by
          by_cases ce : ed.on = i
          · rw [ce]; simp [hil]
          · rw [getD_set_ne false (Ne.symm ce)]
            by_cases c : j = i
            · subst c
              rw [h2] at ho'
              cases ho'
              exact h3 ed he hbd
            · rw [getD_set_ne false (Ne.symm c)] at hl'
              exact hc j o' ho' hl' ed he hbd
        unfold wpOp
        rw [h2]
        simp only
        rw [if_pos (by simp [Region.wanted, hg])]
        by_cases cm : i = m
        · subst cm
          have hoo : o = ops[i]'(by omega) := by rw [Array.getElem?_eq_getElem (by omega)] at h2; exact (Option.some.inj h2).symm
          subst hoo
          have hall : ∀ k, k < i → listed.getD k false = true := fun k hk => last_all hsz hlb hc h2 h3 (i - 1 - k) k (by omega)
          have e := fl vs (fun i => listed.getD i false) hall hml
          rw [e]
          rw [fill_dst ds hds]
          obtain ⟨b, f, cs, U, v, us, g1, g2, g3, g4, g5, g6, g7, g8⟩ := hend vs w (hb2 (hall s hsm)) (fun j h8 h9 => hT j h8 h9 (hall j h9))
          refine .inl (Oper.wp_mono (K := fun a' w' => Q .normal a' w') ?_ (op_st tyS xS yS hst b f cs U v us g1 g2 g3 g4 g5 g6 g7 (fun w' k1 k2 => by rw [hdn]; exact g8 w' k1 k2)))
          intro a' w' hq
          have hrd : Region.ready .any ops (listed.setIfInBounds i true) = [] := List.eq_nil_iff_forall_not_mem.2 fun j hj => by
            obtain ⟨q1, o', q2, _⟩ := mem_ready.1 hj
            have q3 : j < ops.size := (Array.getElem?_eq_some_iff.1 q2).1
            by_cases cj : j = i
            · subst cj; simp [hil] at q1
            · rw [getD_set_ne true (Ne.symm cj)] at q1
              have := hall j (by omega)
              have q4 : j < listed.size := by omega
              simp [q4] at this q1
              rw [this] at q1
              cases q1
          cases fuel with
          | zero => exact ⟨hrd, hq⟩
          | succ f => exact ⟨fun _ => hq, by rw [hrd]; intro i hi; cases hi⟩
        · have hml' : (listed.setIfInBounds i true).getD m false = false := by rw [getD_set_ne false cm]; exact hml
          by_cases cs : i = s
          · subst cs
            have hoo : o = ops[i]'(by omega) := by rw [Array.getElem?_eq_getElem (by omega)] at h2; exact (Option.some.inj h2).symm
            subst hoo
            have hall : ∀ k, k < i → listed.getD k false = true := fun k hk => last_pre hls hc h2 h3 (i - 1 - k) k (by omega)
            obtain ⟨hb, hTT⟩ := hb1 hlf
            refine .inl (Oper.wp_mono ?_ (hS _ w vs hb (fun k hk => hTT k hk (hall k hk)) (fun k d hd => (hdep k d hd).2.2) hout))
            rintro a' w' ⟨v, rfl, hB2⟩
            rw [hnew v]
            refine ih (listed.setIfInBounds i true) _ w' (by simpa using hs) (by have := left_set h1; omega) hshut hml' (fun _ k hk => by rw [getD_set_ne false (by omega)]; exact hall k hk) (fun h => by simp [hil] at h) (fun _ => by simpa using hB2) (fun j h8 h9 h7 => ?_)
            rw [getD_set_ne false (by omega)] at h7
            rw [if_neg (by omega)]
            exact hpi j w w' _ h8 (hT j h8 h9 h7)
          · have him : i < m := by omega
            have hstep := AllOps.at _ _ hop i o h2'
            rw [Nat.zero_add] at hstep
            by_cases ci : i < s
            · have hsn : listed.getD s false = false := by
                cases hq : listed.getD s false
                · rfl
                · have := hpre hq i ci
                  rw [hlf] at this
                  cases this
              obtain ⟨hb, hTT⟩ := hb1 hsn
              have := hstep cs cm (fill vs (fun i => listed.getD i false) 0 ops.toList a0) w (fun _ => hb) (fun k d hd _ => by
                obtain ⟨q1, q2, q3⟩ := hdep k d hd
                show T k w ((fill vs (fun i => listed.getD i false) 0 ops.toList a0).tmps.getD d undef)
                rw [q3]
                exact hTT k (by omega) q2) hout
              refine .inl (Oper.wp_mono ?_ this)
              rintro a' w' ⟨v, rfl, hTi, hb', hmo, _⟩
              rw [hnew v]
              refine ih (listed.setIfInBounds i true) _ w' (by simpa using hs) (by have := left_set h1; omega) hshut hml' (fun h => by rw [getD_set_ne false cs, hsn] at h; cases h) (fun _ => ⟨hb' ci, fun j hj hl' => ?_⟩) (fun h => by rw [getD_set_ne false cs, hsn] at h; cases h) (fun j h8 h9 h7 => ?_)
              · by_cases c : j = i
                · subst c; simpa using hTi
                · rw [if_neg c]
                  rw [getD_set_ne false (Ne.symm c)] at hl'
                  exact hmon j w w' _ (hmo ci) (hTT j hj hl')
              · rw [getD_set_ne false (by omega)] at h7
                rw [if_neg (by omega)]
                exact hpi j w w' _ h8 (hT j h8 h9 h7)
            · have := hstep cs cm (fill vs (fun i => listed.getD i false) 0 ops.toList a0) w (fun h => absurd h ci) (fun k d hd hk => by
                obtain ⟨q1, q2, q3⟩ := hdep k d hd
                show T k w ((fill vs (fun i => listed.getD i false) 0 ops.toList a0).tmps.getD d undef)
                rw [q3]
                rcases hk with hk | hk
                · omega
                · exact hT k hk (by omega) q2) hout
              refine .inl (Oper.wp_mono ?_ this)
              rintro a' w' ⟨v, rfl, hTi, _, _, hww⟩
              obtain rfl := hww (by omega)
              rw [hnew v]
              refine ih (listed.setIfInBounds i true) _ w' (by simpa using hs) (by have := left_set h1; omega) hshut hml' (fun h k hk => ?_) (fun h => ?_) (fun h => ?_) (fun j h8 h9 h7 => ?_)
              · rw [getD_set_ne false cs] at h
                rw [getD_set_ne false (by omega)]
                exact hpre h k hk
              · rw [getD_set_ne false cs] at h
                refine ⟨(hb1 h).1, fun j hj hl' => ?_⟩
                rw [getD_set_ne false (by omega)] at hl'
                rw [if_neg (by omega)]
                exact (hb1 h).2 j hj hl'
              · rw [getD_set_ne false cs] at h
                rw [if_neg (Ne.symm cs)]
                exact hb2 h
              · by_cases c : j = i
                · subst c; simpa using hTi
                · rw [if_neg c]
                  rw [getD_set_ne false (Ne.symm c)] at h7
                  exact hT j h8 h9 h7
  have hz : left (Array.replicate ops.size false) ≤ ops.size := by
    unfold left
    exact Nat.le_trans List.countP_le_length (by simp)
  have hno : ∀ i, (Array.replicate ops.size false).getD i false = false := fun i => by by_cases c : i < ops.size <;> simp [c]
  have h := key ops.size (Array.replicate ops.size false) (fun _ => undef) w0.drew (by simp) hz (fun j o ho hl => by rw [hno] at hl; cases hl) (hno m) (fun h => by rw [hno] at h; cases h) (fun _ => ⟨hB, fun i _ h => by rw [hno] at h; cases h⟩) (fun h => by rw [hno] at h; cases h) (fun i _ _ h => by rw [hno] at h; cases h)
  have e : fill (fun _ => undef) (fun i => (Array.replicate ops.size false).getD i false) 0 ops.toList a0 = a0 := by
    have : ∀ (l : List Oper) (k : Nat) (a : Act), fill (fun _ => undef) (fun i => (Array.replicate ops.size false).getD i false) k l a = a := by
      intro l
      induction l with
      | nil => intro k a; rfl
      | cons x r ih =>
        intro k a
        rw [fill, ih, if_neg (by rw [hno]; decide)]
    exact this _ _ _
  rw [e] at h
  exact h
/-- **A region by its operations, the last of which stores what they made.** -/
theorem wp_region_st {P : Program} {Q : Exit → Act → World → Prop} {id : Nat} {ops : Array Oper} {a0 : Act} {w0 : World} (hm : P.follows .mixedOrders = true) (T : Nat → World → Value → Prop) (B : World → Prop) (n m : Nat) (hn : a0.tmps.size = n) (hsz : ops.size = m + 1) (ds : List (Option Tmp)) (hds : (ops.toList.take m).map Oper.dst = ds) (tyS : TypeId) (xS yS : Operand) (hst : (ops[m]'(by omega)).op = .store tyS xS yS) (hdn : (ops[m]'(by omega)).dst = none) (hp : plainOps 0 ops.toList [] n = true) (hlb : lastB ops.toList = true)
    (Mo : World → World → Prop) (hmon : ∀ k w w' v, Mo w w' → T k w v → T k w' v) (hB : B w0.drew)
    (hop : AllOps (fun i o => ∀ a w, B w → (∀ k d, depB ops o k d = true → T k w (a.eval (.tmp d))) → (∀ d, outB ops.toList d = true → a.eval (.tmp d) = a0.eval (.tmp d)) → Oper.wp P o a w (fun a' w' => ∃ v, a' = a.put o.dst v ∧ T i w' v ∧ B w' ∧ Mo w w') Q) 0 (ops.toList.take m))
    (hend : ∀ (vs : Nat → Value) w, B w → (∀ i, i < m → T i w (vs i)) → ∃ (b f : Nat) (cs : List Value) (U : TypeId) (v : Value) (us : List Value), (putsD vs 0 ds a0).eval xS = .pointer (some ⟨b, f, none⟩) ∧ (putsD vs 0 ds a0).eval yS = v ∧ v.cells = us.toArray ∧ w.heap[b]? = some (.cells cs.toArray U (0, 0)) ∧ f + us.length ≤ cs.length ∧ (P.info? tyS).map (·.size) = some us.length ∧ us.all (·.oneCell') = true ∧ ∀ w', w'.heap[b]? = some (.cells (ovr cs f us).toArray U (0, 0)) → Fr (fun i => i = b) w w' → Q .normal (putsD vs 0 ds a0) w') : (Code.region id ops true).wp P Q a0 w0 := by
  refine wp_region_last hm T B n m hn hsz hp hlb Mo hmon hB hop fun vs w o ho hb hT => ?_
  have hoo : o = ops[m]'(by omega) := by rw [Array.getElem?_eq_getElem (by omega)] at ho; exact (Option.some.inj ho).symm
  subst hoo
  obtain ⟨b, f, cs, U, v, us, g1, g2, g3, g4, g5, g6, g7, g8⟩ := hend vs w hb hT
  rw [fill_dst ds hds]
  exact op_st tyS xS yS hst b f cs U v us g1 g2 g3 g4 g5 g6 g7 (fun w' k1 k2 => by rw [hdn]; exact g8 w' k1 k2)
end Go.Proofs.Ytepgkemnpcadiab
