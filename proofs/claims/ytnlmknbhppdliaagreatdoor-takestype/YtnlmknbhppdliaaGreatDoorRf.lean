/-
  A region that draws its order, in which a row is appended to, and what is made of it is stored last. Options, and fields that are summed up, by the reference. Does a rule speak of a type? By the reference. What comes of what, by the reference. A type, by the reference. The first elements of a row that is only read. What a rule emits, by the reference. A book, by the reference. A condition, by the reference. A pattern, by the reference. A link, by the reference. A rule, by the reference. A rule that is wrong at once, by the reference; every rule. A book, by the reference. Values, names, types and events in plain words. What Check and the document say of a value. What Name and the document say of a name. What checkAll says of values, one by one. How two values compare. Compare, and what the document says of it.
-/
import Derived.Deep.CutBlock
import Derived.Deep.LoopGhost
import Derived.Test.YtnlmknbhppdliaaGreatDoorRows
import Derived.Handy
import Derived.WalkSmall
import Derived.Deep.QuietTactic
import Derived.BigQuiet
import Derived.Deep.RegionHeld3
import Derived.Deep.RegionLaw
import Derived.OwnWalk
import Derived.Lib.Bytealg
import Derived.Test.YtnlmknbhppdliaaGreatDoorA
import Derived.Test.YtnlmknbhppdliaaGreatDoorS
set_option maxHeartbeats 64000000
namespace Go.Proofs.YtnlmknbhppdliaaGreatDoor
open Go.ChangeShapes Go.WideShapes Go.ChangeAt Go.RowKit
set_option linter.unusedVariables false
set_option linter.unusedSimpArgs false
def zB0 (vs : Nat → Value) : Nat → List (Option Tmp) → Act → Act
  | _, [], a => a
  | k, d :: r, a => zB0 vs (k + 1) r (a.put d (vs k))
theorem zEU {vs : Nat → Value} : ∀ {l : List Oper} {k : Nat} {a : Act} (ds : List (Option Tmp)) (h : l.map Oper.dst = ds), fill vs (fun _ => true) k l a = zB0 vs k ds a
 | [], k, a, ds, h => by subst h; rfl
 | x :: r, k, a, ds, h => by
  subst h
  rw [fill, if_pos rfl, List.map_cons, zB0]
  exact zEU _ rfl
theorem zBJ {α : Type} (a0 a1 a2 a3 a4 a5 a6 a7 a8 a9 a10 a11 a12 a13 a14 a15 a16 a17 a18 a19 : α) (l : List α) (n : Nat) (v : α) : (a0 :: a1 :: a2 :: a3 :: a4 :: a5 :: a6 :: a7 :: a8 :: a9 :: a10 :: a11 :: a12 :: a13 :: a14 :: a15 :: a16 :: a17 :: a18 :: a19 :: l).set (n + 20) v = a0 :: a1 :: a2 :: a3 :: a4 :: a5 :: a6 :: a7 :: a8 :: a9 :: a10 :: a11 :: a12 :: a13 :: a14 :: a15 :: a16 :: a17 :: a18 :: a19 :: l.set n v := rfl
theorem last_pre {ops : Array Oper} {listed : Array Bool} {m : Nat} {o : Oper} (hl : zFN (ops.toList.take (m + 1)) = true) (hc : zIA ops listed) (ho : ops[m]? = some o) (hr : ∀ e ∈ o.after, Region.binds .any e = true → listed.getD e.on false = true) : ∀ d k, k + d + 1 = m → listed.getD k false = true := by
 have hms : m < ops.size := (Array.getElem?_eq_some_iff.1 ho).1
 intro d
 induction d using Nat.strongRecOn with
 | _ d ih =>
  intro k hk
  unfold zFN at hl
  rw [List.all_eq_true] at hl
  have h1 := hl k (List.mem_range.2 (by simp; omega))
  simp only [List.any_eq_true, Array.any_eq_true', Bool.and_eq_true, beq_iff_eq] at h1
  obtain ⟨o', ho', e, he, hek, hb⟩ := h1
  obtain ⟨j, hj⟩ := List.getElem?_of_mem ho'
  rw [List.getElem?_drop, List.getElem?_take] at hj
  split at hj
  . rename_i hjm
    have hjo : ops[k + 1 + j]? = some o' := by simpa using hj
    by_cases c : k + 1 + j = m
    . rw [c] at hjo
      rw [hjo] at ho
      cases ho
      have := hr e he hb
      rwa [hek] at this
    . have h2 := ih (d - 1 - j) (by omega) (k + 1 + j) (by omega)
      have := hc _ _ hjo h2 e he hb
      rwa [hek] at this
  . cases hj
theorem zA2           {P : Program} {Q : Exit → Act → World → Prop} {id : Nat} {ops : Array Oper} {a0 : Act} {w0 : World} (hm : P.follows .mixedOrders = true) (T : Nat → World → Value → Prop) (B : World → Prop) (s m : Nat) (B2 : World → Value → Prop) (n : Nat) (hn : a0.tmps.size = n) (hsz : ops.size = m + 1) (hsm : s < m) (ds : List (Option Tmp)) (hds : (ops.toList.take m).map Oper.dst = ds) (tyS : TypeId) (xS yS : Operand) (hst : (ops[m]'(by omega)).op = .store tyS xS yS) (hdn : (ops[m]'(by omega)).dst = none) (hp : zAW      0 ops.toList [] n = true) (hls : zFN   (ops.toList.take (s + 1)) = true) (hlb : zFN   ops.toList = true)
    (Mo : World → World → Prop) (hmon : ∀ k w w' v, Mo w w' → T k w v → T k w' v) (hpi : ∀ i w w' v, s < i → T i w v → T i w' v) (hB : B w0.drew)
    (hop : zAC (fun i o => i ≠ s → i ≠ m → ∀ a w, (i < s → B w) → (∀ k d, depB ops o k d = true → (i < s ∨ s < k) → T k w (a.eval (.tmp d))) → (∀ d, outB ops.toList d = true → a.eval (.tmp d) = a0.eval (.tmp d)) → Oper.wp P o a w (fun a' w' => ∃ v, a' = a.put o.dst v ∧ T i w' v ∧ (i < s → B w') ∧ (i < s → Mo w w') ∧ (s < i → w' = w)) Q) 0 ops.toList)
    (hS : ∀ a w (vs : Nat → Value), B w → (∀ i, i < s → T i w (vs i)) → (∀ k d, depB ops (ops[s]'(by omega)) k d = true → a.eval (.tmp d) = vs k) → (∀ d, outB ops.toList d = true → a.eval (.tmp d) = a0.eval (.tmp d)) → Oper.wp P (ops[s]'(by omega)) a w (fun a' w' => ∃ v, a' = a.put (ops[s]'(by omega)).dst v ∧ B2 w' v) Q)
    (hend : ∀ (vs : Nat → Value) w, B2 w (vs s) → (∀ i, s < i → i < m → T i w (vs i)) → ∃ (b f : Nat) (cs : List Value) (U : TypeId) (v : Value) (us : List Value), (zB0 vs 0 ds a0).eval xS = .pointer (some ⟨b, f, none⟩) ∧ (zB0 vs 0 ds a0).eval yS = v ∧ v.cells = us.toArray ∧ w.heap[b]? = some (.cells cs.toArray U (0, 0)) ∧ f + us.length ≤ cs.length ∧ (P.info? tyS).map (·.size) = some us.length ∧ us.all (·.oneCell') = true ∧ ∀ w', w'.heap[b]? = some (.cells (ovr cs f us).toArray U (0, 0)) → Fr (fun i => i = b) w w' → Q .normal (zB0 vs 0 ds a0) w') : (Code.region id ops true).wp P Q a0 w0 := by
  refine wp_region_any hm ?_
  have fl : ∀ (vs : Nat → Value) (ls : Nat → Bool), (∀ i, i < m → ls i = true) → ls m = false → fill vs ls 0 ops.toList a0 = fill vs (fun _ => true) 0 (ops.toList.take m) a0 := by
    intro vs ls h1 h2
    have : ∀ (l : List Oper) (k : Nat) (a : Act), k + l.length = m + 1 → k ≤ m → fill vs ls k l a = fill vs (fun _ => true) k (l.take (m - k)) a := by
      intro l
      induction l with
      | nil => intro k a h hk; simp at h; omega
      | cons x r ih =>
        intro k a h hk
        simp at h
        by_cases c : k = m
        . subst c
          obtain rfl : r = [] := List.eq_nil_of_length_eq_zero (by omega)
          simp [fill, h2]
        . rw [show m - k = (m - (k + 1)) + 1 by omega, List.take_succ_cons, fill, fill, h1 k (by omega)]
          exact ih (k + 1) _ (by omega) (by omega)
    have := this ops.toList 0 a0 (by simp [hsz]) (by omega)
    simpa using this
  have key : ∀ (fuel : Nat) (listed : Array Bool) (vs : Nat → Value) (w : World), listed.size = ops.size → left listed ≤ fuel → zIA ops listed → listed.getD m false = false → (listed.getD s false = true → ∀ k, k < s → listed.getD k false = true) → (listed.getD s false = false → B w ∧ ∀ i, i < s → listed.getD i false = true → T i w (vs i)) → (listed.getD s false = true → B2 w (vs s)) → (∀ i, s < i → i < m → listed.getD i false = true → T i w (vs i)) → wpAny P .any ops Q fuel listed (fill vs (fun i => listed.getD i false) 0 ops.toList a0) w := by
    intro fuel
    induction fuel with
    | zero =>
      intro listed vs w hs hl hc hml hpre h1 h2 h3
      have := zBF      (listed := listed) (i := m) (by have h3 : m < listed.size := by omega
                                                       simp [h3] at hml ⊢; exact hml)
      omega
    | succ fuel ih =>
      intro listed vs w hs hl hc hml hpre hb1 hb2 hT
      refine ⟨fun hr => ?_, fun i hi => ?_⟩
      . have h := zC0 hp hs hr m (by omega)
        have h3 : m < listed.size := by omega
        simp [h3] at h hml
        rw [h] at hml
        cases hml
      . obtain ⟨h1, o, h2, h3⟩ := mem_ready.1 hi
        have hio : i < ops.size := (Array.getElem?_eq_some_iff.1 h2).1
        have hil : i < listed.size := by omega
        have h2' : ops.toList[i]? = some o := by simpa using h2
        have hg := (zBO _ _ _ _ hp i o h2').1
        have hlf : listed.getD i false = false := by simp [hil] at h1 ⊢; exact h1
        have hdep : ∀ k d, depB ops o k d = true → k < i ∧ listed.getD k false = true ∧ (fill vs (fun i => listed.getD i false) 0 ops.toList a0).tmps.getD d undef = vs k := fun k d hd => by
          unfold depB at hd
          simp only [Bool.and_eq_true, Array.any_eq_true', beq_iff_eq] at hd
          obtain ⟨⟨e, he, rfl, hbd⟩, hdst⟩ := hd
          cases ho : ops[e.on]? with
          | none => rw [ho] at hdst; cases hdst
          | some o' =>
            rw [ho] at hdst
            simp only [beq_iff_eq] at hdst
            have hle := h3 e he hbd
            have := zC2 vs (fun i => listed.getD i false) n ops.toList 0 [] a0 hp hn e.on o' d (by simpa using ho) hdst (by simpa using hle)
            rw [Nat.zero_add] at this
            have hlt := (zBO _ _ _ _ hp i o h2').2.1 e he hbd
            exact ⟨by omega, hle, this⟩
        have hout : ∀ d, outB ops.toList d = true → (fill vs (fun i => listed.getD i false) 0 ops.toList a0).eval (.tmp d) = a0.eval (.tmp d) := fun d hd => by
          show (fill vs (fun i => listed.getD i false) 0 ops.toList a0).tmps.getD d undef = a0.tmps.getD d undef
          refine zCL vs _ d _ _ _ fun o' ho' c => ?_
          unfold outB at hd
          have := List.all_eq_true.1 hd o' ho'
          simp [c] at this
        have hnew : ∀ v : Value, (fill vs (fun i => listed.getD i false) 0 ops.toList a0).put o.dst v = fill (fun j => if j = i then v else vs j) (fun j => (listed.setIfInBounds i true).getD j false) 0 ops.toList a0 := fun v => by
          have e := zCE vs (fun i => listed.getD i false) v n ops.toList 0 [] a0 hp i o h2' (by simpa using hlf)
          rw [← e]
          refine zBR _ _ _ fun j _ => ⟨?_, by simp⟩
          by_cases c : j = i
          . subst c; simp [hil]
          . rw [if_neg (by simpa using c), getD_set_ne false (Ne.symm c)]
        have hshut : zIA ops (listed.setIfInBounds i true) := fun j o' ho' hl' ed he hbd => by
          by_cases ce : ed.on = i
          . rw [ce]; simp [hil]
          . rw [getD_set_ne false (Ne.symm ce)]
            by_cases c : j = i
            . subst c
              rw [h2] at ho'
              cases ho'
              exact h3 ed he hbd
            . rw [getD_set_ne false (Ne.symm c)] at hl'
              exact hc j o' ho' hl' ed he hbd
        unfold wpOp
        rw [h2]
        simp only
        rw [if_pos (by simp [Region.wanted, hg])]
        by_cases cm : i = m
        . subst cm
          have hoo : o = ops[i]'(by omega) := by rw [Array.getElem?_eq_getElem (by omega)] at h2; exact (Option.some.inj h2).symm
          subst hoo
          have hall : ∀ k, k < i → listed.getD k false = true := fun k hk => zHW hsz hlb hc h2 h3 (i - 1 - k) k (by omega)
          have e := fl vs (fun i => listed.getD i false) hall hml
          rw [e]
          rw [zEU ds hds]
          obtain ⟨b, f, cs, U, v, us, g1, g2, g3, g4, g5, g6, g7, g8⟩ := hend vs w (hb2 (hall s hsm)) (fun j h8 h9 => hT j h8 h9 (hall j h9))
          refine .inl (Oper.wp_mono (K := fun a' w' => Q .normal a' w') ?_ (Chk.op_st tyS xS yS hst b f cs U v us g1 g2 g3 g4 g5 g6 g7 (fun w' k1 k2 => by rw [hdn]; exact g8 w' k1 k2)))
          intro a' w' hq
          have hrd : Region.ready .any ops (listed.setIfInBounds i true) = [] := List.eq_nil_iff_forall_not_mem.2 fun j hj => by
            obtain ⟨q1, o', q2, _⟩ := mem_ready.1 hj
            have q3 : j < ops.size := (Array.getElem?_eq_some_iff.1 q2).1
            by_cases cj : j = i
            . subst cj; simp [hil] at q1
            . rw [getD_set_ne true (Ne.symm cj)] at q1
              have := hall j (by omega)
              have q4 : j < listed.size := by omega
              simp [q4] at this q1
              rw [this] at q1
              cases q1
          cases fuel with
          | zero => exact ⟨hrd, hq⟩
          | succ f => exact ⟨fun _ => hq, by rw [hrd]; intro i hi; cases hi⟩
        . have hml' : (listed.setIfInBounds i true).getD m false = false := by rw [getD_set_ne false cm]; exact hml
          by_cases cs : i = s
          . subst cs
            have hoo : o = ops[i]'(by omega) := by rw [Array.getElem?_eq_getElem (by omega)] at h2; exact (Option.some.inj h2).symm
            subst hoo
            have hall : ∀ k, k < i → listed.getD k false = true := fun k hk => last_pre hls hc h2 h3 (i - 1 - k) k (by omega)
            obtain ⟨hb, hTT⟩ := hb1 hlf
            refine .inl (Oper.wp_mono ?_ (hS _ w vs hb (fun k hk => hTT k hk (hall k hk)) (fun k d hd => (hdep k d hd).2.2) hout))
            rintro a' w' ⟨v, rfl, hB2⟩
            rw [hnew v]
            refine ih (listed.setIfInBounds i true) _ w' (by simpa using hs) (by have := zBF h1; omega) hshut hml' (fun _ k hk => by rw [getD_set_ne false (by omega)]; exact hall k hk) (fun h => by simp [hil] at h) (fun _ => by simpa using hB2) (fun j h8 h9 h7 => ?_)
            rw [getD_set_ne false (by omega)] at h7
            rw [if_neg (by omega)]
            exact hpi j w w' _ h8 (hT j h8 h9 h7)
          . have him : i < m := by omega
            have hstep := zAC.at _ _ hop i o h2'
            rw [Nat.zero_add] at hstep
            by_cases ci : i < s
            . have hsn : listed.getD s false = false := by
                cases hq : listed.getD s false
                . rfl
                . have := hpre hq i ci
                  rw [hlf] at this
                  cases this
              obtain ⟨hb, hTT⟩ := hb1 hsn
              have := hstep cs cm (fill vs (fun i => listed.getD i false) 0 ops.toList a0) w (fun _ => hb) (fun k d hd _ => by
                obtain ⟨q1, q2, q3⟩ := hdep k d hd
                show T k w ((fill vs (fun i => listed.getD i false) 0 ops.toList a0).tmps.getD d undef)
                rw [q3]
                exact hTT k (by omega) q2) hout
              refine .inl (Oper.wp_mono ?_ this)
              rintro a' w' ⟨v, rfl, hTi, hb', hmo, _⟩
              rw [hnew v]
              refine ih (listed.setIfInBounds i true) _ w' (by simpa using hs) (by have := zBF h1; omega) hshut hml' (fun h => by rw [getD_set_ne false cs, hsn] at h; cases h) (fun _ => ⟨hb' ci, fun j hj hl' => ?_⟩) (fun h => by rw [getD_set_ne false cs, hsn] at h; cases h) (fun j h8 h9 h7 => ?_)
              . by_cases c : j = i
                . subst c; simpa using hTi
                . rw [if_neg c]
                  rw [getD_set_ne false (Ne.symm c)] at hl'
                  exact hmon j w w' _ (hmo ci) (hTT j hj hl')
              . rw [getD_set_ne false (by omega)] at h7
                rw [if_neg (by omega)]
                exact hpi j w w' _ h8 (hT j h8 h9 h7)
            . have := hstep cs cm (fill vs (fun i => listed.getD i false) 0 ops.toList a0) w (fun h => absurd h ci) (fun k d hd hk => by
                obtain ⟨q1, q2, q3⟩ := hdep k d hd
                show T k w ((fill vs (fun i => listed.getD i false) 0 ops.toList a0).tmps.getD d undef)
                rw [q3]
                rcases hk with hk | hk
                . omega
                . exact hT k hk (by omega) q2) hout
              refine .inl (Oper.wp_mono ?_ this)
              rintro a' w' ⟨v, rfl, hTi, _, _, hww⟩
              obtain rfl := hww (by omega)
              rw [hnew v]
              refine ih (listed.setIfInBounds i true) _ w' (by simpa using hs) (by have := zBF h1; omega) hshut hml' (fun h k hk => ?_) (fun h => ?_) (fun h => ?_) (fun j h8 h9 h7 => ?_)
              . rw [getD_set_ne false cs] at h
                rw [getD_set_ne false (by omega)]
                exact hpre h k hk
              . rw [getD_set_ne false cs] at h
                refine ⟨(hb1 h).1, fun j hj hl' => ?_⟩
                rw [getD_set_ne false (by omega)] at hl'
                rw [if_neg (by omega)]
                exact (hb1 h).2 j hj hl'
              . rw [getD_set_ne false cs] at h
                rw [if_neg (Ne.symm cs)]
                exact hb2 h
              . by_cases c : j = i
                . subst c; simpa using hTi
                . rw [if_neg c]
                  rw [getD_set_ne false (Ne.symm c)] at h7
                  exact hT j h8 h9 h7
  have hz : left (Array.replicate ops.size false) ≤ ops.size := by
    unfold left
    exact Nat.le_trans List.countP_le_length (by simp)
  have hno : ∀ i, (Array.replicate ops.size false).getD i false = false := fun i => by by_cases c : i < ops.size <;> simp [c]
  have h := key ops.size (Array.replicate ops.size false) (fun _ => undef) w0.drew (by simp) hz (fun j o ho hl => by rw [hno] at hl; cases hl) (hno m) (fun h => by rw [hno] at h; cases h) (fun _ => ⟨hB, fun i _ h => by rw [hno] at h; cases h⟩) (fun h => by rw [hno] at h; cases h) (fun i _ _ h => by rw [hno] at h; cases h)
  have e : fill (fun _ => undef) (fun i => (Array.replicate ops.size false).getD i false) 0 ops.toList a0 = a0 := by
    have : ∀ (l : List Oper) (k : Nat) (a : Act), fill (fun _ => undef) (fun i => (Array.replicate ops.size false).getD i false) k l a = a := by
      intro l
      induction l with
      | nil => intro k a; rfl
      | cons x r ih =>
        intro k a
        rw [fill, ih, if_neg (by rw [hno]; decide)]
    exact this _ _ _
  rw [e] at h
  exact h
theorem zBI {P : Program} {Q : Exit → Act → World → Prop} {id : Nat} {ops : Array Oper} {a0 : Act} {w0 : World} (hm : P.follows .mixedOrders = true) (T : Nat → World → Value → Prop) (B : World → Prop) (n m : Nat) (hn : a0.tmps.size = n) (hsz : ops.size = m + 1) (ds : List (Option Tmp)) (hds : (ops.toList.take m).map Oper.dst = ds) (tyS : TypeId) (xS yS : Operand) (hst : (ops[m]'(by omega)).op = .store tyS xS yS) (hdn : (ops[m]'(by omega)).dst = none) (hp : zAW 0 ops.toList [] n = true) (hlb : zFN ops.toList = true)
  (Mo : World → World → Prop) (hmon : ∀ k w w' v, Mo w w' → T k w v → T k w' v) (hB : B w0.drew)
  (hop : zAC (fun i o => ∀ a w, B w → (∀ k d, depB ops o k d = true → T k w (a.eval (.tmp d))) → (∀ d, outB ops.toList d = true → a.eval (.tmp d) = a0.eval (.tmp d)) → Oper.wp P o a w (fun a' w' => ∃ v, a' = a.put o.dst v ∧ T i w' v ∧ B w' ∧ Mo w w') Q) 0 (ops.toList.take m))
  (hend : ∀ (vs : Nat → Value) w, B w → (∀ i, i < m → T i w (vs i)) → ∃ (b f : Nat) (cs : List Value) (U : TypeId) (v : Value) (us : List Value), (zB0 vs 0 ds a0).eval xS = .pointer (some ⟨b, f, none⟩) ∧ (zB0 vs 0 ds a0).eval yS = v ∧ v.cells = us.toArray ∧ w.heap[b]? = some (.cells cs.toArray U (0, 0)) ∧ f + us.length ≤ cs.length ∧ (P.info? tyS).map (·.size) = some us.length ∧ us.all (·.oneCell') = true ∧ ∀ w', w'.heap[b]? = some (.cells (ovr cs f us).toArray U (0, 0)) → Fr (fun i => i = b) w w' → Q .normal (zB0 vs 0 ds a0) w') : (Code.region id ops true).wp P Q a0 w0 := by
 refine zAV hm T B n m hn hsz hp hlb Mo hmon hB hop fun vs w o ho hb hT => ?_
 have hoo : o = ops[m]'(by omega) := by rw [Array.getElem?_eq_getElem (by omega)] at ho; exact (Option.some.inj ho).symm
 subst hoo
 obtain ⟨b, f, cs, U, v, us, g1, g2, g3, g4, g5, g6, g7, g8⟩ := hend vs w hb hT
 rw [zEU ds hds]
 exact Chk.op_st tyS xS yS hst b f cs U v us g1 g2 g3 g4 g5 g6 g7 (fun w' k1 k2 => by rw [hdn]; exact g8 w' k1 k2)
end Go.Proofs.YtnlmknbhppdliaaGreatDoor
namespace Go.Proofs.YtnlmknbhppdliaaGreatDoor.Chk
open Go.ChangeShapes Go.WideShapes Go.ChangeAt Go.RowKit Go.Maps
set_option linter.unusedVariables false
set_option linter.unusedSimpArgs false
set_option maxRecDepth 20000
def ock (r lo hi : Int) : Int := if ¬ (1 ≤ r ∧ r ≤ 13) then 3 else if ¬ (0 ≤ lo ∧ lo ≤ 1073741824) ∨ ¬ (-1 ≤ hi ∧ hi ≤ 1073741824) then 2 else if hi ≠ -1 ∧ hi < lo then 11 else 0
def sck (fs : List Fd) (n : ByteArray) : Int := if (fck fs n).2 ≠ 0 then 6 else if (fck fs n).1 = 1 then 0 else 13
structure BlkT (w0 w : World) (us : List Value) (t : TypeId) : Prop where
  bel : Below w0.heap.size w0 w
  b1 : w.heap[w0.heap.size]? = some (.cells us.toArray t (0, 0))
theorem BlkT.start (w : World) (us : List Value) (t : TypeId) : BlkT w (w.alloc (.cells us.toArray t)) us t := ⟨(Below.refl _ _).alloc (Nat.le_refl _) _, heap_alloc_new _ _⟩
theorem BlkT.next {w0 w w' : World} {us : List Value} {t : TypeId} (h : BlkT w0 w us t) (hb : Below w.heap.size w w') : BlkT w0 w' us t := ⟨zAA h.bel hb h.bel.size, (hb.block _ (zAD h.b1)).trans h.b1⟩
theorem BlkT.c {w0 w : World} {us : List Value} {t : TypeId} (h : BlkT w0 w us t) (j : Nat) : w.cell? ⟨w0.heap.size, j, none⟩ = us[j]? := by rw [zAB h.b1]; simp
theorem rdM {w : World} {m : Mn} {vs : List Value} (h : RdL w (encM m) vs) : ∃ us, vs = .int .i64 m.c :: .string m.f :: us ∧ RdL w (encP m.p) us := by
  obtain ⟨v0, r0, rfl, h0, h⟩ := RdL.one h
  obtain ⟨v1, r1, rfl, h1, h⟩ := RdL.one h
  rw [zAN h0, zAN h1]
  exact ⟨r1, rfl, h⟩
def spk (ws ns : List Pt) (ms : List Mn) (n : ByteArray) : Bool := ws.any (fun p => seq p.ty n) || ns.any (fun p => seq p.ty n) || ms.any (fun m => seq m.p.ty n)
theorem rdR {w : World} {r : Rl} {vs : List Value} (h : RdL w (encR r) vs) : ∃ v1 v2 v3 v4 v5, vs = [.string r.n, v1, v2, v3, v4, .string r.e.ty, v5] ∧ Rd w (.row 48 18 (r.w.map encP)) v1 ∧ Rd w (.row 48 18 (r.t.map encP)) v2 ∧ Rd w (.row 78 20 (r.m.map encM)) v3 ∧ Rd w (.row 66 3 (r.k.map encK)) v4 ∧ Rd w (.row 44 6 (r.e.v.map encO)) v5 := by
  obtain ⟨v0, r0, rfl, h0, h⟩ := RdL.one h
  obtain ⟨v1, r1, rfl, h1, h⟩ := RdL.one h
  obtain ⟨v2, r2, rfl, h2, h⟩ := RdL.one h
  obtain ⟨v3, r3, rfl, h3, h⟩ := RdL.one h
  obtain ⟨v4, r4, rfl, h4, h⟩ := RdL.one h
  obtain ⟨v5, r5, rfl, h5, h⟩ := RdL.one h
  obtain ⟨v6, r6, rfl, h6, h⟩ := RdL.one h
  rw [zAN h0, zAN h5, RdL.none h]
  exact ⟨v1, v2, v3, v4, v6, rfl, h1, h2, h3, h4, h6⟩
def cmo (rs : List Rl) (tt : ByteArray) : Nat → ByteArray → Bool
  | 0, _ => false
  | n + 1, nm => rs.any fun x => !(emp x.e.ty) && (spk x.w x.t x.m nm && (seq x.e.ty tt || cmo rs tt n x.e.ty))
def fdk (f : Fd) : Int := if nchk f.n ≠ 0 then nchk f.n else if 1 ≤ f.k ∧ f.k ≤ 2 then 0 else 3
def tfs (done : List Fd) : List Fd → Int
  | [] => 0
  | f :: r => if fdk f ≠ 0 then fdk f else if done.any (fun d => seq d.n f.n) = true then 7 else tfs (done ++ [f]) r
def tyk (n : ByteArray) (fs : List Fd) : Int := if nchk n ≠ 0 then nchk n else if 4 < fs.length then 1 else tfs [] fs
end Go.Proofs.YtnlmknbhppdliaaGreatDoor.Chk
namespace Go.Proofs.YtnlmknbhppdliaaGreatDoor.Chk
open Go.ChangeShapes Go.WideShapes Go.ChangeAt Go.RowKit Go.Maps
set_option linter.unusedVariables false
set_option linter.unusedSimpArgs false
theorem zKI {α : Type} {enc : α → List Dat} (cs : List α) (k : Nat) : ∃ r, (cs.map enc).flatten = ((cs.take k).map enc).flatten ++ r := ⟨((cs.drop k).map enc).flatten, by rw [← List.flatten_append, ← List.map_append, List.take_append_drop]⟩
theorem rd_take {α : Type} {enc : α → List Dat} {e z : Nat} {w : World} {p : Option Addr} {n cap : Nat} {cs : List α} (h : Rd w (.row e z (cs.map enc)) (.slice p n cap)) (k : Nat) (hk : k ≤ cs.length) : Rd w (.row e z ((cs.take k).map enc)) (.slice p k cap) := by
 generalize hd : Dat.row e z (cs.map enc) = d at h
 generalize hv : Value.slice p n cap = v at h
 cases h with
 | lit v => cases hd
 | nil e' z' p' cap' h1 =>
  simp only [Dat.row.injEq] at hd
  simp only [Value.slice.injEq] at hv
  have h0 : cs.length = 0 := by have := congrArg List.length hd.2.2; simpa using this
  obtain rfl : k = 0 := by omega
  obtain ⟨rfl, _, rfl⟩ := hv
  have : (cs.take 0).map enc = [] := rfl
  rw [this]
  exact .nil _ _ _ _ h1
 | row e' z' l g off cap' xs h1 h2 h3 h4 h5 h6 =>
  simp only [Dat.row.injEq] at hd
  simp only [Value.slice.injEq] at hv
  obtain ⟨rfl, rfl, rfl⟩ := hd
  obtain ⟨rfl, rfl, rfl⟩ := hv
  by_cases h0 : k = 0
  . subst h0
    have : (cs.take 0).map enc = [] := rfl
    rw [this]
    exact .nil _ _ _ _ h3
  . obtain ⟨r, hr⟩ := zKI (enc := enc) cs k
    have hl : ((cs.take k).map enc).length = k := by simp; omega
    have hlen : ((cs.take k).map enc).flatten.length ≤ xs.length := by rw [← h5, hr, List.length_append]; omega
    have key := Rd.row e z ((cs.take k).map enc) g off cap (xs.take ((cs.take k).map enc).flatten.length) (w := w) (by rw [hl]; omega) (by rw [hl]; rw [List.length_map] at h2; omega) h3 (fun j u hu => by
     have hj : j < ((cs.take k).map enc).flatten.length := by
      have := (List.getElem?_eq_some_iff.1 hu).1
      rw [List.length_take] at this
      omega
     rw [List.getElem?_take_of_lt hj] at hu
     exact h4 j u hu) (by rw [List.length_take]; omega) (fun q hq => by
     have h9 := h6 q (by rw [hr, List.length_append]; omega)
     have e1 : (cs.map enc).flatten[q]'(by rw [hr, List.length_append]; omega) = ((cs.take k).map enc).flatten[q] := by
      rw [List.getElem_of_eq hr, List.getElem_append_left hq]
     rw [e1] at h9
     have e2 : (xs.take ((cs.take k).map enc).flatten.length).getD q nilV = xs.getD q nilV := by
      rw [List.getD_eq_getElem?_getD, List.getD_eq_getElem?_getD, List.getElem?_take_of_lt hq]
     rw [e2]
     exact h9)
    rw [hl] at key
    exact key
end Go.Proofs.YtnlmknbhppdliaaGreatDoor.Chk
namespace Go.Proofs.YtnlmknbhppdliaaGreatDoor.Chk
open Go.ChangeShapes Go.WideShapes Go.ChangeAt Go.RowKit Go.Maps
set_option linter.unusedVariables false
set_option linter.unusedSimpArgs false
set_option maxRecDepth 20000
theorem rdO {w : World} {o : Opd} {vs : List Value} (h : RdL w (encO o) vs) : vs = [.int .i64 o.k, .int .i64 o.vk, .int .i64 o.vi, .string o.vt, .string o.va, .string o.fd] := by
  obtain ⟨v0, r0, rfl, h0, h⟩ := RdL.one h
  obtain ⟨v1, r1, rfl, h1, h⟩ := RdL.one h
  obtain ⟨v2, r2, rfl, h2, h⟩ := RdL.one h
  obtain ⟨v3, r3, rfl, h3, h⟩ := RdL.one h
  obtain ⟨v4, r4, rfl, h4, h⟩ := RdL.one h
  obtain ⟨v5, r5, rfl, h5, h⟩ := RdL.one h
  rw [zAN h0, zAN h1, zAN h2, zAN h3, zAN h4, zAN h5, RdL.none h]
def evs (ts : List Tp) (ws : List Pt) (t : Tp) : List Opd → List Fd → Int
  | o :: r, f :: g => if o.k = 2 then 4 else if (sdk ts ws t o).2 ≠ 0 then (sdk ts ws t o).2 else if (sdk ts ws t o).1 ≠ f.k then 13 else evs ts ws t r g
  | _, _ => 0
def eck (ts : List Tp) (ws : List Pt) (ety : ByteArray) (vs : List Opd) : Int :=
  if emp ety = true then (if 0 < vs.length then 4 else 0)
  else if tyq ts ety < 0 then 6
  else if vs.length ≠ (ts.getD (tyq ts ety).toNat ⟨txt [], []⟩).f.length then 13
  else evs ts ws (ts.getD (tyq ts ety).toNat ⟨txt [], []⟩) vs (ts.getD (tyq ts ety).toNat ⟨txt [], []⟩).f
def tks (done : List Tp) : List Tp → Int
  | [] => 0
  | t :: r => if tyk t.n t.f ≠ 0 then tyk t.n t.f else if kpt t.n = true then 4 else if t.f.any (fun f => kpt f.n) = true then 4 else if 0 ≤ tyq done t.n then 7 else tks (done ++ [t]) r
def rks (rk : Rl → Int) (done : List Rl) : List Rl → Int
  | [] => 0
  | x :: r => if rk x ≠ 0 then rk x else if done.any (fun d => seq d.n x.n) = true then 7 else rks rk (done ++ [x]) r
theorem rd_cap {α : Type} {enc : α → List Dat} {e z : Nat} {w : World} {p : Option Addr} {n cap : Nat} {cs : List α} (h : Rd w (.row e z (cs.map enc)) (.slice p n cap)) : cs.length ≤ cap := by
 generalize hd : Dat.row e z (cs.map enc) = d at h
 generalize hv : Value.slice p n cap = v at h
 cases h with
 | lit v => cases hd
 | nil e' z' p' cap' h1 =>
  simp only [Dat.row.injEq] at hd
  have h0 : cs.length = 0 := by have := congrArg List.length hd.2.2; simpa using this
  omega
 | row e' z' l g off cap' xs h1 h2 h3 h4 h5 h6 =>
  simp only [Dat.row.injEq] at hd
  simp only [Value.slice.injEq] at hv
  obtain ⟨rfl, rfl, rfl⟩ := hd
  obtain ⟨_, _, rfl⟩ := hv
  rw [List.length_map] at h2
  exact h2
def bkf (rk : Rl → Int) (ts : List Tp) (rs : List Rl) : Int :=
  if 6 < ts.length ∨ 5 < rs.length then 1
  else if tks [] ts ≠ 0 then tks [] ts
  else if rks rk [] rs ≠ 0 then rks rk [] rs
  else if ts.any (fun t => cmo rs t.n rs.length t.n) = true then 15 else 0
theorem zBQ {ops : Array Oper} {o : Oper} {a : Act} {w : World} {K : Act → World → Prop} {Q : Exit → Act → World → Prop} {E : Prop} (f : FuncId) (he : ∀ args w, (callFunc f args).run Tryz.prog w = .ok (.enter f args) w) (hw : Region.wanted o (yielded ops a.tmps) = true) (x1 x2 : Operand) (ts : Array TypeId) (ho : o.op = .call { callee := .value (.func f), args := #[x1, x2], argTypes := ts }) (u1 u2 : Value) (h1 : a.eval x1 = u1) (h2 : a.eval x2 = u2)
  (R : Ending → World → Prop) (hc : Calls Tryz.prog f #[u1, u2] w R) (h : ∀ e w', R e w' → ∃ v, e = .returned v ∧ K (a.put o.dst v) w') :
  if Region.wanted o (yielded ops a.tmps) = true then Oper.wp Tryz.prog o a w K Q else E := by
 rw [if_pos hw]
 unfold Oper.wp execOp
 have hf : a.eval (.func f) = Value.func (Fn.func f) #[] #[] := rfl
 simp [ho, resolve, invoke, Deferred.ofValue, hf, h1, h2, he]
 refine hc.mono ?_
 intro e w' hr
 obtain ⟨v, rfl, hk⟩ := h e w' hr
 exact hk
def encS (s : ByteArray) : List Dat := [.lit (.string s)]
theorem lenS (s : ByteArray) : (encS s).length = 1 := rfl
theorem rdS {w : World} {s : ByteArray} {vs : List Value} (h : RdL w (encS s) vs) : vs = [.string s] := by
  obtain ⟨v0, r0, rfl, h0, h⟩ := RdL.one h
  rw [zAN h0, RdL.none h]
def wbad (part w n : Int) : Prop := (part = 0 ∧ ¬ (0 ≤ w ∧ w ≤ 2)) ∨ (part = 1 ∧ w ≠ 0) ∨ (part = 2 ∧ w ≠ 1) ∨ (w = 0 ∧ n ≠ 0)
def rbad (w n : Int) : Prop := (w = 1 ∧ ¬ (0 ≤ n ∧ n ≤ 1073741824)) ∨ (w = 2 ∧ ¬ (1 ≤ n ∧ n ≤ 120))
instance (part w n : Int) : Decidable (wbad part w n) := by unfold wbad; infer_instance
instance (w n : Int) : Decidable (rbad w n) := by unfold rbad; infer_instance
def pck (ts : List Tp) (kn : List Pt) (ah : List ByteArray) (p : Pt) (part : Int) : Int :=
  if frn p.va ≠ 0 then frn p.va
  else if ah.any (fun a => seq a p.va) = true then 7
  else if tyq ts p.ty < 0 then 6
  else if wbad part p.w p.n then 4
  else if rbad p.w p.n then 2
  else if noc p.c = true then 0
  else (cdk ts kn (ts.getD (tyq ts p.ty).toNat ⟨txt [], []⟩) 8 p.c).2
def ofs : List Op3 → Int
  | [] => 0
  | o :: r => if ock o.r o.lo o.hi ≠ 0 then ock o.r o.lo o.hi else ofs r
def lck (ws ns : List Pt) (kl kr : ByteArray) (os : List Op3) : Int :=
  if (ptq ws kl < 0 ∧ ptq ns kl < 0) ∨ (ptq ws kr < 0 ∧ ptq ns kr < 0) then 6
  else if seq kl kr = true ∨ (ptq ws kl < 0 ∧ ptq ws kr < 0) then 4
  else if ¬ (1 ≤ os.length ∧ os.length ≤ 6) then 1
  else ofs os
theorem rdQ {w : World} {o : Op3} {vs : List Value} (h : RdL w (encQ o) vs) : vs = [.int .i64 o.r, .int .i64 o.lo, .int .i64 o.hi] := by
  obtain ⟨v0, r0, rfl, h0, h⟩ := RdL.one h
  obtain ⟨v1, r1, rfl, h1, h⟩ := RdL.one h
  obtain ⟨v2, r2, rfl, h2, h⟩ := RdL.one h
  rw [zAN h0, zAN h1, zAN h2, RdL.none h]
def wfs (X : Int) (ts : List Tp) (done : List Pt) : List Pt → Int
  | [] => X
  | p :: r => if pck ts done (done.map Pt.va) p 0 ≠ 0 then pck ts done (done.map Pt.va) p 0 else wfs X ts (done ++ [p]) r
def nfs (X : Int) (ts : List Tp) (ws : List Pt) (ah : List ByteArray) : List Pt → Int
  | [] => X
  | p :: r => if pck ts ws ah p 1 ≠ 0 then pck ts ws ah p 1 else nfs X ts ws (ah ++ [p.va]) r
def mbad (m : Mn) : Bool := (emp m.f && !(decide (1 ≤ m.c) && decide (m.c ≤ 120))) || !(decide (0 ≤ m.c) && decide (m.c ≤ 1125899906842624))
def mck (ts : List Tp) (ws : List Pt) (ah : List ByteArray) (m : Mn) : Int :=
  if mbad m = true then 2
  else if pck ts ws ah m.p 2 ≠ 0 then pck ts ws ah m.p 2
  else if emp m.f = true then 0 else sck (ts.getD (tyq ts m.p.ty).toNat ⟨txt [], []⟩).f m.f
def mfs (X : Int) (ts : List Tp) (ws : List Pt) (ah : List ByteArray) : List Mn → Int
  | [] => X
  | m :: r => if mck ts ws ah m ≠ 0 then mck ts ws ah m else mfs X ts ws (ah ++ [m.p.va]) r
def lfs (X : Int) (ws ns : List Pt) : List Lk → Int
  | [] => X
  | k :: r => if lck ws ns k.l k.r k.o ≠ 0 then lck ws ns k.l k.r k.o else lfs X ws ns r
def szs (r : Rl) : Prop := 1 ≤ r.w.length ∧ r.w.length ≤ 3 ∧ r.t.length ≤ 2 ∧ r.m.length ≤ 2 ∧ r.k.length ≤ 6
instance (r : Rl) : Decidable (szs r) := by unfold szs; infer_instance
def rck (ts : List Tp) (r : Rl) : Int :=
  if frn r.n ≠ 0 then frn r.n else if ¬ szs r then 1
  else wfs (nfs (mfs (lfs (eck ts r.w r.e.ty r.e.v) r.w r.t r.k) ts r.w (r.w.map Pt.va ++ r.t.map Pt.va) r.m) ts r.w (r.w.map Pt.va) r.t) ts [] r.w
theorem zB3 {ts : List Tp} {kn : List Pt} {ah : List ByteArray} {p : Pt} {part : Int} (h : pck ts kn ah p part = 0) : ∃ i, ∃ _ : i < ts.length, tyq ts p.ty = (i : Int) := by
 rcases zB5 (q := fun t : Tp => seq t.n p.ty) ts 0 with c | ⟨i, hi, c, _⟩
 . exfalso
   have c0 : tyq ts p.ty = -1 := c
   unfold pck at h
   split at h
   . rename_i h1; exact h1 h
   . split at h
     . omega
     . rw [if_pos (by rw [c0]; decide)] at h
       omega
 . exact ⟨i, hi, by show ixq _ _ _ = _; rw [c]; simp⟩
theorem zIH {ts : List Tp} {kn : List Pt} {p : Pt} (h : zCG ts kn) (hp : ∃ i, ∃ _ : i < ts.length, tyq ts p.ty = (i : Int)) : zCG ts (kn ++ [p]) := fun j hj => by
 by_cases c : j < kn.length
 . rw [List.getElem_append_left c]
   exact h j c
 . have e : j = kn.length := by simp at hj; omega
   subst e
   simpa using hp
theorem rdK {w : World} {k : Lk} {vs : List Value} (h : RdL w (encK k) vs) : ∃ v, vs = [.string k.l, v, .string k.r] ∧ Rd w (.row 63 3 (k.o.map encQ)) v := by
  obtain ⟨v0, r0, rfl, h0, h⟩ := RdL.one h
  obtain ⟨v1, r1, rfl, h1, h⟩ := RdL.one h
  obtain ⟨v2, r2, rfl, h2, h⟩ := RdL.one h
  rw [zAN h0, zAN h2, RdL.none h]
  exact ⟨v1, rfl, h1⟩
theorem zA4 {cs vs : List Value} (h : vs.length = cs.length) : ovr cs 0 vs = vs := by
  unfold ovr
  simp [h]
theorem zAI {w w1 : World} {o : Obj} (h : Fr (fun i => i = w.heap.size) (w.alloc o) w1) : Below w.heap.size w w1 :=
  ⟨h.os, h.tape, h.output, by have := h.size; simp at this; omega, fun k hk => (h.block k (by simp; omega) (by omega)).trans (Below.heap_alloc _ _ _ hk)⟩
theorem zDC {w : World} {b : Nat} {A B : List Value} {x y : Value} {t : TypeId} (h : w.heap[b]? = some (.cells A.toArray t (0, 0))) (hA : A = x :: y :: B) : w.rangeAt b 2 B := fun j v hv => by
  rw [zAB h, hA]
  rw [List.getElem?_toArray, show 2 + j = j + 1 + 1 by omega]
  simpa using hv
theorem zAE {w : World} {e z : Nat} {l : List (List Dat)} {v : Value} (h : Rd w (.row e z l) v) : ∃ p n cap, v = .slice p n cap := by
  cases h with
  | nil e z p cap h => exact ⟨_, _, _, rfl⟩
  | row e z l g off cap xs h1 h2 h3 h4 h5 h6 => exact ⟨_, _, _, rfl⟩
theorem zFI {ts : List Tp} {ws : List Pt} {ah : List ByteArray} {m : Mn} (h : mbad m = true) : mck ts ws ah m = 2 := by unfold mck; rw [if_pos h]
theorem zJ8 {ts : List Tp} {ws : List Pt} {ah : List ByteArray} {m : Mn} (h : mbad m = false) (h2 : pck ts ws ah m.p 2 ≠ 0) : mck ts ws ah m = pck ts ws ah m.p 2 := by unfold mck; rw [if_neg (by rw [h]; decide), if_pos h2]
theorem mck_ok {ts : List Tp} {ws : List Pt} {ah : List ByteArray} {m : Mn} (h : mbad m = false) (h2 : pck ts ws ah m.p 2 = 0) : mck ts ws ah m = if emp m.f = true then 0 else sck (ts.getD (tyq ts m.p.ty).toNat ⟨txt [], []⟩).f m.f := by unfold mck; rw [if_neg (by rw [h]; decide), if_neg (fun c => c h2)]
def bok (ts : List Tp) (rs : List Rl) : Int := bkf (rck ts) ts rs
end Go.Proofs.YtnlmknbhppdliaaGreatDoor.Chk
namespace Go.Proofs.YtnlmknbhppdliaaGreatDoor.V4
open Go.ChangeShapes Go.WideShapes Go.ChangeAt Go.RowKit
set_option linter.unusedVariables false
set_option linter.unusedSimpArgs false
set_option maxRecDepth 20000
structure Vl where
  k : Int
  n : Int
  s : ByteArray
structure Fd where
  s : ByteArray
  k : Int
structure Ty where
  s : ByteArray
  fs : List Fd
def eqS (a b : ByteArray) : Bool := a.toList == b.toList
def vchk (v : Vl) : Int :=
  if v.k ≠ 1 ∧ v.k ≠ 2 then 3
  else if (v.k = 1 ∧ v.s.toList ≠ []) ∨ (v.k = 2 ∧ v.n ≠ 0) then 4
  else if 20 < v.s.size then 1
  else if v.n < -1125899906842624 ∨ 1125899906842624 < v.n then 2 else 0
def fst (f : Nat → Int) : Nat → Int
  | 0 => 0
  | n + 1 => if fst f n ≠ 0 then fst f n else f n
theorem fst_hit {f : Nat → Int} {k n : Nat} (h0 : fst f k = 0) (h1 : f k ≠ 0) (hk : k < n) : fst f n = f k := by
 induction n with
 | zero => omega
 | succ n ih =>
  unfold fst
  by_cases e : k = n
  . subst e; simp [h0]
  . have := ih (by omega)
    rw [if_pos (by rw [this]; exact h1), this]
theorem fst_step {f : Nat → Int} {k : Nat} (h0 : fst f k = 0) (h1 : f k = 0) : fst f (k + 1) = 0 := by
  unfold fst; simp [h0, h1]
theorem fst_zero {f : Nat → Int} {n : Nat} (h : fst f n = 0) : ∀ k, k < n → f k = 0 := by
 induction n with
 | zero => intro k hk; omega
 | succ n ih =>
  unfold fst at h
  by_cases e : fst f n = 0
  . simp [e] at h
    intro k hk
    by_cases c : k = n
    . subst c; exact h
    . exact ih e k (by omega)
  . simp [e] at h
theorem size_nil {s : ByteArray} (h : s.toList = []) : s.size = 0 := by
  rw [Lib.toList_data] at h
  have := congrArg List.length h
  simpa using this
def zFE (s : ByteArray) (i : Nat) : Int := ((s.data.toList.getD i 0).toNat : Int)
def isL (c : Int) : Prop := 97 ≤ c ∧ c ≤ 122
def isD (c : Int) : Prop := 48 ≤ c ∧ c ≤ 57
instance (c : Int) : Decidable (isL c) := by unfold isL; infer_instance
instance (c : Int) : Decidable (isD c) := by unfold isD; infer_instance
def sgn (s : ByteArray) (i : Nat) : Int := if isL (zFE s i) ∨ (i ≠ 0 ∧ isD (zFE s i)) then 0 else 4
def nchk (s : ByteArray) : Int := if s.size < 1 ∨ 10 < s.size then 1 else fst (sgn s) s.size
def fnd (name : ByteArray) : List Fd → Nat → Int
  | [], _ => -1
  | f :: l, k => if eqS f.s name = true then (k : Int) else fnd name l (k + 1)
def fchk (fs : List Fd) (i : Nat) : Int :=
  match fs[i]? with
  | none => 0
  | some f => if nchk f.s ≠ 0 then nchk f.s else if f.k ≠ 1 ∧ f.k ≠ 2 then 3 else if 0 ≤ fnd f.s (fs.take i) 0 then 7 else 0
def tchk (t : Ty) : Int := if nchk t.s ≠ 0 then nchk t.s else if 4 < t.fs.length then 1 else fst (fchk t.fs) t.fs.length
def vat (l : List Vl) (i : Nat) : Int := match l[i]? with | none => 0 | some v => vchk v
def kat (l : List Vl) (fs : List Fd) (i : Nat) : Int := match l[i]?, fs[i]? with | some v, some f => if v.k ≠ f.k then 13 else 0 | _, _ => 0
def fit (t : Ty) (l : List Vl) : Int :=
  if tchk t ≠ 0 then tchk t else if fst (vat l) l.length ≠ 0 then fst (vat l) l.length
  else if l.length ≠ t.fs.length then 13 else fst (kat l t.fs) l.length
abbrev vV (v : Vl) : Value := .agg #[.int .i64 v.k, .int .i64 v.n, .string v.s]
def FieldsAt (w : World) (v : Value) (fs : List Fd) : Prop :=
  ∃ p cap, v = .slice p fs.length cap ∧ fs.length ≤ cap ∧ cap ≤ maxLen ∧ (0 < fs.length → ∃ g off, p = some ⟨g, off, none⟩ ∧ ∀ j (hj : j < fs.length), g < w.heap.size ∧ w.cell? ⟨g, off + j * 2, none⟩ = some (.string fs[j].s) ∧ w.cell? ⟨g, off + j * 2 + 1, none⟩ = some (.int .i64 fs[j].k))
def ValsAt (w : World) (v : Value) (l : List Vl) : Prop :=
  ∃ p cap, v = .slice p l.length cap ∧ l.length ≤ cap ∧ cap ≤ maxLen ∧ (0 < l.length → ∃ g off, p = some ⟨g, off, none⟩ ∧ ∀ j (hj : j < l.length), g < w.heap.size ∧ w.cell? ⟨g, off + j * 3, none⟩ = some (.int .i64 l[j].k) ∧ w.cell? ⟨g, off + j * 3 + 1, none⟩ = some (.int .i64 l[j].n) ∧ w.cell? ⟨g, off + j * 3 + 2, none⟩ = some (.string l[j].s))
theorem FieldsAt.below {w w' : World} {v : Value} {fs : List Fd} (h : FieldsAt w v fs) (b : Below w.heap.size w w') : FieldsAt w' v fs := by
  obtain ⟨p, cap, h1, hc, hm, h2⟩ := h
  refine ⟨p, cap, h1, hc, hm, fun h0 => ?_⟩
  obtain ⟨g, off, h3, h4⟩ := h2 h0
  refine ⟨g, off, h3, fun j hj => ?_⟩
  obtain ⟨a, b0, b1⟩ := h4 j hj
  exact ⟨Nat.lt_of_lt_of_le a b.size, (b.cell (p := ⟨g, off + j * 2, none⟩) a).trans b0, (b.cell (p := ⟨g, off + j * 2 + 1, none⟩) a).trans b1⟩
theorem ValsAt.below {w w' : World} {v : Value} {fs : List Vl} (h : ValsAt w v fs) (b : Below w.heap.size w w') : ValsAt w' v fs := by
  obtain ⟨p, cap, h1, hc, hm, h2⟩ := h
  refine ⟨p, cap, h1, hc, hm, fun h0 => ?_⟩
  obtain ⟨g, off, h3, h4⟩ := h2 h0
  refine ⟨g, off, h3, fun j hj => ?_⟩
  obtain ⟨a, b0, b1, b2⟩ := h4 j hj
  exact ⟨Nat.lt_of_lt_of_le a b.size, (b.cell (p := ⟨g, off + j * 3, none⟩) a).trans b0, (b.cell (p := ⟨g, off + j * 3 + 1, none⟩) a).trans b1, (b.cell (p := ⟨g, off + j * 3 + 2, none⟩) a).trans b2⟩
theorem zAA {B B' : Nat} {w w1 w2 : World} (h : Below B w w1) (h2 : Below B' w1 w2) (hb : B ≤ B') : Below B w w2 :=
  ⟨h2.os.trans h.os, h2.tape.trans h.tape, h2.output.trans h.output, Nat.le_trans h.size h2.size, fun k hk => (h2.block k (by omega)).trans (h.block k hk)⟩
theorem zAH {k : IntKind} {a b : Int} (h : a = b) : Ending.returned (.int k a) = .returned (.int k b) := by rw [h]
theorem vchk_eq (v : Vl) : vchk v = if v.k = 1 then (if v.s.toList ≠ [] then 4 else if v.n < -1125899906842624 ∨ 1125899906842624 < v.n then 2 else 0) else if v.k ≠ 2 then 3 else if v.n ≠ 0 then 4 else if 20 < v.s.size then 1 else 0 := by
 unfold vchk
 by_cases h1 : v.k = 1
 . by_cases h2 : v.s.toList = []
   . have := size_nil h2
     simp [h1, h2, this]
   . simp [h1, h2]
 . by_cases h2 : v.k = 2
   . by_cases h3 : v.n = 0
     . simp [h2, h3]
     . simp [h2, h3]
   . simp [h1, h2]
theorem check_any (v : Vl) (w : World) :
  Calls Tryz.prog 109 #[vV v] w fun e w' => e = .returned (.int .i64 (vchk v)) ∧ Below w.heap.size w w' := by
 obtain ⟨k, n, s⟩ := v
 unfold vV
 have hz : s.toList = [] → s.size = 0 := size_nil
 have HZ : Hid (s.toList = [] → s.size = 0) := hz
 clear hz
 go_enter Tryz.func109, Tryz.ntmps109
 go_wp2
 all_goals
  go_ret
  refine ⟨zAH ?_, (Below.refl _ _).alloc (Nat.le_refl _) _⟩
  have hz := HZ.out
  rw [vchk_eq]
  simp_all <;> omega
theorem zFH (s : ByteArray) (k : Nat) (h : k < s.size) : zFE s k = (s[k].toNat : Int) := by
  unfold zFE
  have h' : k < s.data.toList.length := by simpa using h
  rw [List.getD_eq_getElem?_getD, List.getElem?_eq_getElem h']
  rfl
theorem zF4 (s : ByteArray) (k : Nat) (h : k < s.size) : sgn s k = if (97 ≤ (s[k].toNat : Int) ∧ (s[k].toNat : Int) ≤ 122) ∨ (k ≠ 0 ∧ 48 ≤ (s[k].toNat : Int) ∧ (s[k].toNat : Int) ≤ 57) then 0 else 4 := by
  unfold sgn isL isD
  rw [zFH s k h]
theorem zFJ {s : ByteArray} (h1 : 1 ≤ s.size) (h2 : s.size ≤ 10) : nchk s = fst (sgn s) s.size := by
  unfold nchk; rw [if_neg (by omega)]
def Say (b : Bool) (P : Prop) : Prop := b = true ↔ P
theorem zCW (P : Prop) [Decidable P] : ∃ b : Bool, Say b P := ⟨decide P, by simp [Say]⟩
theorem Say.yes {P : Prop} (h : P) : Say true P := by simp [Say, h]
theorem Say.no {P : Prop} (h : ¬ P) : Say false P := by simp [Say, h]
theorem zAZ {a b : Bool} (h : a = b) : Ending.returned (.bool a) = .returned (.bool b) := by rw [h]
theorem zA9 (c : Int) (r : Bool) (h : Say r ((48 : Int) ≤ c ∧ c ≤ 57)) (w : World) :
  Calls Tryz.prog 124 #[.int .u8 c] w fun e w' => e = .returned (.bool r) ∧ w' = w := by
 have H : Hid (Say r ((48 : Int) ≤ c ∧ c ≤ 57)) := h
 clear h
 go_enter Tryz.func124, Tryz.ntmps124
 go_wp2
 all_goals
  go_ret
  exact ⟨zAZ (by have h := H.out; unfold Say at h; rw [Bool.eq_iff_iff, h]; simp <;> omega), rfl⟩
theorem zCF (c : Int) (r : Bool) (h : Say r ((97 : Int) ≤ c ∧ c ≤ 122)) (w : World) :
  Calls Tryz.prog 125 #[.int .u8 c] w fun e w' => e = .returned (.bool r) ∧ w' = w := by
 have H : Hid (Say r ((97 : Int) ≤ c ∧ c ≤ 122)) := h
 clear h
 go_enter Tryz.func125, Tryz.ntmps125
 go_wp2
 all_goals
  go_ret
  exact ⟨zAZ (by have h := H.out; unfold Say at h; rw [Bool.eq_iff_iff, h]; simp <;> omega), rfl⟩
theorem zDJ      (s : ByteArray) (w : World) :
    Calls Tryz.prog 81 #[.string s] w fun e w' => e = .returned (.int .i64 (nchk s)) ∧ w' = w := by
  by_cases hsz : 1 ≤ s.size ∧ s.size ≤ 10
  . obtain ⟨h1, h2⟩ := hsz
    have hp : 0 < s.size := by omega
    have HE : Hid (nchk s = fst (sgn s) s.size) := zFJ h1 h2
    have HS : Hid (∀ k (h : k < s.size), sgn s k = if (97 ≤ (s[k].toNat : Int) ∧ (s[k].toNat : Int) ≤ 122) ∨ (k ≠ 0 ∧ 48 ≤ (s[k].toNat : Int) ∧ (s[k].toNat : Int) ≤ 57) then 0 else 4) := zF4 s
    by_cases hd : (48 : Int) ≤ (s[0].toNat : Int) ∧ (s[0].toNat : Int) ≤ 57
    . have hx : fst (sgn s) s.size = 4 := by
        have e := zF4 s 0 hp
        rw [if_neg (by omega)] at e
        rw [fst_hit (k := 0) rfl (by rw [e]; omega) hp, e]
      have HX : Hid (fst (sgn s) s.size = 4) := hx
      have HD : Hid ((48 : Int) ≤ (s[0].toNat : Int) ∧ (s[0].toNat : Int) ≤ 57) := hd
      clear hx hd
      go_enter Tryz.func81, Tryz.ntmps81
      go_wp2_with (go_at_call 124; refine (zA9 _ true (Say.yes HD.out) _).mono ?_; rintro e w' ⟨rfl, rfl⟩)
      go_ret
      exact ⟨zAH (by rw [HE.out, HX.out]), rfl⟩
    . have HD : Hid (¬ ((48 : Int) ≤ (s[0].toNat : Int) ∧ (s[0].toNat : Int) ≤ 57)) := hd
      clear hd
      go_enter Tryz.func81, Tryz.ntmps81
      go_wp2_with (go_at_call 124; refine (zA9 _ false (Say.no HD.out) _).mono ?_; rintro e w' ⟨rfl, rfl⟩)
      go_loop [17] (fun i => ∃ k : Nat, k ≤ s.size ∧ i = .int .i64 k ∧ fst (sgn s) k = 0) (fun i => s.size - (intOf i).toNat)
      case atStart => exact ⟨0, Nat.zero_le _, rfl, rfl⟩
      case round =>
        obtain ⟨k, hk, rfl, hf⟩ := hrel
        have HF : Hid (fst (sgn s) k = 0) := hf
        clear hf
        by_cases hlt : k < s.size
        . have HK : Hid (sgn s k = if (97 ≤ (s[k].toNat : Int) ∧ (s[k].toNat : Int) ≤ 122) ∨ (k ≠ 0 ∧ 48 ≤ (s[k].toNat : Int) ∧ (s[k].toNat : Int) ≤ 57) then 0 else 4) := HS.out k hlt
          have HD' : Hid (k = 0 → ¬ (48 ≤ (s[k].toNat : Int) ∧ (s[k].toNat : Int) ≤ 57)) := fun h => by subst h; exact HD.out
          obtain ⟨bl, hbl⟩ := zCW ((97 : Int) ≤ (s[k].toNat : Int) ∧ (s[k].toNat : Int) ≤ 122)
          obtain ⟨bd, hbd⟩ := zCW ((48 : Int) ≤ (s[k].toNat : Int) ∧ (s[k].toNat : Int) ≤ 57)
          have HL : Hid (Say bl ((97 : Int) ≤ (s[k].toNat : Int) ∧ (s[k].toNat : Int) ≤ 122)) := hbl
          have HDG : Hid (Say bd ((48 : Int) ≤ (s[k].toNat : Int) ∧ (s[k].toNat : Int) ≤ 57)) := hbd
          clear hbl hbd
          cases bl <;> cases bd
          all_goals go_wp2_with (first | (go_at_call 124; refine (zA9 _ _ HDG.out _).mono ?_; rintro e w' ⟨rfl, rfl⟩) | (go_at_call 125; refine (zCF _ _ HL.out _).mono ?_; rintro e w' ⟨rfl, rfl⟩))
          all_goals
            have hl := HL.out
            have hdg := HDG.out
            simp [Say] at hl hdg
            have e := HK.out
            have e2 := HD'.out
          . rw [if_neg (by omega)] at e
            go_ret
            exact ⟨zAH (by rw [HE.out, fst_hit HF.out (by rw [e]; omega) hlt, e]), rfl⟩
          all_goals
            rw [if_pos (by omega)] at e
            have HEE : Hid (sgn s k = 0) := e
            clear e e2 hl hdg
            go_round
            case rel => exact ⟨k + 1, by omega, by go_num, fst_step HF.out HEE.out⟩
            case measure => simp [intOf]; omega
        . obtain rfl : k = s.size := by omega
          go_wp2
          go_ret
          exact ⟨zAH (by rw [HE.out, HF.out]), rfl⟩
  . have he : nchk s = 1 := by unfold nchk; rw [if_pos (by omega)]
    have HE : Hid (nchk s = 1) := he
    clear he
    go_enter Tryz.func81, Tryz.ntmps81
    go_wp2
    all_goals first
      | (go_ret
         exact ⟨zAH (by rw [HE.out]), rfl⟩)
      | (exfalso; omega)
theorem vat_at {l : List Vl} {k : Nat} (h : k < l.length) : vat l k = vchk l[k] := by unfold vat; rw [List.getElem?_eq_getElem h]
theorem zDE (v : Value) (l : List Vl) (w : World) (hv : ValsAt w v l) :
  Calls Tryz.prog 68 #[v] w fun e w' => e = .returned (.int .i64 (fst (vat l) l.length)) ∧ Below w.heap.size w w' := by
 obtain ⟨p, cap, rfl, hcap, hmax, hp⟩ := hv
 obtain ⟨n, hnl⟩ : ∃ n, l.length = n := ⟨_, rfl⟩
 have HP : Hid (0 < l.length → ∃ g off, p = some ⟨g, off, none⟩ ∧ ∀ j (hj : j < l.length), g < w.heap.size ∧ w.cell? ⟨g, off + j * 3, none⟩ = some (.int .i64 l[j].k) ∧ w.cell? ⟨g, off + j * 3 + 1, none⟩ = some (.int .i64 l[j].n) ∧ w.cell? ⟨g, off + j * 3 + 2, none⟩ = some (.string l[j].s)) := hp
 have HNL : Hid (l.length = n) := hnl
 have hmx : (n : Int) ≤ 9223372036854775807 := by unfold maxLen at hmax; omega
 rw [hnl]
 clear hp hnl hcap hmax
 go_enter Tryz.func68, Tryz.ntmps68
 go_wp2
 go_loopw [8] (fun i wr => ∃ k : Nat, k ≤ n ∧ i = .int .i64 (k : Nat) ∧ fst (vat l) k = 0 ∧ Below w.heap.size w wr) (fun i _ => n + 1 - (intOf i).toNat)
 case atStart => exact ⟨0, by omega, rfl, rfl, Below.refl _ _⟩
 case round =>
  obtain ⟨k, hk, rfl, hf, hB⟩ := hrel
  have HF : Hid (fst (vat l) k = 0) := hf
  have HB : Hid (Below w.heap.size w wr) := hB
  by_cases hlt : k < n
  . have hkd : k < l.length := by have := HNL.out; omega
    obtain ⟨g, off, hg, hc⟩ := HP.out (by omega)
    obtain ⟨hgs, c0, c1, c2⟩ := hc k hkd
    subst hg
    have HV : Hid (vat l k = vchk l[k]) := vat_at hkd
    obtain ⟨d, hdk⟩ : ∃ d, l[k] = d := ⟨_, rfl⟩
    rw [hdk] at c0 c1 c2 HV
    have b0 : wr.cell? ⟨g, off + k * 3, none⟩ = some (.int .i64 d.k) := (hB.cell (p := ⟨g, off + k * 3, none⟩) hgs).trans c0
    have b1 : wr.cell? ⟨g, off + k * 3 + 1, none⟩ = some (.int .i64 d.n) := (hB.cell (p := ⟨g, off + k * 3 + 1, none⟩) hgs).trans c1
    have b2 : wr.cell? ⟨g, off + k * 3 + 2, none⟩ = some (.string d.s) := (hB.cell (p := ⟨g, off + k * 3 + 2, none⟩) hgs).trans c2
    have i1 : (0 : Int) ≤ (k : Int) := by omega
    have i2 : (k : Int) < (n : Int) := by omega
    have hne : wr.heap.size ≠ g := by have := hB.size; omega
    clear hc hdk c0 c1 c2 hgs hf hB hkd
    obtain ⟨r, hr⟩ : ∃ r, vchk d = r := ⟨_, rfl⟩
    have HR : Hid (vchk d = r) := hr
    clear hr
    by_cases hr0 : r = 0
    . subst hr0
      go_wp2_with (go_at_call 109; refine (check_any ⟨d.k, d.n, d.s⟩ _).mono ?_; rintro e w2 ⟨rfl, hb2⟩; rw [show vchk ⟨d.k, d.n, d.s⟩ = 0 from HR.out]; have HB2 : Hid (Below (wr.alloc (.cells #[.int .i64 d.k, .int .i64 d.n, .string d.s] 42)).heap.size (wr.alloc (.cells #[.int .i64 d.k, .int .i64 d.n, .string d.s] 42)) w2) := hb2; clear hb2)
      go_roundw
      case rel => exact ⟨k + 1, by omega, by go_num, fst_step HF.out (HV.out.trans HR.out), zAA (HB.out.alloc HB.out.size _) HB2.out (by simp; have := HB.out.size; omega)⟩
      case measure => simp [intOf]; omega
    . have hrb : (r == 0) = false := by simpa using hr0
      have hrd : (r != 0) = true := by simpa using hr0
      go_wp2_with (go_at_call 109; refine (check_any ⟨d.k, d.n, d.s⟩ _).mono ?_; rintro e w2 ⟨rfl, hb2⟩; rw [show vchk ⟨d.k, d.n, d.s⟩ = r from HR.out]; have HB2 : Hid (Below (wr.alloc (.cells #[.int .i64 d.k, .int .i64 d.n, .string d.s] 42)).heap.size (wr.alloc (.cells #[.int .i64 d.k, .int .i64 d.n, .string d.s] 42)) w2) := hb2; clear hb2)
      go_ret
      refine ⟨zAH ?_, zAA (HB.out.alloc HB.out.size _) HB2.out (by simp; have := HB.out.size; omega)⟩
      rw [fst_hit HF.out (by rw [HV.out, HR.out]; exact hr0) (by have := HNL.out; omega), HV.out, HR.out]
  . obtain rfl : k = n := by omega
    clear hf hB
    go_wp2
    go_ret
    refine ⟨zAH ?_, HB.out⟩
    exact HF.out.symm
def sgnI (x y : Int) : Int := if x < y then -1 else if y < x then 1 else 0
def ord (a b : Vl) : Int := if a.k = 2 then Lib.compareBytes a.s.data.toList b.s.data.toList else sgnI a.n b.n
def cmpE (a b : Vl) : Int := if vchk a ≠ 0 then vchk a else if vchk b ≠ 0 then vchk b else if a.k ≠ b.k then 13 else 0
def cmpV (a b : Vl) : Int := if cmpE a b ≠ 0 then 0 else ord a b
theorem zIL (a b : ByteArray) (w : World) :
  Calls Tryz.prog 144 #[.string a, .string b] w fun e w' => e = .returned (.int .i64 (Lib.compareBytes a.data.toList b.data.toList)) ∧ w' = w := by
 have c : ∀ w, Calls Tryz.prog 161 #[.string a, .string b] w fun e w' => e = .returned (.int .i64 (Lib.compareBytes a.data.toList b.data.toList)) ∧ w' = w := fun w => by
  go_enter Tryz.func161, Tryz.ntmps161
  go_wp2
  rw [run_callFunc_extern Tryz.func176 (by kernel_rfl) (by kernel_rfl) (by kernel_rfl) (e := Extern.BytealgCompare.compare) (by kernel_rfl), Lib.run_compareString]
  simp only [Result.andThen]
  rw [Oper.upon_value]
  go_wp2
  go_ret
  exact ⟨rfl, rfl⟩
 have C : Hid (∀ w, Calls Tryz.prog 161 #[.string a, .string b] w fun e w' => e = .returned (.int .i64 (Lib.compareBytes a.data.toList b.data.toList)) ∧ w' = w) := c
 clear c
 go_enter Tryz.func144, Tryz.ntmps144
 go_wp2_with (go_at_call 161; refine (C.out _).mono ?_; rintro e w ⟨rfl, rfl⟩)
 go_ret
 exact ⟨rfl, rfl⟩
theorem zIQ (a b : Int) (w : World) :
  Calls Tryz.prog 145 #[.int .i64 a, .int .i64 b] w fun e w' => e = .returned (.int .i64 (sgnI a b)) ∧ w' = w := by
 go_enter Tryz.func145, Tryz.ntmps145
 go_wp2
 all_goals
  go_ret
  refine ⟨zAH ?_, rfl⟩
  unfold sgnI
  (repeat' split) <;> omega
theorem zKY (w : World) (o1 o2 : Obj) : Below w.heap.size w ((w.alloc o1).alloc o2) := ((Below.refl _ w).alloc (Nat.le_refl _) o1).alloc (by simp) o2
theorem zG6 (w : World) (o1 o2 o3 : Obj) : Below w.heap.size w (((w.alloc o1).alloc o2).alloc o3) := (zKY w o1 o2).alloc (by simp; omega) o3
theorem zE1 {a b c d : Int} (h : a = c) (h2 : b = d) : Ending.returned (.tuple #[.int .i64 a, .int .i64 b]) = .returned (.tuple #[.int .i64 c, .int .i64 d]) := by rw [h, h2]
end Go.Proofs.YtnlmknbhppdliaaGreatDoor.V4
