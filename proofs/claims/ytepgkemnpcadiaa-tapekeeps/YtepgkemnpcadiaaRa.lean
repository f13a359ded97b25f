/-
  A region that draws its order, by what each of its operations yields: one obligation an operation, whatever the order.
-/
import Derived.Orders
import Derived.Test.YtepgkemnpcadiaaA
namespace Go.Proofs.Ytepgkemnpcadiaa
open Go.ChangeShapes Go.WideShapes Go.ChangeAt Go.RowKit
set_option linter.unusedVariables false
set_option linter.unusedSimpArgs false
set_option maxRecDepth 20000
/-- The state behind some operations: what each of them has yielded lies in its slot. -/
def fill (vs : Nat → Value) (ls : Nat → Bool) : Nat → List Oper → Act → Act
  | _, [], a => a
  | k, o :: r, a => fill vs ls (k + 1) r (if ls k = true then a.put o.dst (vs k) else a)
/-- Each of a list, with its number. -/
def AllOps (f : Nat → Oper → Prop) : Nat → List Oper → Prop
  | _, [] => True
  | k, o :: r => f k o ∧ AllOps f (k + 1) r
/-- No guards; each waits for earlier ones alone; no slot is written twice. -/
def plainOps : Nat → List Oper → List Tmp → Nat → Bool
  | _, [], _, _ => true
  | k, o :: r, used, n => o.guard.isNone && o.after.all (fun e => !(Region.binds .any e) || decide (e.on < k)) && (match o.dst with | none => plainOps (k + 1) r used n | some d => !(used.contains d) && decide (d < n) && plainOps (k + 1) r (d :: used) n)
/-- An operation waits for another one, which writes that slot. -/
def depB (ops : Array Oper) (o : Oper) (k : Nat) (d : Tmp) : Bool := o.after.any (fun e => e.on == k && Region.binds .any e) && (match ops[k]? with | none => false | some o' => o'.dst == some d)
/-- A slot that no operation writes. -/
def outB (ops : List Oper) (d : Tmp) : Bool := ops.all (fun o => o.dst != some d)
theorem AllOps.at {f : Nat → Oper → Prop} : ∀ (l : List Oper) (k : Nat), AllOps f k l → ∀ i o, l[i]? = some o → f (k + i) o
  | [], _, _, i, o, h => by simp at h
  | x :: r, k, hf, 0, o, h => by simp at h; subst h; exact hf.1
  | x :: r, k, hf, i + 1, o, h => by
    have := AllOps.at r (k + 1) hf.2 i o (by simpa using h)
    rw [show k + (i + 1) = k + 1 + i by omega]
    exact this
theorem plain_used : ∀ (l : List Oper) (k : Nat) (used : List Tmp) (n : Nat), plainOps k l used n = true → ∀ (i : Nat) (o : Oper) (d : Tmp), l[i]? = some o → o.dst = some d → d ∉ used
  | [], _, _, _, _, i, o, d, h, _ => by simp at h
  | x :: r, k, used, n, hp, i, o, d, h, hd => by
    unfold plainOps at hp
    simp only [Bool.and_eq_true] at hp
    cases i with
    | zero =>
      simp at h
      subst h
      rw [hd] at hp
      simp at hp
      exact hp.2.1.1
    | succ i =>
      have h' : r[i]? = some o := by simpa using h
      cases hx : x.dst with
      | none => rw [hx] at hp; exact plain_used r (k + 1) used n hp.2 i o d h' hd
      | some e =>
        rw [hx] at hp
        simp only [Bool.and_eq_true] at hp
        have := plain_used r (k + 1) (e :: used) n hp.2.2 i o d h' hd
        exact fun c => this (List.mem_cons_of_mem _ c)
theorem plain_tail {x : Oper} {r : List Oper} {k : Nat} {used : List Tmp} {n : Nat} (hp : plainOps k (x :: r) used n = true) : ∃ u, plainOps (k + 1) r u n = true ∧ (∀ d, x.dst = some d → d ∈ u) := by
  unfold plainOps at hp
  simp only [Bool.and_eq_true] at hp
  cases hx : x.dst with
  | none => rw [hx] at hp; exact ⟨used, hp.2, fun d h => by cases h⟩
  | some e =>
    rw [hx] at hp
    simp only [Bool.and_eq_true] at hp
    exact ⟨e :: used, hp.2.2, fun d h => by cases h; exact List.mem_cons_self ..⟩
theorem plain_at : ∀ (l : List Oper) (k : Nat) (used : List Tmp) (n : Nat), plainOps k l used n = true → ∀ (i : Nat) (o : Oper), l[i]? = some o → o.guard = none ∧ (∀ e ∈ o.after, Region.binds .any e = true → e.on < k + i) ∧ ∀ d, o.dst = some d → d < n
  | [], _, _, _, _, i, o, h => by simp at h
  | x :: r, k, used, n, hp, i, o, h => by
    cases i with
    | zero =>
      simp at h
      subst h
      unfold plainOps at hp
      simp only [Bool.and_eq_true, Array.all_eq_true', decide_eq_true_eq, Option.isNone_iff_eq_none] at hp
      refine ⟨hp.1.1, fun e he hbd => by
        have h9 := hp.1.2 e he
        rw [hbd] at h9
        simpa using h9, fun d hd => ?_⟩
      rw [hd] at hp
      simp only [Bool.and_eq_true, decide_eq_true_eq] at hp
      exact hp.2.1.2
    | succ i =>
      obtain ⟨u, hu, _⟩ := plain_tail hp
      have := plain_at r (k + 1) u n hu i o (by simpa using h)
      exact ⟨this.1, fun e he hbd => by have := this.2.1 e he hbd; omega, this.2.2⟩
theorem put_size (a : Act) (d : Option Tmp) (v : Value) : (a.put d v).tmps.size = a.tmps.size := by cases d <;> simp [Act.put]
theorem fill_size (vs : Nat → Value) (ls : Nat → Bool) : ∀ (l : List Oper) (k : Nat) (a : Act), (fill vs ls k l a).tmps.size = a.tmps.size
  | [], _, _ => rfl
  | x :: r, k, a => by rw [fill, fill_size vs ls r]; split <;> simp [put_size]
theorem put_get (a : Act) (d : Tmp) (v : Value) (h : d < a.tmps.size) : (a.put (some d) v).tmps.getD d undef = v := by simp [Act.put, h]
theorem put_far (a : Act) (x : Option Tmp) (d : Tmp) (v : Value) (h : x ≠ some d) : (a.put x v).tmps.getD d undef = a.tmps.getD d undef := by
  cases x with
  | none => rfl
  | some e =>
    have : e ≠ d := fun c => h (by rw [c])
    simp [Act.put, Array.getElem?_setIfInBounds_ne this]
/-- A slot that none of these writes. -/
theorem fill_out (vs : Nat → Value) (ls : Nat → Bool) (d : Tmp) : ∀ (l : List Oper) (k : Nat) (a : Act), (∀ o ∈ l, o.dst ≠ some d) → (fill vs ls k l a).tmps.getD d undef = a.tmps.getD d undef
  | [], _, _, _ => rfl
  | x :: r, k, a, h => by
    rw [fill, fill_out vs ls d r (k + 1) _ (fun o ho => h o (List.mem_cons_of_mem _ ho))]
    split
    · exact put_far a _ d _ (h x (List.mem_cons_self ..))
    · rfl
/-- A slot that one of these has written. -/
theorem fill_get (vs : Nat → Value) (ls : Nat → Bool) (n : Nat) : ∀ (l : List Oper) (k : Nat) (used : List Tmp) (a : Act), plainOps k l used n = true → a.tmps.size = n → ∀ (i : Nat) (o : Oper) (d : Tmp), l[i]? = some o → o.dst = some d → ls (k + i) = true → (fill vs ls k l a).tmps.getD d undef = vs (k + i)
  | [], _, _, _, _, _, i, o, d, h, _, _ => by simp at h
  | x :: r, k, used, a, hp, hn, i, o, d, h, hd, hl => by
    obtain ⟨u, hu, hm⟩ := plain_tail hp
    cases i with
    | zero =>
      simp at h
      subst h
      have hlt := (plain_at _ _ _ _ hp 0 x (by simp)).2.2 d hd
      rw [fill, if_pos (by simpa using hl), fill_out vs ls d r _ _ (fun o' ho' c => ?_), hd, put_get _ _ _ (by rw [hn]; exact hlt)]
      · simp
      · obtain ⟨j, hj⟩ := List.getElem?_of_mem ho'
        exact plain_used r (k + 1) u n hu j o' d hj c (hm d hd)
    | succ i =>
      rw [fill, fill_get vs ls n r (k + 1) u _ hu (by split <;> simp [put_size, hn]) i o d (by simpa using h) hd (by rw [show k + 1 + i = k + (i + 1) by omega]; exact hl)]
      rw [show k + 1 + i = k + (i + 1) by omega]
theorem fill_congr {vs vs' : Nat → Value} {ls ls' : Nat → Bool} : ∀ (l : List Oper) (k : Nat) (a : Act), (∀ i, k ≤ i → ls i = ls' i ∧ vs i = vs' i) → fill vs ls k l a = fill vs' ls' k l a
  | [], _, _, _ => rfl
  | x :: r, k, a, h => by
    obtain ⟨e1, e2⟩ := h k (Nat.le_refl _)
    rw [fill, fill, e1, e2]
    exact fill_congr r (k + 1) _ (fun i hi => h i (by omega))
/-- A put of a slot that none of these writes may come first. -/
theorem fill_comm (vs : Nat → Value) (ls : Nat → Bool) (x : Option Tmp) (v : Value) : ∀ (l : List Oper) (k : Nat) (a : Act), (∀ o ∈ l, ∀ d, x = some d → o.dst ≠ some d) → fill vs ls k l (a.put x v) = (fill vs ls k l a).put x v
  | [], _, _, _ => rfl
  | y :: r, k, a, h => by
    rw [fill, fill]
    split
    · rw [Act.put_comm a v (vs k) (h y (List.mem_cons_self ..))]
      exact fill_comm vs ls x v r (k + 1) _ (fun o ho => h o (List.mem_cons_of_mem _ ho))
    · exact fill_comm vs ls x v r (k + 1) _ (fun o ho => h o (List.mem_cons_of_mem _ ho))
/-- One more has come up. -/
theorem fill_more (vs : Nat → Value) (ls : Nat → Bool) (v : Value) (n : Nat) : ∀ (l : List Oper) (k : Nat) (used : List Tmp) (a : Act), plainOps k l used n = true → ∀ i o, l[i]? = some o → ls (k + i) = false →
    fill (fun j => if j = k + i then v else vs j) (fun j => if j = k + i then true else ls j) k l a = (fill vs ls k l a).put o.dst v
  | [], _, _, _, _, i, o, h, _ => by simp at h
  | x :: r, k, used, a, hp, 0, o, h, hl => by
    simp at h
    subst h
    obtain ⟨u, hu, hm⟩ := plain_tail hp
    have hl' : ls k = false := by simpa using hl
    rw [fill, fill, hl']
    simp only [Nat.add_zero, if_true, Bool.false_eq_true, if_false]
    rw [fill_congr (vs' := vs) (ls' := ls) r (k + 1) _ (fun i hi => ⟨if_neg (by omega), if_neg (by omega)⟩)]
    exact fill_comm vs ls x.dst v r (k + 1) a (fun o' ho' d hd c => by
      obtain ⟨j, hj⟩ := List.getElem?_of_mem ho'
      exact plain_used r (k + 1) u n hu j o' d hj c (hm d hd))
  | x :: r, k, used, a, hp, i + 1, o, h, hl => by
    obtain ⟨u, hu, hm⟩ := plain_tail hp
    have e : k + (i + 1) = k + 1 + i := by omega
    rw [fill, fill, e]
    simp only [show ¬ k = k + 1 + i by omega, if_false]
    exact fill_more vs ls v n r (k + 1) u _ hu i o (by simpa using h) (by rw [← e]; exact hl)
theorem ready_end {ops : Array Oper} {listed : Array Bool} {used : List Tmp} {n : Nat} (hp : plainOps 0 ops.toList used n = true) (hs : listed.size = ops.size) (hr : Region.ready .any ops listed = []) : ∀ i, i < ops.size → listed.getD i true = true := by
  intro i
  induction i using Nat.strongRecOn with
  | _ i ih =>
    intro hi
    refine Classical.byContradiction fun c => ?_
    have hf : listed.getD i true = false := by simpa using c
    have hm : i ∈ Region.ready .any ops listed := mem_ready.2 ⟨hf, ops[i], by simp [hi], fun e he hbd => by
      have h1 := (plain_at _ _ _ _ hp i ops[i] (by simp [hi])).2.1 e he hbd
      have h2 := ih e.on (by omega) (by omega)
      have h3 : e.on < listed.size := by omega
      simp [h3] at h2 ⊢
      exact h2⟩
    rw [hr] at hm
    cases hm
/-- How many have not come up. -/
def left (listed : Array Bool) : Nat := listed.toList.countP (fun b => !b)
theorem left_set {listed : Array Bool} {i : Nat} (h : listed.getD i true = false) : left (listed.setIfInBounds i true) + 1 = left listed := by
  unfold left
  have hi : i < listed.size := Classical.byContradiction fun c => by simp [Nat.not_lt.1 c] at h
  have hv : listed.toList[i]'(by simpa using hi) = false := by simpa [hi] using h
  have hpos : 0 < listed.toList.countP (fun b => !b) := List.countP_pos_iff.2 ⟨_, List.getElem_mem (by simpa using hi), by rw [hv]; rfl⟩
  rw [Array.toList_setIfInBounds, List.countP_set (by simpa using hi), hv]
  simp only [Bool.not_false, if_true, Bool.not_true, Bool.false_eq_true, if_false]
  omega
/-- **A region by its operations**: T: what each yields, in the world behind it; B: what holds throughout. -/
theorem wp_region_mo {P : Program} {Q : Exit → Act → World → Prop} {id : Nat} {ops : Array Oper} {a0 : Act} {w0 : World} (hm : P.follows .mixedOrders = true) (T : Nat → World → Value → Prop) (B : World → Prop) (n : Nat) (hn : a0.tmps.size = n) (hp : plainOps 0 ops.toList [] n = true)
    (Mo : World → World → Prop) (hmon : ∀ k w w' v, Mo w w' → T k w v → T k w' v) (hB : B w0.drew)
    (hop : AllOps (fun i o => ∀ a w, B w → (∀ k d, depB ops o k d = true → T k w (a.eval (.tmp d))) → (∀ d, outB ops.toList d = true → a.eval (.tmp d) = a0.eval (.tmp d)) → Oper.wp P o a w (fun a' w' => ∃ v, a' = a.put o.dst v ∧ T i w' v ∧ B w' ∧ Mo w w') Q) 0 ops.toList)
    (hend : ∀ (vs : Nat → Value) w, B w → (∀ i, i < ops.size → T i w (vs i)) → Q .normal (fill vs (fun _ => true) 0 ops.toList a0) w) : (Code.region id ops true).wp P Q a0 w0 := by
  refine wp_region_any hm ?_
  have key : ∀ (fuel : Nat) (listed : Array Bool) (vs : Nat → Value) (w : World), listed.size = ops.size → left listed ≤ fuel → B w → (∀ i, i < ops.size → listed.getD i false = true → T i w (vs i)) → wpAny P .any ops Q fuel listed (fill vs (fun i => listed.getD i false) 0 ops.toList a0) w := by
    intro fuel
    induction fuel with
    | zero =>
      intro listed vs w hs hl hb hT
      have hall : ∀ i, i < ops.size → listed.getD i true = true := fun i hi => by
        refine Classical.byContradiction fun c => ?_
        have := left_set (listed := listed) (i := i) (by simpa using c)
        omega
      have hr : Region.ready .any ops listed = [] := List.eq_nil_iff_forall_not_mem.2 fun i hi => by
        obtain ⟨h1, o, h2, _⟩ := mem_ready.1 hi
        have h3 : i < ops.size := (Array.getElem?_eq_some_iff.1 h2).1
        rw [hall i h3] at h1
        cases h1
      refine ⟨hr, ?_⟩
      have hf : ∀ i, i < ops.size → listed.getD i false = true := fun i hi => by
        have h := hall i hi
        have h3 : i < listed.size := by omega
        simp [h3] at h ⊢
        exact h
      have e : fill vs (fun i => listed.getD i false) 0 ops.toList a0 = fill vs (fun _ => true) 0 ops.toList a0 := by
        have : ∀ (l : List Oper) (k : Nat) (a : Act), k + l.length ≤ ops.size → fill vs (fun i => listed.getD i false) k l a = fill vs (fun _ => true) k l a := by
          intro l
          induction l with
          | nil => intro k a _; rfl
          | cons x r ih =>
            intro k a h
            simp at h
            rw [fill, fill, hf k (by omega)]
            exact ih (k + 1) _ (by omega)
        exact this _ _ _ (by simp)
      rw [e]
      exact hend vs w hb (fun i hi => hT i hi (hf i hi))
    | succ fuel ih =>
      intro listed vs w hs hl hb hT
      refine ⟨fun hr => ?_, fun i hi => ?_⟩
      · have hall := ready_end hp hs hr
        have hf : ∀ i, i < ops.size → listed.getD i false = true := fun i hi => by
          have h := hall i hi
          have h3 : i < listed.size := by omega
          simp [h3] at h ⊢
          exact h
        have e : fill vs (fun i => listed.getD i false) 0 ops.toList a0 = fill vs (fun _ => true) 0 ops.toList a0 := by
          have : ∀ (l : List Oper) (k : Nat) (a : Act), k + l.length ≤ ops.size → fill vs (fun i => listed.getD i false) k l a = fill vs (fun _ => true) k l a := by
            intro l
            induction l with
            | nil => intro k a _; rfl
            | cons x r ih =>
              intro k a h
              simp at h
              rw [fill, fill, hf k (by omega)]
              exact ih (k + 1) _ (by omega)
          exact this _ _ _ (by simp)
        rw [e]
        exact hend vs w hb (fun i hi => hT i hi (hf i hi))
      · obtain ⟨h1, o, h2, h3⟩ := mem_ready.1 hi
        have hio : i < ops.size := (Array.getElem?_eq_some_iff.1 h2).1
        have hil : i < listed.size := by omega
        have h2' : ops.toList[i]? = some o := by simpa using h2
        have hg := (plain_at _ _ _ _ hp i o h2').1
        have hlf : listed.getD i false = false := by simp [hil] at h1 ⊢; exact h1
        unfold wpOp
        rw [h2]
        simp only
        rw [if_pos (by simp [Region.wanted, hg])]
        have hstep := AllOps.at _ _ hop i o h2' (fill vs (fun i => listed.getD i false) 0 ops.toList a0) w hb (fun k d hd => ?_) (fun d hd => ?_)
        · refine .inl (Oper.wp_mono ?_ hstep)
          rintro a' w' ⟨v, rfl, hTi, hb', hbel⟩
          have e := fill_more vs (fun i => listed.getD i false) v n ops.toList 0 [] a0 hp i o h2' (by simpa using hlf)
          rw [← e]
          have e2 : fill (fun j => if j = 0 + i then v else vs j) (fun j => if j = 0 + i then true else listed.getD j false) 0 ops.toList a0 = fill (fun j => if j = i then v else vs j) (fun j => (listed.setIfInBounds i true).getD j false) 0 ops.toList a0 := by
            refine fill_congr _ _ _ fun j _ => ⟨?_, by simp⟩
            by_cases c : j = i
            · subst c; simp [hil]
            · rw [if_neg (by simpa using c), getD_set_ne false (Ne.symm c)]
          rw [e2]
          refine ih (listed.setIfInBounds i true) _ w' (by simpa using hs) (by have := left_set h1; omega) hb' (fun j hj hl' => ?_)
          by_cases c : j = i
          · subst c; simpa using hTi
          · rw [if_neg c]
            rw [getD_set_ne false (Ne.symm c)] at hl'
            exact hmon j w w' _ hbel (hT j hj hl')
        · unfold depB at hd
          simp only [Bool.and_eq_true, Array.any_eq_true', beq_iff_eq] at hd
          obtain ⟨⟨e, he, rfl, hbd⟩, hdst⟩ := hd
          cases ho : ops[e.on]? with
          | none => rw [ho] at hdst; cases hdst
          | some o' =>
            rw [ho] at hdst
            simp only [beq_iff_eq] at hdst
            have hle := h3 e he hbd
            have := fill_get vs (fun i => listed.getD i false) n ops.toList 0 [] a0 hp hn e.on o' d (by simpa using ho) hdst (by simpa using hle)
            rw [Nat.zero_add] at this
            show T e.on w ((fill vs (fun i => listed.getD i false) 0 ops.toList a0).tmps.getD d undef)
            rw [this]
            exact hT e.on (Array.getElem?_eq_some_iff.1 ho).1 hle
        · show (fill vs (fun i => listed.getD i false) 0 ops.toList a0).tmps.getD d undef = a0.tmps.getD d undef
          refine fill_out vs _ d _ _ _ fun o' ho' c => ?_
          unfold outB at hd
          have := List.all_eq_true.1 hd o' ho'
          simp [c] at this
  have hz : left (Array.replicate ops.size false) ≤ ops.size := by
    unfold left
    exact Nat.le_trans List.countP_le_length (by simp)
  have h := key ops.size (Array.replicate ops.size false) (fun _ => undef) w0.drew (by simp) hz hB (fun i hi h => by simp [hi] at h)
  have e : fill (fun _ => undef) (fun i => (Array.replicate ops.size false).getD i false) 0 ops.toList a0 = a0 := by
    have : ∀ (l : List Oper) (k : Nat) (a : Act), fill (fun _ => undef) (fun i => (Array.replicate ops.size false).getD i false) k l a = a := by
      intro l
      induction l with
      | nil => intro k a; rfl
      | cons x r ih =>
        intro k a
        rw [fill, ih, if_neg (by by_cases c : k < ops.size <;> simp [c])]
    exact this _ _ _
  rw [e] at h
  exact h
/-- Each but the last is waited for by a later one. -/
def lastB (ops : List Oper) : Bool := (List.range (ops.length - 1)).all fun k => (ops.drop (k + 1)).any fun o => o.after.any fun e => e.on == k && Region.binds .any e
/-- All that come up have come up behind what they wait for. -/
def Shut1 (ops : Array Oper) (listed : Array Bool) : Prop := ∀ (j : Nat) (o : Oper), ops[j]? = some o → listed.getD j false = true → ∀ e ∈ o.after, Region.binds .any e = true → listed.getD e.on false = true
theorem last_all {ops : Array Oper} {listed : Array Bool} {m : Nat} {o : Oper} (hm : ops.size = m + 1) (hl : lastB ops.toList = true) (hc : Shut1 ops listed) (ho : ops[m]? = some o) (hr : ∀ e ∈ o.after, Region.binds .any e = true → listed.getD e.on false = true) : ∀ d k, k + d + 1 = m → listed.getD k false = true := by
  intro d
  induction d using Nat.strongRecOn with
  | _ d ih =>
    intro k hk
    unfold lastB at hl
    rw [List.all_eq_true] at hl
    have h1 := hl k (List.mem_range.2 (by simp [hm]; omega))
    simp only [List.any_eq_true, Array.any_eq_true', Bool.and_eq_true, beq_iff_eq] at h1
    obtain ⟨o', ho', e, he, hek, hb⟩ := h1
    obtain ⟨j, hj⟩ := List.getElem?_of_mem ho'
    rw [List.getElem?_drop] at hj
    have hjo : ops[k + 1 + j]? = some o' := by simpa using hj
    have hjs : k + 1 + j < ops.size := (Array.getElem?_eq_some_iff.1 hjo).1
    by_cases c : k + 1 + j = m
    · rw [c] at hjo
      rw [hjo] at ho
      cases ho
      have := hr e he hb
      rwa [hek] at this
    · have h2 := ih (d - 1 - j) (by omega) (k + 1 + j) (by omega)
      have := hc _ _ hjo h2 e he hb
      rwa [hek] at this
/-- **A region by its operations, the last of which comes up last**: it may change memory at will. -/
theorem wp_region_last {P : Program} {Q : Exit → Act → World → Prop} {id : Nat} {ops : Array Oper} {a0 : Act} {w0 : World} (hm : P.follows .mixedOrders = true) (T : Nat → World → Value → Prop) (B : World → Prop) (n m : Nat) (hn : a0.tmps.size = n) (hsz : ops.size = m + 1) (hp : plainOps 0 ops.toList [] n = true) (hlb : lastB ops.toList = true)
    (Mo : World → World → Prop) (hmon : ∀ k w w' v, Mo w w' → T k w v → T k w' v) (hB : B w0.drew)
    (hop : AllOps (fun i o => ∀ a w, B w → (∀ k d, depB ops o k d = true → T k w (a.eval (.tmp d))) → (∀ d, outB ops.toList d = true → a.eval (.tmp d) = a0.eval (.tmp d)) → Oper.wp P o a w (fun a' w' => ∃ v, a' = a.put o.dst v ∧ T i w' v ∧ B w' ∧ Mo w w') Q) 0 (ops.toList.take m))
    (hend : ∀ (vs : Nat → Value) w o, ops[m]? = some o → B w → (∀ i, i < m → T i w (vs i)) → Oper.wp P o (fill vs (fun _ => true) 0 (ops.toList.take m) a0) w (fun a' w' => Q .normal a' w') Q) : (Code.region id ops true).wp P Q a0 w0 := by
  refine wp_region_any hm ?_
  have fl : ∀ (vs : Nat → Value) (ls : Nat → Bool), (∀ i, i < m → ls i = true) → ls m = false → fill vs ls 0 ops.toList a0 = fill vs (fun _ => true) 0 (ops.toList.take m) a0 := by
    intro vs ls h1 h2
    have : ∀ (l : List Oper) (k : Nat) (a : Act), k + l.length = m + 1 → k ≤ m → fill vs ls k l a = fill vs (fun _ => true) k (l.take (m - k)) a := by
      intro l
      induction l with
      | nil => intro k a h hk; simp at h; omega
      | cons x r ih =>
        intro k a h hk
        simp at h
        by_cases c : k = m
        · subst c
          obtain rfl : r = [] := List.eq_nil_of_length_eq_zero (by omega)
          simp [fill, h2]
        · rw [show m - k = (m - (k + 1)) + 1 by omega, List.take_succ_cons, fill, fill, h1 k (by omega)]
          exact ih (k + 1) _ (by omega) (by omega)
    have := this ops.toList 0 a0 (by simp [hsz]) (by omega)
    simpa using this
  have key : ∀ (fuel : Nat) (listed : Array Bool) (vs : Nat → Value) (w : World), listed.size = ops.size → left listed ≤ fuel → Shut1 ops listed → listed.getD m false = false → B w → (∀ i, i < m → listed.getD i false = true → T i w (vs i)) → wpAny P .any ops Q fuel listed (fill vs (fun i => listed.getD i false) 0 ops.toList a0) w := by
    intro fuel
    induction fuel with
    | zero =>
      intro listed vs w hs hl hc hml hb hT
      have := left_set (listed := listed) (i := m) (by have h3 : m < listed.size := by omega
                                                       simp [h3] at hml ⊢; exact hml)
      omega
    | succ fuel ih =>
      intro listed vs w hs hl hc hml hb hT
      refine ⟨fun hr => ?_, fun i hi => ?_⟩
      · have h := ready_end hp hs hr m (by omega)
        have h3 : m < listed.size := by omega
        simp [h3] at h hml
        rw [h] at hml
        cases hml
      · obtain ⟨h1, o, h2, h3⟩ := mem_ready.1 hi
        have hio : i < ops.size := (Array.getElem?_eq_some_iff.1 h2).1
        have hil : i < listed.size := by omega
        have h2' : ops.toList[i]? = some o := by simpa using h2
        have hg := (plain_at _ _ _ _ hp i o h2').1
        have hlf : listed.getD i false = false := by simp [hil] at h1 ⊢; exact h1
        unfold wpOp
        rw [h2]
        simp only
        rw [if_pos (by simp [Region.wanted, hg])]
        by_cases cm : i = m
        · subst cm
          have hall : ∀ k, k < i → listed.getD k false = true := fun k hk => last_all hsz hlb hc h2 h3 (i - 1 - k) k (by omega)
          have e := fl vs (fun i => listed.getD i false) hall hml
          rw [e]
          refine .inl (Oper.wp_mono ?_ (hend vs w o h2 hb (fun j hj => hT j hj (hall j hj))))
          intro a' w' hq
          have hrd : Region.ready .any ops (listed.setIfInBounds i true) = [] := List.eq_nil_iff_forall_not_mem.2 fun j hj => by
            obtain ⟨q1, o', q2, _⟩ := mem_ready.1 hj
            have q3 : j < ops.size := (Array.getElem?_eq_some_iff.1 q2).1
            by_cases cj : j = i
            · subst cj; simp [hil] at q1
            · rw [getD_set_ne true (Ne.symm cj)] at q1
              have := hall j (by omega)
              have q4 : j < listed.size := by omega
              simp [q4] at this q1
              rw [this] at q1
              cases q1
          cases fuel with
          | zero => exact ⟨hrd, hq⟩
          | succ f => exact ⟨fun _ => hq, by rw [hrd]; intro i hi; cases hi⟩
        · have him : i < m := by omega
          have h2t : (ops.toList.take m)[i]? = some o := by rw [List.getElem?_take, if_pos him]; exact h2'
          have hstep := AllOps.at _ _ hop i o h2t (fill vs (fun i => listed.getD i false) 0 ops.toList a0) w hb (fun k d hd => ?_) (fun d hd => ?_)
          · refine .inl (Oper.wp_mono ?_ hstep)
            rintro a' w' ⟨v, rfl, hTi, hb', hbel⟩
            have e := fill_more vs (fun i => listed.getD i false) v n ops.toList 0 [] a0 hp i o h2' (by simpa using hlf)
            rw [← e]
            have e2 : fill (fun j => if j = 0 + i then v else vs j) (fun j => if j = 0 + i then true else listed.getD j false) 0 ops.toList a0 = fill (fun j => if j = i then v else vs j) (fun j => (listed.setIfInBounds i true).getD j false) 0 ops.toList a0 := by
              refine fill_congr _ _ _ fun j _ => ⟨?_, by simp⟩
              by_cases c : j = i
              · subst c; simp [hil]
              · rw [if_neg (by simpa using c), getD_set_ne false (Ne.symm c)]
            rw [e2]
            refine ih (listed.setIfInBounds i true) _ w' (by simpa using hs) (by have := left_set h1; omega) (fun j o' ho' hl' ed he hbd => ?_) (by rw [getD_set_ne false cm]; exact hml) hb' (fun j hj hl' => ?_)
            · by_cases ce : ed.on = i
              · rw [ce]; simp [hil]
              · rw [getD_set_ne false (Ne.symm ce)]
                by_cases c : j = i
                · subst c
                  rw [h2] at ho'
                  cases ho'
                  exact h3 ed he hbd
                · rw [getD_set_ne false (Ne.symm c)] at hl'
                  exact hc j o' ho' hl' ed he hbd
            · by_cases c : j = i
              · subst c; simpa using hTi
              · rw [if_neg c]
                rw [getD_set_ne false (Ne.symm c)] at hl'
                exact hmon j w w' _ hbel (hT j hj hl')
          · unfold depB at hd
            simp only [Bool.and_eq_true, Array.any_eq_true', beq_iff_eq] at hd
            obtain ⟨⟨e, he, rfl, hbd⟩, hdst⟩ := hd
            cases ho : ops[e.on]? with
            | none => rw [ho] at hdst; cases hdst
            | some o' =>
              rw [ho] at hdst
              simp only [beq_iff_eq] at hdst
              have hle := h3 e he hbd
              have := fill_get vs (fun i => listed.getD i false) n ops.toList 0 [] a0 hp hn e.on o' d (by simpa using ho) hdst (by simpa using hle)
              rw [Nat.zero_add] at this
              show T e.on w ((fill vs (fun i => listed.getD i false) 0 ops.toList a0).tmps.getD d undef)
              rw [this]
              have hlt : e.on < i := by have := (plain_at _ _ _ _ hp i o h2').2.1 e he hbd; omega
              exact hT e.on (by omega) hle
          · show (fill vs (fun i => listed.getD i false) 0 ops.toList a0).tmps.getD d undef = a0.tmps.getD d undef
            refine fill_out vs _ d _ _ _ fun o' ho' c => ?_
            unfold outB at hd
            have := List.all_eq_true.1 hd o' ho'
            simp [c] at this
  have hz : left (Array.replicate ops.size false) ≤ ops.size := by
    unfold left
    exact Nat.le_trans List.countP_le_length (by simp)
  have h := key ops.size (Array.replicate ops.size false) (fun _ => undef) w0.drew (by simp) hz (fun j o ho hl => by by_cases c : j < ops.size <;> simp [c] at hl) (by by_cases c : m < ops.size <;> simp [c]) hB (fun i hi h => by by_cases c : i < ops.size <;> simp [c] at h)
  have e : fill (fun _ => undef) (fun i => (Array.replicate ops.size false).getD i false) 0 ops.toList a0 = a0 := by
    have : ∀ (l : List Oper) (k : Nat) (a : Act), fill (fun _ => undef) (fun i => (Array.replicate ops.size false).getD i false) k l a = a := by
      intro l
      induction l with
      | nil => intro k a; rfl
      | cons x r ih =>
        intro k a
        rw [fill, ih, if_neg (by by_cases c : k < ops.size <;> simp [c])]
    exact this _ _ _
  rw [e] at h
  exact h
end Go.Proofs.Ytepgkemnpcadiaa
