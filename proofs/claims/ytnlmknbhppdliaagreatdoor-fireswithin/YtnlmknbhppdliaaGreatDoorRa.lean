/-
  A region that draws its order, by what each of its operations yields: one obligation an operation, whatever the order. A region that draws its order, by what each of its operations yields, side by side. Operations one by one: what each yields. A region that draws its order, in which a row is appended to, and what is made of it is stored last. A scene's side of another when, by WhenAt.
-/
import Derived.Orders
import Derived.Test.YtnlmknbhppdliaaGreatDoorA
import Derived.Test.YtnlmknbhppdliaaGreatDoorCe
import Derived.Test.YtnlmknbhppdliaaGreatDoorV4K
set_option maxHeartbeats 64000000
namespace Go.Proofs.YtnlmknbhppdliaaGreatDoor
open Go.ChangeShapes Go.WideShapes Go.ChangeAt Go.RowKit
set_option linter.unusedVariables false
set_option linter.unusedSimpArgs false
def fill (vs : Nat → Value) (ls : Nat → Bool) : Nat → List Oper → Act → Act
  | _, [], a => a
  | k, o :: r, a => fill vs ls (k + 1) r (if ls k = true then a.put o.dst (vs k) else a)
def zAL (f : Nat → Oper → Prop) : Nat → List Oper → Prop
  | _, [] => True
  | k, o :: r => f k o ∧ zAL f (k + 1) r
def zAR : Nat → List Oper → List Tmp → Nat → Bool
  | _, [], _, _ => true
  | k, o :: r, used, n => o.guard.isNone && o.after.all (fun e => !(Region.binds .any e) || decide (e.on < k)) && (match o.dst with | none => zAR (k + 1) r used n | some d => !(used.contains d) && decide (d < n) && zAR (k + 1) r (d :: used) n)
def depB (ops : Array Oper) (o : Oper) (k : Nat) (d : Tmp) : Bool := o.after.any (fun e => e.on == k && Region.binds .any e) && (match ops[k]? with | none => false | some o' => o'.dst == some d)
def outB (ops : List Oper) (d : Tmp) : Bool := ops.all (fun o => o.dst != some d)
theorem zAL.at {f : Nat → Oper → Prop} : ∀ (l : List Oper) (k : Nat), zAL f k l → ∀ i o, l[i]? = some o → f (k + i) o
 | [], _, _, i, o, h => by simp at h
 | x :: r, k, hf, 0, o, h => by simp at h; subst h; exact hf.1
 | x :: r, k, hf, i + 1, o, h => by
  have := zAL.at r (k + 1) hf.2 i o (by simpa using h)
  rw [show k + (i + 1) = k + 1 + i by omega]
  exact this
theorem zBF : ∀ (l : List Oper) (k : Nat) (used : List Tmp) (n : Nat), zAR k l used n = true → ∀ (i : Nat) (o : Oper) (d : Tmp), l[i]? = some o → o.dst = some d → d ∉ used
 | [], _, _, _, _, i, o, d, h, _ => by simp at h
 | x :: r, k, used, n, hp, i, o, d, h, hd => by
  unfold zAR at hp
  simp only [Bool.and_eq_true] at hp
  cases i with
  | zero =>
   simp at h
   subst h
   rw [hd] at hp
   simp at hp
   exact hp.2.1.1
  | succ i =>
   have h' : r[i]? = some o := by simpa using h
   cases hx : x.dst with
   | none => rw [hx] at hp; exact zBF r (k + 1) used n hp.2 i o d h' hd
   | some e =>
    rw [hx] at hp
    simp only [Bool.and_eq_true] at hp
    have := zBF r (k + 1) (e :: used) n hp.2.2 i o d h' hd
    exact fun c => this (List.mem_cons_of_mem _ c)
theorem zBH {x : Oper} {r : List Oper} {k : Nat} {used : List Tmp} {n : Nat} (hp : zAR k (x :: r) used n = true) : ∃ u, zAR (k + 1) r u n = true ∧ (∀ d, x.dst = some d → d ∈ u) := by
 unfold zAR at hp
 simp only [Bool.and_eq_true] at hp
 cases hx : x.dst with
 | none => rw [hx] at hp; exact ⟨used, hp.2, fun d h => by cases h⟩
 | some e =>
  rw [hx] at hp
  simp only [Bool.and_eq_true] at hp
  exact ⟨e :: used, hp.2.2, fun d h => by cases h; exact List.mem_cons_self ..⟩
theorem zBG : ∀ (l : List Oper) (k : Nat) (used : List Tmp) (n : Nat), zAR k l used n = true → ∀ (i : Nat) (o : Oper), l[i]? = some o → o.guard = none ∧ (∀ e ∈ o.after, Region.binds .any e = true → e.on < k + i) ∧ ∀ d, o.dst = some d → d < n
 | [], _, _, _, _, i, o, h => by simp at h
 | x :: r, k, used, n, hp, i, o, h => by
  cases i with
  | zero =>
   simp at h
   subst h
   unfold zAR at hp
   simp only [Bool.and_eq_true, Array.all_eq_true', decide_eq_true_eq, Option.isNone_iff_eq_none] at hp
   refine ⟨hp.1.1, fun e he hbd => by
    have h9 := hp.1.2 e he
    rw [hbd] at h9
    simpa using h9, fun d hd => ?_⟩
   rw [hd] at hp
   simp only [Bool.and_eq_true, decide_eq_true_eq] at hp
   exact hp.2.1.2
  | succ i =>
   obtain ⟨u, hu, _⟩ := zBH hp
   have := zBG r (k + 1) u n hu i o (by simpa using h)
   exact ⟨this.1, fun e he hbd => by have := this.2.1 e he hbd; omega, this.2.2⟩
theorem put_size (a : Act) (d : Option Tmp) (v : Value) : (a.put d v).tmps.size = a.tmps.size := by cases d <;> simp [Act.put]
theorem put_get (a : Act) (d : Tmp) (v : Value) (h : d < a.tmps.size) : (a.put (some d) v).tmps.getD d undef = v := by simp [Act.put, h]
theorem put_far (a : Act) (x : Option Tmp) (d : Tmp) (v : Value) (h : x ≠ some d) : (a.put x v).tmps.getD d undef = a.tmps.getD d undef := by
 cases x with
 | none => rfl
 | some e =>
  have : e ≠ d := fun c => h (by rw [c])
  simp [Act.put, Array.getElem?_setIfInBounds_ne this]
theorem zB1 (vs : Nat → Value) (ls : Nat → Bool) (d : Tmp) : ∀ (l : List Oper) (k : Nat) (a : Act), (∀ o ∈ l, o.dst ≠ some d) → (fill vs ls k l a).tmps.getD d undef = a.tmps.getD d undef
 | [], _, _, _ => rfl
 | x :: r, k, a, h => by
  rw [fill, zB1 vs ls d r (k + 1) _ (fun o ho => h o (List.mem_cons_of_mem _ ho))]
  split
  . exact put_far a _ d _ (h x (List.mem_cons_self ..))
  . rfl
theorem zDX (vs : Nat → Value) (ls : Nat → Bool) (n : Nat) : ∀ (l : List Oper) (k : Nat) (used : List Tmp) (a : Act), zAR k l used n = true → a.tmps.size = n → ∀ (i : Nat) (o : Oper) (d : Tmp), l[i]? = some o → o.dst = some d → ls (k + i) = true → (fill vs ls k l a).tmps.getD d undef = vs (k + i)
 | [], _, _, _, _, _, i, o, d, h, _, _ => by simp at h
 | x :: r, k, used, a, hp, hn, i, o, d, h, hd, hl => by
  obtain ⟨u, hu, hm⟩ := zBH hp
  cases i with
  | zero =>
   simp at h
   subst h
   have hlt := (zBG _ _ _ _ hp 0 x (by simp)).2.2 d hd
   rw [fill, if_pos (by simpa using hl), zB1 vs ls d r _ _ (fun o' ho' c => ?_), hd, put_get _ _ _ (by rw [hn]; exact hlt)]
   . simp
   . obtain ⟨j, hj⟩ := List.getElem?_of_mem ho'
     exact zBF r (k + 1) u n hu j o' d hj c (hm d hd)
  | succ i =>
   rw [fill, zDX vs ls n r (k + 1) u _ hu (by split <;> simp [put_size, hn]) i o d (by simpa using h) hd (by rw [show k + 1 + i = k + (i + 1) by omega]; exact hl)]
   rw [show k + 1 + i = k + (i + 1) by omega]
theorem zBE {vs vs' : Nat → Value} {ls ls' : Nat → Bool} : ∀ (l : List Oper) (k : Nat) (a : Act), (∀ i, k ≤ i → ls i = ls' i ∧ vs i = vs' i) → fill vs ls k l a = fill vs' ls' k l a
 | [], _, _, _ => rfl
 | x :: r, k, a, h => by
  obtain ⟨e1, e2⟩ := h k (Nat.le_refl _)
  rw [fill, fill, e1, e2]
  exact zBE r (k + 1) _ (fun i hi => h i (by omega))
theorem zCA (vs : Nat → Value) (ls : Nat → Bool) (x : Option Tmp) (v : Value) : ∀ (l : List Oper) (k : Nat) (a : Act), (∀ o ∈ l, ∀ d, x = some d → o.dst ≠ some d) → fill vs ls k l (a.put x v) = (fill vs ls k l a).put x v
 | [], _, _, _ => rfl
 | y :: r, k, a, h => by
  rw [fill, fill]
  split
  . rw [Act.put_comm a v (vs k) (h y (List.mem_cons_self ..))]
    exact zCA vs ls x v r (k + 1) _ (fun o ho => h o (List.mem_cons_of_mem _ ho))
  . exact zCA vs ls x v r (k + 1) _ (fun o ho => h o (List.mem_cons_of_mem _ ho))
theorem zCH (vs : Nat → Value) (ls : Nat → Bool) (v : Value) (n : Nat) : ∀ (l : List Oper) (k : Nat) (used : List Tmp) (a : Act), zAR k l used n = true → ∀ i o, l[i]? = some o → ls (k + i) = false →
  fill (fun j => if j = k + i then v else vs j) (fun j => if j = k + i then true else ls j) k l a = (fill vs ls k l a).put o.dst v
 | [], _, _, _, _, i, o, h, _ => by simp at h
 | x :: r, k, used, a, hp, 0, o, h, hl => by
  simp at h
  subst h
  obtain ⟨u, hu, hm⟩ := zBH hp
  have hl' : ls k = false := by simpa using hl
  rw [fill, fill, hl']
  simp only [Nat.add_zero, if_true, Bool.false_eq_true, if_false]
  rw [zBE (vs' := vs) (ls' := ls) r (k + 1) _ (fun i hi => ⟨if_neg (by omega), if_neg (by omega)⟩)]
  exact zCA vs ls x.dst v r (k + 1) a (fun o' ho' d hd c => by
   obtain ⟨j, hj⟩ := List.getElem?_of_mem ho'
   exact zBF r (k + 1) u n hu j o' d hj c (hm d hd))
 | x :: r, k, used, a, hp, i + 1, o, h, hl => by
  obtain ⟨u, hu, hm⟩ := zBH hp
  have e : k + (i + 1) = k + 1 + i := by omega
  rw [fill, fill, e]
  simp only [show ¬ k = k + 1 + i by omega, if_false]
  exact zCH vs ls v n r (k + 1) u _ hu i o (by simpa using h) (by rw [← e]; exact hl)
theorem zEI {ops : Array Oper} {listed : Array Bool} {used : List Tmp} {n : Nat} (hp : zAR 0 ops.toList used n = true) (hs : listed.size = ops.size) (hr : Region.ready .any ops listed = []) : ∀ i, i < ops.size → listed.getD i true = true := by
 intro i
 induction i using Nat.strongRecOn with
 | _ i ih =>
  intro hi
  refine Classical.byContradiction fun c => ?_
  have hf : listed.getD i true = false := by simpa using c
  have hm : i ∈ Region.ready .any ops listed := mem_ready.2 ⟨hf, ops[i], by simp [hi], fun e he hbd => by
   have h1 := (zBG _ _ _ _ hp i ops[i] (by simp [hi])).2.1 e he hbd
   have h2 := ih e.on (by omega) (by omega)
   have h3 : e.on < listed.size := by omega
   simp [h3] at h2 ⊢
   exact h2⟩
  rw [hr] at hm
  cases hm
def left (listed : Array Bool) : Nat := listed.toList.countP (fun b => !b)
theorem zB3 {listed : Array Bool} {i : Nat} (h : listed.getD i true = false) : left (listed.setIfInBounds i true) + 1 = left listed := by
  unfold left
  have hi : i < listed.size := Classical.byContradiction fun c => by simp [Nat.not_lt.1 c] at h
  have hv : listed.toList[i]'(by simpa using hi) = false := by simpa [hi] using h
  have hpos : 0 < listed.toList.countP (fun b => !b) := List.countP_pos_iff.2 ⟨_, List.getElem_mem (by simpa using hi), by rw [hv]; rfl⟩
  rw [Array.toList_setIfInBounds, List.countP_set (by simpa using hi), hv]
  simp only [Bool.not_false, if_true, Bool.not_true, Bool.false_eq_true, if_false]
  omega
theorem zEA {P : Program} {Q : Exit → Act → World → Prop} {id : Nat} {ops : Array Oper} {a0 : Act} {w0 : World} (hm : P.follows .mixedOrders = true) (T : Nat → World → Value → Prop) (B : World → Prop) (n : Nat) (hn : a0.tmps.size = n) (hp : zAR 0 ops.toList [] n = true)
  (Mo : World → World → Prop) (hmon : ∀ k w w' v, Mo w w' → T k w v → T k w' v) (hB : B w0.drew)
  (hop : zAL (fun i o => ∀ a w, B w → (∀ k d, depB ops o k d = true → T k w (a.eval (.tmp d))) → (∀ d, outB ops.toList d = true → a.eval (.tmp d) = a0.eval (.tmp d)) → Oper.wp P o a w (fun a' w' => ∃ v, a' = a.put o.dst v ∧ T i w' v ∧ B w' ∧ Mo w w') Q) 0 ops.toList)
  (hend : ∀ (vs : Nat → Value) w, B w → (∀ i, i < ops.size → T i w (vs i)) → Q .normal (fill vs (fun _ => true) 0 ops.toList a0) w) : (Code.region id ops true).wp P Q a0 w0 := by
 refine wp_region_any hm ?_
 have key : ∀ (fuel : Nat) (listed : Array Bool) (vs : Nat → Value) (w : World), listed.size = ops.size → left listed ≤ fuel → B w → (∀ i, i < ops.size → listed.getD i false = true → T i w (vs i)) → wpAny P .any ops Q fuel listed (fill vs (fun i => listed.getD i false) 0 ops.toList a0) w := by
  intro fuel
  induction fuel with
  | zero =>
   intro listed vs w hs hl hb hT
   have hall : ∀ i, i < ops.size → listed.getD i true = true := fun i hi => by
     refine Classical.byContradiction fun c => ?_
     have := zB3 (listed := listed) (i := i) (by simpa using c)
     omega
   have hr : Region.ready .any ops listed = [] := List.eq_nil_iff_forall_not_mem.2 fun i hi => by
     obtain ⟨h1, o, h2, _⟩ := mem_ready.1 hi
     have h3 : i < ops.size := (Array.getElem?_eq_some_iff.1 h2).1
     rw [hall i h3] at h1
     cases h1
   refine ⟨hr, ?_⟩
   have hf : ∀ i, i < ops.size → listed.getD i false = true := fun i hi => by
     have h := hall i hi
     have h3 : i < listed.size := by omega
     simp [h3] at h ⊢
     exact h
   have e : fill vs (fun i => listed.getD i false) 0 ops.toList a0 = fill vs (fun _ => true) 0 ops.toList a0 := by
     have : ∀ (l : List Oper) (k : Nat) (a : Act), k + l.length ≤ ops.size → fill vs (fun i => listed.getD i false) k l a = fill vs (fun _ => true) k l a := by
       intro l
       induction l with
       | nil => intro k a _; rfl
       | cons x r ih =>
         intro k a h
         simp at h
         rw [fill, fill, hf k (by omega)]
         exact ih (k + 1) _ (by omega)
     exact this _ _ _ (by simp)
   rw [e]
   exact hend vs w hb (fun i hi => hT i hi (hf i hi))
  | succ fuel ih =>
   intro listed vs w hs hl hb hT
   refine ⟨fun hr => ?_, fun i hi => ?_⟩
   . have hall := zEI hp hs hr
     have hf : ∀ i, i < ops.size → listed.getD i false = true := fun i hi => by
       have h := hall i hi
       have h3 : i < listed.size := by omega
       simp [h3] at h ⊢
       exact h
     have e : fill vs (fun i => listed.getD i false) 0 ops.toList a0 = fill vs (fun _ => true) 0 ops.toList a0 := by
       have : ∀ (l : List Oper) (k : Nat) (a : Act), k + l.length ≤ ops.size → fill vs (fun i => listed.getD i false) k l a = fill vs (fun _ => true) k l a := by
         intro l
         induction l with
         | nil => intro k a _; rfl
         | cons x r ih =>
           intro k a h
           simp at h
           rw [fill, fill, hf k (by omega)]
           exact ih (k + 1) _ (by omega)
       exact this _ _ _ (by simp)
     rw [e]
     exact hend vs w hb (fun i hi => hT i hi (hf i hi))
   . obtain ⟨h1, o, h2, h3⟩ := mem_ready.1 hi
     have hio : i < ops.size := (Array.getElem?_eq_some_iff.1 h2).1
     have hil : i < listed.size := by omega
     have h2' : ops.toList[i]? = some o := by simpa using h2
     have hg := (zBG _ _ _ _ hp i o h2').1
     have hlf : listed.getD i false = false := by simp [hil] at h1 ⊢; exact h1
     unfold wpOp
     rw [h2]
     simp only
     rw [if_pos (by simp [Region.wanted, hg])]
     have hstep := zAL.at _ _ hop i o h2' (fill vs (fun i => listed.getD i false) 0 ops.toList a0) w hb (fun k d hd => ?_) (fun d hd => ?_)
     . refine .inl (Oper.wp_mono ?_ hstep)
       rintro a' w' ⟨v, rfl, hTi, hb', hbel⟩
       have e := zCH vs (fun i => listed.getD i false) v n ops.toList 0 [] a0 hp i o h2' (by simpa using hlf)
       rw [← e]
       have e2 : fill (fun j => if j = 0 + i then v else vs j) (fun j => if j = 0 + i then true else listed.getD j false) 0 ops.toList a0 = fill (fun j => if j = i then v else vs j) (fun j => (listed.setIfInBounds i true).getD j false) 0 ops.toList a0 := by
         refine zBE _ _ _ fun j _ => ⟨?_, by simp⟩
         by_cases c : j = i
         . subst c; simp [hil]
         . rw [if_neg (by simpa using c), getD_set_ne false (Ne.symm c)]
       rw [e2]
       refine ih (listed.setIfInBounds i true) _ w' (by simpa using hs) (by have := zB3 h1; omega) hb' (fun j hj hl' => ?_)
       by_cases c : j = i
       . subst c; simpa using hTi
       . rw [if_neg c]
         rw [getD_set_ne false (Ne.symm c)] at hl'
         exact hmon j w w' _ hbel (hT j hj hl')
     . unfold depB at hd
       simp only [Bool.and_eq_true, Array.any_eq_true', beq_iff_eq] at hd
       obtain ⟨⟨e, he, rfl, hbd⟩, hdst⟩ := hd
       cases ho : ops[e.on]? with
       | none => rw [ho] at hdst; cases hdst
       | some o' =>
         rw [ho] at hdst
         simp only [beq_iff_eq] at hdst
         have hle := h3 e he hbd
         have := zDX vs (fun i => listed.getD i false) n ops.toList 0 [] a0 hp hn e.on o' d (by simpa using ho) hdst (by simpa using hle)
         rw [Nat.zero_add] at this
         show T e.on w ((fill vs (fun i => listed.getD i false) 0 ops.toList a0).tmps.getD d undef)
         rw [this]
         exact hT e.on (Array.getElem?_eq_some_iff.1 ho).1 hle
     . show (fill vs (fun i => listed.getD i false) 0 ops.toList a0).tmps.getD d undef = a0.tmps.getD d undef
       refine zB1 vs _ d _ _ _ fun o' ho' c => ?_
       unfold outB at hd
       have := List.all_eq_true.1 hd o' ho'
       simp [c] at this
 have hz : left (Array.replicate ops.size false) ≤ ops.size := by
  unfold left
  exact Nat.le_trans List.countP_le_length (by simp)
 have h := key ops.size (Array.replicate ops.size false) (fun _ => undef) w0.drew (by simp) hz hB (fun i hi h => by simp [hi] at h)
 have e : fill (fun _ => undef) (fun i => (Array.replicate ops.size false).getD i false) 0 ops.toList a0 = a0 := by
  have : ∀ (l : List Oper) (k : Nat) (a : Act), fill (fun _ => undef) (fun i => (Array.replicate ops.size false).getD i false) k l a = a := by
   intro l
   induction l with
   | nil => intro k a; rfl
   | cons x r ih =>
     intro k a
     rw [fill, ih, if_neg (by by_cases c : k < ops.size <;> simp [c])]
  exact this _ _ _
 rw [e] at h
 exact h
def lastB (ops : List Oper) : Bool := (List.range (ops.length - 1)).all fun k => (ops.drop (k + 1)).any fun o => o.after.any fun e => e.on == k && Region.binds .any e
def Shut1 (ops : Array Oper) (listed : Array Bool) : Prop := ∀ (j : Nat) (o : Oper), ops[j]? = some o → listed.getD j false = true → ∀ e ∈ o.after, Region.binds .any e = true → listed.getD e.on false = true
theorem last_all {ops : Array Oper} {listed : Array Bool} {m : Nat} {o : Oper} (hm : ops.size = m + 1) (hl : lastB ops.toList = true) (hc : Shut1 ops listed) (ho : ops[m]? = some o) (hr : ∀ e ∈ o.after, Region.binds .any e = true → listed.getD e.on false = true) : ∀ d k, k + d + 1 = m → listed.getD k false = true := by
 intro d
 induction d using Nat.strongRecOn with
 | _ d ih =>
  intro k hk
  unfold lastB at hl
  rw [List.all_eq_true] at hl
  have h1 := hl k (List.mem_range.2 (by simp [hm]; omega))
  simp only [List.any_eq_true, Array.any_eq_true', Bool.and_eq_true, beq_iff_eq] at h1
  obtain ⟨o', ho', e, he, hek, hb⟩ := h1
  obtain ⟨j, hj⟩ := List.getElem?_of_mem ho'
  rw [List.getElem?_drop] at hj
  have hjo : ops[k + 1 + j]? = some o' := by simpa using hj
  have hjs : k + 1 + j < ops.size := (Array.getElem?_eq_some_iff.1 hjo).1
  by_cases c : k + 1 + j = m
  . rw [c] at hjo
    rw [hjo] at ho
    cases ho
    have := hr e he hb
    rwa [hek] at this
  . have h2 := ih (d - 1 - j) (by omega) (k + 1 + j) (by omega)
    have := hc _ _ hjo h2 e he hb
    rwa [hek] at this
theorem zCR            {P : Program} {Q : Exit → Act → World → Prop} {id : Nat} {ops : Array Oper} {a0 : Act} {w0 : World} (hm : P.follows .mixedOrders = true) (T : Nat → World → Value → Prop) (B : World → Prop) (n m : Nat) (hn : a0.tmps.size = n) (hsz : ops.size = m + 1) (hp : zAR      0 ops.toList [] n = true) (hlb : lastB ops.toList = true)
    (Mo : World → World → Prop) (hmon : ∀ k w w' v, Mo w w' → T k w v → T k w' v) (hB : B w0.drew)
    (hop : zAL (fun i o => ∀ a w, B w → (∀ k d, depB ops o k d = true → T k w (a.eval (.tmp d))) → (∀ d, outB ops.toList d = true → a.eval (.tmp d) = a0.eval (.tmp d)) → Oper.wp P o a w (fun a' w' => ∃ v, a' = a.put o.dst v ∧ T i w' v ∧ B w' ∧ Mo w w') Q) 0 (ops.toList.take m))
    (hend : ∀ (vs : Nat → Value) w o, ops[m]? = some o → B w → (∀ i, i < m → T i w (vs i)) → Oper.wp P o (fill vs (fun _ => true) 0 (ops.toList.take m) a0) w (fun a' w' => Q .normal a' w') Q) : (Code.region id ops true).wp P Q a0 w0 := by
  refine wp_region_any hm ?_
  have fl : ∀ (vs : Nat → Value) (ls : Nat → Bool), (∀ i, i < m → ls i = true) → ls m = false → fill vs ls 0 ops.toList a0 = fill vs (fun _ => true) 0 (ops.toList.take m) a0 := by
    intro vs ls h1 h2
    have : ∀ (l : List Oper) (k : Nat) (a : Act), k + l.length = m + 1 → k ≤ m → fill vs ls k l a = fill vs (fun _ => true) k (l.take (m - k)) a := by
      intro l
      induction l with
      | nil => intro k a h hk; simp at h; omega
      | cons x r ih =>
        intro k a h hk
        simp at h
        by_cases c : k = m
        . subst c
          obtain rfl : r = [] := List.eq_nil_of_length_eq_zero (by omega)
          simp [fill, h2]
        . rw [show m - k = (m - (k + 1)) + 1 by omega, List.take_succ_cons, fill, fill, h1 k (by omega)]
          exact ih (k + 1) _ (by omega) (by omega)
    have := this ops.toList 0 a0 (by simp [hsz]) (by omega)
    simpa using this
  have key : ∀ (fuel : Nat) (listed : Array Bool) (vs : Nat → Value) (w : World), listed.size = ops.size → left listed ≤ fuel → Shut1 ops listed → listed.getD m false = false → B w → (∀ i, i < m → listed.getD i false = true → T i w (vs i)) → wpAny P .any ops Q fuel listed (fill vs (fun i => listed.getD i false) 0 ops.toList a0) w := by
    intro fuel
    induction fuel with
    | zero =>
      intro listed vs w hs hl hc hml hb hT
      have := zB3      (listed := listed) (i := m) (by have h3 : m < listed.size := by omega
                                                       simp [h3] at hml ⊢; exact hml)
      omega
    | succ fuel ih =>
      intro listed vs w hs hl hc hml hb hT
      refine ⟨fun hr => ?_, fun i hi => ?_⟩
      . have h := zEI hp hs hr m (by omega)
        have h3 : m < listed.size := by omega
        simp [h3] at h hml
        rw [h] at hml
        cases hml
      . obtain ⟨h1, o, h2, h3⟩ := mem_ready.1 hi
        have hio : i < ops.size := (Array.getElem?_eq_some_iff.1 h2).1
        have hil : i < listed.size := by omega
        have h2' : ops.toList[i]? = some o := by simpa using h2
        have hg := (zBG _ _ _ _ hp i o h2').1
        have hlf : listed.getD i false = false := by simp [hil] at h1 ⊢; exact h1
        unfold wpOp
        rw [h2]
        simp only
        rw [if_pos (by simp [Region.wanted, hg])]
        by_cases cm : i = m
        . subst cm
          have hall : ∀ k, k < i → listed.getD k false = true := fun k hk => last_all hsz hlb hc h2 h3 (i - 1 - k) k (by omega)
          have e := fl vs (fun i => listed.getD i false) hall hml
          rw [e]
          refine .inl (Oper.wp_mono ?_ (hend vs w o h2 hb (fun j hj => hT j hj (hall j hj))))
          intro a' w' hq
          have hrd : Region.ready .any ops (listed.setIfInBounds i true) = [] := List.eq_nil_iff_forall_not_mem.2 fun j hj => by
            obtain ⟨q1, o', q2, _⟩ := mem_ready.1 hj
            have q3 : j < ops.size := (Array.getElem?_eq_some_iff.1 q2).1
            by_cases cj : j = i
            . subst cj; simp [hil] at q1
            . rw [getD_set_ne true (Ne.symm cj)] at q1
              have := hall j (by omega)
              have q4 : j < listed.size := by omega
              simp [q4] at this q1
              rw [this] at q1
              cases q1
          cases fuel with
          | zero => exact ⟨hrd, hq⟩
          | succ f => exact ⟨fun _ => hq, by rw [hrd]; intro i hi; cases hi⟩
        . have him : i < m := by omega
          have h2t : (ops.toList.take m)[i]? = some o := by rw [List.getElem?_take, if_pos him]; exact h2'
          have hstep := zAL.at _ _ hop i o h2t (fill vs (fun i => listed.getD i false) 0 ops.toList a0) w hb (fun k d hd => ?_) (fun d hd => ?_)
          . refine .inl (Oper.wp_mono ?_ hstep)
            rintro a' w' ⟨v, rfl, hTi, hb', hbel⟩
            have e := zCH vs (fun i => listed.getD i false) v n ops.toList 0 [] a0 hp i o h2' (by simpa using hlf)
            rw [← e]
            have e2 : fill (fun j => if j = 0 + i then v else vs j) (fun j => if j = 0 + i then true else listed.getD j false) 0 ops.toList a0 = fill (fun j => if j = i then v else vs j) (fun j => (listed.setIfInBounds i true).getD j false) 0 ops.toList a0 := by
              refine zBE _ _ _ fun j _ => ⟨?_, by simp⟩
              by_cases c : j = i
              . subst c; simp [hil]
              . rw [if_neg (by simpa using c), getD_set_ne false (Ne.symm c)]
            rw [e2]
            refine ih (listed.setIfInBounds i true) _ w' (by simpa using hs) (by have := zB3 h1; omega) (fun j o' ho' hl' ed he hbd => ?_) (by rw [getD_set_ne false cm]; exact hml) hb' (fun j hj hl' => ?_)
            . by_cases ce : ed.on = i
              . rw [ce]; simp [hil]
              . rw [getD_set_ne false (Ne.symm ce)]
                by_cases c : j = i
                . subst c
                  rw [h2] at ho'
                  cases ho'
                  exact h3 ed he hbd
                . rw [getD_set_ne false (Ne.symm c)] at hl'
                  exact hc j o' ho' hl' ed he hbd
            . by_cases c : j = i
              . subst c; simpa using hTi
              . rw [if_neg c]
                rw [getD_set_ne false (Ne.symm c)] at hl'
                exact hmon j w w' _ hbel (hT j hj hl')
          . unfold depB at hd
            simp only [Bool.and_eq_true, Array.any_eq_true', beq_iff_eq] at hd
            obtain ⟨⟨e, he, rfl, hbd⟩, hdst⟩ := hd
            cases ho : ops[e.on]? with
            | none => rw [ho] at hdst; cases hdst
            | some o' =>
              rw [ho] at hdst
              simp only [beq_iff_eq] at hdst
              have hle := h3 e he hbd
              have := zDX vs (fun i => listed.getD i false) n ops.toList 0 [] a0 hp hn e.on o' d (by simpa using ho) hdst (by simpa using hle)
              rw [Nat.zero_add] at this
              show T e.on w ((fill vs (fun i => listed.getD i false) 0 ops.toList a0).tmps.getD d undef)
              rw [this]
              have hlt : e.on < i := by have := (zBG _ _ _ _ hp i o h2').2.1 e he hbd; omega
              exact hT e.on (by omega) hle
          . show (fill vs (fun i => listed.getD i false) 0 ops.toList a0).tmps.getD d undef = a0.tmps.getD d undef
            refine zB1 vs _ d _ _ _ fun o' ho' c => ?_
            unfold outB at hd
            have := List.all_eq_true.1 hd o' ho'
            simp [c] at this
  have hz : left (Array.replicate ops.size false) ≤ ops.size := by
    unfold left
    exact Nat.le_trans List.countP_le_length (by simp)
  have h := key ops.size (Array.replicate ops.size false) (fun _ => undef) w0.drew (by simp) hz (fun j o ho hl => by by_cases c : j < ops.size <;> simp [c] at hl) (by by_cases c : m < ops.size <;> simp [c]) hB (fun i hi h => by by_cases c : i < ops.size <;> simp [c] at h)
  have e : fill (fun _ => undef) (fun i => (Array.replicate ops.size false).getD i false) 0 ops.toList a0 = a0 := by
    have : ∀ (l : List Oper) (k : Nat) (a : Act), fill (fun _ => undef) (fun i => (Array.replicate ops.size false).getD i false) k l a = a := by
      intro l
      induction l with
      | nil => intro k a; rfl
      | cons x r ih =>
        intro k a
        rw [fill, ih, if_neg (by by_cases c : k < ops.size <;> simp [c])]
    exact this _ _ _
  rw [e] at h
  exact h
end Go.Proofs.YtnlmknbhppdliaaGreatDoor
namespace Go.Proofs.YtnlmknbhppdliaaGreatDoor.Chk
open Go.ChangeShapes Go.WideShapes Go.ChangeAt Go.RowKit Go.Maps
set_option linter.unusedVariables false
set_option linter.unusedSimpArgs false
set_option maxRecDepth 20000
section
variable {P : Program} {o : Oper} {a : Act} {w : World} {K : Act → World → Prop} {Q : Exit → Act → World → Prop}
theorem zAY (v : Value) (h : (execOp a.eval o).run P w = .ok (.value v) w) (hk : K (a.put o.dst v) w) : Oper.wp P o a w K Q := by
  unfold Oper.wp
  rw [h]
  exact hk
theorem op_mv (x : Operand) (ho : o.op = .move x ∨ o.op = .assign x) (v : Value) (hx : a.eval x = v) (hk : K (a.put o.dst v) w) : Oper.wp P o a w K Q := by
  unfold Oper.wp execOp
  rcases ho with ho | ho <;> (simp only [ho, hx, Sem.run_bind, Sem.run_pure, Result.andThen_ok]; exact hk)
theorem op_ld (ty : TypeId) (x : Operand) (ho : o.op = .load ty x) (b f : Nat) (hx : a.eval x = .pointer (some ⟨b, f, none⟩)) (cs : List Value) (d : TypeDesc) (hc : w.rangeAt b f cs) (hu : P.underlying ty = some d) (hd : d.isRow = true) (hi : (P.info? ty).map (·.size) = some cs.length) (hk : K (a.put o.dst (.agg cs.toArray)) w) : Oper.wp P o a w K Q :=
  wp_load_mid ty x ho b f hx cs d hc hu hd hi hk
theorem op_st (ty : TypeId) (x y : Operand) (ho : o.op = .store ty x y) (b f : Nat) (cs : List Value) (U : TypeId) (v : Value) (vs : List Value) (hx : a.eval x = .pointer (some ⟨b, f, none⟩)) (hy : a.eval y = v) (hv : v.cells = vs.toArray) (hb : w.heap[b]? = some (.cells cs.toArray U (0, 0)))
  (hl : f + vs.length ≤ cs.length) (hi : (P.info? ty).map (·.size) = some vs.length) (h1 : vs.all (·.oneCell') = true)
  (h : ∀ w', w'.heap[b]? = some (.cells (ovr cs f vs).toArray U (0, 0)) → Fr (fun i => i = b) w w' → K (a.put o.dst undef) w') : Oper.wp P o a w K Q := by
 unfold Oper.wp execOp
 simp only [ho, hx, hy, Instr.storeAt, Instr.sureAddr, Sem.run_bind, Sem.run_pure, Result.andThen_ok, zGU w b f ty v vs.toArray hv (zB8 hb f _ (by simpa using hl)) (by simpa using hi) (all_oneCell_toArray (List.all_eq_true.1 h1))]
 exact h _ (zB2 vs f cs w hb hl) ((Fr.refl (fun i => i = b) w).setCells (.inl rfl))
theorem zAL.cons {f : Nat → Oper → Prop} {k : Nat} {x : Oper} {l : List Oper} (h : f k x) (r : zAL f (k + 1) l) : zAL f k (x :: l) := ⟨h, r⟩
theorem zAL.nil {f : Nat → Oper → Prop} {k : Nat} : zAL f k [] := trivial
theorem op_cl (f : FuncId) (he : ∀ args w, (callFunc f args).run P w = .ok (.enter f args) w) (xs : Array Operand) (ts : Array TypeId) (ho : o.op = .call { callee := .value (.func f), args := xs, argTypes := ts }) (us : Array Value) (hx : xs.map a.eval = us) (R : Ending → World → Prop) (hc : Calls P f us w R) (h : ∀ e w', R e w' → ∃ v, e = .returned v ∧ K (a.put o.dst v) w') : Oper.wp P o a w K Q := by
  unfold Oper.wp execOp
  have hf : a.eval (.func f) = Value.func (Fn.func f) #[] #[] := rfl
  simp [ho, resolve, invoke, Deferred.ofValue, hf, hx, he]
  refine hc.mono ?_
  intro e w' hr
  obtain ⟨v, rfl, hk⟩ := h e w' hr
  exact hk
end
theorem ev_c (a : Act) (v : Value) : a.eval (.const v) = v := rfl
theorem zBJ {w : World} : ∀ (vs : List Value), RdL w (vs.map Dat.lit) vs
  | [] => RdL.nil _
  | v :: r => .cons (.lit _) (zBJ r)
end Go.Proofs.YtnlmknbhppdliaaGreatDoor.Chk
namespace Go.Proofs.YtnlmknbhppdliaaGreatDoor
open Go.ChangeShapes Go.WideShapes Go.ChangeAt Go.RowKit
set_option linter.unusedVariables false
set_option linter.unusedSimpArgs false
def zEW (vs : Nat → Value) : Nat → List (Option Tmp) → Act → Act
  | _, [], a => a
  | k, d :: r, a => zEW vs (k + 1) r (a.put d (vs k))
theorem zFG {vs : Nat → Value} : ∀ {l : List Oper} {k : Nat} {a : Act} (ds : List (Option Tmp)) (h : l.map Oper.dst = ds), fill vs (fun _ => true) k l a = zEW vs k ds a
 | [], k, a, ds, h => by subst h; rfl
 | x :: r, k, a, ds, h => by
  subst h
  rw [fill, if_pos rfl, List.map_cons, zEW]
  exact zFG _ rfl
theorem set_c20 {α : Type} (a0 a1 a2 a3 a4 a5 a6 a7 a8 a9 a10 a11 a12 a13 a14 a15 a16 a17 a18 a19 : α) (l : List α) (n : Nat) (v : α) : (a0 :: a1 :: a2 :: a3 :: a4 :: a5 :: a6 :: a7 :: a8 :: a9 :: a10 :: a11 :: a12 :: a13 :: a14 :: a15 :: a16 :: a17 :: a18 :: a19 :: l).set (n + 20) v = a0 :: a1 :: a2 :: a3 :: a4 :: a5 :: a6 :: a7 :: a8 :: a9 :: a10 :: a11 :: a12 :: a13 :: a14 :: a15 :: a16 :: a17 :: a18 :: a19 :: l.set n v := rfl
theorem zD6 {P : Program} {Q : Exit → Act → World → Prop} {id : Nat} {ops : Array Oper} {a0 : Act} {w0 : World} (hm : P.follows .mixedOrders = true) (T : Nat → World → Value → Prop) (B : World → Prop) (n m : Nat) (hn : a0.tmps.size = n) (hsz : ops.size = m + 1) (ds : List (Option Tmp)) (hds : (ops.toList.take m).map Oper.dst = ds) (tyS : TypeId) (xS yS : Operand) (hst : (ops[m]'(by omega)).op = .store tyS xS yS) (hdn : (ops[m]'(by omega)).dst = none) (hp : zAR 0 ops.toList [] n = true) (hlb : lastB ops.toList = true)
  (Mo : World → World → Prop) (hmon : ∀ k w w' v, Mo w w' → T k w v → T k w' v) (hB : B w0.drew)
  (hop : zAL (fun i o => ∀ a w, B w → (∀ k d, depB ops o k d = true → T k w (a.eval (.tmp d))) → (∀ d, outB ops.toList d = true → a.eval (.tmp d) = a0.eval (.tmp d)) → Oper.wp P o a w (fun a' w' => ∃ v, a' = a.put o.dst v ∧ T i w' v ∧ B w' ∧ Mo w w') Q) 0 (ops.toList.take m))
  (hend : ∀ (vs : Nat → Value) w, B w → (∀ i, i < m → T i w (vs i)) → ∃ (b f : Nat) (cs : List Value) (U : TypeId) (v : Value) (us : List Value), (zEW vs 0 ds a0).eval xS = .pointer (some ⟨b, f, none⟩) ∧ (zEW vs 0 ds a0).eval yS = v ∧ v.cells = us.toArray ∧ w.heap[b]? = some (.cells cs.toArray U (0, 0)) ∧ f + us.length ≤ cs.length ∧ (P.info? tyS).map (·.size) = some us.length ∧ us.all (·.oneCell') = true ∧ ∀ w', w'.heap[b]? = some (.cells (ovr cs f us).toArray U (0, 0)) → Fr (fun i => i = b) w w' → Q .normal (zEW vs 0 ds a0) w') : (Code.region id ops true).wp P Q a0 w0 := by
 refine zCR hm T B n m hn hsz hp hlb Mo hmon hB hop fun vs w o ho hb hT => ?_
 have hoo : o = ops[m]'(by omega) := by rw [Array.getElem?_eq_getElem (by omega)] at ho; exact (Option.some.inj ho).symm
 subst hoo
 obtain ⟨b, f, cs, U, v, us, g1, g2, g3, g4, g5, g6, g7, g8⟩ := hend vs w hb hT
 rw [zFG ds hds]
 exact Chk.op_st tyS xS yS hst b f cs U v us g1 g2 g3 g4 g5 g6 g7 (fun w' k1 k2 => by rw [hdn]; exact g8 w' k1 k2)
end Go.Proofs.YtnlmknbhppdliaaGreatDoor
namespace Go.Proofs.YtnlmknbhppdliaaGreatDoor.Chk
open Go.ChangeShapes Go.WideShapes Go.ChangeAt Go.RowKit Go.Maps
set_option linter.unusedVariables false
set_option linter.unusedSimpArgs false
set_option maxRecDepth 20000
theorem zFV (A : List Value) (va nm : ByteArray) (b : Nat) (w : World) (hA : A[0]? = some (.string va)) (h : w.cell? ⟨b, 0, none⟩ = some (.string nm)) (hz : A.length = 18) (ho : A.all (·.oneCell') = true) : Calls Tryz.prog 164 #[.agg A.toArray, .pointer (some ⟨b, 0, none⟩)] w fun e w' => e = .returned (.bool (seq va nm)) ∧ Below w.heap.size w w' := by
  have hB : BlkT w (w.alloc (.cells A.toArray 48)) A 48 := BlkT.start w _ _
  have c0 : (w.alloc (.cells A.toArray 48)).cell? ⟨w.heap.size, 0, none⟩ = some (.string va) := by rw [hB.c 0]; exact hA
  have c4 : (w.alloc (.cells A.toArray 48)).cell? ⟨b, 0, none⟩ = some (.string nm) := (hB.bel.cell (p := ⟨b, 0, none⟩) (World.block_lt_of_cell? _ _ h)).trans h
  have HB := hid hB.bel
  clear hB h hA hz ho
  unfold seq
  go_enter Tryz.func164, Tryz.ntmps164
  go_wp2_with fail
  go_ret
  exact ⟨rfl, HB.out⟩
theorem zDF (ws : List Pt) (v : Value) (nm : ByteArray) (b : Nat) (w : World) (h : Rd w (.row 48 18 (ws.map encP)) v) (hn : w.cell? ⟨b, 0, none⟩ = some (.string nm)) :
  Calls Tryz.prog 116 #[v, .func (.func 164) #[] #[.pointer (some ⟨b, 0, none⟩)]] w fun e w' => e = .returned (.int .i64 (ptq ws nm)) ∧ Below w.heap.size w w' := by
 obtain ⟨p, cap, rfl, hmx, hat⟩ := zAG lenP h
 have HAT : Hid (At encP 18 w p ws) := hat
 obtain ⟨n, hnl⟩ : ∃ n, ws.length = n := ⟨_, rfl⟩
 have HN := hid hnl
 have HNM := hid hn
 rw [hnl] at hmx ⊢
 clear h hat hnl hn
 go_enter Tryz.func116, Tryz.ntmps116
 go_wp2_with fail
 go_loopg [8] (n + 1) (fun gg i wr => ∃ k : Nat, k ≤ n ∧ gg = n + 1 - k ∧ i = .int .i64 (k : Nat) ∧ (∀ (j : Nat) (hj : j < ws.length), j < k → seq ws[j].va nm = false) ∧ Below w.heap.size w wr)
 case atStart => exact ⟨0, by omega, by omega, rfl, fun j _ h => by omega, Below.refl _ _⟩
 case round =>
  obtain ⟨k, hk, rfl, rfl, hno, hB⟩ := hrel
  have HB := hid hB
  by_cases hlt : k < n
  . have hkc : k < ws.length := by have := HN.out; omega
    obtain ⟨g, off, rfl, hrd⟩ := HAT.out (by omega)
    obtain ⟨A, r1, o1⟩ := hrd wr hB k hkc
    obtain ⟨vc, z1, o2⟩ := rdP o1
    obtain ⟨up, un, uc, hu⟩ := zAB o2
    have hAz : A.length = 18 := o1.1.symm
    have hAO : A.all (·.oneCell') = true := by rw [z1, hu]; rfl
    have ZA : Hid ((Tryz.prog.info? 48).map (·.size) = some A.length) := by show _ = _; rw [hAz]; kernel_rfl
    have HCM := hid (zFV A ws[k].va nm b wr (by rw [z1]; rfl) ((hB.cell (p := ⟨b, 0, none⟩) (World.block_lt_of_cell? _ _ HNM.out)).trans HNM.out) hAz hAO)
    have HNO := hid hno
    obtain ⟨q, hq⟩ : ∃ q, seq ws[k].va nm = q := ⟨_, rfl⟩
    have HQK : Hid (seq ws[k].va nm = q) := hq
    rw [hq] at HCM
    have X1_ := hid r1
    have i1 : (0 : Int) ≤ (k : Int) := by omega
    have i2 : (k : Int) < (n : Int) := by omega
    clear hno hB hrd o1 o2 z1 r1 hq hu hAz hAO
    cases q with
    | true =>
     go_wp2_with (first
      | ((with_reducible refine gLq ?_); refine wpList_load_mid (by rfl) 48 _ (by rfl) g (off + k * 18) (by rfl) A _ X1_.out Tryz.underlying48 rfl ZA.out ?_)
      | (go_at_call 164; refine HCM.out.mono ?_; rintro e w2 ⟨rfl, hb2⟩; have HB2 := hid (zAA HB.out hb2 HB.out.size); clear hb2))
     go_ret
     exact ⟨zAD (by show (k : Int) = ixq _ _ _; rw [zBB (q := fun t : Pt => seq t.va nm) ws 0 k hkc (fun j hj => HNO.out j (by omega) hj) (by exact HQK.out)]; simp), HB2.out⟩
    | false =>
     go_wp2_with (first
      | ((with_reducible refine gLq ?_); refine wpList_load_mid (by rfl) 48 _ (by rfl) g (off + k * 18) (by rfl) A _ X1_.out Tryz.underlying48 rfl ZA.out ?_)
      | (go_at_call 164; refine HCM.out.mono ?_; rintro e w2 ⟨rfl, hb2⟩; have HB2 := hid (zAA HB.out hb2 HB.out.size); clear hb2))
     go_roundg (n + 1 - (k + 1))
     case rel =>
      refine ⟨k + 1, by omega, rfl, by go_num, fun j hj hjk => ?_, HB2.out⟩
      by_cases c : j < k
      . exact HNO.out j hj c
      . obtain rfl : j = k := by omega
        exact HQK.out
     case measure => omega
  . obtain rfl : k = n := by omega
    have HR := hid (show ptq ws nm = -1 from zAZ _ _ (fun x hx => by
     obtain ⟨j, hj, rfl⟩ := List.getElem_of_mem hx
     exact hno j hj (by have := HN.out; omega)))
    clear hno hB
    go_wp2_with fail
    go_ret
    exact ⟨zAD HR.out.symm, HB.out⟩
theorem zFW (ws : List Pt) (v : Value) (nm : ByteArray) (w : World) (h : Rd w (.row 48 18 (ws.map encP)) v) :
  Calls Tryz.prog 147 #[v, .string nm] w fun e w' => e = .returned (.int .i64 (ptq ws nm)) ∧ Below w.heap.size w w' := by
 have HB := hid ((Bxs.nil w).snoc (by simp) [.string nm] 9)
 have HIX := hid (fun W (hW : Below w.heap.size w W) (hc : W.cell? ⟨w.heap.size, 0, none⟩ = some (.string nm)) => zDF ws v nm w.heap.size W (h.later hW) hc)
 obtain ⟨pv, pn, pc, rfl⟩ := zAB h
 clear h
 go_enter Tryz.func147, Tryz.ntmps147
 go_wp2_with fail
 refine (HIX.out _ HB.out.bel (HB.out.c 0 (by simp) 0)).mono ?_
 rintro e w2 ⟨rfl, hb2⟩
 have HB2 := hid (HB.out.next hb2)
 clear hb2
 go_wp2_with fail
 go_ret
 exact ⟨rfl, HB2.out.bel⟩
theorem ent_wat : ∀ args w, (callFunc 147 args).run Tryz.prog w = .ok (.enter 147 args) w := enters_of Tryz.func147 (by kernel_rfl) rfl
theorem zF6 (ts : List Tp) (ws : List Pt) (own : Ev) (kn : List Ev) (tv ov wv kv : Value) (hk : Sok ts ws own kn) (o : Opd) (w : World) (hs : Scn w ts ws own kn tv ov wv kv) (ho : o.k = 3) (j : Nat) (hj : j < kn.length) (hp : ptq ws o.va = (j : Int)) (hev : evk ts kn[j] = 0) (hf : 0 ≤ fdq (ts.getD kn[j].t.toNat dT).f o.fd) :
  Calls Tryz.prog 112 #[snV tv own ov wv kv, opV o] w fun e w' => e = .returned (V4.vV (fvl ts kn[j] o.fd)) ∧ Below w.heap.size w w' := by
 obtain ⟨g, off, A, hg, hr, uv, hA, hu⟩ : ∃ g off A, (∃ n c, kv = .slice (some ⟨g, off, none⟩) n c ∧ (j : Int) < (n : Int)) ∧ (∀ W, Below w.heap.size w W → W.rangeAt g (off + j * 5) A) ∧ ∃ uv, A = [.int .i64 kn[j].n, .int .i64 kn[j].t, .int .i64 kn[j].st, .int .i64 kn[j].en, uv] ∧ Rd w (.row 42 3 (kn[j].v.map encV)) uv := by
  obtain ⟨p, cap, rfl, _, hat⟩ := zAG lenX hs.rk
  obtain ⟨g, off, rfl, hrd⟩ := hat (by omega)
  obtain ⟨A, r1, o1⟩ := hrd w (Below.refl _ _) j hj
  obtain ⟨uv, z1, o2⟩ := rdX o1
  exact ⟨g, off, A, ⟨_, _, rfl, by omega⟩, fun W hW => zAK r1 hW, uv, z1, o2⟩
 have hFS := fun W (hW : Below w.heap.size w W) => zF9 ts ws own kn tv ov wv kv hk.ty kn[j] uv o.fd W (hs.later hW) (hu.later hW) hev hf
 have hIX := fun W (hW : Below w.heap.size w W) => zFW ws wv o.va W (hs.later hW).rw
 rw [hp] at hIX
 obtain ⟨⟨vk, vn, vt⟩, hv⟩ : ∃ v, fvl ts kn[j] o.fd = v := ⟨_, rfl⟩
 rw [hv] at hFS ⊢
 have hsh := zAB hu
 have hkvs := hg
 obtain ⟨tp, tn, tc, htv⟩ := zAB hs.rt
 obtain ⟨op, on2, oc, hov⟩ := zAB hs.ro
 obtain ⟨wp, wn, wc, hwv⟩ := zAB hs.rw
 obtain ⟨kn2, kc, hkv, hjn⟩ := hkvs
 have hB := bxs3 w (snC tv own ov wv kv) [.int .i64 o.k, .int .i64 o.vk, .int .i64 o.vi, .string o.vt, .string o.va, .string o.fd] [.int .i64 0, .int .i64 0, .string ⟨#[]⟩] 100 44 42
 subst htv hov hwv hkv
 obtain ⟨on, ot, ost, oen, ovl⟩ := own
 obtain ⟨ok, ovk, ovi, ovt, ova, ofd⟩ := o
 simp only [snC] at hB
 simp only at ho hFS hIX ⊢
 subst ho
 obtain ⟨UL, hUL⟩ : ∃ UL : List Value, [.slice tp tn tc, .int .i64 on, .int .i64 ot, .int .i64 ost, .int .i64 oen, .slice op on2 oc, .slice wp wn wc, .slice (some ⟨g, off, none⟩) kn2 kc] = UL := ⟨_, rfl⟩
 have hUz : UL.length = 8 := by rw [← hUL]; rfl
 have hXz : A.length = 5 := by rw [hA]; rfl
 have HFC : Hid (∀ W, Below w.heap.size w W → Calls Tryz.prog 146 #[.agg UL.toArray, .agg A.toArray, .string ofd] W fun e w' => e = .returned (V4.vV ⟨vk, vn, vt⟩) ∧ Below W.heap.size W w') := fun W hW => by rw [hA, ← hUL]; exact hFS W hW
 obtain ⟨XL, hXL⟩ : ∃ XL : List Value, A = XL := ⟨_, rfl⟩
 rw [hXL] at HFC hXz hr
 have HS6 : Hid (∀ W, Below w.heap.size w W → W.heap[w.heap.size]? = some (.cells [.slice tp tn tc, .int .i64 on, .int .i64 ot, .int .i64 ost, .int .i64 oen, .slice op on2 oc, .slice wp wn wc, .slice (some ⟨g, off, none⟩) kn2 kc].toArray 100 (0, 0)) → W.heap[w.heap.size + 1]? = some (.cells [.int .i64 3, .int .i64 ovk, .int .i64 ovi, .string ovt, .string ova, .string ofd].toArray 44 (0, 0)) → (W.rangeAt w.heap.size 0 UL ∧ W.cell? ⟨w.heap.size, 7, none⟩ = some (.slice (some ⟨g, off, none⟩) kn2 kc) ∧ W.rangeAt g (off + j * 5) XL ∧ W.cell? ⟨w.heap.size + 1, 5, none⟩ = some (.string ofd))) := fun W h0 h1 h2 => ⟨by rw [← hUL]; exact zAE h1, zAC h1 7, hr W h0, zAC h2 5⟩
 have ZU : Hid ((Tryz.prog.info? 100).map (·.size) = some UL.length) := by show _ = _; rw [hUz]; kernel_rfl
 have ZX : Hid ((Tryz.prog.info? 35).map (·.size) = some XL.length) := by show _ = _; rw [hXz]; kernel_rfl
 have HIX := hid hIX
 have HB := hid hB
 have y1 : (0 : Int) ≤ (j : Int) := by omega
 have y2 : (j : Int) < (kn2 : Int) := hjn
 clear hB hs hk hf hv hFS hIX hr hA hu hsh hg hev hp hj hUL hUz hXz hXL hjn
 go_enter Tryz.func112, Tryz.ntmps112
 go_upto_region 5 with fail
 generalize hWB : ((w.alloc (.cells #[.slice tp tn tc, .int .i64 on, .int .i64 ot, .int .i64 ost, .int .i64 oen, .slice op on2 oc, .slice wp wn wc, .slice (some ⟨g, off, none⟩) kn2 kc] 100)).alloc (.cells #[.int .i64 3, .int .i64 ovk, .int .i64 ovi, .string ovt, .string ova, .string ofd] 44)).alloc (.cells #[.int .i64 0, .int .i64 0, .string ⟨#[]⟩] 42) = WB at HB ⊢
 clear hWB
 have HBB := hid HB.out.bel
 have HV : Hid (WB.heap[w.heap.size + 2]? = some (.cells #[.int .i64 0, .int .i64 0, .string ⟨#[]⟩] 42 (0, 0))) := HB.out.b 2 (by simp)
 have hb0 : WB.heap[w.heap.size]? = some (.cells #[.slice tp tn tc, .int .i64 on, .int .i64 ot, .int .i64 ost, .int .i64 oen, .slice op on2 oc, .slice wp wn wc, .slice (some ⟨g, off, none⟩) kn2 kc] 100 (0, 0)) := HB.out.b 0 (by simp)
 have hb1 : WB.heap[w.heap.size + 1]? = some (.cells #[.int .i64 3, .int .i64 ovk, .int .i64 ovi, .string ovt, .string ova, .string ofd] 44 (0, 0)) := HB.out.b 1 (by simp)
 have hS := fun W (hW : Below WB.heap.size WB W) => HS6.out W (zAA HBB.out hW HBB.out.size) ((hW.block _ (zAH hb0)).trans hb0) ((hW.block _ (zAH hb1)).trans hb1)
 have CU := hid (fun W (hW : Below WB.heap.size WB W) => (hS W hW).1)
 have C7 := hid (fun W (hW : Below WB.heap.size WB W) => (hS W hW).2.1)
 have HR := hid (fun W (hW : Below WB.heap.size WB W) => (hS W hW).2.2.1)
 have C5 := hid (fun W (hW : Below WB.heap.size WB W) => (hS W hW).2.2.2)
 have C6 : Hid (∀ W, Below WB.heap.size WB W → W.cell? ⟨w.heap.size, 6, none⟩ = some (.slice wp wn wc)) := fun W hW => by rw [zAC ((hW.block _ (zAH hb0)).trans hb0)]; rfl
 have C4 : Hid (∀ W, Below WB.heap.size WB W → W.cell? ⟨w.heap.size + 1, 4, none⟩ = some (.string ova)) := fun W hW => by rw [zAC ((hW.block _ (zAH hb1)).trans hb1)]; rfl
 clear hb0 hb1 hS HB HS6
 have y3 : (0 : Int) ≤ (j : Int) ∧ (j : Int) < (kn2 : Int) := ⟨y1, y2⟩
 refine zD6 (by kernel_rfl) (fun i w9 v => ([(fun w9 v => v = .agg UL.toArray), (fun w9 v => v = .pointer (some ⟨w.heap.size, 7, none⟩)), (fun w9 v => v = .slice (some ⟨g, off, none⟩) kn2 kc), (fun w9 v => v = .pointer (some ⟨w.heap.size, 6, none⟩)), (fun w9 v => v = .slice wp wn wc), (fun w9 v => v = .pointer (some ⟨w.heap.size + 1, 4, none⟩)), (fun w9 v => v = .string ova), (fun w9 v => v = .int .i64 (j : Nat)), (fun w9 v => v = .pointer (some ⟨g, off + j * 5, none⟩)), (fun w9 v => v = .agg XL.toArray), (fun w9 v => v = .pointer (some ⟨w.heap.size + 1, 5, none⟩)), (fun w9 v => v = .string ofd), (fun w9 v => v = V4.vV ⟨vk, vn, vt⟩)] : List (World → Value → Prop)).getD i (fun _ _ => True) w9 v) (fun W => Below WB.heap.size WB W) 32 13 rfl rfl [some 17, some 18, some 19, some 20, some 21, some 22, some 23, some 24, some 25, some 26, some 27, some 28, some 29] (by kernel_rfl) 42 (.tmp 4) (.tmp 29) (by rfl) (by rfl) (by kernel_rfl) (by kernel_rfl) (fun W W' => Below W.heap.size W W') ?hmon (Below.drew (Below.refl _ _)) (zAL.cons ?o0 (zAL.cons ?o1 (zAL.cons ?o2 (zAL.cons ?o3 (zAL.cons ?o4 (zAL.cons ?o5 (zAL.cons ?o6 (zAL.cons ?o7 (zAL.cons ?o8 (zAL.cons ?o9 (zAL.cons ?o10 (zAL.cons ?o11 (zAL.cons ?o12 zAL.nil))))))))))))) ?hend
 case hmon =>
  intro q W W' v hb h
  rcases q with _ | _ | _ | _ | _ | _ | _ | _ | _ | _ | _ | _ | _ | q
  . exact h
  . exact h
  . exact h
  . exact h
  . exact h
  . exact h
  . exact h
  . exact h
  . exact h
  . exact h
  . exact h
  . exact h
  . exact h
  . exact h
 case o0 =>
  intro a W hB hd ho
  have e2 : a.eval (.tmp 2) = .pointer (some ⟨w.heap.size, 0, none⟩) := ho 2 (by kernel_rfl)
  exact op_ld 100 _ rfl w.heap.size 0 e2 UL _ (CU.out W hB) Tryz.underlying100 rfl ZU.out ⟨_, rfl, rfl, hB, Below.refl _ _⟩
 case o1 =>
  intro a W hB hd ho
  have e2 : a.eval (.tmp 2) = .pointer (some ⟨w.heap.size, 0, none⟩) := ho 2 (by kernel_rfl)
  exact zAY (.pointer (some ⟨w.heap.size, 7, none⟩)) (by unfold execOp; simp only [ev_c, e2]; go_simp) ⟨_, rfl, rfl, hB, Below.refl _ _⟩
 case o2 =>
  intro a W hB hd ho
  have e18 : a.eval (.tmp 18) = .pointer (some ⟨w.heap.size, 7, none⟩) := hd 1 18 (by kernel_rfl)
  have c9 : W.cell? ⟨w.heap.size, 7, none⟩ = some (.slice (some ⟨g, off, none⟩) kn2 kc) := C7.out W hB
  exact zAY (.slice (some ⟨g, off, none⟩) kn2 kc) (by unfold execOp; simp only [ev_c, e18]; go_simp) ⟨_, rfl, rfl, hB, Below.refl _ _⟩
 case o3 =>
  intro a W hB hd ho
  have e2 : a.eval (.tmp 2) = .pointer (some ⟨w.heap.size, 0, none⟩) := ho 2 (by kernel_rfl)
  exact zAY (.pointer (some ⟨w.heap.size, 6, none⟩)) (by unfold execOp; simp only [ev_c, e2]; go_simp) ⟨_, rfl, rfl, hB, Below.refl _ _⟩
 case o4 =>
  intro a W hB hd ho
  have e20 : a.eval (.tmp 20) = .pointer (some ⟨w.heap.size, 6, none⟩) := hd 3 20 (by kernel_rfl)
  have c9 : W.cell? ⟨w.heap.size, 6, none⟩ = some (.slice wp wn wc) := C6.out W hB
  exact zAY (.slice wp wn wc) (by unfold execOp; simp only [ev_c, e20]; go_simp) ⟨_, rfl, rfl, hB, Below.refl _ _⟩
 case o5 =>
  intro a W hB hd ho
  have e3 : a.eval (.tmp 3) = .pointer (some ⟨w.heap.size + 1, 0, none⟩) := ho 3 (by kernel_rfl)
  exact zAY (.pointer (some ⟨w.heap.size + 1, 4, none⟩)) (by unfold execOp; simp only [ev_c, e3]; go_simp) ⟨_, rfl, rfl, hB, Below.refl _ _⟩
 case o6 =>
  intro a W hB hd ho
  have e22 : a.eval (.tmp 22) = .pointer (some ⟨w.heap.size + 1, 4, none⟩) := hd 5 22 (by kernel_rfl)
  have c9 : W.cell? ⟨w.heap.size + 1, 4, none⟩ = some (.string ova) := C4.out W hB
  exact zAY (.string ova) (by unfold execOp; simp only [ev_c, e22]; go_simp) ⟨_, rfl, rfl, hB, Below.refl _ _⟩
 case o7 =>
  intro a W hB hd ho
  have e21 : a.eval (.tmp 21) = .slice wp wn wc := hd 4 21 (by kernel_rfl)
  have e23 : a.eval (.tmp 23) = .string ova := hd 6 23 (by kernel_rfl)
  refine op_cl 147 ent_wat _ _ rfl #[.slice wp wn wc, .string ova] (by simp [ev_c, e21, e23]) _ (HIX.out W (zAA HBB.out hB HBB.out.size)) ?_
  rintro e W' ⟨rfl, hal⟩
  exact ⟨_, rfl, _, rfl, rfl, zAA hB hal hB.size, hal⟩
 case o8 =>
  intro a W hB hd ho
  have e19 : a.eval (.tmp 19) = .slice (some ⟨g, off, none⟩) kn2 kc := hd 2 19 (by kernel_rfl)
  have e24 : a.eval (.tmp 24) = .int .i64 (j : Nat) := hd 7 24 (by kernel_rfl)
  exact zAY (.pointer (some ⟨g, off + j * 5, none⟩)) (by unfold execOp; simp only [ev_c, e19, e24]; go_simp) ⟨_, rfl, rfl, hB, Below.refl _ _⟩
 case o9 =>
  intro a W hB hd ho
  have e25 : a.eval (.tmp 25) = .pointer (some ⟨g, off + j * 5, none⟩) := hd 8 25 (by kernel_rfl)
  exact op_ld 35 _ rfl g (off + j * 5) e25 XL _ (HR.out W hB) Tryz.underlying35 rfl ZX.out ⟨_, rfl, rfl, hB, Below.refl _ _⟩
 case o10 =>
  intro a W hB hd ho
  have e3 : a.eval (.tmp 3) = .pointer (some ⟨w.heap.size + 1, 0, none⟩) := ho 3 (by kernel_rfl)
  exact zAY (.pointer (some ⟨w.heap.size + 1, 5, none⟩)) (by unfold execOp; simp only [ev_c, e3]; go_simp) ⟨_, rfl, rfl, hB, Below.refl _ _⟩
 case o11 =>
  intro a W hB hd ho
  have e27 : a.eval (.tmp 27) = .pointer (some ⟨w.heap.size + 1, 5, none⟩) := hd 10 27 (by kernel_rfl)
  have c9 : W.cell? ⟨w.heap.size + 1, 5, none⟩ = some (.string ofd) := C5.out W hB
  exact zAY (.string ofd) (by unfold execOp; simp only [ev_c, e27]; go_simp) ⟨_, rfl, rfl, hB, Below.refl _ _⟩
 case o12 =>
  intro a W hB hd ho
  have e17 : a.eval (.tmp 17) = .agg UL.toArray := hd 0 17 (by kernel_rfl)
  have e26 : a.eval (.tmp 26) = .agg XL.toArray := hd 9 26 (by kernel_rfl)
  have e28 : a.eval (.tmp 28) = .string ofd := hd 11 28 (by kernel_rfl)
  refine op_cl 146 ent_fds _ _ rfl #[.agg UL.toArray, .agg XL.toArray, .string ofd] (by simp [ev_c, e17, e26, e28]) _ (HFC.out W (zAA HBB.out hB HBB.out.size)) ?_
  rintro e W' ⟨rfl, hal⟩
  exact ⟨_, rfl, _, rfl, rfl, zAA hB hal hB.size, hal⟩
 case hend =>
  intro vs W hB hT
  have e12 : vs 12 = V4.vV ⟨vk, vn, vt⟩ := hT 12 (by decide)
  have hV := (hB.block _ (zAH HV.out)).trans HV.out
  refine ⟨w.heap.size + 2, 0, [.int .i64 0, .int .i64 0, .string ⟨#[]⟩], 42, V4.vV ⟨vk, vn, vt⟩, [.int .i64 vk, .int .i64 vn, .string vt], by kernel_rfl, Eq.trans (b := vs 12) (by kernel_rfl) e12, rfl, hV, by simp, by kernel_rfl, rfl, ?_⟩
  intro w8 hq1 hq2
  have HU8 := hid hq1
  have HB8 : Hid (Below w.heap.size w w8) := zAP (zAA HBB.out hB HBB.out.size) hq2 (by omega)
  clear hq1 hq2 hV hT hB
  simp only [zEW, Act.put, List.setIfInBounds_toArray, e12]
  (try simp only [set_c20])
  simp only [List.set_cons_zero, List.set_cons_succ]
  clear e12
  generalize vs 0 = v0
  generalize vs 1 = v1
  generalize vs 2 = v2
  generalize vs 3 = v3
  generalize vs 4 = v4
  generalize vs 5 = v5
  generalize vs 6 = v6
  generalize vs 7 = v7
  generalize vs 8 = v8
  generalize vs 9 = v9
  generalize vs 10 = v10
  generalize vs 11 = v11
  clear vs
  go_wp2_with fail
  exact zDJ (w.heap.size + 2) [.int .i64 vk, .int .i64 vn, .string vt] 42 _ HU8.out rfl rfl (by rfl) Tryz.underlying42 rfl (by kernel_rfl) ⟨rfl, HB8.out⟩
theorem side_s (ts : List Tp) (ws : List Pt) (own : Ev) (kn : List Ev) (tv ov wv kv : Value) (hk : Sok ts ws own kn) (o : Opd) (w : World) (hs : Scn w ts ws own kn tv ov wv kv) (ho : (sdk ts ws (ts.getD own.t.toNat dT) o).2 = 0) :
   Calls Tryz.prog 112 #[snV tv own ov wv kv, opV o] w fun e w' => e = .returned (V4.vV (svl ts ws own kn o)) ∧ Below w.heap.size w w' := by
 have ho' := ho
 unfold sdk at ho
 by_cases h0 : 1 ≤ o.k ∧ o.k ≤ 3
 . rw [if_neg (fun c => c h0)] at ho
   by_cases h1 : o.k = 1
   . have e : svl ts ws own kn o = ⟨o.vk, o.vi, o.vt⟩ := by unfold svl; rw [if_neg (by omega), if_neg (by omega)]
     rw [e]
     exact side_con ts ws own kn tv ov wv kv hk o w hs (by omega) (by omega)
   . rw [if_neg h1] at ho
     by_cases h2 : o.k = 2
     . rw [if_pos h2] at ho
       have e : svl ts ws own kn o = fvl ts own o.fd := by unfold svl; rw [if_pos h2]
       rw [e]
       split at ho
       . simp at ho
       . refine side_own ts ws own kn tv ov wv kv hk o w hs h2 ?_
         unfold fck at ho
         split at ho
         . simp at ho
         . omega
     . rw [if_neg h2] at ho
       split at ho
       . simp at ho
       . rename_i c1
         split at ho
         . simp at ho
         . obtain ⟨j, hj, e1, _⟩ := zHM (q := fun p : Pt => seq p.va o.va) (l := ws) (by show 0 ≤ ptq ws o.va; omega)
           have e1' : ptq ws o.va = (j : Int) := e1
           have hjk : j < kn.length := by rw [hk.kn.1]; exact hj
           obtain ⟨g1, g2⟩ := hk.kn.2 j hjk hj
           have et : tyOf ts ws o.va = ts.getD kn[j].t.toNat dT := by
             unfold tyOf
             rw [e1', Int.toNat_natCast, zAS hj, g2]
             rfl
           have es : svl ts ws own kn o = fvl ts kn[j] o.fd := by
             unfold svl
             rw [if_neg h2, if_pos (by omega), e1', Int.toNat_natCast, zAS hjk]
           rw [es]
           rw [et] at ho
           refine zF6 ts ws own kn tv ov wv kv hk o w hs (by omega) j hjk e1' g1 ?_
           unfold fck at ho
           split at ho
           . simp at ho
           . omega
 . rw [if_pos h0] at ho; simp at ho
end Go.Proofs.YtnlmknbhppdliaaGreatDoor.Chk
