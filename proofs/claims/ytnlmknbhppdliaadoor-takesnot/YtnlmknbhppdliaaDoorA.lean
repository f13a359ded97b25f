/-
  Tokens in plain words: what a token may be, how it is shown, how a text is cut. A region that draws its order, by what each of its operations yields: one obligation an operation, whatever the order. Data that a call has laid in blocks of its own: slices of structs that hold slices. The grammar in plain words: what a reader of tokens makes of them, function by function. What Name and the document say of a name; letters and digits. Words that are kept, and the numbers of the relations' words. Whether a text is a mark; the longest mark that it begins with. What Check and the document say of a token. What the document says of a token. Bytes between tokens; the kinds of tokens; Words, Numbers, Strings and Marks as they are read. A reader of tokens in memory; what its smallest functions do. The smallest functions of a reader of tokens. The next token of a reader; whether it is a word or a mark. A reader goes past a word or a mark, a name, a number. A reader opens and closes what a condition is nested by; it reads a name, a number, a relation. A side of a comparison. A comparison.
-/
import Derived.Test.YtnlmknbhppdliaaDoorRows
import Derived.Handy
import Derived.WalkSmall
import Derived.Deep.QuietTactic
import Derived.BigQuiet
import Derived.Deep.RegionHeld3
import Derived.Deep.RegionLaw
import Derived.OwnWalk
import Derived.Lib.Bytealg
import Derived.Lib.Strings
import Derived.Lib.ItoaNum
import Derived.Orders
import Derived.Maps.AppendAt
import Derived.Laws.OwnMore
import Derived.Below
import Derived.Maps.OwnSet
import Derived.Deep.MidRow
import Derived.Defers
set_option maxHeartbeats 64000000
namespace Go.Proofs.YtnlmknbhppdliaaDoor
open Go.ChangeShapes Go.WideShapes Go.ChangeAt Go.RowKit
set_option linter.unusedVariables false
set_option linter.unusedSimpArgs false
def txt (l : List UInt8) : ByteArray := ⟨l.toArray⟩
theorem zFZ (l : List UInt8) : (txt l).data.toList = l := by simp [txt]
theorem txt_of (s : ByteArray) : txt s.data.toList = s := by cases s; simp [txt]
def fst (f : Nat → Int) : Nat → Int
  | 0 => 0
  | n + 1 => if fst f n ≠ 0 then fst f n else f n
theorem fst_hit {f : Nat → Int} {k n : Nat} (h0 : fst f k = 0) (h1 : f k ≠ 0) (hk : k < n) : fst f n = f k := by
 induction n with
 | zero => omega
 | succ n ih =>
  unfold fst
  by_cases e : k = n
  . subst e; simp [h0]
  . have := ih (by omega)
    rw [if_pos (by rw [this]; exact h1), this]
theorem fst_step {f : Nat → Int} {k : Nat} (h0 : fst f k = 0) (h1 : f k = 0) : fst f (k + 1) = 0 := by
  unfold fst; simp [h0, h1]
def zD1 (s : ByteArray) (i : Nat) : Int := ((s.data.toList.getD i 0).toNat : Int)
def isL (c : Int) : Prop := 97 ≤ c ∧ c ≤ 122
def isD (c : Int) : Prop := 48 ≤ c ∧ c ≤ 57
instance (c : Int) : Decidable (isL c) := by unfold isL; infer_instance
instance (c : Int) : Decidable (isD c) := by unfold isD; infer_instance
def sgn (s : ByteArray) (i : Nat) : Int := if isL (zD1 s i) ∨ (i ≠ 0 ∧ isD (zD1 s i)) then 0 else 4
def nchk (s : ByteArray) : Int := if s.size < 1 ∨ 10 < s.size then 1 else fst (sgn s) s.size
theorem zAA {B B' : Nat} {w w1 w2 : World} (h : Below B w w1) (h2 : Below B' w1 w2) (hb : B ≤ B') : Below B w w2 :=
  ⟨h2.os.trans h.os, h2.tape.trans h.tape, h2.output.trans h.output, Nat.le_trans h.size h2.size, fun k hk => (h2.block k (by omega)).trans (h.block k hk)⟩
end Go.Proofs.YtnlmknbhppdliaaDoor
namespace Go.Proofs.YtnlmknbhppdliaaDoor
open Go.ChangeShapes Go.WideShapes Go.ChangeAt Go.RowKit
set_option linter.unusedVariables false
set_option linter.unusedSimpArgs false
set_option maxRecDepth 20000
def fill (vs : Nat → Value) (ls : Nat → Bool) : Nat → List Oper → Act → Act
  | _, [], a => a
  | k, o :: r, a => fill vs ls (k + 1) r (if ls k = true then a.put o.dst (vs k) else a)
def zAF (f : Nat → Oper → Prop) : Nat → List Oper → Prop
  | _, [] => True
  | k, o :: r => f k o ∧ zAF f (k + 1) r
def zAW : Nat → List Oper → List Tmp → Nat → Bool
  | _, [], _, _ => true
  | k, o :: r, used, n => o.guard.isNone && o.after.all (fun e => !(Region.binds .any e) || decide (e.on < k)) && (match o.dst with | none => zAW (k + 1) r used n | some d => !(used.contains d) && decide (d < n) && zAW (k + 1) r (d :: used) n)
def depB (ops : Array Oper) (o : Oper) (k : Nat) (d : Tmp) : Bool := o.after.any (fun e => e.on == k && Region.binds .any e) && (match ops[k]? with | none => false | some o' => o'.dst == some d)
def outB (ops : List Oper) (d : Tmp) : Bool := ops.all (fun o => o.dst != some d)
theorem zAF.at {f : Nat → Oper → Prop} : ∀ (l : List Oper) (k : Nat), zAF f k l → ∀ i o, l[i]? = some o → f (k + i) o
 | [], _, _, i, o, h => by simp at h
 | x :: r, k, hf, 0, o, h => by simp at h; subst h; exact hf.1
 | x :: r, k, hf, i + 1, o, h => by
  have := zAF.at r (k + 1) hf.2 i o (by simpa using h)
  rw [show k + (i + 1) = k + 1 + i by omega]
  exact this
theorem zBU : ∀ (l : List Oper) (k : Nat) (used : List Tmp) (n : Nat), zAW k l used n = true → ∀ (i : Nat) (o : Oper) (d : Tmp), l[i]? = some o → o.dst = some d → d ∉ used
 | [], _, _, _, _, i, o, d, h, _ => by simp at h
 | x :: r, k, used, n, hp, i, o, d, h, hd => by
  unfold zAW at hp
  simp only [Bool.and_eq_true] at hp
  cases i with
  | zero =>
   simp at h
   subst h
   rw [hd] at hp
   simp at hp
   exact hp.2.1.1
  | succ i =>
   have h' : r[i]? = some o := by simpa using h
   cases hx : x.dst with
   | none => rw [hx] at hp; exact zBU r (k + 1) used n hp.2 i o d h' hd
   | some e =>
    rw [hx] at hp
    simp only [Bool.and_eq_true] at hp
    have := zBU r (k + 1) (e :: used) n hp.2.2 i o d h' hd
    exact fun c => this (List.mem_cons_of_mem _ c)
theorem zBT {x : Oper} {r : List Oper} {k : Nat} {used : List Tmp} {n : Nat} (hp : zAW k (x :: r) used n = true) : ∃ u, zAW (k + 1) r u n = true ∧ (∀ d, x.dst = some d → d ∈ u) := by
 unfold zAW at hp
 simp only [Bool.and_eq_true] at hp
 cases hx : x.dst with
 | none => rw [hx] at hp; exact ⟨used, hp.2, fun d h => by cases h⟩
 | some e =>
  rw [hx] at hp
  simp only [Bool.and_eq_true] at hp
  exact ⟨e :: used, hp.2.2, fun d h => by cases h; exact List.mem_cons_self ..⟩
theorem zBS : ∀ (l : List Oper) (k : Nat) (used : List Tmp) (n : Nat), zAW k l used n = true → ∀ (i : Nat) (o : Oper), l[i]? = some o → o.guard = none ∧ (∀ e ∈ o.after, Region.binds .any e = true → e.on < k + i) ∧ ∀ d, o.dst = some d → d < n
 | [], _, _, _, _, i, o, h => by simp at h
 | x :: r, k, used, n, hp, i, o, h => by
  cases i with
  | zero =>
   simp at h
   subst h
   unfold zAW at hp
   simp only [Bool.and_eq_true, Array.all_eq_true', decide_eq_true_eq, Option.isNone_iff_eq_none] at hp
   refine ⟨hp.1.1, fun e he hbd => by
    have h9 := hp.1.2 e he
    rw [hbd] at h9
    simpa using h9, fun d hd => ?_⟩
   rw [hd] at hp
   simp only [Bool.and_eq_true, decide_eq_true_eq] at hp
   exact hp.2.1.2
  | succ i =>
   obtain ⟨u, hu, _⟩ := zBT hp
   have := zBS r (k + 1) u n hu i o (by simpa using h)
   exact ⟨this.1, fun e he hbd => by have := this.2.1 e he hbd; omega, this.2.2⟩
theorem put_size (a : Act) (d : Option Tmp) (v : Value) : (a.put d v).tmps.size = a.tmps.size := by cases d <;> simp [Act.put]
theorem put_get (a : Act) (d : Tmp) (v : Value) (h : d < a.tmps.size) : (a.put (some d) v).tmps.getD d undef = v := by simp [Act.put, h]
theorem put_far (a : Act) (x : Option Tmp) (d : Tmp) (v : Value) (h : x ≠ some d) : (a.put x v).tmps.getD d undef = a.tmps.getD d undef := by
 cases x with
 | none => rfl
 | some e =>
  have : e ≠ d := fun c => h (by rw [c])
  simp [Act.put, Array.getElem?_setIfInBounds_ne this]
theorem zCO (vs : Nat → Value) (ls : Nat → Bool) (d : Tmp) : ∀ (l : List Oper) (k : Nat) (a : Act), (∀ o ∈ l, o.dst ≠ some d) → (fill vs ls k l a).tmps.getD d undef = a.tmps.getD d undef
 | [], _, _, _ => rfl
 | x :: r, k, a, h => by
  rw [fill, zCO vs ls d r (k + 1) _ (fun o ho => h o (List.mem_cons_of_mem _ ho))]
  split
  . exact put_far a _ d _ (h x (List.mem_cons_self ..))
  . rfl
theorem zDY (vs : Nat → Value) (ls : Nat → Bool) (n : Nat) : ∀ (l : List Oper) (k : Nat) (used : List Tmp) (a : Act), zAW k l used n = true → a.tmps.size = n → ∀ (i : Nat) (o : Oper) (d : Tmp), l[i]? = some o → o.dst = some d → ls (k + i) = true → (fill vs ls k l a).tmps.getD d undef = vs (k + i)
 | [], _, _, _, _, _, i, o, d, h, _, _ => by simp at h
 | x :: r, k, used, a, hp, hn, i, o, d, h, hd, hl => by
  obtain ⟨u, hu, hm⟩ := zBT hp
  cases i with
  | zero =>
   simp at h
   subst h
   have hlt := (zBS _ _ _ _ hp 0 x (by simp)).2.2 d hd
   rw [fill, if_pos (by simpa using hl), zCO vs ls d r _ _ (fun o' ho' c => ?_), hd, put_get _ _ _ (by rw [hn]; exact hlt)]
   . simp
   . obtain ⟨j, hj⟩ := List.getElem?_of_mem ho'
     exact zBU r (k + 1) u n hu j o' d hj c (hm d hd)
  | succ i =>
   rw [fill, zDY vs ls n r (k + 1) u _ hu (by split <;> simp [put_size, hn]) i o d (by simpa using h) hd (by rw [show k + 1 + i = k + (i + 1) by omega]; exact hl)]
   rw [show k + 1 + i = k + (i + 1) by omega]
theorem zBV {vs vs' : Nat → Value} {ls ls' : Nat → Bool} : ∀ (l : List Oper) (k : Nat) (a : Act), (∀ i, k ≤ i → ls i = ls' i ∧ vs i = vs' i) → fill vs ls k l a = fill vs' ls' k l a
 | [], _, _, _ => rfl
 | x :: r, k, a, h => by
  obtain ⟨e1, e2⟩ := h k (Nat.le_refl _)
  rw [fill, fill, e1, e2]
  exact zBV r (k + 1) _ (fun i hi => h i (by omega))
theorem zCW (vs : Nat → Value) (ls : Nat → Bool) (x : Option Tmp) (v : Value) : ∀ (l : List Oper) (k : Nat) (a : Act), (∀ o ∈ l, ∀ d, x = some d → o.dst ≠ some d) → fill vs ls k l (a.put x v) = (fill vs ls k l a).put x v
 | [], _, _, _ => rfl
 | y :: r, k, a, h => by
  rw [fill, fill]
  split
  . rw [Act.put_comm a v (vs k) (h y (List.mem_cons_self ..))]
    exact zCW vs ls x v r (k + 1) _ (fun o ho => h o (List.mem_cons_of_mem _ ho))
  . exact zCW vs ls x v r (k + 1) _ (fun o ho => h o (List.mem_cons_of_mem _ ho))
theorem zCZ (vs : Nat → Value) (ls : Nat → Bool) (v : Value) (n : Nat) : ∀ (l : List Oper) (k : Nat) (used : List Tmp) (a : Act), zAW k l used n = true → ∀ i o, l[i]? = some o → ls (k + i) = false →
  fill (fun j => if j = k + i then v else vs j) (fun j => if j = k + i then true else ls j) k l a = (fill vs ls k l a).put o.dst v
 | [], _, _, _, _, i, o, h, _ => by simp at h
 | x :: r, k, used, a, hp, 0, o, h, hl => by
  simp at h
  subst h
  obtain ⟨u, hu, hm⟩ := zBT hp
  have hl' : ls k = false := by simpa using hl
  rw [fill, fill, hl']
  simp only [Nat.add_zero, if_true, Bool.false_eq_true, if_false]
  rw [zBV (vs' := vs) (ls' := ls) r (k + 1) _ (fun i hi => ⟨if_neg (by omega), if_neg (by omega)⟩)]
  exact zCW vs ls x.dst v r (k + 1) a (fun o' ho' d hd c => by
   obtain ⟨j, hj⟩ := List.getElem?_of_mem ho'
   exact zBU r (k + 1) u n hu j o' d hj c (hm d hd))
 | x :: r, k, used, a, hp, i + 1, o, h, hl => by
  obtain ⟨u, hu, hm⟩ := zBT hp
  have e : k + (i + 1) = k + 1 + i := by omega
  rw [fill, fill, e]
  simp only [show ¬ k = k + 1 + i by omega, if_false]
  exact zCZ vs ls v n r (k + 1) u _ hu i o (by simpa using h) (by rw [← e]; exact hl)
theorem zEU {ops : Array Oper} {listed : Array Bool} {used : List Tmp} {n : Nat} (hp : zAW 0 ops.toList used n = true) (hs : listed.size = ops.size) (hr : Region.ready .any ops listed = []) : ∀ i, i < ops.size → listed.getD i true = true := by
 intro i
 induction i using Nat.strongRecOn with
 | _ i ih =>
  intro hi
  refine Classical.byContradiction fun c => ?_
  have hf : listed.getD i true = false := by simpa using c
  have hm : i ∈ Region.ready .any ops listed := mem_ready.2 ⟨hf, ops[i], by simp [hi], fun e he hbd => by
   have h1 := (zBS _ _ _ _ hp i ops[i] (by simp [hi])).2.1 e he hbd
   have h2 := ih e.on (by omega) (by omega)
   have h3 : e.on < listed.size := by omega
   simp [h3] at h2 ⊢
   exact h2⟩
  rw [hr] at hm
  cases hm
def left (listed : Array Bool) : Nat := listed.toList.countP (fun b => !b)
theorem zCP {listed : Array Bool} {i : Nat} (h : listed.getD i true = false) : left (listed.setIfInBounds i true) + 1 = left listed := by
  unfold left
  have hi : i < listed.size := Classical.byContradiction fun c => by simp [Nat.not_lt.1 c] at h
  have hv : listed.toList[i]'(by simpa using hi) = false := by simpa [hi] using h
  have hpos : 0 < listed.toList.countP (fun b => !b) := List.countP_pos_iff.2 ⟨_, List.getElem_mem (by simpa using hi), by rw [hv]; rfl⟩
  rw [Array.toList_setIfInBounds, List.countP_set (by simpa using hi), hv]
  simp only [Bool.not_false, if_true, Bool.not_true, Bool.false_eq_true, if_false]
  omega
theorem wp_region_mo {P : Program} {Q : Exit → Act → World → Prop} {id : Nat} {ops : Array Oper} {a0 : Act} {w0 : World} (hm : P.follows .mixedOrders = true) (T : Nat → World → Value → Prop) (B : World → Prop) (n : Nat) (hn : a0.tmps.size = n) (hp : zAW 0 ops.toList [] n = true)
  (Mo : World → World → Prop) (hmon : ∀ k w w' v, Mo w w' → T k w v → T k w' v) (hB : B w0.drew)
  (hop : zAF (fun i o => ∀ a w, B w → (∀ k d, depB ops o k d = true → T k w (a.eval (.tmp d))) → (∀ d, outB ops.toList d = true → a.eval (.tmp d) = a0.eval (.tmp d)) → Oper.wp P o a w (fun a' w' => ∃ v, a' = a.put o.dst v ∧ T i w' v ∧ B w' ∧ Mo w w') Q) 0 ops.toList)
  (hend : ∀ (vs : Nat → Value) w, B w → (∀ i, i < ops.size → T i w (vs i)) → Q .normal (fill vs (fun _ => true) 0 ops.toList a0) w) : (Code.region id ops true).wp P Q a0 w0 := by
 refine wp_region_any hm ?_
 have key : ∀ (fuel : Nat) (listed : Array Bool) (vs : Nat → Value) (w : World), listed.size = ops.size → left listed ≤ fuel → B w → (∀ i, i < ops.size → listed.getD i false = true → T i w (vs i)) → wpAny P .any ops Q fuel listed (fill vs (fun i => listed.getD i false) 0 ops.toList a0) w := by
  intro fuel
  induction fuel with
  | zero =>
   intro listed vs w hs hl hb hT
   have hall : ∀ i, i < ops.size → listed.getD i true = true := fun i hi => by
     refine Classical.byContradiction fun c => ?_
     have := zCP (listed := listed) (i := i) (by simpa using c)
     omega
   have hr : Region.ready .any ops listed = [] := List.eq_nil_iff_forall_not_mem.2 fun i hi => by
     obtain ⟨h1, o, h2, _⟩ := mem_ready.1 hi
     have h3 : i < ops.size := (Array.getElem?_eq_some_iff.1 h2).1
     rw [hall i h3] at h1
     cases h1
   refine ⟨hr, ?_⟩
   have hf : ∀ i, i < ops.size → listed.getD i false = true := fun i hi => by
     have h := hall i hi
     have h3 : i < listed.size := by omega
     simp [h3] at h ⊢
     exact h
   have e : fill vs (fun i => listed.getD i false) 0 ops.toList a0 = fill vs (fun _ => true) 0 ops.toList a0 := by
     have : ∀ (l : List Oper) (k : Nat) (a : Act), k + l.length ≤ ops.size → fill vs (fun i => listed.getD i false) k l a = fill vs (fun _ => true) k l a := by
       intro l
       induction l with
       | nil => intro k a _; rfl
       | cons x r ih =>
         intro k a h
         simp at h
         rw [fill, fill, hf k (by omega)]
         exact ih (k + 1) _ (by omega)
     exact this _ _ _ (by simp)
   rw [e]
   exact hend vs w hb (fun i hi => hT i hi (hf i hi))
  | succ fuel ih =>
   intro listed vs w hs hl hb hT
   refine ⟨fun hr => ?_, fun i hi => ?_⟩
   . have hall := zEU hp hs hr
     have hf : ∀ i, i < ops.size → listed.getD i false = true := fun i hi => by
       have h := hall i hi
       have h3 : i < listed.size := by omega
       simp [h3] at h ⊢
       exact h
     have e : fill vs (fun i => listed.getD i false) 0 ops.toList a0 = fill vs (fun _ => true) 0 ops.toList a0 := by
       have : ∀ (l : List Oper) (k : Nat) (a : Act), k + l.length ≤ ops.size → fill vs (fun i => listed.getD i false) k l a = fill vs (fun _ => true) k l a := by
         intro l
         induction l with
         | nil => intro k a _; rfl
         | cons x r ih =>
           intro k a h
           simp at h
           rw [fill, fill, hf k (by omega)]
           exact ih (k + 1) _ (by omega)
       exact this _ _ _ (by simp)
     rw [e]
     exact hend vs w hb (fun i hi => hT i hi (hf i hi))
   . obtain ⟨h1, o, h2, h3⟩ := mem_ready.1 hi
     have hio : i < ops.size := (Array.getElem?_eq_some_iff.1 h2).1
     have hil : i < listed.size := by omega
     have h2' : ops.toList[i]? = some o := by simpa using h2
     have hg := (zBS _ _ _ _ hp i o h2').1
     have hlf : listed.getD i false = false := by simp [hil] at h1 ⊢; exact h1
     unfold wpOp
     rw [h2]
     simp only
     rw [if_pos (by simp [Region.wanted, hg])]
     have hstep := zAF.at _ _ hop i o h2' (fill vs (fun i => listed.getD i false) 0 ops.toList a0) w hb (fun k d hd => ?_) (fun d hd => ?_)
     . refine .inl (Oper.wp_mono ?_ hstep)
       rintro a' w' ⟨v, rfl, hTi, hb', hbel⟩
       have e := zCZ vs (fun i => listed.getD i false) v n ops.toList 0 [] a0 hp i o h2' (by simpa using hlf)
       rw [← e]
       have e2 : fill (fun j => if j = 0 + i then v else vs j) (fun j => if j = 0 + i then true else listed.getD j false) 0 ops.toList a0 = fill (fun j => if j = i then v else vs j) (fun j => (listed.setIfInBounds i true).getD j false) 0 ops.toList a0 := by
         refine zBV _ _ _ fun j _ => ⟨?_, by simp⟩
         by_cases c : j = i
         . subst c; simp [hil]
         . rw [if_neg (by simpa using c), getD_set_ne false (Ne.symm c)]
       rw [e2]
       refine ih (listed.setIfInBounds i true) _ w' (by simpa using hs) (by have := zCP h1; omega) hb' (fun j hj hl' => ?_)
       by_cases c : j = i
       . subst c; simpa using hTi
       . rw [if_neg c]
         rw [getD_set_ne false (Ne.symm c)] at hl'
         exact hmon j w w' _ hbel (hT j hj hl')
     . unfold depB at hd
       simp only [Bool.and_eq_true, Array.any_eq_true', beq_iff_eq] at hd
       obtain ⟨⟨e, he, rfl, hbd⟩, hdst⟩ := hd
       cases ho : ops[e.on]? with
       | none => rw [ho] at hdst; cases hdst
       | some o' =>
         rw [ho] at hdst
         simp only [beq_iff_eq] at hdst
         have hle := h3 e he hbd
         have := zDY vs (fun i => listed.getD i false) n ops.toList 0 [] a0 hp hn e.on o' d (by simpa using ho) hdst (by simpa using hle)
         rw [Nat.zero_add] at this
         show T e.on w ((fill vs (fun i => listed.getD i false) 0 ops.toList a0).tmps.getD d undef)
         rw [this]
         exact hT e.on (Array.getElem?_eq_some_iff.1 ho).1 hle
     . show (fill vs (fun i => listed.getD i false) 0 ops.toList a0).tmps.getD d undef = a0.tmps.getD d undef
       refine zCO vs _ d _ _ _ fun o' ho' c => ?_
       unfold outB at hd
       have := List.all_eq_true.1 hd o' ho'
       simp [c] at this
 have hz : left (Array.replicate ops.size false) ≤ ops.size := by
  unfold left
  exact Nat.le_trans List.countP_le_length (by simp)
 have h := key ops.size (Array.replicate ops.size false) (fun _ => undef) w0.drew (by simp) hz hB (fun i hi h => by simp [hi] at h)
 have e : fill (fun _ => undef) (fun i => (Array.replicate ops.size false).getD i false) 0 ops.toList a0 = a0 := by
  have : ∀ (l : List Oper) (k : Nat) (a : Act), fill (fun _ => undef) (fun i => (Array.replicate ops.size false).getD i false) k l a = a := by
   intro l
   induction l with
   | nil => intro k a; rfl
   | cons x r ih =>
     intro k a
     rw [fill, ih, if_neg (by by_cases c : k < ops.size <;> simp [c])]
  exact this _ _ _
 rw [e] at h
 exact h
def lastB (ops : List Oper) : Bool := (List.range (ops.length - 1)).all fun k => (ops.drop (k + 1)).any fun o => o.after.any fun e => e.on == k && Region.binds .any e
def Shut1 (ops : Array Oper) (listed : Array Bool) : Prop := ∀ (j : Nat) (o : Oper), ops[j]? = some o → listed.getD j false = true → ∀ e ∈ o.after, Region.binds .any e = true → listed.getD e.on false = true
theorem last_all {ops : Array Oper} {listed : Array Bool} {m : Nat} {o : Oper} (hm : ops.size = m + 1) (hl : lastB ops.toList = true) (hc : Shut1 ops listed) (ho : ops[m]? = some o) (hr : ∀ e ∈ o.after, Region.binds .any e = true → listed.getD e.on false = true) : ∀ d k, k + d + 1 = m → listed.getD k false = true := by
 intro d
 induction d using Nat.strongRecOn with
 | _ d ih =>
  intro k hk
  unfold lastB at hl
  rw [List.all_eq_true] at hl
  have h1 := hl k (List.mem_range.2 (by simp [hm]; omega))
  simp only [List.any_eq_true, Array.any_eq_true', Bool.and_eq_true, beq_iff_eq] at h1
  obtain ⟨o', ho', e, he, hek, hb⟩ := h1
  obtain ⟨j, hj⟩ := List.getElem?_of_mem ho'
  rw [List.getElem?_drop] at hj
  have hjo : ops[k + 1 + j]? = some o' := by simpa using hj
  have hjs : k + 1 + j < ops.size := (Array.getElem?_eq_some_iff.1 hjo).1
  by_cases c : k + 1 + j = m
  . rw [c] at hjo
    rw [hjo] at ho
    cases ho
    have := hr e he hb
    rwa [hek] at this
  . have h2 := ih (d - 1 - j) (by omega) (k + 1 + j) (by omega)
    have := hc _ _ hjo h2 e he hb
    rwa [hek] at this
theorem zAV            {P : Program} {Q : Exit → Act → World → Prop} {id : Nat} {ops : Array Oper} {a0 : Act} {w0 : World} (hm : P.follows .mixedOrders = true) (T : Nat → World → Value → Prop) (B : World → Prop) (n m : Nat) (hn : a0.tmps.size = n) (hsz : ops.size = m + 1) (hp : zAW      0 ops.toList [] n = true) (hlb : lastB ops.toList = true)
    (Mo : World → World → Prop) (hmon : ∀ k w w' v, Mo w w' → T k w v → T k w' v) (hB : B w0.drew)
    (hop : zAF (fun i o => ∀ a w, B w → (∀ k d, depB ops o k d = true → T k w (a.eval (.tmp d))) → (∀ d, outB ops.toList d = true → a.eval (.tmp d) = a0.eval (.tmp d)) → Oper.wp P o a w (fun a' w' => ∃ v, a' = a.put o.dst v ∧ T i w' v ∧ B w' ∧ Mo w w') Q) 0 (ops.toList.take m))
    (hend : ∀ (vs : Nat → Value) w o, ops[m]? = some o → B w → (∀ i, i < m → T i w (vs i)) → Oper.wp P o (fill vs (fun _ => true) 0 (ops.toList.take m) a0) w (fun a' w' => Q .normal a' w') Q) : (Code.region id ops true).wp P Q a0 w0 := by
  refine wp_region_any hm ?_
  have fl : ∀ (vs : Nat → Value) (ls : Nat → Bool), (∀ i, i < m → ls i = true) → ls m = false → fill vs ls 0 ops.toList a0 = fill vs (fun _ => true) 0 (ops.toList.take m) a0 := by
    intro vs ls h1 h2
    have : ∀ (l : List Oper) (k : Nat) (a : Act), k + l.length = m + 1 → k ≤ m → fill vs ls k l a = fill vs (fun _ => true) k (l.take (m - k)) a := by
      intro l
      induction l with
      | nil => intro k a h hk; simp at h; omega
      | cons x r ih =>
        intro k a h hk
        simp at h
        by_cases c : k = m
        . subst c
          obtain rfl : r = [] := List.eq_nil_of_length_eq_zero (by omega)
          simp [fill, h2]
        . rw [show m - k = (m - (k + 1)) + 1 by omega, List.take_succ_cons, fill, fill, h1 k (by omega)]
          exact ih (k + 1) _ (by omega) (by omega)
    have := this ops.toList 0 a0 (by simp [hsz]) (by omega)
    simpa using this
  have key : ∀ (fuel : Nat) (listed : Array Bool) (vs : Nat → Value) (w : World), listed.size = ops.size → left listed ≤ fuel → Shut1 ops listed → listed.getD m false = false → B w → (∀ i, i < m → listed.getD i false = true → T i w (vs i)) → wpAny P .any ops Q fuel listed (fill vs (fun i => listed.getD i false) 0 ops.toList a0) w := by
    intro fuel
    induction fuel with
    | zero =>
      intro listed vs w hs hl hc hml hb hT
      have := zCP      (listed := listed) (i := m) (by have h3 : m < listed.size := by omega
                                                       simp [h3] at hml ⊢; exact hml)
      omega
    | succ fuel ih =>
      intro listed vs w hs hl hc hml hb hT
      refine ⟨fun hr => ?_, fun i hi => ?_⟩
      . have h := zEU hp hs hr m (by omega)
        have h3 : m < listed.size := by omega
        simp [h3] at h hml
        rw [h] at hml
        cases hml
      . obtain ⟨h1, o, h2, h3⟩ := mem_ready.1 hi
        have hio : i < ops.size := (Array.getElem?_eq_some_iff.1 h2).1
        have hil : i < listed.size := by omega
        have h2' : ops.toList[i]? = some o := by simpa using h2
        have hg := (zBS _ _ _ _ hp i o h2').1
        have hlf : listed.getD i false = false := by simp [hil] at h1 ⊢; exact h1
        unfold wpOp
        rw [h2]
        simp only
        rw [if_pos (by simp [Region.wanted, hg])]
        by_cases cm : i = m
        . subst cm
          have hall : ∀ k, k < i → listed.getD k false = true := fun k hk => last_all hsz hlb hc h2 h3 (i - 1 - k) k (by omega)
          have e := fl vs (fun i => listed.getD i false) hall hml
          rw [e]
          refine .inl (Oper.wp_mono ?_ (hend vs w o h2 hb (fun j hj => hT j hj (hall j hj))))
          intro a' w' hq
          have hrd : Region.ready .any ops (listed.setIfInBounds i true) = [] := List.eq_nil_iff_forall_not_mem.2 fun j hj => by
            obtain ⟨q1, o', q2, _⟩ := mem_ready.1 hj
            have q3 : j < ops.size := (Array.getElem?_eq_some_iff.1 q2).1
            by_cases cj : j = i
            . subst cj; simp [hil] at q1
            . rw [getD_set_ne true (Ne.symm cj)] at q1
              have := hall j (by omega)
              have q4 : j < listed.size := by omega
              simp [q4] at this q1
              rw [this] at q1
              cases q1
          cases fuel with
          | zero => exact ⟨hrd, hq⟩
          | succ f => exact ⟨fun _ => hq, by rw [hrd]; intro i hi; cases hi⟩
        . have him : i < m := by omega
          have h2t : (ops.toList.take m)[i]? = some o := by rw [List.getElem?_take, if_pos him]; exact h2'
          have hstep := zAF.at _ _ hop i o h2t (fill vs (fun i => listed.getD i false) 0 ops.toList a0) w hb (fun k d hd => ?_) (fun d hd => ?_)
          . refine .inl (Oper.wp_mono ?_ hstep)
            rintro a' w' ⟨v, rfl, hTi, hb', hbel⟩
            have e := zCZ vs (fun i => listed.getD i false) v n ops.toList 0 [] a0 hp i o h2' (by simpa using hlf)
            rw [← e]
            have e2 : fill (fun j => if j = 0 + i then v else vs j) (fun j => if j = 0 + i then true else listed.getD j false) 0 ops.toList a0 = fill (fun j => if j = i then v else vs j) (fun j => (listed.setIfInBounds i true).getD j false) 0 ops.toList a0 := by
              refine zBV _ _ _ fun j _ => ⟨?_, by simp⟩
              by_cases c : j = i
              . subst c; simp [hil]
              . rw [if_neg (by simpa using c), getD_set_ne false (Ne.symm c)]
            rw [e2]
            refine ih (listed.setIfInBounds i true) _ w' (by simpa using hs) (by have := zCP h1; omega) (fun j o' ho' hl' ed he hbd => ?_) (by rw [getD_set_ne false cm]; exact hml) hb' (fun j hj hl' => ?_)
            . by_cases ce : ed.on = i
              . rw [ce]; simp [hil]
              . rw [getD_set_ne false (Ne.symm ce)]
                by_cases c : j = i
                . subst c
                  rw [h2] at ho'
                  cases ho'
                  exact h3 ed he hbd
                . rw [getD_set_ne false (Ne.symm c)] at hl'
                  exact hc j o' ho' hl' ed he hbd
            . by_cases c : j = i
              . subst c; simpa using hTi
              . rw [if_neg c]
                rw [getD_set_ne false (Ne.symm c)] at hl'
                exact hmon j w w' _ hbel (hT j hj hl')
          . unfold depB at hd
            simp only [Bool.and_eq_true, Array.any_eq_true', beq_iff_eq] at hd
            obtain ⟨⟨e, he, rfl, hbd⟩, hdst⟩ := hd
            cases ho : ops[e.on]? with
            | none => rw [ho] at hdst; cases hdst
            | some o' =>
              rw [ho] at hdst
              simp only [beq_iff_eq] at hdst
              have hle := h3 e he hbd
              have := zDY vs (fun i => listed.getD i false) n ops.toList 0 [] a0 hp hn e.on o' d (by simpa using ho) hdst (by simpa using hle)
              rw [Nat.zero_add] at this
              show T e.on w ((fill vs (fun i => listed.getD i false) 0 ops.toList a0).tmps.getD d undef)
              rw [this]
              have hlt : e.on < i := by have := (zBS _ _ _ _ hp i o h2').2.1 e he hbd; omega
              exact hT e.on (by omega) hle
          . show (fill vs (fun i => listed.getD i false) 0 ops.toList a0).tmps.getD d undef = a0.tmps.getD d undef
            refine zCO vs _ d _ _ _ fun o' ho' c => ?_
            unfold outB at hd
            have := List.all_eq_true.1 hd o' ho'
            simp [c] at this
  have hz : left (Array.replicate ops.size false) ≤ ops.size := by
    unfold left
    exact Nat.le_trans List.countP_le_length (by simp)
  have h := key ops.size (Array.replicate ops.size false) (fun _ => undef) w0.drew (by simp) hz (fun j o ho hl => by by_cases c : j < ops.size <;> simp [c] at hl) (by by_cases c : m < ops.size <;> simp [c]) hB (fun i hi h => by by_cases c : i < ops.size <;> simp [c] at h)
  have e : fill (fun _ => undef) (fun i => (Array.replicate ops.size false).getD i false) 0 ops.toList a0 = a0 := by
    have : ∀ (l : List Oper) (k : Nat) (a : Act), fill (fun _ => undef) (fun i => (Array.replicate ops.size false).getD i false) k l a = a := by
      intro l
      induction l with
      | nil => intro k a; rfl
      | cons x r ih =>
        intro k a
        rw [fill, ih, if_neg (by by_cases c : k < ops.size <;> simp [c])]
    exact this _ _ _
  rw [e] at h
  exact h
end Go.Proofs.YtnlmknbhppdliaaDoor
namespace Go.Proofs.YtnlmknbhppdliaaDoor
open Go.RowKit Go.Maps
set_option linter.unusedVariables false
set_option linter.unusedSimpArgs false
inductive Dat where
  | lit (v : Value)
  | row (e z : Nat) (l : List (List Dat))
def nilV : Value := .slice none 0 0
theorem zAL {w : World} {base : Nat} {e : TypeId} {size : Nat} {v : Value} {n : Nat} {xs : List Value} (h : w.ownsRow base e size v n xs) {i : Nat} (hi : v.ownBlock = some i) : base ≤ i ∧ i < w.heap.size := by
 rcases h.2 with ⟨rfl, _⟩ | ⟨g, cap, cur, rfl, h1, h2, _⟩
 . simp [Value.ownBlock] at hi
 . simp [Value.ownBlock] at hi
   subst hi
   exact ⟨h1, (Array.getElem?_eq_some_iff.1 h2).1⟩
theorem zA4 {w w' : World} {base : Nat} {e : TypeId} {size : Nat} {v : Value} {n : Nat} {xs : List Value} (h : w.ownsRow base e size v n xs) (hb : ∀ i, v.ownBlock = some i → w'.heap[i]? = w.heap[i]?) : w'.ownsRow base e size v n xs := by
  refine ⟨h.1, ?_⟩
  rcases h.2 with h2 | ⟨g, cap, cur, rfl, h1, h2, h3⟩
  . exact Or.inl h2
  . exact Or.inr ⟨g, cap, cur, rfl, h1, (hb g rfl).trans h2, h3⟩
structure Fr (X : Nat → Prop) (w w' : World) : Prop where
  os : w'.os = w.os
  tape : w'.tape = w.tape
  output : w'.output = w.output
  size : w.heap.size ≤ w'.heap.size
  block : ∀ k, k < w.heap.size → ¬ X k → w'.heap[k]? = w.heap[k]?
theorem Fr.refl (X : Nat → Prop) (w : World) : Fr X w w := ⟨rfl, rfl, rfl, Nat.le_refl _, fun _ _ _ => rfl⟩
theorem Fr.trans {X : Nat → Prop} {a b c : World} (h : Fr X a b) (k : Fr X b c) : Fr X a c :=
  ⟨k.os.trans h.os, k.tape.trans h.tape, k.output.trans h.output, Nat.le_trans h.size k.size, fun i hi hx => (k.block i (Nat.lt_of_lt_of_le hi h.size) hx).trans (h.block i hi hx)⟩
theorem Fr.then {X Y : Nat → Prop} {a b c : World} (h : Fr X a b) (k : Fr Y b c) (hy : ∀ i, Y i → X i ∨ a.heap.size ≤ i) : Fr X a c :=
  ⟨k.os.trans h.os, k.tape.trans h.tape, k.output.trans h.output, Nat.le_trans h.size k.size, fun i hi hx => (k.block i (Nat.lt_of_lt_of_le hi h.size) fun q => by rcases hy i q with c | c <;> first | exact hx c | omega).trans (h.block i hi hx)⟩
theorem Fr.setCell {X : Nat → Prop} {a w : World} (h : Fr X a w) {p : Addr} (hp : X p.block ∨ a.heap.size ≤ p.block) (u : Value) : Fr X a (w.setCell p u) :=
  ⟨h.os, h.tape, h.output, by simpa [World.setCell] using h.size, fun k hk hx => (Below.heap_setCell _ _ _ _ (by rintro rfl; rcases hp with c | c <;> first | exact hx c | omega)).trans (h.block k hk hx)⟩
theorem Fr.grown {X : Nat → Prop} {a w w' : World} {row : Option Nat} (h : Fr X a w) (hg : w.grownBy w' row) (hr : ∀ k, row = some k → X k ∨ a.heap.size ≤ k) : Fr X a w' :=
  ⟨hg.os.trans h.os, hg.tape.trans h.tape, hg.output.trans h.output, Nat.le_trans h.size hg.size, fun i hi hx => (hg.block i (Nat.lt_of_lt_of_le hi h.size) fun q => by rcases hr i q.symm with c | c <;> first | exact hx c | omega).trans (h.block i hi hx)⟩
theorem Fr.of_below {X : Nat → Prop} {w w' : World} (h : Below w.heap.size w w') : Fr X w w' := ⟨h.os, h.tape, h.output, h.size, fun k hk _ => h.block k hk⟩
end Go.Proofs.YtnlmknbhppdliaaDoor
namespace Go.Proofs.YtnlmknbhppdliaaDoor
open Go.ChangeShapes Go.WideShapes Go.ChangeAt Go.RowKit
set_option linter.unusedVariables false
set_option linter.unusedSimpArgs false
def kpl : List (List UInt8) := [[97, 110, 100], [97, 110, 121], [101, 109, 105, 116], [105, 110, 116], [108, 97, 115, 116], [109, 97, 110, 121], [110, 111, 116], [111, 102], [111, 114], [111, 118, 101, 114], [114, 117, 108, 101], [116, 101, 120, 116], [116, 105, 109, 101], [116, 121, 112, 101], [119, 104, 101, 110], [119, 104, 101, 114, 101], [119, 105, 116, 104, 105, 110]]
def rll : List (List UInt8) := [[98, 101, 102, 111, 114, 101], [97, 102, 116, 101, 114], [109, 101, 101, 116, 115], [109, 101, 116, 98, 121], [111, 118, 101, 114, 108, 97, 112, 115], [111, 118, 101, 114, 108, 97, 112, 112, 101, 100], [115, 116, 97, 114, 116, 115], [115, 116, 97, 114, 116, 101, 100, 98, 121], [100, 117, 114, 105, 110, 103], [99, 111, 110, 116, 97, 105, 110, 115], [102, 105, 110, 105, 115, 104, 101, 115], [102, 105, 110, 105, 115, 104, 101, 100, 98, 121], [101, 113, 117, 97, 108, 115]]
def plc (s : List UInt8) : List (List UInt8) → Nat → Nat
  | [], _ => 0
  | x :: r, n => if s = x then n + 1 else plc s r (n + 1)
def rln (s : ByteArray) : Nat := plc s.data.toList rll 0
def kpt (s : ByteArray) : Bool := decide (s.data.toList ∈ kpl) || decide (s.data.toList ∈ rll)
structure Opd where
  k : Int
  vk : Int
  vi : Int
  vt : ByteArray
  va : ByteArray
  fd : ByteArray
def opd0 : Opd := ⟨0, 0, 0, txt [], txt [], txt []⟩
def encO (o : Opd) : List Dat := [.lit (.int .i64 o.k), .lit (.int .i64 o.vk), .lit (.int .i64 o.vi), .lit (.string o.vt), .lit (.string o.va), .lit (.string o.fd)]
structure Cn where
  k : Int
  sb : List (List Dat)
  l : Opd
  r : Opd
def cn0 : Cn := ⟨0, [], opd0, opd0⟩
def encC (c : Cn) : List Dat := .lit (.int .i64 c.k) :: .row 33 14 c.sb :: (encO c.l ++ encO c.r)
structure Pt where
  va : ByteArray
  ty : ByteArray
  c : Cn
  w : Int
  n : Int
def encP (p : Pt) : List Dat := .lit (.string p.va) :: .lit (.string p.ty) :: (encC p.c ++ [.lit (.int .i64 p.w), .lit (.int .i64 p.n)])
structure Op3 where
  r : Int
  lo : Int
  hi : Int
def encQ (o : Op3) : List Dat := [.lit (.int .i64 o.r), .lit (.int .i64 o.lo), .lit (.int .i64 o.hi)]
structure Lk where
  l : ByteArray
  o : List Op3
  r : ByteArray
def encK (k : Lk) : List Dat := [.lit (.string k.l), .row 147 3 (k.o.map encQ), .lit (.string k.r)]
structure Em where
  ty : ByteArray
  v : List Opd
structure Mn where
  c : Int
  f : ByteArray
  p : Pt
def encM (m : Mn) : List Dat := .lit (.int .i64 m.c) :: .lit (.string m.f) :: encP m.p
structure Rl where
  n : ByteArray
  w : List Pt
  t : List Pt
  m : List Mn
  k : List Lk
  e : Em
def encR (r : Rl) : List Dat := [.lit (.string r.n), .row 47 18 (r.w.map encP), .row 47 18 (r.t.map encP), .row 87 20 (r.m.map encM), .row 127 3 (r.k.map encK), .lit (.string r.e.ty), .row 31 6 (r.e.v.map encO)]
structure Fd where
  n : ByteArray
  k : Int
def encF (f : Fd) : List Dat := [.lit (.string f.n), .lit (.int .i64 f.k)]
structure Tp where
  n : ByteArray
  f : List Fd
def encY (t : Tp) : List Dat := [.lit (.string t.n), .row 69 2 (t.f.map encF)]
theorem zEH (s : ByteArray) (k : Nat) (h : k < s.size) : zD1 s k = (s[k].toNat : Int) := by
  unfold zD1
  have h' : k < s.data.toList.length := by simpa using h
  rw [List.getD_eq_getElem?_getD, List.getElem?_eq_getElem h']
  rfl
theorem zEW (s : ByteArray) (k : Nat) (h : k < s.size) : sgn s k = if (97 ≤ (s[k].toNat : Int) ∧ (s[k].toNat : Int) ≤ 122) ∨ (k ≠ 0 ∧ 48 ≤ (s[k].toNat : Int) ∧ (s[k].toNat : Int) ≤ 57) then 0 else 4 := by
  unfold sgn isL isD
  rw [zEH s k h]
theorem zDR {s : ByteArray} (h1 : 1 ≤ s.size) (h2 : s.size ≤ 10) : nchk s = fst (sgn s) s.size := by
  unfold nchk; rw [if_neg (by omega)]
def Say (b : Bool) (P : Prop) : Prop := b = true ↔ P
theorem zB4 (P : Prop) [Decidable P] : ∃ b : Bool, Say b P := ⟨decide P, by simp [Say]⟩
theorem Say.yes {P : Prop} (h : P) : Say true P := by simp [Say, h]
theorem Say.no {P : Prop} (h : ¬ P) : Say false P := by simp [Say, h]
theorem zAC {k : IntKind} {a b : Int} (h : a = b) : Ending.returned (.int k a) = .returned (.int k b) := by rw [h]
theorem zAX {a b : Bool} (h : a = b) : Ending.returned (.bool a) = .returned (.bool b) := by rw [h]
theorem zA0 (c : Int) (r : Bool) (h : Say r ((48 : Int) ≤ c ∧ c ≤ 57)) (w : World) :
  Calls Tryd.prog 66 #[.int .u8 c] w fun e w' => e = .returned (.bool r) ∧ w' = w := by
 have H : Hid (Say r ((48 : Int) ≤ c ∧ c ≤ 57)) := h
 clear h
 go_enter Tryd.func66, Tryd.ntmps66
 go_wp2
 all_goals
  go_ret
  exact ⟨zAX (by have h := H.out; unfold Say at h; rw [Bool.eq_iff_iff, h]; simp <;> omega), rfl⟩
theorem zBQ (c : Int) (r : Bool) (h : Say r ((97 : Int) ≤ c ∧ c ≤ 122)) (w : World) :
  Calls Tryd.prog 67 #[.int .u8 c] w fun e w' => e = .returned (.bool r) ∧ w' = w := by
 have H : Hid (Say r ((97 : Int) ≤ c ∧ c ≤ 122)) := h
 clear h
 go_enter Tryd.func67, Tryd.ntmps67
 go_wp2
 all_goals
  go_ret
  exact ⟨zAX (by have h := H.out; unfold Say at h; rw [Bool.eq_iff_iff, h]; simp <;> omega), rfl⟩
theorem zCM      (s : ByteArray) (w : World) :
    Calls Tryd.prog 44 #[.string s] w fun e w' => e = .returned (.int .i64 (nchk s)) ∧ w' = w := by
  by_cases hsz : 1 ≤ s.size ∧ s.size ≤ 10
  . obtain ⟨h1, h2⟩ := hsz
    have hp : 0 < s.size := by omega
    have HE : Hid (nchk s = fst (sgn s) s.size) := zDR h1 h2
    have HS : Hid (∀ k (h : k < s.size), sgn s k = if (97 ≤ (s[k].toNat : Int) ∧ (s[k].toNat : Int) ≤ 122) ∨ (k ≠ 0 ∧ 48 ≤ (s[k].toNat : Int) ∧ (s[k].toNat : Int) ≤ 57) then 0 else 4) := zEW s
    by_cases hd : (48 : Int) ≤ (s[0].toNat : Int) ∧ (s[0].toNat : Int) ≤ 57
    . have hx : fst (sgn s) s.size = 4 := by
        have e := zEW s 0 hp
        rw [if_neg (by omega)] at e
        rw [fst_hit (k := 0) rfl (by rw [e]; omega) hp, e]
      have HX : Hid (fst (sgn s) s.size = 4) := hx
      have HD : Hid ((48 : Int) ≤ (s[0].toNat : Int) ∧ (s[0].toNat : Int) ≤ 57) := hd
      clear hx hd
      go_enter Tryd.func44, Tryd.ntmps44
      go_wp2_with (go_at_call 66; refine (zA0 _ true (Say.yes HD.out) _).mono ?_; rintro e w' ⟨rfl, rfl⟩)
      go_ret
      exact ⟨zAC (by rw [HE.out, HX.out]), rfl⟩
    . have HD : Hid (¬ ((48 : Int) ≤ (s[0].toNat : Int) ∧ (s[0].toNat : Int) ≤ 57)) := hd
      clear hd
      go_enter Tryd.func44, Tryd.ntmps44
      go_wp2_with (go_at_call 66; refine (zA0 _ false (Say.no HD.out) _).mono ?_; rintro e w' ⟨rfl, rfl⟩)
      go_loop [17] (fun i => ∃ k : Nat, k ≤ s.size ∧ i = .int .i64 k ∧ fst (sgn s) k = 0) (fun i => s.size - (intOf i).toNat)
      case atStart => exact ⟨0, Nat.zero_le _, rfl, rfl⟩
      case round =>
        obtain ⟨k, hk, rfl, hf⟩ := hrel
        have HF : Hid (fst (sgn s) k = 0) := hf
        clear hf
        by_cases hlt : k < s.size
        . have HK : Hid (sgn s k = if (97 ≤ (s[k].toNat : Int) ∧ (s[k].toNat : Int) ≤ 122) ∨ (k ≠ 0 ∧ 48 ≤ (s[k].toNat : Int) ∧ (s[k].toNat : Int) ≤ 57) then 0 else 4) := HS.out k hlt
          have HD' : Hid (k = 0 → ¬ (48 ≤ (s[k].toNat : Int) ∧ (s[k].toNat : Int) ≤ 57)) := fun h => by subst h; exact HD.out
          obtain ⟨bl, hbl⟩ := zB4 ((97 : Int) ≤ (s[k].toNat : Int) ∧ (s[k].toNat : Int) ≤ 122)
          obtain ⟨bd, hbd⟩ := zB4 ((48 : Int) ≤ (s[k].toNat : Int) ∧ (s[k].toNat : Int) ≤ 57)
          have HL : Hid (Say bl ((97 : Int) ≤ (s[k].toNat : Int) ∧ (s[k].toNat : Int) ≤ 122)) := hbl
          have HDG : Hid (Say bd ((48 : Int) ≤ (s[k].toNat : Int) ∧ (s[k].toNat : Int) ≤ 57)) := hbd
          clear hbl hbd
          cases bl <;> cases bd
          all_goals go_wp2_with (first | (go_at_call 66; refine (zA0 _ _ HDG.out _).mono ?_; rintro e w' ⟨rfl, rfl⟩) | (go_at_call 67; refine (zBQ _ _ HL.out _).mono ?_; rintro e w' ⟨rfl, rfl⟩))
          all_goals
            have hl := HL.out
            have hdg := HDG.out
            simp [Say] at hl hdg
            have e := HK.out
            have e2 := HD'.out
          . rw [if_neg (by omega)] at e
            go_ret
            exact ⟨zAC (by rw [HE.out, fst_hit HF.out (by rw [e]; omega) hlt, e]), rfl⟩
          all_goals
            rw [if_pos (by omega)] at e
            have HEE : Hid (sgn s k = 0) := e
            clear e e2 hl hdg
            go_round
            case rel => exact ⟨k + 1, by omega, by go_num, fst_step HF.out HEE.out⟩
            case measure => simp [intOf]; omega
        . obtain rfl : k = s.size := by omega
          go_wp2
          go_ret
          exact ⟨zAC (by rw [HE.out, HF.out]), rfl⟩
  . have he : nchk s = 1 := by unfold nchk; rw [if_pos (by omega)]
    have HE : Hid (nchk s = 1) := he
    clear he
    go_enter Tryd.func44, Tryd.ntmps44
    go_wp2
    all_goals first
      | (go_ret
         exact ⟨zAC (by rw [HE.out]), rfl⟩)
      | (exfalso; omega)
def Tab (w : World) (g : Nat) (l : List (List UInt8)) : Prop := g < w.heap.size ∧ ∀ i : Nat, i < l.length → w.cell? ⟨g, i, none⟩ = some (.string (txt (l.getD i [])))
theorem Tab.fr {w w' : World} {X : Nat → Prop} {g : Nat} {l : List (List UInt8)} (h : Tab w g l) (b : Fr X w w') (hg : ¬ X g) : Tab w' g l :=
  ⟨Nat.lt_of_lt_of_le h.1 b.size, fun i hi => (World.cell?_of_block (a := ⟨g, i, none⟩) (b.block g h.1 hg)).trans (h.2 i hi)⟩
theorem Tab.range {w : World} {g : Nat} {l : List (List UInt8)} (h : Tab w g l) : w.rangeAt g 0 (l.map fun m => Value.string (txt m)) := by
 intro j v hv
 have hj : j < l.length := by
  have := (List.getElem?_eq_some_iff.1 hv).1
  rwa [List.length_map] at this
 rw [Nat.zero_add, h.2 j hj]
 rw [List.getElem?_map, List.getElem?_eq_getElem hj] at hv
 simp only [Option.map_some, Option.some.injEq] at hv
 rw [← hv]
 simp [List.getD, List.getElem?_eq_getElem hj]
theorem tab_at (l : List (List UInt8)) (k : Nat) (h : k < l.length) : ((l.map fun m => Value.string (txt m)).toArray)[k]? = some (.string (txt (l.getD k []))) := by
  simp [List.getD, List.getElem?_eq_getElem h]
theorem index_17 (AA : Array Value) (k : Nat) (v : Value) (hk : k < 17) (h : AA[k]? = some v) (w : World) :
  (Instr.index 112 (.agg AA) (.int .i64 k)).run Tryd.prog w = .ok v w := by
 have c : Tryd.prog.cellsOf 9 = 1 := by kernel_rfl
 simp [Instr.index, run_underlying Tryd.underlying112, asIntOf, go_sem, hk, h]
theorem index_13 (AA : Array Value) (k : Nat) (v : Value) (hk : k < 13) (h : AA[k]? = some v) (w : World) :
  (Instr.index 140 (.agg AA) (.int .i64 k)).run Tryd.prog w = .ok v w := by
 have c : Tryd.prog.cellsOf 9 = 1 := by kernel_rfl
 simp [Instr.index, run_underlying Tryd.underlying140, asIntOf, go_sem, hk, h]
theorem zC1 (l : List (List UInt8)) (k : Nat) (h : k < l.length) : l.getD k [] = l[k] := by simp [List.getD, List.getElem?_eq_getElem h]
theorem plc_at (s : List UInt8) (l : List (List UInt8)) (n k : Nat) (h : k < l.length) (e : s = l.getD k []) : plc s (l.drop k) n = n + 1 := by
  rw [List.drop_eq_getElem_cons h, plc, if_pos (by rw [e, zC1 l k h])]
theorem plc_no (s : List UInt8) (l : List (List UInt8)) (n k : Nat) (h : k < l.length) (e : ¬ s = l.getD k []) : plc s (l.drop k) n = plc s (l.drop (k + 1)) (n + 1) := by
  rw [List.drop_eq_getElem_cons h, plc, if_neg (by rw [← zC1 l k h]; exact e)]
theorem zFW {a b : Int} (h : a = b) : Ending.returned (.int .i64 a) = .returned (.int .i64 b) := by rw [h]
theorem zHN (s : ByteArray) (w : World) (hT : Tab w 1 rll) :
  Calls Tryd.prog 46 #[.string s] w fun e w' => e = .returned (.int .i64 (rln s)) ∧ w' = w := by
 have HL : Hid (w.rangeAt 1 0 (rll.map fun m => Value.string (txt m))) := hT.range
 obtain ⟨r, hr⟩ : ∃ r, rln s = r := ⟨_, rfl⟩
 rw [hr]
 have HR : Hid (plc s.data.toList (rll.drop 0) 0 = r) := hr
 have HA : Hid (∀ k (h : k < 13), ((rll.map fun m => Value.string (txt m)).toArray)[k]? = some (.string (txt (rll.getD k [])))) := fun k h => tab_at rll k h
 clear hr hT
 go_enter Tryd.func46, Tryd.ntmps46
 go_wp2_with (refine wpList_load_mid (by rfl) 140 _ (by rfl) 1 0 (by rfl) (rll.map fun m => Value.string (txt m)) _ HL.out Tryd.underlying140 rfl (by kernel_rfl) ?_)
 obtain ⟨AA, hAA⟩ : ∃ AA, (rll.map fun m => Value.string (txt m)).toArray = AA := ⟨_, rfl⟩
 rw [hAA] at HA ⊢
 clear hAA HL
 go_loop [6] (fun i => ∃ k : Nat, k ≤ 13 ∧ i = .int .i64 k ∧ plc s.data.toList (rll.drop k) k = r) (fun i => 13 - (intOf i).toNat)
 case atStart => exact ⟨0, by omega, rfl, HR.out⟩
 case round =>
  obtain ⟨k, hk, rfl, hf⟩ := hrel
  have HF : Hid (plc s.data.toList (rll.drop k) k = r) := hf
  clear hf
  by_cases hlt : k < 13
  . obtain ⟨x, hx⟩ : ∃ x, txt (rll.getD k []) = x := ⟨_, rfl⟩
    have ha : ∀ W, (Instr.index 140 (.agg AA) (.int .i64 k)).run Tryd.prog W = .ok (.string x) W := fun W => by rw [← hx]; exact index_13 AA k _ hlt (HA.out k hlt) W
    have hxl : x.toList = rll.getD k [] := by rw [← hx, Lib.toList_data, zFZ]
    by_cases he : s.data.toList = rll.getD k []
    . have hb : (s.toList == x.toList) = true := by rw [Lib.toList_data, hxl, he]; simp
      have HE : Hid (s.data.toList = rll.getD k []) := he
      clear he hx hxl
      go_wp2
      go_ret
      refine ⟨zFW ?_, rfl⟩
      rw [← HF.out, plc_at _ _ _ _ hlt HE.out]
      rfl
    . have hb : (s.toList == x.toList) = false := by rw [Lib.toList_data, hxl]; simpa using he
      have HE : Hid (¬ s.data.toList = rll.getD k []) := he
      clear he hx hxl
      go_wp2
      exact ⟨⟨k + 1, by omega, by go_num, by rw [← plc_no _ _ _ _ hlt HE.out]; exact HF.out⟩, by simp [intOf]; omega⟩
  . obtain rfl : k = 13 := by omega
    go_wp2
    go_ret
    exact ⟨zFW (by rw [← HF.out]; rfl), rfl⟩
theorem zIE (s : List UInt8) : ∀ (l : List (List UInt8)) (n : Nat), plc s l n ≠ 0 ↔ s ∈ l
 | [], n => by simp [plc]
 | x :: r, n => by
  rw [plc]
  by_cases h : s = x
  . simp [h]
  . simp [h, zIE s r (n + 1)]
theorem not_take (l : List (List UInt8)) (s : List UInt8) (k : Nat) (hk : k < l.length) (h : s ∉ l.take k) (h2 : ¬ s = l.getD k []) : s ∉ l.take (k + 1) := by
  rw [List.take_succ_eq_append_getElem hk, List.mem_append, List.mem_singleton]
  rw [zC1 l k hk] at h2
  rintro (x | x)
  . exact h x
  . exact h2 x
theorem getD_in (l : List (List UInt8)) (k : Nat) (h : k < l.length) : l.getD k [] ∈ l := by rw [zC1 l k h]; exact List.getElem_mem h
theorem zD5 (s : ByteArray) (w : World) (hK : Tab w 0 kpl) (hT : Tab w 1 rll) :
  Calls Tryd.prog 30 #[.string s] w fun e w' => e = .returned (.bool (kpt s)) ∧ w' = w := by
 have HL : Hid (w.rangeAt 0 0 (kpl.map fun m => Value.string (txt m))) := hK.range
 have HT : Hid (Tab w 1 rll) := hT
 obtain ⟨r, hr⟩ : ∃ r, kpt s = r := ⟨_, rfl⟩
 rw [hr]
 have HR : Hid (kpt s = r) := hr
 have HA : Hid (∀ k (h : k < 17), ((kpl.map fun m => Value.string (txt m)).toArray)[k]? = some (.string (txt (kpl.getD k [])))) := fun k h => tab_at kpl k h
 clear hr hT hK
 go_enter Tryd.func30, Tryd.ntmps30
 go_wp2_with (refine wpList_load_mid (by rfl) 112 _ (by rfl) 0 0 (by rfl) (kpl.map fun m => Value.string (txt m)) _ HL.out Tryd.underlying112 rfl (by kernel_rfl) ?_)
 obtain ⟨AA, hAA⟩ : ∃ AA, (kpl.map fun m => Value.string (txt m)).toArray = AA := ⟨_, rfl⟩
 rw [hAA] at HA ⊢
 clear hAA HL
 go_loop [6] (fun i => ∃ k : Nat, k ≤ 17 ∧ i = .int .i64 k ∧ s.data.toList ∉ kpl.take k) (fun i => 17 - (intOf i).toNat)
 case atStart => exact ⟨0, by omega, rfl, by simp⟩
 case round =>
  obtain ⟨k, hk, rfl, hf⟩ := hrel
  have HF : Hid (s.data.toList ∉ kpl.take k) := hf
  clear hf
  by_cases hlt : k < 17
  . obtain ⟨x, hx⟩ : ∃ x, txt (kpl.getD k []) = x := ⟨_, rfl⟩
    have ha : ∀ W, (Instr.index 112 (.agg AA) (.int .i64 k)).run Tryd.prog W = .ok (.string x) W := fun W => by rw [← hx]; exact index_17 AA k _ hlt (HA.out k hlt) W
    have hxl : x.toList = kpl.getD k [] := by rw [← hx, Lib.toList_data, zFZ]
    by_cases he : s.data.toList = kpl.getD k []
    . have hb : (s.toList == x.toList) = true := by rw [Lib.toList_data, hxl, he]; simp
      have HE : Hid (s.data.toList = kpl.getD k []) := he
      clear he hx hxl
      go_wp2
      go_ret
      refine ⟨zAX ?_, rfl⟩
      rw [← HR.out, kpt, HE.out, decide_eq_true (getD_in kpl k hlt)]
      rfl
    . have hb : (s.toList == x.toList) = false := by rw [Lib.toList_data, hxl]; simpa using he
      have HE : Hid (¬ s.data.toList = kpl.getD k []) := he
      clear he hx hxl
      go_wp2
      exact ⟨⟨k + 1, by omega, by go_num, not_take _ _ k hlt HF.out HE.out⟩, by simp [intOf]; omega⟩
  . obtain rfl : k = 17 := by omega
    obtain ⟨q, hq⟩ : ∃ q, rln s = q := ⟨_, rfl⟩
    have HC := zHN s w HT.out
    rw [hq] at HC
    have HC2 : Hid (Calls Tryd.prog 46 #[.string s] w fun e w' => e = .returned (.int .i64 q) ∧ w' = w) := HC
    have HQ : Hid (rln s = q) := hq
    clear hq HC
    go_wp2_with (go_at_call 46; refine HC2.out.mono ?_; rintro e w' ⟨rfl, rfl⟩)
    go_ret
    refine ⟨zAX ?_, rfl⟩
    rw [← HR.out, kpt, decide_eq_false (show s.data.toList ∉ kpl from HF.out), Bool.false_or, ← HQ.out]
    have := zIE s.data.toList rll 0
    by_cases c : s.data.toList ∈ rll
    . have h2 := this.2 c
      simp only [c, decide_true]
      simpa [rln] using h2
    . have h2 : plc s.data.toList rll 0 = 0 := by
       rcases Nat.eq_zero_or_pos (plc s.data.toList rll 0) with h | h
       . exact h
       . exact absurd (this.1 (by omega)) c
      simp [c, rln, h2]
theorem zAD {w : World} {g : Nat} {cs : Array Value} {T : TypeId} (h : w.heap[g]? = some (.cells cs T (0, 0))) (j : Nat) : w.cell? ⟨g, j, none⟩ = cs[j]? := cell_of_row _ _ j cs T (0, 0) h
theorem zFG {w : World} {g : Nat} {cs : Array Value} {T : TypeId} (h : w.heap[g]? = some (.cells cs T (0, 0))) (j : Nat) : w.frozen? ⟨g, j, none⟩ = false := by
  simp [World.frozen?, h]
theorem zAE {w : World} {g : Nat} {o : Obj} (h : w.heap[g]? = some o) : g < w.heap.size := (Array.getElem?_eq_some_iff.1 h).1
theorem blk_set {w : World} {g : Nat} {cs : Array Value} {T : TypeId} (h : w.heap[g]? = some (.cells cs T (0, 0))) (j : Nat) (u : Value) : (w.setCell ⟨g, j, none⟩ u).heap[g]? = some (.cells (cs.setIfInBounds j u) T (0, 0)) := by
  simp [World.setCell, Array.getElem?_modify, h]
theorem res1 {P : Program} {fn : Func} {p : Tmp} {ty : TypeId} (h : fn.results = #[.cell p ty]) (tmps : Array Value) (w : World) (g : Nat) (cs : List Value) (d : TypeDesc)
  (hp : tmps.getD p undef = .pointer (some ⟨g, 0, none⟩)) (hc : w.rangeAt g 0 cs) (hu : P.underlying ty = some d) (hd : d.isRow = true) (hi : (P.info? ty).map (·.size) = some cs.length) :
  (results fn tmps).run P w = .ok (.agg cs.toArray) w := by
 have hp' : tmps[p]?.getD undef = .pointer (some ⟨g, 0, none⟩) := by simpa using hp
 simp [results, h, hp', asAddr, run_loadVar_mid w g 0 ty cs d hc hu hd hi]
theorem zAJ {w : World} {g : Nat} {cs : List Value} {T : TypeId} (h : w.heap[g]? = some (.cells cs.toArray T (0, 0))) : w.rangeAt g 0 cs := by
  intro j v hv
  rw [Nat.zero_add, zAD h]
  simpa using hv
theorem zB8 {w : World} {g : Nat} {cs : Array Value} {T : TypeId} (h : w.heap[g]? = some (.cells cs T (0, 0))) (o n : Nat) (hn : o + n ≤ cs.size) : w.there g o n := by
  intro j hj
  rw [zAD h, Array.getElem?_eq_getElem (by omega)]
  exact ⟨rfl, zFG h _⟩
theorem Fr.setCells {X : Nat → Prop} {a : World} {b : Nat} : ∀ {vs : List Value} {o : Nat} {w : World}, Fr X a w → (X b ∨ a.heap.size ≤ b) → Fr X a (w.setCells b o vs)
  | [], _, _, h, _ => h
  | v :: r, o, w, h, hp => Fr.setCells (vs := r) (h.setCell (p := ⟨b, o, none⟩) hp v) hp
def ovr (cs : List Value) (o : Nat) (vs : List Value) : List Value := cs.take o ++ (vs ++ cs.drop (o + vs.length))
theorem ovr_step (cs : List Value) (o : Nat) (v : Value) (r : List Value) (h : o < cs.length) : ovr (cs.set o v) (o + 1) r = ovr cs o (v :: r) := by
 unfold ovr
 have h1 : (cs.set o v).take (o + 1) = cs.take o ++ [v] := by
  rw [List.take_succ_eq_append_getElem (by simpa using h), List.take_set_of_le (Nat.le_refl _)]
  simp
 have h2 : (cs.set o v).drop (o + 1 + r.length) = cs.drop (o + (v :: r).length) := by
  rw [List.drop_set_of_lt (by omega), List.length_cons]
  congr 1
  omega
 rw [h1, h2]
 simp
theorem zB6 {b : Nat} {T : TypeId} : ∀ (vs : List Value) (o : Nat) (cs : List Value) (w : World), w.heap[b]? = some (.cells cs.toArray T (0, 0)) → o + vs.length ≤ cs.length → (w.setCells b o vs).heap[b]? = some (.cells (ovr cs o vs).toArray T (0, 0))
 | [], o, cs, w, h, _ => by
  have : ovr cs o [] = cs := by simp [ovr]
  rw [this]
  exact h
 | v :: r, o, cs, w, h, hl => by
  have hl' : o < cs.length := by simp at hl; omega
  rw [← ovr_step cs o v r hl']
  refine zB6 r (o + 1) (cs.set o v) (w.setCell ⟨b, o, none⟩ v) ?_ (by simp at hl ⊢; omega)
  rw [blk_set h]
  simp
theorem zFU {P : Program} (w : World) (b o : Nat) (ty : TypeId) (v : Value) (cells : Array Value) (hv : v.cells = cells) (ht : w.there b o cells.size) (hi : (P.info? ty).map (·.size) = some cells.size) (h1 : cells.all (·.oneCell') = true) :
  (storeVar ty ⟨b, o, none⟩ v).run P w = .ok () (w.setCells b o cells.toList) := by
 have := run_storeCells_cells (P := P) b o cells.toList 0 w (fun j hj => by simpa using (ht j (by simpa using hj)).1) (fun j hj => by simpa using (ht j (by simpa using hj)).2)
  (fun v hv => (Array.all_eq_true_iff_forall_mem.1 h1) v (by simpa using hv))
 cases hq : P.info? ty with
 | none => simp [hq] at hi
 | some i =>
  have hs : cells.size = i.size := by simp [hq] at hi; omega
  simp only [Nat.add_zero] at this
  simp [storeVar, sizeOf, typeInfo, hq, hv, hs, this]
theorem zBA {P : Program} {ops : Array Oper} {rest : List Oper} {op : Oper} {a : Act} {w : World} {Q : Exit → Act → World → Prop} (hgd : op.guard = none) (ty : TypeId) (x y : Operand) (ho : op.op = .store ty x y)
  (b o : Nat) (cs : List Value) (T : TypeId) (v : Value) (vs : List Value) (hx : a.eval x = .pointer (some ⟨b, o, none⟩)) (hy : a.eval y = v) (hv : v.cells = vs.toArray) (hb : w.heap[b]? = some (.cells cs.toArray T (0, 0)))
  (hl : o + vs.length ≤ cs.length) (hi : (P.info? ty).map (·.size) = some vs.length) (h1 : vs.all (·.oneCell') = true)
  (h : ∀ w', w'.heap[b]? = some (.cells (ovr cs o vs).toArray T (0, 0)) → Fr (fun i => i = b) w w' → wpList P ops Q rest (a.put op.dst undef) w') : wpList P ops Q (op :: rest) a w := by
 refine wpList_plain hgd fun K hK => ?_
 unfold Oper.wp execOp
 simp only [ho, hx, hy, Instr.storeAt, Instr.sureAddr, Sem.run_bind, Sem.run_pure, Result.andThen_ok, zFU w b o ty v vs.toArray hv (zB8 hb o _ (by simpa using hl)) (by simpa using hi) (all_oneCell_toArray (List.all_eq_true.1 h1))]
 exact hK _ _ (h _ (zB6 vs o cs w hb hl) ((Fr.refl (fun i => i = b) w).setCells (.inl rfl)))
theorem zBN   {P : Program} {ops : Array Oper} {rest : List Oper} {op : Oper} {a : Act} {w : World} {Q : Exit → Act → World → Prop} (ty : TypeId) {x y : Operand}
    (b o : Nat) (cs : List Value) (T : TypeId) (v : Value) (vs : List Value) (hb : w.heap[b]? = some (.cells cs.toArray T (0, 0)))
    (h : ∀ w', w'.heap[b]? = some (.cells (ovr cs o vs).toArray T (0, 0)) → Fr (fun i => i = b) w w' → wpList P ops Q rest (a.put op.dst undef) w') (hgd : op.guard = none := by rfl) (ho : op.op = .store ty x y := by rfl) (hx : a.eval x = .pointer (some ⟨b, o, none⟩) := by rfl) (hy : a.eval y = v := by rfl) (hv : v.cells = vs.toArray := by rfl)
    (hl : o + vs.length ≤ cs.length := by simp) (hi : (P.info? ty).map (·.size) = some vs.length := by kernel_rfl) (h1 : vs.all (·.oneCell') = true := by rfl) : wpList P ops Q (op :: rest) a w := zBA hgd ty x y ho b o cs T v vs hx hy hv hb hl hi h1 h
theorem zA5   {P : Program} {ops : Array Oper} {rest : List Oper} {op : Oper} {a : Act} {w : World} {Q : Exit → Act → World → Prop} (ty : TypeId) {x y : Operand}
    (b o : Nat) (cs : List Value) (T : TypeId) (vs : List Value) (hb : w.heap[b]? = some (.cells cs.toArray T (0, 0)))
    (h : ∀ w', w'.heap[b]? = some (.cells (ovr cs o vs).toArray T (0, 0)) → Fr (fun i => i = b) w w' → wpList P ops Q rest (a.put op.dst undef) w') (hgd : op.guard = none := by rfl) (ho : op.op = .store ty x y := by rfl) (hx : a.eval x = .pointer (some ⟨b, o, none⟩) := by rfl) (hy : a.eval y = .agg vs.toArray := by rfl)
    (hl : o + vs.length ≤ cs.length := by simp) (hi : (P.info? ty).map (·.size) = some vs.length := by kernel_rfl) (h1 : vs.all (·.oneCell') = true := by rfl) : wpList P ops Q (op :: rest) a w := zBA hgd ty x y ho b o cs T (.agg vs.toArray) vs hx hy rfl hb hl hi h1 h
abbrev opV (o : Opd) : Value := .agg #[.int .i64 o.k, .int .i64 o.vk, .int .i64 o.vi, .string o.vt, .string o.va, .string o.fd]
theorem zC0 (w : World) (a b : Obj) : ((w.alloc a).alloc b).heap[w.heap.size + 1]? = some b := by
  have := heap_alloc_new (w.alloc a) b
  simpa using this
theorem zAU {P : Program} {fn : Func} {p : Tmp} {ty : TypeId} {a : Act} {w : World} {Q : Ending → World → Prop} (R : Nat) (cs : List Value) (T : TypeId) (d : TypeDesc) (hb : w.heap[R]? = some (.cells cs.toArray T (0, 0))) (h : fn.results = #[.cell p ty]) (hd : a.defers = [])
  (hp : a.tmps.getD p undef = .pointer (some ⟨R, 0, none⟩)) (hu : P.underlying ty = some d) (hr : d.isRow = true) (hi : (P.info? ty).map (·.size) = some cs.length) (hq : Q (.returned (.agg cs.toArray)) w) : bodyPost P fn Q .ret a w :=
 bodyPost_ret (res1 h a.tmps w R cs d hp (zAJ hb) hu hr hi) hd hq
abbrev cnC (k : Int) (v : Value) (l r : Opd) : List Value := [.int .i64 k, v, .int .i64 l.k, .int .i64 l.vk, .int .i64 l.vi, .string l.vt, .string l.va, .string l.fd, .int .i64 r.k, .int .i64 r.vk, .int .i64 r.vi, .string r.vt, .string r.va, .string r.fd]
abbrev cnV (k : Int) (v : Value) (l r : Opd) : Value := .agg #[.int .i64 k, v, .int .i64 l.k, .int .i64 l.vk, .int .i64 l.vi, .string l.vt, .string l.va, .string l.fd, .int .i64 r.k, .int .i64 r.vk, .int .i64 r.vi, .string r.vt, .string r.va, .string r.fd]
end Go.Proofs.YtnlmknbhppdliaaDoor
