/-
  Values and sides, by the reference.
-/
import Derived.Deep.RegionHeld3
import Derived.Shelf.Abstract
import Derived.Test.YthndlfdbmljkhaaGreatDoorKR
namespace Go.Proofs.YthndlfdbmljkhaaGreatDoor.Chk
open Go.ChangeShapes Go.WideShapes Go.ChangeAt Go.RowKit Go.Maps
set_option linter.unusedVariables false
set_option linter.unusedSimpArgs false
set_option maxRecDepth 20000
theorem say_true {P : Prop} (h : P) : Say true P := ⟨fun _ => h, fun _ => rfl⟩
theorem say_false {P : Prop} (h : ¬ P) : Say false P := ⟨fun c => (by cases c), fun c => absurd c h⟩
def emp (s : ByteArray) : Bool := s.toList == []
def vck (vk vi : Int) (vt : ByteArray) : Int :=
  if vk = 1 then (if emp vt = false then 4 else if -1125899906842624 ≤ vi ∧ vi ≤ 1125899906842624 then 0 else 2)
  else if vk = 2 then (if vi = 0 then (if 20 < vt.size then 1 else 0) else 4) else 3
theorem emp_t {s : ByteArray} (h : emp s = true) : s.toList = [] := by simpa [emp] using h
theorem emp_f {s : ByteArray} (h : emp s = false) : ¬ s.toList = [] ∧ (s.toList == []) = false := ⟨by simpa [emp] using h, h⟩
set_option maxHeartbeats 4000000 in
theorem valueFault_any (vk vi : Int) (vt : ByteArray) (w : World) : Calls Tryz.prog 79 #[.agg #[.int .i64 vk, .int .i64 vi, .string vt]] w fun e w' => e = .returned (.int .i64 (vck vk vi vt)) ∧ Below w.heap.size w w' := by
 unfold vck
 by_cases h1 : vk = 1
 . subst h1
   simp only [if_true]
   cases he : emp vt
   . obtain ⟨e1, e2⟩ := emp_f he
     simp only [if_true]
     clear he
     go_enter Tryz.func79, Tryz.ntmps79
     go_wp2_with fail
     go_ret
     exact ⟨rfl, by go_grown⟩
   . have e1 := emp_t he
     simp only [Bool.true_eq_false, if_false]
     by_cases hr : -1125899906842624 ≤ vi ∧ vi ≤ 1125899906842624
     . rw [if_pos hr]
       have HI : Hid (∀ W, Calls Tryz.prog 17 #[.int .i64 vi, .int .i64 (-1125899906842624), .int .i64 1125899906842624] W fun e w' => e = .returned (.bool true) ∧ w' = W) := fun W => in_any vi _ _ true (say_true hr) W
       clear he hr
       go_enter Tryz.func79, Tryz.ntmps79
       go_wp2_with (go_at_call 17; refine (HI.out _).mono ?_; rintro e w' ⟨rfl, rfl⟩)
       go_ret
       exact ⟨rfl, by go_grown⟩
     . rw [if_neg hr]
       have HI : Hid (∀ W, Calls Tryz.prog 17 #[.int .i64 vi, .int .i64 (-1125899906842624), .int .i64 1125899906842624] W fun e w' => e = .returned (.bool false) ∧ w' = W) := fun W => in_any vi _ _ false (say_false hr) W
       clear he hr
       go_enter Tryz.func79, Tryz.ntmps79
       go_wp2_with (go_at_call 17; refine (HI.out _).mono ?_; rintro e w' ⟨rfl, rfl⟩)
       go_ret
       exact ⟨rfl, by go_grown⟩
 . rw [if_neg h1]
   have b1 : (vk == 1) = false := by simpa using h1
   by_cases h2 : vk = 2
   . subst h2
     simp only [if_true]
     by_cases h3 : vi = 0
     . subst h3
       simp only [if_true]
       by_cases h4 : 20 < vt.size
       . rw [if_pos h4]
         have h5 : (20 : Int) < (vt.size : Int) := by omega
         go_enter Tryz.func79, Tryz.ntmps79
         go_wp2_with fail
         go_ret
         exact ⟨rfl, by go_grown⟩
       . rw [if_neg h4]
         have h5 : ¬ (20 : Int) < (vt.size : Int) := by omega
         go_enter Tryz.func79, Tryz.ntmps79
         go_wp2_with fail
         go_ret
         exact ⟨rfl, by go_grown⟩
     . rw [if_neg h3]
       have b3 : (vi == 0) = false := by simpa using h3
       have b4 : (vi != 0) = true := by simpa using h3
       go_enter Tryz.func79, Tryz.ntmps79
       go_wp2_with fail
       go_ret
       exact ⟨rfl, by go_grown⟩
   . rw [if_neg h2]
     have b2 : (vk == 2) = false := by simpa using h2
     have b3 : (vk != 2) = true := by simpa using h2
     go_enter Tryz.func79, Tryz.ntmps79
     go_wp2_with fail
     go_ret
     exact ⟨rfl, by go_grown⟩
def fck (fs : List Fd) (n : ByteArray) : Int × Int := if fdq fs n < 0 then (0, 6) else ((fs.getD (fdq fs n).toNat ⟨txt [], 0⟩).k, 0)
def tyOf (ts : List Tp) (kn : List Pt) (va : ByteArray) : Tp := ts.getD (tyq ts (kn.getD (ptq kn va).toNat ⟨txt [], txt [], cn0, 0, 0⟩).ty).toNat ⟨txt [], []⟩
def nzv (o : Opd) : Bool := !(decide (o.vk = 0) && decide (o.vi = 0) && emp o.vt)
def sdk (ts : List Tp) (kn : List Pt) (own : Tp) (o : Opd) : Int × Int :=
  if ¬ (1 ≤ o.k ∧ o.k ≤ 3) then (0, 3)
  else if o.k = 1 then (if emp o.va = false ∨ emp o.fd = false then (0, 4) else (o.vk, vck o.vk o.vi o.vt))
  else if o.k = 2 then (if emp o.va = false ∨ nzv o = true then (0, 4) else fck own.f o.fd)
  else (if ptq kn o.va < 0 then (0, 6) else if nzv o = true then (0, 4) else fck (tyOf ts kn o.va).f o.fd)
structure Blk3 (w0 w : World) (us vs ts : List Value) : Prop where
  bel : Below w0.heap.size w0 w
  b1 : w.heap[w0.heap.size]? = some (.cells us.toArray 72 (0, 0))
  b2 : w.heap[w0.heap.size + 1]? = some (.cells vs.toArray 61 (0, 0))
  b3 : w.heap[w0.heap.size + 2]? = some (.cells ts.toArray 72 (0, 0))
theorem Blk3.start (w : World) (us vs ts : List Value) : Blk3 w (((w.alloc (.cells us.toArray 72)).alloc (.cells vs.toArray 61)).alloc (.cells ts.toArray 72)) us vs ts := by
  have e1 : (w.alloc (.cells us.toArray 72)).heap.size = w.heap.size + 1 := by simp
  have e2 : ((w.alloc (.cells us.toArray 72)).alloc (.cells vs.toArray 61)).heap.size = w.heap.size + 2 := by simp
  have h3 := heap_alloc_new ((w.alloc (.cells us.toArray 72)).alloc (.cells vs.toArray 61)) (.cells ts.toArray 72)
  have h2 := heap_alloc_new (w.alloc (.cells us.toArray 72)) (.cells vs.toArray 61)
  rw [e2] at h3
  rw [e1] at h2
  exact ⟨(((Below.refl _ _).alloc (Nat.le_refl _) _).alloc (by simp) _).alloc (by simp; omega) _, (Below.heap_alloc _ _ _ (by rw [e2]; omega)).trans ((Below.heap_alloc _ _ _ (by rw [e1]; omega)).trans (heap_alloc_new _ _)), (Below.heap_alloc _ _ _ (by rw [e2]; omega)).trans h2, h3⟩
section
variable {w0 w w' : World} {us vs ts ts' : List Value}
theorem Blk3.next (h : Blk3 w0 w us vs ts) (hb : Below w.heap.size w w') : Blk3 w0 w' us vs ts :=
  ⟨below_trans h.bel hb h.bel.size, (hb.block _ (blk_lt h.b1)).trans h.b1, (hb.block _ (blk_lt h.b2)).trans h.b2, (hb.block _ (blk_lt h.b3)).trans h.b3⟩
theorem Blk3.drew (h : Blk3 w0 w us vs ts) : Blk3 w0 w.drew us vs ts := ⟨h.bel.drew, h.b1, h.b2, h.b3⟩
theorem Blk3.st (h : Blk3 w0 w us vs ts) (hb : w'.heap[w0.heap.size + 2]? = some (.cells ts'.toArray 72 (0, 0))) (hf : Fr (fun i => i = w0.heap.size + 2) w w') : Blk3 w0 w' us vs ts' :=
  ⟨((Fr.of_below (X := fun _ => False) h.bel).stored hf (.inr (by omega))).below, (hf.block _ (blk_lt h.b1) (by show ¬ _ = _; omega)).trans h.b1, (hf.block _ (blk_lt h.b2) (by show ¬ _ = _; omega)).trans h.b2, hb⟩
theorem Blk3.c2 (h : Blk3 w0 w us vs ts) (j : Nat) : w.cell? ⟨w0.heap.size + 1, j, none⟩ = vs[j]? := by rw [cell_of_blk h.b2]; simp
theorem Blk3.c3 (h : Blk3 w0 w us vs ts) (j : Nat) : w.cell? ⟨w0.heap.size + 2, j, none⟩ = ts[j]? := by rw [cell_of_blk h.b3]; simp
end
set_option maxHeartbeats 4000000 in
theorem side_bad (ts : List Tp) (kn : List Pt) (tn : ByteArray) (tf : List Fd) (ok ovk ovi : Int) (ovt ova ofd : ByteArray) (tp kp fp : Option Addr) (tl tc kl kc fl fc : Nat) (w : World) (hk : ¬ (1 ≤ ok ∧ ok ≤ 3)) : Calls Tryz.prog 125 #[.slice tp tl tc, .slice kp kl kc, .agg #[.string tn, .slice fp fl fc], .agg #[.int .i64 ok, .int .i64 ovk, .int .i64 ovi, .string ovt, .string ova, .string ofd]] w fun e w' => e = .returned (.tuple #[.int .i64 0, .int .i64 3]) ∧ Below w.heap.size w w' := by
  have HI : Hid (∀ W, Calls Tryz.prog 17 #[.int .i64 ok, .int .i64 1, .int .i64 3] W fun e w' => e = .returned (.bool false) ∧ w' = W) := fun W => in_any ok _ _ false (say_false hk) W
  clear hk
  go_enter Tryz.func125, Tryz.ntmps125
  go_wp2_with (go_at_call 17; refine (HI.out _).mono ?_; rintro e w' ⟨rfl, rfl⟩)
  go_ret2
  exact ⟨rfl, by go_grown⟩
set_option maxHeartbeats 4000000 in
theorem side_c1 (ts : List Tp) (kn : List Pt) (tn : ByteArray) (tf : List Fd) (ok ovk ovi : Int) (ovt ova ofd : ByteArray) (tp kp fp : Option Addr) (tl tc kl kc fl fc : Nat) (w : World) (hok : ok = 1) (he : emp ova = false) : Calls Tryz.prog 125 #[.slice tp tl tc, .slice kp kl kc, .agg #[.string tn, .slice fp fl fc], .agg #[.int .i64 ok, .int .i64 ovk, .int .i64 ovi, .string ovt, .string ova, .string ofd]] w fun e w' => e = .returned (.tuple #[.int .i64 0, .int .i64 4]) ∧ Below w.heap.size w w' := by
  obtain rfl : ok = 1 := hok
  have HI : Hid (∀ W, Calls Tryz.prog 17 #[.int .i64 1, .int .i64 1, .int .i64 3] W fun e w' => e = .returned (.bool true) ∧ w' = W) := fun W => in_any 1 _ _ true (say_true (by decide)) W
  obtain ⟨e1, e2⟩ := emp_f he
  clear he
  go_enter Tryz.func125, Tryz.ntmps125
  go_wp2_with (go_at_call 17; refine (HI.out _).mono ?_; rintro e w' ⟨rfl, rfl⟩)
  go_ret2
  exact ⟨rfl, by go_grown⟩
set_option maxHeartbeats 4000000 in
theorem side_c2 (ts : List Tp) (kn : List Pt) (tn : ByteArray) (tf : List Fd) (ok ovk ovi : Int) (ovt ova ofd : ByteArray) (tp kp fp : Option Addr) (tl tc kl kc fl fc : Nat) (w : World) (hok : ok = 1) (he : emp ova = true) (hf : emp ofd = false) : Calls Tryz.prog 125 #[.slice tp tl tc, .slice kp kl kc, .agg #[.string tn, .slice fp fl fc], .agg #[.int .i64 ok, .int .i64 ovk, .int .i64 ovi, .string ovt, .string ova, .string ofd]] w fun e w' => e = .returned (.tuple #[.int .i64 0, .int .i64 4]) ∧ Below w.heap.size w w' := by
  obtain rfl : ok = 1 := hok
  have HI : Hid (∀ W, Calls Tryz.prog 17 #[.int .i64 1, .int .i64 1, .int .i64 3] W fun e w' => e = .returned (.bool true) ∧ w' = W) := fun W => in_any 1 _ _ true (say_true (by decide)) W
  have e1 := emp_t he
  obtain ⟨e2, e3⟩ := emp_f hf
  clear he hf
  go_enter Tryz.func125, Tryz.ntmps125
  go_wp2_with (go_at_call 17; refine (HI.out _).mono ?_; rintro e w' ⟨rfl, rfl⟩)
  go_ret2
  exact ⟨rfl, by go_grown⟩
set_option maxHeartbeats 4000000 in
theorem side_o1 (ts : List Tp) (kn : List Pt) (tn : ByteArray) (tf : List Fd) (ok ovk ovi : Int) (ovt ova ofd : ByteArray) (tp kp fp : Option Addr) (tl tc kl kc fl fc : Nat) (w : World) (hok : ok = 2) (he : emp ova = false) : Calls Tryz.prog 125 #[.slice tp tl tc, .slice kp kl kc, .agg #[.string tn, .slice fp fl fc], .agg #[.int .i64 ok, .int .i64 ovk, .int .i64 ovi, .string ovt, .string ova, .string ofd]] w fun e w' => e = .returned (.tuple #[.int .i64 0, .int .i64 4]) ∧ Below w.heap.size w w' := by
  obtain rfl : ok = 2 := hok
  have HI : Hid (∀ W, Calls Tryz.prog 17 #[.int .i64 2, .int .i64 1, .int .i64 3] W fun e w' => e = .returned (.bool true) ∧ w' = W) := fun W => in_any 2 _ _ true (say_true (by decide)) W
  obtain ⟨e1, e2⟩ := emp_f he
  clear he
  go_enter Tryz.func125, Tryz.ntmps125
  go_wp2_with (go_at_call 17; refine (HI.out _).mono ?_; rintro e w' ⟨rfl, rfl⟩)
  go_ret2
  exact ⟨rfl, by go_grown⟩
set_option maxHeartbeats 4000000 in
theorem side_o2 (ts : List Tp) (kn : List Pt) (tn : ByteArray) (tf : List Fd) (ok ovk ovi : Int) (ovt ova ofd : ByteArray) (tp kp fp : Option Addr) (tl tc kl kc fl fc : Nat) (w : World) (hok : ok = 2) (he : emp ova = true) (hv : ¬ ovk = 0) : Calls Tryz.prog 125 #[.slice tp tl tc, .slice kp kl kc, .agg #[.string tn, .slice fp fl fc], .agg #[.int .i64 ok, .int .i64 ovk, .int .i64 ovi, .string ovt, .string ova, .string ofd]] w fun e w' => e = .returned (.tuple #[.int .i64 0, .int .i64 4]) ∧ Below w.heap.size w w' := by
  obtain rfl : ok = 2 := hok
  have HI : Hid (∀ W, Calls Tryz.prog 17 #[.int .i64 2, .int .i64 1, .int .i64 3] W fun e w' => e = .returned (.bool true) ∧ w' = W) := fun W => in_any 2 _ _ true (say_true (by decide)) W
  have e1 := emp_t he
  have b1 : (ovk == 0) = false := by simpa using hv
  clear he
  go_enter Tryz.func125, Tryz.ntmps125
  go_wp2_with (go_at_call 17; refine (HI.out _).mono ?_; rintro e w' ⟨rfl, rfl⟩)
  go_ret2
  exact ⟨rfl, by go_grown⟩
set_option maxHeartbeats 4000000 in
theorem side_o3 (ts : List Tp) (kn : List Pt) (tn : ByteArray) (tf : List Fd) (ok ovk ovi : Int) (ovt ova ofd : ByteArray) (tp kp fp : Option Addr) (tl tc kl kc fl fc : Nat) (w : World) (hok : ok = 2) (he : emp ova = true) (hv : ovk = 0) (hi : ¬ ovi = 0) : Calls Tryz.prog 125 #[.slice tp tl tc, .slice kp kl kc, .agg #[.string tn, .slice fp fl fc], .agg #[.int .i64 ok, .int .i64 ovk, .int .i64 ovi, .string ovt, .string ova, .string ofd]] w fun e w' => e = .returned (.tuple #[.int .i64 0, .int .i64 4]) ∧ Below w.heap.size w w' := by
  obtain rfl : ok = 2 := hok
  have HI : Hid (∀ W, Calls Tryz.prog 17 #[.int .i64 2, .int .i64 1, .int .i64 3] W fun e w' => e = .returned (.bool true) ∧ w' = W) := fun W => in_any 2 _ _ true (say_true (by decide)) W
  subst hv
  have e1 := emp_t he
  have b1 : (ovi == 0) = false := by simpa using hi
  clear he
  go_enter Tryz.func125, Tryz.ntmps125
  go_wp2_with (go_at_call 17; refine (HI.out _).mono ?_; rintro e w' ⟨rfl, rfl⟩)
  go_ret2
  exact ⟨rfl, by go_grown⟩
set_option maxHeartbeats 4000000 in
theorem side_o4 (ts : List Tp) (kn : List Pt) (tn : ByteArray) (tf : List Fd) (ok ovk ovi : Int) (ovt ova ofd : ByteArray) (tp kp fp : Option Addr) (tl tc kl kc fl fc : Nat) (w : World) (hok : ok = 2) (he : emp ova = true) (hv : ovk = 0) (hi : ovi = 0) (ht : emp ovt = false) : Calls Tryz.prog 125 #[.slice tp tl tc, .slice kp kl kc, .agg #[.string tn, .slice fp fl fc], .agg #[.int .i64 ok, .int .i64 ovk, .int .i64 ovi, .string ovt, .string ova, .string ofd]] w fun e w' => e = .returned (.tuple #[.int .i64 0, .int .i64 4]) ∧ Below w.heap.size w w' := by
  obtain rfl : ok = 2 := hok
  have HI : Hid (∀ W, Calls Tryz.prog 17 #[.int .i64 2, .int .i64 1, .int .i64 3] W fun e w' => e = .returned (.bool true) ∧ w' = W) := fun W => in_any 2 _ _ true (say_true (by decide)) W
  subst hv hi
  have e1 := emp_t he
  obtain ⟨e2, e3⟩ := emp_f ht
  clear he ht
  go_enter Tryz.func125, Tryz.ntmps125
  go_wp2_with (go_at_call 17; refine (HI.out _).mono ?_; rintro e w' ⟨rfl, rfl⟩)
  go_ret2
  exact ⟨rfl, by go_grown⟩
theorem start_n {P : Program} {ops : Array Oper} {Q : Exit → Act → World → Prop} {S : World → Prop} {id : Nat} {a : Act} {w : World} (n : Nat) (l : Array Bool) (hn : ops.size = n) (hl : Array.replicate n false = l) (hm : P.follows .mixedOrders = true) (hS : S w.drew)
  (h : S w.drew → wpAnyH P .any ops Q S n l a w.drew) : (Code.region id ops true).wp P Q a w := by
 subst hn hl
 exact wp_region_held_drew hm hS h
theorem take_mk {P : Program} {ops : Array Oper} {Q : Exit → Act → World → Prop} {md : Region.Mode} {S : World → Prop} {i : Nat} {d : _} {op : _} {t : _} {p : _} {af : _} {gd : _} {v : Value} {fuel : Nat} {listed : Array Bool} {a : Act} {w : World} (hi : ops[i]? = some (Oper.mk d op t p af gd))
    (hs : Region.noSelect ops = true) (hf : Region.free md ops listed i = true) (hr : (Region.ready md ops listed).contains i = true) (hQ : ∀ c a w, Q (.panic c) (a.put d v) w → Q (.panic c) a w) (hy : YieldsIf P ops S (Oper.mk d op t p af gd) v a) (hS : S w)
    (h : wpAnyH P md ops Q S fuel (listed.setIfInBounds i true) (a.put d v) w) : wpAnyH P md ops Q S (fuel + 1) listed a w := wpAnyH_take hi hs hf hr hQ hy hS h
theorem gLq {P : Program} {ops : Array Oper} {Q : Exit → Act → World → Prop} {d : _} {T : TypeId} {x : Operand} {t : _} {p : _} {af : _} {gd : _} {r : List Oper} {a : Act} {w : World} (h : wpList P ops Q (Oper.mk d (.load T x) t p af gd :: r) a w) : wpList P ops Q (Oper.mk d (.load T x) t p af gd :: r) a w := h
theorem gSq {P : Program} {ops : Array Oper} {Q : Exit → Act → World → Prop} {d : _} {T : TypeId} {x y : Operand} {t : _} {p : _} {af : _} {gd : _} {r : List Oper} {a : Act} {w : World} (h : wpList P ops Q (Oper.mk d (.store T x y) t p af gd :: r) a w) : wpList P ops Q (Oper.mk d (.store T x y) t p af gd :: r) a w := h
theorem puts : (∀ (a : Act) (i : Nat) (v : Value), a.put (some i) v = { a with tmps := a.tmps.setIfInBounds i v }) ∧ (∀ (a : Act) (v : Value), a.put none v = a) ∧ (∀ (l : List Value) (i : Nat) (v : Value), l.toArray.setIfInBounds i v = (l.set i v).toArray) ∧ (∀ (x y : Value) (l : List Value), (x :: l).set 0 y = y :: l) ∧ (∀ (x y : Value) (l : List Value) (n : Nat), (x :: l).set (n + 1) y = x :: l.set n y) :=
  ⟨fun _ _ _ => rfl, fun _ _ => rfl, fun _ _ _ => by simp, fun _ _ _ => rfl, fun _ _ _ _ => rfl⟩
theorem tlq {P : Program} {ops : Array Oper} {Q : Exit → Act → World → Prop} {md : Region.Mode} {S : World → Prop} {i : Nat} {d : _} {op : _} {t : _} {p : _} {af : _} {gd : _} {v : Value} {fuel : Nat} {listed : Array Bool} {a : Act} {w : World} (hi : ops[i]? = some (Oper.mk d op t p af gd)) (hy : YieldsIf P ops S (Oper.mk d op t p af gd) v a)
    (h : wpAnyH P md ops Q S fuel (listed.setIfInBounds i true) (a.put d v) w) (hs : Region.noSelect ops = true := by kernel_rfl) (hf : Region.free md ops listed i = true := by kernel_rfl) (hr : (Region.ready md ops listed).contains i = true := by kernel_rfl) (hQ : ∀ c a w, Q (.panic c) (a.put d v) w → Q (.panic c) a w := by exact fun _ _ _ h => h) (hS : S w := by assumption) : wpAnyH P md ops Q S (fuel + 1) listed a w := take_mk hi hs hf hr hQ hy hS h
theorem tkq {P : Program} {ops : Array Oper} {Q : Exit → Act → World → Prop} {md : Region.Mode} {S : World → Prop} {i : Nat} {d : _} {op : _} {t : _} {p : _} {af : _} {gd : _} {v : Value} {fuel : Nat} {listed : Array Bool} {a : Act} {w : World} (hi : ops[i]? = some (Oper.mk d op t p af gd)) (hy : ∀ w, S w → (execOp a.eval (Oper.mk d op t p af gd)).run P w = .ok (.value v) w)
    (h : wpAnyH P md ops Q S fuel (listed.setIfInBounds i true) (a.put d v) w) (hw : Region.wanted (Oper.mk d op t p af gd) (yielded ops a.tmps) = true := by rfl) (hs : Region.noSelect ops = true := by kernel_rfl) (hf : Region.free md ops listed i = true := by kernel_rfl) (hr : (Region.ready md ops listed).contains i = true := by kernel_rfl) (hQ : ∀ c a w, Q (.panic c) (a.put d v) w → Q (.panic c) a w := by exact fun _ _ _ h => h) (hS : S w := by assumption) : wpAnyH P md ops Q S (fuel + 1) listed a w := take_mk hi hs hf hr hQ (Or.inl ⟨hw, hy⟩) hS h
theorem cons_mk {P : Program} {ops : Array Oper} {Q : Exit → Act → World → Prop} {md : Region.Mode} {S : World → Prop} {i : Nat} {d : _} {op : _} {t : _} {p : _} {af : _} {gd : _} {fuel : Nat} {listed : Array Bool} {a : Act} {w : World} {rs : List Nat} (ho : ops[i]? = some (Oper.mk d op t p af gd))
    (h : ∀ K' : Act → World → Prop, Shut (∀ a w, S w → (S w → wpAnyH P md ops Q S fuel (listed.setIfInBounds i true) a w) → K' a w) → if Region.wanted (Oper.mk d op t p af gd) (yielded ops a.tmps) = true then Oper.wp P (Oper.mk d op t p af gd) a w K' Q else K' (a.put d undef) w)
    (hs : AllReadyH P md ops Q S fuel listed a w rs) : AllReadyH P md ops Q S fuel listed a w (i :: rs) := AllReadyH.cons ho h hs
theorem ent_vf : ∀ args w, (callFunc 79 args).run Tryz.prog w = .ok (.enter 79 args) w := enters_of Tryz.func79 (by kernel_rfl) rfl
set_option maxHeartbeats 4000000 in
theorem side_const (ts : List Tp) (kn : List Pt) (tn : ByteArray) (tf : List Fd) (ok ovk ovi : Int) (ovt ova ofd : ByteArray) (tp kp fp : Option Addr) (tl tc kl kc fl fc : Nat) (w : World) (hok : ok = 1) (he : emp ova = true) (hf : emp ofd = true) : Calls Tryz.prog 125 #[.slice tp tl tc, .slice kp kl kc, .agg #[.string tn, .slice fp fl fc], .agg #[.int .i64 ok, .int .i64 ovk, .int .i64 ovi, .string ovt, .string ova, .string ofd]] w fun e w' => e = .returned (.tuple #[.int .i64 ovk, .int .i64 (vck ovk ovi ovt)]) ∧ Below w.heap.size w w' := by
  obtain rfl : ok = 1 := hok
  have HI : Hid (∀ W, Calls Tryz.prog 17 #[.int .i64 1, .int .i64 1, .int .i64 3] W fun e w' => e = .returned (.bool true) ∧ w' = W) := fun W => in_any 1 _ _ true (say_true (by decide)) W
  have e1 := emp_t he
  have e2 := emp_t hf
  clear he hf
  have HB3 : Hid (Blk3 w (((w.alloc (.cells [.string tn, .slice fp fl fc].toArray 72)).alloc (.cells [.int .i64 1, .int .i64 ovk, .int .i64 ovi, .string ovt, .string ova, .string ofd].toArray 61)).alloc (.cells [.string tn, .slice fp fl fc].toArray 72)) [.string tn, .slice fp fl fc] [.int .i64 1, .int .i64 ovk, .int .i64 ovi, .string ovt, .string ova, .string ofd] [.string tn, .slice fp fl fc]) := Blk3.start w _ _ _
  have HVF : Hid (∀ W, Calls Tryz.prog 79 #[.agg #[.int .i64 ovk, .int .i64 ovi, .string ovt]] W fun e w' => e = .returned (.int .i64 (vck ovk ovi ovt)) ∧ Below W.heap.size W w') := fun W => valueFault_any ovk ovi ovt W
  go_enter Tryz.func125, Tryz.ntmps125
  go_wp2_with (go_at_call 17; refine (HI.out _).mono ?_; rintro e w' ⟨rfl, rfl⟩)
  obtain ⟨W3, hW3⟩ : ∃ W3, (((w.alloc (.cells [.string tn, .slice fp fl fc].toArray 72)).alloc (.cells [.int .i64 1, .int .i64 ovk, .int .i64 ovi, .string ovt, .string ova, .string ofd].toArray 61)).alloc (.cells [.string tn, .slice fp fl fc].toArray 72)) = W3 := ⟨_, rfl⟩
  change Go.Code.wp _ _ _ _ (((w.alloc (.cells [.string tn, .slice fp fl fc].toArray 72)).alloc (.cells [.int .i64 1, .int .i64 ovk, .int .i64 ovi, .string ovt, .string ova, .string ofd].toArray 61)).alloc (.cells [.string tn, .slice fp fl fc].toArray 72))
  rw [hW3] at HB3 ⊢
  clear hW3
  refine start_n (S := (fun w' => w'.cell? ⟨w.heap.size + 1, 1, none⟩ = some (.int .i64 ovk) ∧ w'.cell? ⟨w.heap.size + 1, 2, none⟩ = some (.int .i64 ovi) ∧ w'.cell? ⟨w.heap.size + 1, 3, none⟩ = some (.string ovt))) 8 #[false, false, false, false, false, false, false, false] rfl rfl (by kernel_rfl) (by { exact ⟨HB3.out.c2 1, HB3.out.c2 2, HB3.out.c2 3⟩ }) (fun hHeld => ?_)
  refine tkq (i := 0) (v := ?v1) rfl ?hy1 ?rest1; (case hy1 => intro w0 hSw; (try dsimp only at hSw); go_simp <;> (try (with_reducible rfl))); (try simp only [puts])
  refine tkq (i := 1) (v := ?v2) rfl ?hy2 ?rest2; (case hy2 => intro w0 hSw; (try dsimp only at hSw); go_simp <;> (try (with_reducible rfl))); (try simp only [puts])
  refine tkq (i := 2) (v := ?v3) rfl ?hy3 ?rest3; (case hy3 => intro w0 hSw; (try dsimp only at hSw); go_simp <;> (try (with_reducible rfl))); (try simp only [puts])
  refine tkq (i := 3) (v := ?v4) rfl ?hy4 ?rest4; (case hy4 => intro w0 hSw; (try dsimp only at hSw); go_simp <;> (try (with_reducible rfl))); (try simp only [puts])
  refine tkq (i := 4) (v := ?v5) rfl ?hy5 ?rest5; (case hy5 => intro w0 hSw; (try dsimp only at hSw); go_simp <;> (try (with_reducible rfl))); (try simp only [puts])
  refine wpAnyH_ready (rs := [5]) (by kernel_rfl) (by simp) ?_
  refine cons_mk rfl (fun K hK => ?_) AllReadyH.nil
  refine step_call 79 ent_vf (by rfl) _ _ (by rfl) (.agg #[.int .i64 ovk, .int .i64 ovi, .string ovt]) (by rfl) _ (HVF.out _) ?_
  rintro e w5 ⟨rfl, hb5⟩
  refine ⟨_, rfl, ?_⟩
  have HB5 : Hid (Blk3 w w5 [.string tn, .slice fp fl fc] [.int .i64 1, .int .i64 ovk, .int .i64 ovi, .string ovt, .string ova, .string ofd] [.string tn, .slice fp fl fc]) := HB3.out.drew.next hb5
  clear hb5
  refine hK.out _ _ (by { exact ⟨HB5.out.c2 1, HB5.out.c2 2, HB5.out.c2 3⟩ }) (fun hHeld => ?_)
  clear hK K
  (try simp only [puts])
  refine tkq (i := 6) (v := ?v6) rfl ?hy6 ?rest6; (case hy6 => intro w0 hSw; (try dsimp only at hSw); go_simp <;> (try (with_reducible rfl))); (try simp only [puts])
  refine tkq (i := 7) (v := ?v7) rfl ?hy7 ?rest7; (case hy7 => intro w0 hSw; (try dsimp only at hSw); go_simp <;> (try (with_reducible rfl))); (try simp only [puts])
  refine wpAnyH_done (by kernel_rfl) ?_ _
  clear hHeld
  go_wp2_with fail
  go_ret2
  exact ⟨rfl, HB5.out.bel⟩
set_option maxHeartbeats 4000000 in
theorem side_own0 (ts : List Tp) (kn : List Pt) (tn : ByteArray) (tf : List Fd) (ok ovk ovi : Int) (ovt ova ofd : ByteArray) (tp kp fp : Option Addr) (tl tc kl kc fl fc : Nat) (w : World) (hok : ok = 2) (he : emp ova = true) (hv : ovk = 0) (hi : ovi = 0) (ht : emp ovt = true) (hF : Rd w (.row 93 2 (tf.map encF)) (.slice fp fl fc)) (hq : fdq tf ofd = -1) : Calls Tryz.prog 125 #[.slice tp tl tc, .slice kp kl kc, .agg #[.string tn, .slice fp fl fc], .agg #[.int .i64 ok, .int .i64 ovk, .int .i64 ovi, .string ovt, .string ova, .string ofd]] w fun e w' => e = .returned (.tuple #[.int .i64 0, .int .i64 6]) ∧ Below w.heap.size w w' := by
 obtain rfl : ok = 2 := hok
 have HI : Hid (∀ W, Calls Tryz.prog 17 #[.int .i64 2, .int .i64 1, .int .i64 3] W fun e w' => e = .returned (.bool true) ∧ w' = W) := fun W => in_any 2 _ _ true (say_true (by decide)) W
 obtain rfl : ovk = 0 := hv
 obtain rfl : ovi = 0 := hi
 have e1 := emp_t he
 have e2 := emp_t ht
 clear he ht
 have HFA : Hid (∀ W, Below w.heap.size w W → Calls Tryz.prog 123 #[.agg #[.string tn, .slice fp fl fc], .string ofd] W fun e w' => e = .returned (.int .i64 (-1)) ∧ Below W.heap.size W w') := fun W hW => by
  have h9 := fieldAt_any tn tf (.slice fp fl fc) ofd W (hF.later hW)
  rw [hq] at h9
  exact h9
 have HB3 : Hid (Blk3 w (((w.alloc (.cells [.string tn, .slice fp fl fc].toArray 72)).alloc (.cells [.int .i64 2, .int .i64 0, .int .i64 0, .string ovt, .string ova, .string ofd].toArray 61)).alloc (.cells [.string tn, .slice fp fl fc].toArray 72)) [.string tn, .slice fp fl fc] [.int .i64 2, .int .i64 0, .int .i64 0, .string ovt, .string ova, .string ofd] [.string tn, .slice fp fl fc]) := Blk3.start w _ _ _
 clear hF hq
 go_enter Tryz.func125, Tryz.ntmps125
 go_wp2_with (first
  | (go_at_call 17; refine (HI.out _).mono ?_; rintro e w' ⟨rfl, rfl⟩)
  | (go_at_call 123; refine (HFA.out _ HB3.out.bel).mono ?_; rintro e w5 ⟨rfl, hb_⟩; have HB5 : Hid _ := HB3.out.next hb_; have z1 : w5.cell? ⟨w.heap.size + 2, 1, none⟩ = some (.slice fp fl fc) := HB5.out.c3 1;  clear hb_))
 go_ret2
 exact ⟨rfl, HB5.out.bel⟩
set_option maxHeartbeats 4000000 in
theorem side_own1 (ts : List Tp) (kn : List Pt) (tn : ByteArray) (tf : List Fd) (ok ovk ovi : Int) (ovt ova ofd : ByteArray) (tp kp fp : Option Addr) (tl tc kl kc fl fc : Nat) (w : World) (hok : ok = 2) (he : emp ova = true) (hv : ovk = 0) (hi : ovi = 0) (ht : emp ovt = true) (hF : Rd w (.row 93 2 (tf.map encF)) (.slice fp fl fc)) (j : Nat) (hj : j < tf.length) (hq : fdq tf ofd = (j : Int)) (fk : Int) (hfk : tf[j].k = fk) : Calls Tryz.prog 125 #[.slice tp tl tc, .slice kp kl kc, .agg #[.string tn, .slice fp fl fc], .agg #[.int .i64 ok, .int .i64 ovk, .int .i64 ovi, .string ovt, .string ova, .string ofd]] w fun e w' => e = .returned (.tuple #[.int .i64 fk, .int .i64 0]) ∧ Below w.heap.size w w' := by
 obtain rfl : ok = 2 := hok
 have HI : Hid (∀ W, Calls Tryz.prog 17 #[.int .i64 2, .int .i64 1, .int .i64 3] W fun e w' => e = .returned (.bool true) ∧ w' = W) := fun W => in_any 2 _ _ true (say_true (by decide)) W
 obtain rfl : ovk = 0 := hv
 obtain rfl : ovi = 0 := hi
 have e1 := emp_t he
 have e2 := emp_t ht
 clear he ht
 have HFA : Hid (∀ W, Below w.heap.size w W → Calls Tryz.prog 123 #[.agg #[.string tn, .slice fp fl fc], .string ofd] W fun e w' => e = .returned (.int .i64 (j : Int)) ∧ Below W.heap.size W w') := fun W hW => by
  have h9 := fieldAt_any tn tf (.slice fp fl fc) ofd W (hF.later hW)
  rw [hq] at h9
  exact h9
 obtain ⟨p', cap', e', hmx, hat⟩ := rd_row lenF hF
 simp only [Value.slice.injEq] at e'
 obtain ⟨rfl, rfl, rfl⟩ := e'
 obtain ⟨g, off, rfl, hrd⟩ := hat (by omega)
 have HCF : Hid (∀ W, Below w.heap.size w W → W.cell? ⟨g, off + j * 2 + 1, none⟩ = some (.int .i64 fk)) := fun W hW => by
  obtain ⟨us, r1, o1⟩ := hrd W hW j hj
  have z1 := rdF o1
  clear o1
  subst z1
  rw [← hfk]
  exact r1 1 _ rfl
 have i1 : (0 : Int) ≤ (j : Int) := by omega
 have i2 : (j : Int) < (tf.length : Int) := by omega
 obtain ⟨nl, hnl⟩ : ∃ nl, tf.length = nl := ⟨_, rfl⟩
 rw [hnl] at HFA i2 hmx ⊢
 have HB3 : Hid (Blk3 w (((w.alloc (.cells [.string tn, .slice (some ⟨g, off, none⟩) nl fc].toArray 72)).alloc (.cells [.int .i64 2, .int .i64 0, .int .i64 0, .string ovt, .string ova, .string ofd].toArray 61)).alloc (.cells [.string tn, .slice (some ⟨g, off, none⟩) nl fc].toArray 72)) [.string tn, .slice (some ⟨g, off, none⟩) nl fc] [.int .i64 2, .int .i64 0, .int .i64 0, .string ovt, .string ova, .string ofd] [.string tn, .slice (some ⟨g, off, none⟩) nl fc]) := Blk3.start w _ _ _
 clear hF hq hrd hnl hfk hj
 go_enter Tryz.func125, Tryz.ntmps125
 go_wp2_with (first
  | (go_at_call 17; refine (HI.out _).mono ?_; rintro e w' ⟨rfl, rfl⟩)
  | (go_at_call 123; refine (HFA.out _ HB3.out.bel).mono ?_; rintro e w5 ⟨rfl, hb_⟩; have HB5 : Hid _ := HB3.out.next hb_; have z1 : w5.cell? ⟨w.heap.size + 2, 1, none⟩ = some (.slice (some ⟨g, off, none⟩) nl fc) := HB5.out.c3 1; have nz : w5.cell? ⟨g, off + j * 2 + 1, none⟩ = some (.int .i64 fk) := HCF.out _ HB5.out.bel;  clear hb_))
 go_ret2
 exact ⟨rfl, HB5.out.bel⟩
set_option maxHeartbeats 4000000 in
theorem side_oth0 (ts : List Tp) (kn : List Pt) (tn : ByteArray) (tf : List Fd) (ok ovk ovi : Int) (ovt ova ofd : ByteArray) (tp kp fp : Option Addr) (tl tc kl kc fl fc : Nat) (w : World) (hok : ok = 3) (hK : Rd w (.row 65 18 (kn.map encP)) (.slice kp kl kc)) (hq : ptq kn ova = -1) : Calls Tryz.prog 125 #[.slice tp tl tc, .slice kp kl kc, .agg #[.string tn, .slice fp fl fc], .agg #[.int .i64 ok, .int .i64 ovk, .int .i64 ovi, .string ovt, .string ova, .string ofd]] w fun e w' => e = .returned (.tuple #[.int .i64 0, .int .i64 6]) ∧ Below w.heap.size w w' := by
 obtain rfl : ok = 3 := hok
 have HI : Hid (∀ W, Calls Tryz.prog 17 #[.int .i64 3, .int .i64 1, .int .i64 3] W fun e w' => e = .returned (.bool true) ∧ w' = W) := fun W => in_any 3 _ _ true (say_true (by decide)) W
 have HPN : Hid (∀ W, Below w.heap.size w W → Calls Tryz.prog 94 #[.slice kp kl kc, .string ova] W fun e w' => e = .returned (.int .i64 (-1)) ∧ Below W.heap.size W w') := fun W hW => by
  have h9 := patternNamed_any kn (.slice kp kl kc) ova W (hK.later hW)
  rw [hq] at h9
  exact h9
 have HB3 : Hid (Blk3 w (((w.alloc (.cells [.string tn, .slice fp fl fc].toArray 72)).alloc (.cells [.int .i64 3, .int .i64 ovk, .int .i64 ovi, .string ovt, .string ova, .string ofd].toArray 61)).alloc (.cells [.string tn, .slice fp fl fc].toArray 72)) [.string tn, .slice fp fl fc] [.int .i64 3, .int .i64 ovk, .int .i64 ovi, .string ovt, .string ova, .string ofd] [.string tn, .slice fp fl fc]) := Blk3.start w _ _ _
 clear hK hq
 go_enter Tryz.func125, Tryz.ntmps125
 go_wp2_with (first
  | (go_at_call 17; refine (HI.out _).mono ?_; rintro e w' ⟨rfl, rfl⟩)
  | (go_at_call 94; refine (HPN.out _ HB3.out.bel).mono ?_; rintro e w5 ⟨rfl, hb_⟩; have HB5 : Hid _ := HB3.out.next hb_;  clear hb_))
 go_ret2
 exact ⟨rfl, HB5.out.bel⟩
set_option maxHeartbeats 4000000 in
theorem side_oth1a (ts : List Tp) (kn : List Pt) (tn : ByteArray) (tf : List Fd) (ok ovk ovi : Int) (ovt ova ofd : ByteArray) (tp kp fp : Option Addr) (tl tc kl kc fl fc : Nat) (w : World) (hok : ok = 3) (hK : Rd w (.row 65 18 (kn.map encP)) (.slice kp kl kc)) (hT : Rd w (.row 72 2 (ts.map encY)) (.slice tp tl tc)) (j : Nat) (hj : j < kn.length) (hq : ptq kn ova = (j : Int)) (kty : ByteArray) (hkty : kn[j].ty = kty) (i : Nat) (hi : i < ts.length) (hq2 : tyq ts kty = (i : Int)) (tn2 : ByteArray) (tf2 : List Fd) (ht2 : ts[i] = ⟨tn2, tf2⟩) (hv : ¬ ovk = 0) : Calls Tryz.prog 125 #[.slice tp tl tc, .slice kp kl kc, .agg #[.string tn, .slice fp fl fc], .agg #[.int .i64 ok, .int .i64 ovk, .int .i64 ovi, .string ovt, .string ova, .string ofd]] w fun e w' => e = .returned (.tuple #[.int .i64 0, .int .i64 4]) ∧ Below w.heap.size w w' := by
 obtain rfl : ok = 3 := hok
 have HI : Hid (∀ W, Calls Tryz.prog 17 #[.int .i64 3, .int .i64 1, .int .i64 3] W fun e w' => e = .returned (.bool true) ∧ w' = W) := fun W => in_any 3 _ _ true (say_true (by decide)) W
 have b1 : (ovk == 0) = false := by simpa using hv
 have HPN : Hid (∀ W, Below w.heap.size w W → Calls Tryz.prog 94 #[.slice kp kl kc, .string ova] W fun e w' => e = .returned (.int .i64 (j : Int)) ∧ Below W.heap.size W w') := fun W hW => by
  have h9 := patternNamed_any kn (.slice kp kl kc) ova W (hK.later hW)
  rw [hq] at h9
  exact h9
 have HTN : Hid (∀ W, Below w.heap.size w W → Calls Tryz.prog 35 #[.slice tp tl tc, .string kty] W fun e w' => e = .returned (.int .i64 (i : Int)) ∧ Below W.heap.size W w') := fun W hW => by
  have h9 := typeNamed_any ts (.slice tp tl tc) kty W (hT.later hW)
  rw [hq2] at h9
  exact h9
 obtain ⟨p', cap', e', hmk, hat⟩ := rd_row lenP hK
 simp only [Value.slice.injEq] at e'
 obtain ⟨rfl, rfl, rfl⟩ := e'
 obtain ⟨gk, ofk, rfl, hrd⟩ := hat (by omega)
 have HCK : Hid (∀ W, Below w.heap.size w W → W.cell? ⟨gk, ofk + j * 18 + 1, none⟩ = some (.string kty)) := fun W hW => by
  obtain ⟨us, r1, o1⟩ := hrd W hW j hj
  obtain ⟨vv, z1, o2⟩ := rdP o1
  clear o1 o2
  subst z1
  rw [← hkty]
  exact r1 1 _ rfl
 clear hrd hat
 obtain ⟨p', cap', e', hmt, hat⟩ := rd_row lenY hT
 simp only [Value.slice.injEq] at e'
 obtain ⟨rfl, rfl, rfl⟩ := e'
 obtain ⟨gt, oft, rfl, hrd⟩ := hat (by omega)
 obtain ⟨us, r1, o1⟩ := hrd w (Below.refl _ _) i hi
 obtain ⟨vf, z1, o2⟩ := rdY o1
 clear o1
 subst z1
 rw [ht2] at r1 o2
 simp only at r1 o2
 have hF2 := o2
 obtain ⟨fp2, fc2, rfl, hmf, hat2⟩ := rd_row lenF o2
 clear o2
 obtain ⟨fl2, hfl2⟩ : ∃ fl2, tf2.length = fl2 := ⟨_, rfl⟩
 rw [hfl2] at r1 hF2 hmf
 have HCT : Hid (∀ W, Below w.heap.size w W → W.cell? ⟨gt, oft + i * 2, none⟩ = some (.string tn2) ∧ W.cell? ⟨gt, oft + i * 2 + 1, none⟩ = some (.slice fp2 fl2 fc2)) := fun W hW => by
  have r2 := range_below r1 hW
  have a0 := r2 0 _ rfl
  have a1 := r2 1 _ rfl
  simp only [Nat.add_zero] at a0
  exact ⟨a0, a1⟩
 have i1 : (0 : Int) ≤ (j : Int) := by omega
 have i2 : (j : Int) < (kn.length : Int) := by omega
 have i3 : (0 : Int) ≤ (i : Int) := by omega
 have i4 : (i : Int) < (ts.length : Int) := by omega
 obtain ⟨nk, hnk⟩ : ∃ nk, kn.length = nk := ⟨_, rfl⟩
 obtain ⟨nt, hnt⟩ : ∃ nt, ts.length = nt := ⟨_, rfl⟩
 rw [hnk] at HPN i2 hmk
 rw [hnt] at HTN i4 hmt
 rw [hnk, hnt]
 have HB3 : Hid (Blk3 w (((w.alloc (.cells [.string tn, .slice fp fl fc].toArray 72)).alloc (.cells [.int .i64 3, .int .i64 ovk, .int .i64 ovi, .string ovt, .string ova, .string ofd].toArray 61)).alloc (.cells [.string tn, .slice fp fl fc].toArray 72)) [.string tn, .slice fp fl fc] [.int .i64 3, .int .i64 ovk, .int .i64 ovi, .string ovt, .string ova, .string ofd] [.string tn, .slice fp fl fc]) := Blk3.start w _ _ _
 clear hfl2 hF2 hat2
 clear hK hT hq hq2 hkty ht2 hrd r1 hnk hnt hj hi
 go_enter Tryz.func125, Tryz.ntmps125
 go_wp2_with (first
  | (go_at_call 17; refine (HI.out _).mono ?_; rintro e w' ⟨rfl, rfl⟩)
  | ((with_reducible show wpList _ _ _ (Oper.mk _ (.store _ _ _) _ _ _ _ :: _) _ _); refine wp_st (by rfl) 72 _ _ (by rfl) (w.heap.size + 2) 0 [.string tn, .slice fp fl fc] 72 (.agg #[.string tn2, .slice fp2 fl2 fc2]) [.string tn2, .slice fp2 fl2 fc2] (by rfl) (by rfl) (by rfl) HB6.out.b3 (Nat.le_of_ble_eq_true rfl) (by kernel_rfl) (by rfl) ?_; intro w7 hw_ hf_; have HB7 : Hid (Blk3 w w7 [.string tn, .slice fp fl fc] [.int .i64 3, .int .i64 ovk, .int .i64 ovi, .string ovt, .string ova, .string ofd] [.string tn2, .slice fp2 fl2 fc2]) := HB6.out.st hw_ hf_; have v0_w7 : w7.cell? ⟨w.heap.size + 1, 0, none⟩ = some (.int .i64 3) := HB7.out.c2 0; have v1_w7 : w7.cell? ⟨w.heap.size + 1, 1, none⟩ = some (.int .i64 ovk) := HB7.out.c2 1; have v2_w7 : w7.cell? ⟨w.heap.size + 1, 2, none⟩ = some (.int .i64 ovi) := HB7.out.c2 2; have v3_w7 : w7.cell? ⟨w.heap.size + 1, 3, none⟩ = some (.string ovt) := HB7.out.c2 3; have v4_w7 : w7.cell? ⟨w.heap.size + 1, 4, none⟩ = some (.string ova) := HB7.out.c2 4; have v5_w7 : w7.cell? ⟨w.heap.size + 1, 5, none⟩ = some (.string ofd) := HB7.out.c2 5; have z0 : w7.cell? ⟨w.heap.size + 2, 0, none⟩ = some (.string tn2) := HB7.out.c3 0; have z1 : w7.cell? ⟨w.heap.size + 2, 1, none⟩ = some (.slice fp2 fl2 fc2) := HB7.out.c3 1; clear hw_ hf_)
  | (go_at_call 35; refine (HTN.out _ HB5.out.bel).mono ?_; rintro e w6 ⟨rfl, hb_⟩; have HB6 : Hid _ := HB5.out.next hb_; have m0 := (HCT.out _ HB6.out.bel).1; have m1 := (HCT.out _ HB6.out.bel).2; clear hb_)
  | (go_at_call 94; refine (HPN.out _ HB3.out.bel).mono ?_; rintro e w5 ⟨rfl, hb_⟩; have HB5 : Hid _ := HB3.out.next hb_; have v0_w5 : w5.cell? ⟨w.heap.size + 1, 0, none⟩ = some (.int .i64 3) := HB5.out.c2 0; have v1_w5 : w5.cell? ⟨w.heap.size + 1, 1, none⟩ = some (.int .i64 ovk) := HB5.out.c2 1; have v2_w5 : w5.cell? ⟨w.heap.size + 1, 2, none⟩ = some (.int .i64 ovi) := HB5.out.c2 2; have v3_w5 : w5.cell? ⟨w.heap.size + 1, 3, none⟩ = some (.string ovt) := HB5.out.c2 3; have v4_w5 : w5.cell? ⟨w.heap.size + 1, 4, none⟩ = some (.string ova) := HB5.out.c2 4; have v5_w5 : w5.cell? ⟨w.heap.size + 1, 5, none⟩ = some (.string ofd) := HB5.out.c2 5; have n1 := HCK.out _ HB5.out.bel;  clear hb_))
 go_ret2
 exact ⟨rfl, HB7.out.bel⟩
set_option maxHeartbeats 4000000 in
theorem side_oth1b (ts : List Tp) (kn : List Pt) (tn : ByteArray) (tf : List Fd) (ok ovk ovi : Int) (ovt ova ofd : ByteArray) (tp kp fp : Option Addr) (tl tc kl kc fl fc : Nat) (w : World) (hok : ok = 3) (hK : Rd w (.row 65 18 (kn.map encP)) (.slice kp kl kc)) (hT : Rd w (.row 72 2 (ts.map encY)) (.slice tp tl tc)) (j : Nat) (hj : j < kn.length) (hq : ptq kn ova = (j : Int)) (kty : ByteArray) (hkty : kn[j].ty = kty) (i : Nat) (hi : i < ts.length) (hq2 : tyq ts kty = (i : Int)) (tn2 : ByteArray) (tf2 : List Fd) (ht2 : ts[i] = ⟨tn2, tf2⟩) (hv : ovk = 0) (hv2 : ¬ ovi = 0) : Calls Tryz.prog 125 #[.slice tp tl tc, .slice kp kl kc, .agg #[.string tn, .slice fp fl fc], .agg #[.int .i64 ok, .int .i64 ovk, .int .i64 ovi, .string ovt, .string ova, .string ofd]] w fun e w' => e = .returned (.tuple #[.int .i64 0, .int .i64 4]) ∧ Below w.heap.size w w' := by
 obtain rfl : ok = 3 := hok
 have HI : Hid (∀ W, Calls Tryz.prog 17 #[.int .i64 3, .int .i64 1, .int .i64 3] W fun e w' => e = .returned (.bool true) ∧ w' = W) := fun W => in_any 3 _ _ true (say_true (by decide)) W
 obtain rfl : ovk = 0 := hv
 have b1 : (ovi == 0) = false := by simpa using hv2
 have HPN : Hid (∀ W, Below w.heap.size w W → Calls Tryz.prog 94 #[.slice kp kl kc, .string ova] W fun e w' => e = .returned (.int .i64 (j : Int)) ∧ Below W.heap.size W w') := fun W hW => by
  have h9 := patternNamed_any kn (.slice kp kl kc) ova W (hK.later hW)
  rw [hq] at h9
  exact h9
 have HTN : Hid (∀ W, Below w.heap.size w W → Calls Tryz.prog 35 #[.slice tp tl tc, .string kty] W fun e w' => e = .returned (.int .i64 (i : Int)) ∧ Below W.heap.size W w') := fun W hW => by
  have h9 := typeNamed_any ts (.slice tp tl tc) kty W (hT.later hW)
  rw [hq2] at h9
  exact h9
 obtain ⟨p', cap', e', hmk, hat⟩ := rd_row lenP hK
 simp only [Value.slice.injEq] at e'
 obtain ⟨rfl, rfl, rfl⟩ := e'
 obtain ⟨gk, ofk, rfl, hrd⟩ := hat (by omega)
 have HCK : Hid (∀ W, Below w.heap.size w W → W.cell? ⟨gk, ofk + j * 18 + 1, none⟩ = some (.string kty)) := fun W hW => by
  obtain ⟨us, r1, o1⟩ := hrd W hW j hj
  obtain ⟨vv, z1, o2⟩ := rdP o1
  clear o1 o2
  subst z1
  rw [← hkty]
  exact r1 1 _ rfl
 clear hrd hat
 obtain ⟨p', cap', e', hmt, hat⟩ := rd_row lenY hT
 simp only [Value.slice.injEq] at e'
 obtain ⟨rfl, rfl, rfl⟩ := e'
 obtain ⟨gt, oft, rfl, hrd⟩ := hat (by omega)
 obtain ⟨us, r1, o1⟩ := hrd w (Below.refl _ _) i hi
 obtain ⟨vf, z1, o2⟩ := rdY o1
 clear o1
 subst z1
 rw [ht2] at r1 o2
 simp only at r1 o2
 have hF2 := o2
 obtain ⟨fp2, fc2, rfl, hmf, hat2⟩ := rd_row lenF o2
 clear o2
 obtain ⟨fl2, hfl2⟩ : ∃ fl2, tf2.length = fl2 := ⟨_, rfl⟩
 rw [hfl2] at r1 hF2 hmf
 have HCT : Hid (∀ W, Below w.heap.size w W → W.cell? ⟨gt, oft + i * 2, none⟩ = some (.string tn2) ∧ W.cell? ⟨gt, oft + i * 2 + 1, none⟩ = some (.slice fp2 fl2 fc2)) := fun W hW => by
  have r2 := range_below r1 hW
  have a0 := r2 0 _ rfl
  have a1 := r2 1 _ rfl
  simp only [Nat.add_zero] at a0
  exact ⟨a0, a1⟩
 have i1 : (0 : Int) ≤ (j : Int) := by omega
 have i2 : (j : Int) < (kn.length : Int) := by omega
 have i3 : (0 : Int) ≤ (i : Int) := by omega
 have i4 : (i : Int) < (ts.length : Int) := by omega
 obtain ⟨nk, hnk⟩ : ∃ nk, kn.length = nk := ⟨_, rfl⟩
 obtain ⟨nt, hnt⟩ : ∃ nt, ts.length = nt := ⟨_, rfl⟩
 rw [hnk] at HPN i2 hmk
 rw [hnt] at HTN i4 hmt
 rw [hnk, hnt]
 have HB3 : Hid (Blk3 w (((w.alloc (.cells [.string tn, .slice fp fl fc].toArray 72)).alloc (.cells [.int .i64 3, .int .i64 0, .int .i64 ovi, .string ovt, .string ova, .string ofd].toArray 61)).alloc (.cells [.string tn, .slice fp fl fc].toArray 72)) [.string tn, .slice fp fl fc] [.int .i64 3, .int .i64 0, .int .i64 ovi, .string ovt, .string ova, .string ofd] [.string tn, .slice fp fl fc]) := Blk3.start w _ _ _
 clear hfl2 hF2 hat2
 clear hK hT hq hq2 hkty ht2 hrd r1 hnk hnt hj hi
 go_enter Tryz.func125, Tryz.ntmps125
 go_wp2_with (first
  | (go_at_call 17; refine (HI.out _).mono ?_; rintro e w' ⟨rfl, rfl⟩)
  | ((with_reducible show wpList _ _ _ (Oper.mk _ (.store _ _ _) _ _ _ _ :: _) _ _); refine wp_st (by rfl) 72 _ _ (by rfl) (w.heap.size + 2) 0 [.string tn, .slice fp fl fc] 72 (.agg #[.string tn2, .slice fp2 fl2 fc2]) [.string tn2, .slice fp2 fl2 fc2] (by rfl) (by rfl) (by rfl) HB6.out.b3 (Nat.le_of_ble_eq_true rfl) (by kernel_rfl) (by rfl) ?_; intro w7 hw_ hf_; have HB7 : Hid (Blk3 w w7 [.string tn, .slice fp fl fc] [.int .i64 3, .int .i64 0, .int .i64 ovi, .string ovt, .string ova, .string ofd] [.string tn2, .slice fp2 fl2 fc2]) := HB6.out.st hw_ hf_; have v0_w7 : w7.cell? ⟨w.heap.size + 1, 0, none⟩ = some (.int .i64 3) := HB7.out.c2 0; have v1_w7 : w7.cell? ⟨w.heap.size + 1, 1, none⟩ = some (.int .i64 0) := HB7.out.c2 1; have v2_w7 : w7.cell? ⟨w.heap.size + 1, 2, none⟩ = some (.int .i64 ovi) := HB7.out.c2 2; have v3_w7 : w7.cell? ⟨w.heap.size + 1, 3, none⟩ = some (.string ovt) := HB7.out.c2 3; have v4_w7 : w7.cell? ⟨w.heap.size + 1, 4, none⟩ = some (.string ova) := HB7.out.c2 4; have v5_w7 : w7.cell? ⟨w.heap.size + 1, 5, none⟩ = some (.string ofd) := HB7.out.c2 5; have z0 : w7.cell? ⟨w.heap.size + 2, 0, none⟩ = some (.string tn2) := HB7.out.c3 0; have z1 : w7.cell? ⟨w.heap.size + 2, 1, none⟩ = some (.slice fp2 fl2 fc2) := HB7.out.c3 1; clear hw_ hf_)
  | (go_at_call 35; refine (HTN.out _ HB5.out.bel).mono ?_; rintro e w6 ⟨rfl, hb_⟩; have HB6 : Hid _ := HB5.out.next hb_; have m0 := (HCT.out _ HB6.out.bel).1; have m1 := (HCT.out _ HB6.out.bel).2; clear hb_)
  | (go_at_call 94; refine (HPN.out _ HB3.out.bel).mono ?_; rintro e w5 ⟨rfl, hb_⟩; have HB5 : Hid _ := HB3.out.next hb_; have v0_w5 : w5.cell? ⟨w.heap.size + 1, 0, none⟩ = some (.int .i64 3) := HB5.out.c2 0; have v1_w5 : w5.cell? ⟨w.heap.size + 1, 1, none⟩ = some (.int .i64 0) := HB5.out.c2 1; have v2_w5 : w5.cell? ⟨w.heap.size + 1, 2, none⟩ = some (.int .i64 ovi) := HB5.out.c2 2; have v3_w5 : w5.cell? ⟨w.heap.size + 1, 3, none⟩ = some (.string ovt) := HB5.out.c2 3; have v4_w5 : w5.cell? ⟨w.heap.size + 1, 4, none⟩ = some (.string ova) := HB5.out.c2 4; have v5_w5 : w5.cell? ⟨w.heap.size + 1, 5, none⟩ = some (.string ofd) := HB5.out.c2 5; have n1 := HCK.out _ HB5.out.bel;  clear hb_))
 go_ret2
 exact ⟨rfl, HB7.out.bel⟩
set_option maxHeartbeats 4000000 in
theorem side_oth1c (ts : List Tp) (kn : List Pt) (tn : ByteArray) (tf : List Fd) (ok ovk ovi : Int) (ovt ova ofd : ByteArray) (tp kp fp : Option Addr) (tl tc kl kc fl fc : Nat) (w : World) (hok : ok = 3) (hK : Rd w (.row 65 18 (kn.map encP)) (.slice kp kl kc)) (hT : Rd w (.row 72 2 (ts.map encY)) (.slice tp tl tc)) (j : Nat) (hj : j < kn.length) (hq : ptq kn ova = (j : Int)) (kty : ByteArray) (hkty : kn[j].ty = kty) (i : Nat) (hi : i < ts.length) (hq2 : tyq ts kty = (i : Int)) (tn2 : ByteArray) (tf2 : List Fd) (ht2 : ts[i] = ⟨tn2, tf2⟩) (hv : ovk = 0) (hv2 : ovi = 0) (hv3 : emp ovt = false) : Calls Tryz.prog 125 #[.slice tp tl tc, .slice kp kl kc, .agg #[.string tn, .slice fp fl fc], .agg #[.int .i64 ok, .int .i64 ovk, .int .i64 ovi, .string ovt, .string ova, .string ofd]] w fun e w' => e = .returned (.tuple #[.int .i64 0, .int .i64 4]) ∧ Below w.heap.size w w' := by
 obtain rfl : ok = 3 := hok
 have HI : Hid (∀ W, Calls Tryz.prog 17 #[.int .i64 3, .int .i64 1, .int .i64 3] W fun e w' => e = .returned (.bool true) ∧ w' = W) := fun W => in_any 3 _ _ true (say_true (by decide)) W
 obtain rfl : ovk = 0 := hv
 obtain rfl : ovi = 0 := hv2
 obtain ⟨b1, b2⟩ := emp_f hv3
 clear hv3
 have HPN : Hid (∀ W, Below w.heap.size w W → Calls Tryz.prog 94 #[.slice kp kl kc, .string ova] W fun e w' => e = .returned (.int .i64 (j : Int)) ∧ Below W.heap.size W w') := fun W hW => by
  have h9 := patternNamed_any kn (.slice kp kl kc) ova W (hK.later hW)
  rw [hq] at h9
  exact h9
 have HTN : Hid (∀ W, Below w.heap.size w W → Calls Tryz.prog 35 #[.slice tp tl tc, .string kty] W fun e w' => e = .returned (.int .i64 (i : Int)) ∧ Below W.heap.size W w') := fun W hW => by
  have h9 := typeNamed_any ts (.slice tp tl tc) kty W (hT.later hW)
  rw [hq2] at h9
  exact h9
 obtain ⟨p', cap', e', hmk, hat⟩ := rd_row lenP hK
 simp only [Value.slice.injEq] at e'
 obtain ⟨rfl, rfl, rfl⟩ := e'
 obtain ⟨gk, ofk, rfl, hrd⟩ := hat (by omega)
 have HCK : Hid (∀ W, Below w.heap.size w W → W.cell? ⟨gk, ofk + j * 18 + 1, none⟩ = some (.string kty)) := fun W hW => by
  obtain ⟨us, r1, o1⟩ := hrd W hW j hj
  obtain ⟨vv, z1, o2⟩ := rdP o1
  clear o1 o2
  subst z1
  rw [← hkty]
  exact r1 1 _ rfl
 clear hrd hat
 obtain ⟨p', cap', e', hmt, hat⟩ := rd_row lenY hT
 simp only [Value.slice.injEq] at e'
 obtain ⟨rfl, rfl, rfl⟩ := e'
 obtain ⟨gt, oft, rfl, hrd⟩ := hat (by omega)
 obtain ⟨us, r1, o1⟩ := hrd w (Below.refl _ _) i hi
 obtain ⟨vf, z1, o2⟩ := rdY o1
 clear o1
 subst z1
 rw [ht2] at r1 o2
 simp only at r1 o2
 have hF2 := o2
 obtain ⟨fp2, fc2, rfl, hmf, hat2⟩ := rd_row lenF o2
 clear o2
 obtain ⟨fl2, hfl2⟩ : ∃ fl2, tf2.length = fl2 := ⟨_, rfl⟩
 rw [hfl2] at r1 hF2 hmf
 have HCT : Hid (∀ W, Below w.heap.size w W → W.cell? ⟨gt, oft + i * 2, none⟩ = some (.string tn2) ∧ W.cell? ⟨gt, oft + i * 2 + 1, none⟩ = some (.slice fp2 fl2 fc2)) := fun W hW => by
  have r2 := range_below r1 hW
  have a0 := r2 0 _ rfl
  have a1 := r2 1 _ rfl
  simp only [Nat.add_zero] at a0
  exact ⟨a0, a1⟩
 have i1 : (0 : Int) ≤ (j : Int) := by omega
 have i2 : (j : Int) < (kn.length : Int) := by omega
 have i3 : (0 : Int) ≤ (i : Int) := by omega
 have i4 : (i : Int) < (ts.length : Int) := by omega
 obtain ⟨nk, hnk⟩ : ∃ nk, kn.length = nk := ⟨_, rfl⟩
 obtain ⟨nt, hnt⟩ : ∃ nt, ts.length = nt := ⟨_, rfl⟩
 rw [hnk] at HPN i2 hmk
 rw [hnt] at HTN i4 hmt
 rw [hnk, hnt]
 have HB3 : Hid (Blk3 w (((w.alloc (.cells [.string tn, .slice fp fl fc].toArray 72)).alloc (.cells [.int .i64 3, .int .i64 0, .int .i64 0, .string ovt, .string ova, .string ofd].toArray 61)).alloc (.cells [.string tn, .slice fp fl fc].toArray 72)) [.string tn, .slice fp fl fc] [.int .i64 3, .int .i64 0, .int .i64 0, .string ovt, .string ova, .string ofd] [.string tn, .slice fp fl fc]) := Blk3.start w _ _ _
 clear hfl2 hF2 hat2
 clear hK hT hq hq2 hkty ht2 hrd r1 hnk hnt hj hi
 go_enter Tryz.func125, Tryz.ntmps125
 go_wp2_with (first
  | (go_at_call 17; refine (HI.out _).mono ?_; rintro e w' ⟨rfl, rfl⟩)
  | ((with_reducible show wpList _ _ _ (Oper.mk _ (.store _ _ _) _ _ _ _ :: _) _ _); refine wp_st (by rfl) 72 _ _ (by rfl) (w.heap.size + 2) 0 [.string tn, .slice fp fl fc] 72 (.agg #[.string tn2, .slice fp2 fl2 fc2]) [.string tn2, .slice fp2 fl2 fc2] (by rfl) (by rfl) (by rfl) HB6.out.b3 (Nat.le_of_ble_eq_true rfl) (by kernel_rfl) (by rfl) ?_; intro w7 hw_ hf_; have HB7 : Hid (Blk3 w w7 [.string tn, .slice fp fl fc] [.int .i64 3, .int .i64 0, .int .i64 0, .string ovt, .string ova, .string ofd] [.string tn2, .slice fp2 fl2 fc2]) := HB6.out.st hw_ hf_; have v0_w7 : w7.cell? ⟨w.heap.size + 1, 0, none⟩ = some (.int .i64 3) := HB7.out.c2 0; have v1_w7 : w7.cell? ⟨w.heap.size + 1, 1, none⟩ = some (.int .i64 0) := HB7.out.c2 1; have v2_w7 : w7.cell? ⟨w.heap.size + 1, 2, none⟩ = some (.int .i64 0) := HB7.out.c2 2; have v3_w7 : w7.cell? ⟨w.heap.size + 1, 3, none⟩ = some (.string ovt) := HB7.out.c2 3; have v4_w7 : w7.cell? ⟨w.heap.size + 1, 4, none⟩ = some (.string ova) := HB7.out.c2 4; have v5_w7 : w7.cell? ⟨w.heap.size + 1, 5, none⟩ = some (.string ofd) := HB7.out.c2 5; have z0 : w7.cell? ⟨w.heap.size + 2, 0, none⟩ = some (.string tn2) := HB7.out.c3 0; have z1 : w7.cell? ⟨w.heap.size + 2, 1, none⟩ = some (.slice fp2 fl2 fc2) := HB7.out.c3 1; clear hw_ hf_)
  | (go_at_call 35; refine (HTN.out _ HB5.out.bel).mono ?_; rintro e w6 ⟨rfl, hb_⟩; have HB6 : Hid _ := HB5.out.next hb_; have m0 := (HCT.out _ HB6.out.bel).1; have m1 := (HCT.out _ HB6.out.bel).2; clear hb_)
  | (go_at_call 94; refine (HPN.out _ HB3.out.bel).mono ?_; rintro e w5 ⟨rfl, hb_⟩; have HB5 : Hid _ := HB3.out.next hb_; have v0_w5 : w5.cell? ⟨w.heap.size + 1, 0, none⟩ = some (.int .i64 3) := HB5.out.c2 0; have v1_w5 : w5.cell? ⟨w.heap.size + 1, 1, none⟩ = some (.int .i64 0) := HB5.out.c2 1; have v2_w5 : w5.cell? ⟨w.heap.size + 1, 2, none⟩ = some (.int .i64 0) := HB5.out.c2 2; have v3_w5 : w5.cell? ⟨w.heap.size + 1, 3, none⟩ = some (.string ovt) := HB5.out.c2 3; have v4_w5 : w5.cell? ⟨w.heap.size + 1, 4, none⟩ = some (.string ova) := HB5.out.c2 4; have v5_w5 : w5.cell? ⟨w.heap.size + 1, 5, none⟩ = some (.string ofd) := HB5.out.c2 5; have n1 := HCK.out _ HB5.out.bel;  clear hb_))
 go_ret2
 exact ⟨rfl, HB7.out.bel⟩
set_option maxHeartbeats 4000000 in
theorem side_oth2 (ts : List Tp) (kn : List Pt) (tn : ByteArray) (tf : List Fd) (ok ovk ovi : Int) (ovt ova ofd : ByteArray) (tp kp fp : Option Addr) (tl tc kl kc fl fc : Nat) (w : World) (hok : ok = 3) (hK : Rd w (.row 65 18 (kn.map encP)) (.slice kp kl kc)) (hT : Rd w (.row 72 2 (ts.map encY)) (.slice tp tl tc)) (j : Nat) (hj : j < kn.length) (hq : ptq kn ova = (j : Int)) (kty : ByteArray) (hkty : kn[j].ty = kty) (i : Nat) (hi : i < ts.length) (hq2 : tyq ts kty = (i : Int)) (tn2 : ByteArray) (tf2 : List Fd) (ht2 : ts[i] = ⟨tn2, tf2⟩) (hv : ovk = 0) (hv2 : ovi = 0) (ht : emp ovt = true) (hq3 : fdq tf2 ofd = -1) : Calls Tryz.prog 125 #[.slice tp tl tc, .slice kp kl kc, .agg #[.string tn, .slice fp fl fc], .agg #[.int .i64 ok, .int .i64 ovk, .int .i64 ovi, .string ovt, .string ova, .string ofd]] w fun e w' => e = .returned (.tuple #[.int .i64 0, .int .i64 6]) ∧ Below w.heap.size w w' := by
 obtain rfl : ok = 3 := hok
 have HI : Hid (∀ W, Calls Tryz.prog 17 #[.int .i64 3, .int .i64 1, .int .i64 3] W fun e w' => e = .returned (.bool true) ∧ w' = W) := fun W => in_any 3 _ _ true (say_true (by decide)) W
 obtain rfl : ovk = 0 := hv
 obtain rfl : ovi = 0 := hv2
 have e2 := emp_t ht
 clear ht
 have HPN : Hid (∀ W, Below w.heap.size w W → Calls Tryz.prog 94 #[.slice kp kl kc, .string ova] W fun e w' => e = .returned (.int .i64 (j : Int)) ∧ Below W.heap.size W w') := fun W hW => by
  have h9 := patternNamed_any kn (.slice kp kl kc) ova W (hK.later hW)
  rw [hq] at h9
  exact h9
 have HTN : Hid (∀ W, Below w.heap.size w W → Calls Tryz.prog 35 #[.slice tp tl tc, .string kty] W fun e w' => e = .returned (.int .i64 (i : Int)) ∧ Below W.heap.size W w') := fun W hW => by
  have h9 := typeNamed_any ts (.slice tp tl tc) kty W (hT.later hW)
  rw [hq2] at h9
  exact h9
 obtain ⟨p', cap', e', hmk, hat⟩ := rd_row lenP hK
 simp only [Value.slice.injEq] at e'
 obtain ⟨rfl, rfl, rfl⟩ := e'
 obtain ⟨gk, ofk, rfl, hrd⟩ := hat (by omega)
 have HCK : Hid (∀ W, Below w.heap.size w W → W.cell? ⟨gk, ofk + j * 18 + 1, none⟩ = some (.string kty)) := fun W hW => by
  obtain ⟨us, r1, o1⟩ := hrd W hW j hj
  obtain ⟨vv, z1, o2⟩ := rdP o1
  clear o1 o2
  subst z1
  rw [← hkty]
  exact r1 1 _ rfl
 clear hrd hat
 obtain ⟨p', cap', e', hmt, hat⟩ := rd_row lenY hT
 simp only [Value.slice.injEq] at e'
 obtain ⟨rfl, rfl, rfl⟩ := e'
 obtain ⟨gt, oft, rfl, hrd⟩ := hat (by omega)
 obtain ⟨us, r1, o1⟩ := hrd w (Below.refl _ _) i hi
 obtain ⟨vf, z1, o2⟩ := rdY o1
 clear o1
 subst z1
 rw [ht2] at r1 o2
 simp only at r1 o2
 have hF2 := o2
 obtain ⟨fp2, fc2, rfl, hmf, hat2⟩ := rd_row lenF o2
 clear o2
 obtain ⟨fl2, hfl2⟩ : ∃ fl2, tf2.length = fl2 := ⟨_, rfl⟩
 rw [hfl2] at r1 hF2 hmf
 have HCT : Hid (∀ W, Below w.heap.size w W → W.cell? ⟨gt, oft + i * 2, none⟩ = some (.string tn2) ∧ W.cell? ⟨gt, oft + i * 2 + 1, none⟩ = some (.slice fp2 fl2 fc2)) := fun W hW => by
  have r2 := range_below r1 hW
  have a0 := r2 0 _ rfl
  have a1 := r2 1 _ rfl
  simp only [Nat.add_zero] at a0
  exact ⟨a0, a1⟩
 have i1 : (0 : Int) ≤ (j : Int) := by omega
 have i2 : (j : Int) < (kn.length : Int) := by omega
 have i3 : (0 : Int) ≤ (i : Int) := by omega
 have i4 : (i : Int) < (ts.length : Int) := by omega
 obtain ⟨nk, hnk⟩ : ∃ nk, kn.length = nk := ⟨_, rfl⟩
 obtain ⟨nt, hnt⟩ : ∃ nt, ts.length = nt := ⟨_, rfl⟩
 rw [hnk] at HPN i2 hmk
 rw [hnt] at HTN i4 hmt
 rw [hnk, hnt]
 have HFA : Hid (∀ W, Below w.heap.size w W → Calls Tryz.prog 123 #[.agg #[.string tn2, .slice fp2 fl2 fc2], .string ofd] W fun e w' => e = .returned (.int .i64 (-1)) ∧ Below W.heap.size W w') := fun W hW => by
  have h9 := fieldAt_any tn2 tf2 (.slice fp2 fl2 fc2) ofd W (hF2.later hW)
  rw [hq3] at h9
  exact h9
 have HB3 : Hid (Blk3 w (((w.alloc (.cells [.string tn, .slice fp fl fc].toArray 72)).alloc (.cells [.int .i64 3, .int .i64 0, .int .i64 0, .string ovt, .string ova, .string ofd].toArray 61)).alloc (.cells [.string tn, .slice fp fl fc].toArray 72)) [.string tn, .slice fp fl fc] [.int .i64 3, .int .i64 0, .int .i64 0, .string ovt, .string ova, .string ofd] [.string tn, .slice fp fl fc]) := Blk3.start w _ _ _
 clear hfl2 hF2 hat2 hq3
 clear hK hT hq hq2 hkty ht2 hrd r1 hnk hnt hj hi
 go_enter Tryz.func125, Tryz.ntmps125
 go_wp2_with (first
  | (go_at_call 17; refine (HI.out _).mono ?_; rintro e w' ⟨rfl, rfl⟩)
  | (go_at_call 123; refine (HFA.out _ HB7.out.bel).mono ?_; rintro e w8 ⟨rfl, hb_⟩; have HB8 : Hid _ := HB7.out.next hb_; have z2 : w8.cell? ⟨w.heap.size + 2, 1, none⟩ = some (.slice fp2 fl2 fc2) := HB8.out.c3 1;  clear hb_)
  | ((with_reducible show wpList _ _ _ (Oper.mk _ (.store _ _ _) _ _ _ _ :: _) _ _); refine wp_st (by rfl) 72 _ _ (by rfl) (w.heap.size + 2) 0 [.string tn, .slice fp fl fc] 72 (.agg #[.string tn2, .slice fp2 fl2 fc2]) [.string tn2, .slice fp2 fl2 fc2] (by rfl) (by rfl) (by rfl) HB6.out.b3 (Nat.le_of_ble_eq_true rfl) (by kernel_rfl) (by rfl) ?_; intro w7 hw_ hf_; have HB7 : Hid (Blk3 w w7 [.string tn, .slice fp fl fc] [.int .i64 3, .int .i64 0, .int .i64 0, .string ovt, .string ova, .string ofd] [.string tn2, .slice fp2 fl2 fc2]) := HB6.out.st hw_ hf_; have v0_w7 : w7.cell? ⟨w.heap.size + 1, 0, none⟩ = some (.int .i64 3) := HB7.out.c2 0; have v1_w7 : w7.cell? ⟨w.heap.size + 1, 1, none⟩ = some (.int .i64 0) := HB7.out.c2 1; have v2_w7 : w7.cell? ⟨w.heap.size + 1, 2, none⟩ = some (.int .i64 0) := HB7.out.c2 2; have v3_w7 : w7.cell? ⟨w.heap.size + 1, 3, none⟩ = some (.string ovt) := HB7.out.c2 3; have v4_w7 : w7.cell? ⟨w.heap.size + 1, 4, none⟩ = some (.string ova) := HB7.out.c2 4; have v5_w7 : w7.cell? ⟨w.heap.size + 1, 5, none⟩ = some (.string ofd) := HB7.out.c2 5; have z0 : w7.cell? ⟨w.heap.size + 2, 0, none⟩ = some (.string tn2) := HB7.out.c3 0; have z1 : w7.cell? ⟨w.heap.size + 2, 1, none⟩ = some (.slice fp2 fl2 fc2) := HB7.out.c3 1; clear hw_ hf_)
  | (go_at_call 35; refine (HTN.out _ HB5.out.bel).mono ?_; rintro e w6 ⟨rfl, hb_⟩; have HB6 : Hid _ := HB5.out.next hb_; have m0 := (HCT.out _ HB6.out.bel).1; have m1 := (HCT.out _ HB6.out.bel).2; clear hb_)
  | (go_at_call 94; refine (HPN.out _ HB3.out.bel).mono ?_; rintro e w5 ⟨rfl, hb_⟩; have HB5 : Hid _ := HB3.out.next hb_; have v0_w5 : w5.cell? ⟨w.heap.size + 1, 0, none⟩ = some (.int .i64 3) := HB5.out.c2 0; have v1_w5 : w5.cell? ⟨w.heap.size + 1, 1, none⟩ = some (.int .i64 0) := HB5.out.c2 1; have v2_w5 : w5.cell? ⟨w.heap.size + 1, 2, none⟩ = some (.int .i64 0) := HB5.out.c2 2; have v3_w5 : w5.cell? ⟨w.heap.size + 1, 3, none⟩ = some (.string ovt) := HB5.out.c2 3; have v4_w5 : w5.cell? ⟨w.heap.size + 1, 4, none⟩ = some (.string ova) := HB5.out.c2 4; have v5_w5 : w5.cell? ⟨w.heap.size + 1, 5, none⟩ = some (.string ofd) := HB5.out.c2 5; have n1 := HCK.out _ HB5.out.bel;  clear hb_))
 go_ret2
 exact ⟨rfl, HB8.out.bel⟩
set_option maxHeartbeats 4000000 in
theorem side_oth3 (ts : List Tp) (kn : List Pt) (tn : ByteArray) (tf : List Fd) (ok ovk ovi : Int) (ovt ova ofd : ByteArray) (tp kp fp : Option Addr) (tl tc kl kc fl fc : Nat) (w : World) (hok : ok = 3) (hK : Rd w (.row 65 18 (kn.map encP)) (.slice kp kl kc)) (hT : Rd w (.row 72 2 (ts.map encY)) (.slice tp tl tc)) (j : Nat) (hj : j < kn.length) (hq : ptq kn ova = (j : Int)) (kty : ByteArray) (hkty : kn[j].ty = kty) (i : Nat) (hi : i < ts.length) (hq2 : tyq ts kty = (i : Int)) (tn2 : ByteArray) (tf2 : List Fd) (ht2 : ts[i] = ⟨tn2, tf2⟩) (hv : ovk = 0) (hv2 : ovi = 0) (ht : emp ovt = true) (jf : Nat) (hjf : jf < tf2.length) (hq3 : fdq tf2 ofd = (jf : Int)) (fk : Int) (hfk : tf2[jf].k = fk) : Calls Tryz.prog 125 #[.slice tp tl tc, .slice kp kl kc, .agg #[.string tn, .slice fp fl fc], .agg #[.int .i64 ok, .int .i64 ovk, .int .i64 ovi, .string ovt, .string ova, .string ofd]] w fun e w' => e = .returned (.tuple #[.int .i64 fk, .int .i64 0]) ∧ Below w.heap.size w w' := by
 obtain rfl : ok = 3 := hok
 have HI : Hid (∀ W, Calls Tryz.prog 17 #[.int .i64 3, .int .i64 1, .int .i64 3] W fun e w' => e = .returned (.bool true) ∧ w' = W) := fun W => in_any 3 _ _ true (say_true (by decide)) W
 obtain rfl : ovk = 0 := hv
 obtain rfl : ovi = 0 := hv2
 have e2 := emp_t ht
 clear ht
 have HPN : Hid (∀ W, Below w.heap.size w W → Calls Tryz.prog 94 #[.slice kp kl kc, .string ova] W fun e w' => e = .returned (.int .i64 (j : Int)) ∧ Below W.heap.size W w') := fun W hW => by
  have h9 := patternNamed_any kn (.slice kp kl kc) ova W (hK.later hW)
  rw [hq] at h9
  exact h9
 have HTN : Hid (∀ W, Below w.heap.size w W → Calls Tryz.prog 35 #[.slice tp tl tc, .string kty] W fun e w' => e = .returned (.int .i64 (i : Int)) ∧ Below W.heap.size W w') := fun W hW => by
  have h9 := typeNamed_any ts (.slice tp tl tc) kty W (hT.later hW)
  rw [hq2] at h9
  exact h9
 obtain ⟨p', cap', e', hmk, hat⟩ := rd_row lenP hK
 simp only [Value.slice.injEq] at e'
 obtain ⟨rfl, rfl, rfl⟩ := e'
 obtain ⟨gk, ofk, rfl, hrd⟩ := hat (by omega)
 have HCK : Hid (∀ W, Below w.heap.size w W → W.cell? ⟨gk, ofk + j * 18 + 1, none⟩ = some (.string kty)) := fun W hW => by
  obtain ⟨us, r1, o1⟩ := hrd W hW j hj
  obtain ⟨vv, z1, o2⟩ := rdP o1
  clear o1 o2
  subst z1
  rw [← hkty]
  exact r1 1 _ rfl
 clear hrd hat
 obtain ⟨p', cap', e', hmt, hat⟩ := rd_row lenY hT
 simp only [Value.slice.injEq] at e'
 obtain ⟨rfl, rfl, rfl⟩ := e'
 obtain ⟨gt, oft, rfl, hrd⟩ := hat (by omega)
 obtain ⟨us, r1, o1⟩ := hrd w (Below.refl _ _) i hi
 obtain ⟨vf, z1, o2⟩ := rdY o1
 clear o1
 subst z1
 rw [ht2] at r1 o2
 simp only at r1 o2
 have hF2 := o2
 obtain ⟨fp2, fc2, rfl, hmf, hat2⟩ := rd_row lenF o2
 clear o2
 obtain ⟨fl2, hfl2⟩ : ∃ fl2, tf2.length = fl2 := ⟨_, rfl⟩
 rw [hfl2] at r1 hF2 hmf
 have HCT : Hid (∀ W, Below w.heap.size w W → W.cell? ⟨gt, oft + i * 2, none⟩ = some (.string tn2) ∧ W.cell? ⟨gt, oft + i * 2 + 1, none⟩ = some (.slice fp2 fl2 fc2)) := fun W hW => by
  have r2 := range_below r1 hW
  have a0 := r2 0 _ rfl
  have a1 := r2 1 _ rfl
  simp only [Nat.add_zero] at a0
  exact ⟨a0, a1⟩
 have i1 : (0 : Int) ≤ (j : Int) := by omega
 have i2 : (j : Int) < (kn.length : Int) := by omega
 have i3 : (0 : Int) ≤ (i : Int) := by omega
 have i4 : (i : Int) < (ts.length : Int) := by omega
 obtain ⟨nk, hnk⟩ : ∃ nk, kn.length = nk := ⟨_, rfl⟩
 obtain ⟨nt, hnt⟩ : ∃ nt, ts.length = nt := ⟨_, rfl⟩
 rw [hnk] at HPN i2 hmk
 rw [hnt] at HTN i4 hmt
 rw [hnk, hnt]
 have HFA : Hid (∀ W, Below w.heap.size w W → Calls Tryz.prog 123 #[.agg #[.string tn2, .slice fp2 fl2 fc2], .string ofd] W fun e w' => e = .returned (.int .i64 (jf : Int)) ∧ Below W.heap.size W w') := fun W hW => by
  have h9 := fieldAt_any tn2 tf2 (.slice fp2 fl2 fc2) ofd W (hF2.later hW)
  rw [hq3] at h9
  exact h9
 obtain ⟨gf, off, rfl, hrf⟩ := hat2 (by omega)
 have HCF : Hid (∀ W, Below w.heap.size w W → W.cell? ⟨gf, off + jf * 2 + 1, none⟩ = some (.int .i64 fk)) := fun W hW => by
  obtain ⟨us, r1, o1⟩ := hrf W hW jf hjf
  have z1 := rdF o1
  clear o1
  subst z1
  rw [← hfk]
  exact r1 1 _ rfl
 have i5 : (0 : Int) ≤ (jf : Int) := by omega
 have i6 : (jf : Int) < (fl2 : Int) := by omega
 have HB3 : Hid (Blk3 w (((w.alloc (.cells [.string tn, .slice fp fl fc].toArray 72)).alloc (.cells [.int .i64 3, .int .i64 0, .int .i64 0, .string ovt, .string ova, .string ofd].toArray 61)).alloc (.cells [.string tn, .slice fp fl fc].toArray 72)) [.string tn, .slice fp fl fc] [.int .i64 3, .int .i64 0, .int .i64 0, .string ovt, .string ova, .string ofd] [.string tn, .slice fp fl fc]) := Blk3.start w _ _ _
 clear hfl2 hF2 hq3 hrf hfk hjf
 clear hK hT hq hq2 hkty ht2 hrd r1 hnk hnt hj hi
 go_enter Tryz.func125, Tryz.ntmps125
 go_wp2_with (first
  | (go_at_call 17; refine (HI.out _).mono ?_; rintro e w' ⟨rfl, rfl⟩)
  | (go_at_call 123; refine (HFA.out _ HB7.out.bel).mono ?_; rintro e w8 ⟨rfl, hb_⟩; have HB8 : Hid _ := HB7.out.next hb_; have z2 : w8.cell? ⟨w.heap.size + 2, 1, none⟩ = some (.slice (some ⟨gf, off, none⟩) fl2 fc2) := HB8.out.c3 1; have nz := HCF.out _ HB8.out.bel;  clear hb_)
  | ((with_reducible show wpList _ _ _ (Oper.mk _ (.store _ _ _) _ _ _ _ :: _) _ _); refine wp_st (by rfl) 72 _ _ (by rfl) (w.heap.size + 2) 0 [.string tn, .slice fp fl fc] 72 (.agg #[.string tn2, .slice (some ⟨gf, off, none⟩) fl2 fc2]) [.string tn2, .slice (some ⟨gf, off, none⟩) fl2 fc2] (by rfl) (by rfl) (by rfl) HB6.out.b3 (Nat.le_of_ble_eq_true rfl) (by kernel_rfl) (by rfl) ?_; intro w7 hw_ hf_; have HB7 : Hid (Blk3 w w7 [.string tn, .slice fp fl fc] [.int .i64 3, .int .i64 0, .int .i64 0, .string ovt, .string ova, .string ofd] [.string tn2, .slice (some ⟨gf, off, none⟩) fl2 fc2]) := HB6.out.st hw_ hf_; have v0_w7 : w7.cell? ⟨w.heap.size + 1, 0, none⟩ = some (.int .i64 3) := HB7.out.c2 0; have v1_w7 : w7.cell? ⟨w.heap.size + 1, 1, none⟩ = some (.int .i64 0) := HB7.out.c2 1; have v2_w7 : w7.cell? ⟨w.heap.size + 1, 2, none⟩ = some (.int .i64 0) := HB7.out.c2 2; have v3_w7 : w7.cell? ⟨w.heap.size + 1, 3, none⟩ = some (.string ovt) := HB7.out.c2 3; have v4_w7 : w7.cell? ⟨w.heap.size + 1, 4, none⟩ = some (.string ova) := HB7.out.c2 4; have v5_w7 : w7.cell? ⟨w.heap.size + 1, 5, none⟩ = some (.string ofd) := HB7.out.c2 5; have z0 : w7.cell? ⟨w.heap.size + 2, 0, none⟩ = some (.string tn2) := HB7.out.c3 0; have z1 : w7.cell? ⟨w.heap.size + 2, 1, none⟩ = some (.slice (some ⟨gf, off, none⟩) fl2 fc2) := HB7.out.c3 1; clear hw_ hf_)
  | (go_at_call 35; refine (HTN.out _ HB5.out.bel).mono ?_; rintro e w6 ⟨rfl, hb_⟩; have HB6 : Hid _ := HB5.out.next hb_; have m0 := (HCT.out _ HB6.out.bel).1; have m1 := (HCT.out _ HB6.out.bel).2; clear hb_)
  | (go_at_call 94; refine (HPN.out _ HB3.out.bel).mono ?_; rintro e w5 ⟨rfl, hb_⟩; have HB5 : Hid _ := HB3.out.next hb_; have v0_w5 : w5.cell? ⟨w.heap.size + 1, 0, none⟩ = some (.int .i64 3) := HB5.out.c2 0; have v1_w5 : w5.cell? ⟨w.heap.size + 1, 1, none⟩ = some (.int .i64 0) := HB5.out.c2 1; have v2_w5 : w5.cell? ⟨w.heap.size + 1, 2, none⟩ = some (.int .i64 0) := HB5.out.c2 2; have v3_w5 : w5.cell? ⟨w.heap.size + 1, 3, none⟩ = some (.string ovt) := HB5.out.c2 3; have v4_w5 : w5.cell? ⟨w.heap.size + 1, 4, none⟩ = some (.string ova) := HB5.out.c2 4; have v5_w5 : w5.cell? ⟨w.heap.size + 1, 5, none⟩ = some (.string ofd) := HB5.out.c2 5; have n1 := HCK.out _ HB5.out.bel;  clear hb_))
 go_ret2
 exact ⟨rfl, HB8.out.bel⟩
end Go.Proofs.YthndlfdbmljkhaaGreatDoor.Chk
