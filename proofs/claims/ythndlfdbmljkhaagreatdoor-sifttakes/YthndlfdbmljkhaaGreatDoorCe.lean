/-
  Conditions, by the reference.
-/
import Derived.Test.YthndlfdbmljkhaaGreatDoorCd
namespace Go.Proofs.YthndlfdbmljkhaaGreatDoor.Chk
open Go.ChangeShapes Go.WideShapes Go.ChangeAt Go.RowKit Go.Maps
set_option linter.unusedVariables false
set_option linter.unusedSimpArgs false
set_option maxRecDepth 20000
def eqz (o : Opd) : Bool := decide (o.k = 0) && decide (o.vk = 0) && decide (o.vi = 0) && emp o.vt && emp o.va && emp o.fd
def noc (c : Cn) : Bool := decide (c.k = 0) && decide (c.sb.length = 0) && eqz c.l && eqz c.r
set_option maxHeartbeats 8000000 in
theorem noCondition_any (c : Cn) (p : Option Addr) (cap : Nat) (w : World) : Calls Tryz.prog 121 #[cnV c.k (.slice p c.sb.length cap) c.l c.r] w fun e w' => e = .returned (.bool (noc c)) ∧ Below w.heap.size w w' := by
  obtain ⟨ck, csb, ⟨lk, lvk, lvi, lvt, lva, lfd⟩, ⟨rk, rvk, rvi, rvt, rva, rfd⟩⟩ := c
  unfold noc
  simp only
  obtain ⟨n, hn⟩ : ∃ n, csb.length = n := ⟨_, rfl⟩
  rw [hn]
  clear hn
  by_cases hk : ck = 0
  · subst hk
    by_cases h0 : n = 0
    · subst h0
      go_enter Tryz.func121, Tryz.ntmps121
      go_wp2_with fail
      all_goals
        go_ret
        exact ⟨by simp [eqz, emp, *], by go_grown⟩
    · have b0 : ((n : Int) == 0) = false := by simp; omega
      have b1 : ¬ (n : Int) = 0 := by omega
      go_enter Tryz.func121, Tryz.ntmps121
      go_wp2_with fail
      all_goals
        go_ret
        exact ⟨by simp [h0], by go_grown⟩
  · have b0 : (ck == 0) = false := by simpa using hk
    go_enter Tryz.func121, Tryz.ntmps121
    go_wp2_with fail
    all_goals
      go_ret
      exact ⟨by simp [hk], by go_grown⟩
def decO : List Dat → Option Opd
  | [.lit (.int .i64 a), .lit (.int .i64 b), .lit (.int .i64 c), .lit (.string x), .lit (.string y), .lit (.string z)] => some ⟨a, b, c, x, y, z⟩
  | _ => none
def decC : List Dat → Option Cn
  | .lit (.int .i64 k) :: .row _ _ sb :: rest => (match decO (rest.take 6), decO (rest.drop 6) with | some l, some r => some ⟨k, sb, l, r⟩ | _, _ => none)
  | _ => none
theorem decC_enc (c : Cn) : decC (encC c) = some c := rfl
/-- The parts of a condition. -/
def subs (c : Cn) : List Cn := c.sb.filterMap decC
theorem dec_all : ∀ cs : List Cn, (cs.map encC).filterMap decC = cs
  | [] => rfl
  | x :: r => by rw [List.map_cons, List.filterMap_cons, decC_enc, dec_all r]
theorem subs_of {c : Cn} {cs : List Cn} (h : c.sb = cs.map encC) : subs c = cs := by
  unfold subs
  rw [h]
  exact dec_all cs
theorem eqz_of {o : Opd} (h : eqz o = true) : o.k = 0 ∧ o.vk = 0 ∧ o.vi = 0 ∧ o.vt.toList = [] ∧ o.va.toList = [] ∧ o.fd.toList = [] := by
  simp only [eqz, Bool.and_eq_true, decide_eq_true_eq] at h
  exact ⟨h.1.1.1.1.1, h.1.1.1.1.2, h.1.1.1.2, emp_t h.1.1.2, emp_t h.1.2, emp_t h.2⟩
/-- A condition whose parts are conditions. -/
inductive Wfc : Cn → Prop
  | mk (c : Cn) (cs : List Cn) : c.sb = cs.map encC → (∀ x, x ∈ cs → Wfc x) → Wfc c
/-- Parts, one by one: how many comparisons, and what is wrong. -/
def cgo (f : Cn → Int × Int) : List Cn → Int → Int × Int
  | [], m => (m, 0)
  | x :: r, m => if (f x).2 ≠ 0 then (0, (f x).2) else if 12 < m + (f x).1 then (0, 1) else cgo f r (m + (f x).1)
/-- A condition, n deep at most. -/
def cdk (ts : List Tp) (kn : List Pt) (own : Tp) : Nat → Cn → Int × Int
  | 0, c => if 1 ≤ c.k ∧ c.k ≤ 7 then (0, 14) else (0, 3)
  | n + 1, c =>
    if ¬ (1 ≤ c.k ∧ c.k ≤ 7) then (0, 3)
    else if 3 < c.k then
      (if c.sb.length ≠ 0 then (0, 4)
       else if (sdk ts kn own c.l).2 ≠ 0 then (0, (sdk ts kn own c.l).2)
       else if (sdk ts kn own c.r).2 ≠ 0 then (0, (sdk ts kn own c.r).2)
       else if (sdk ts kn own c.l).1 ≠ (sdk ts kn own c.r).1 then (0, 13) else (1, 0))
    else if eqz c.l = false ∨ eqz c.r = false then (0, 4)
    else if (c.k = 3 ∧ c.sb.length ≠ 1) ∨ (c.k ≠ 3 ∧ c.sb.length < 2) then (0, 4)
    else cgo (cdk ts kn own n) (subs c) 0
/-- Two structs in new blocks, and what was there ahead of them. -/
structure Blk2 (w0 w : World) (us vs : List Value) (t1 t2 : TypeId) : Prop where
  bel : Below w0.heap.size w0 w
  b1 : w.heap[w0.heap.size]? = some (.cells us.toArray t1 (0, 0))
  b2 : w.heap[w0.heap.size + 1]? = some (.cells vs.toArray t2 (0, 0))
theorem Blk2.start (w : World) (us vs : List Value) (t1 t2 : TypeId) : Blk2 w ((w.alloc (.cells us.toArray t1)).alloc (.cells vs.toArray t2)) us vs t1 t2 :=
  ⟨((Below.refl _ _).alloc (Nat.le_refl _) _).alloc (by simp) _, (Below.heap_alloc _ _ _ (by simp)).trans (heap_alloc_new _ _), heap_2 _ _ _⟩
section
variable {w0 w w' : World} {us vs : List Value} {t1 t2 : TypeId}
theorem Blk2.next (h : Blk2 w0 w us vs t1 t2) (hb : Below w.heap.size w w') : Blk2 w0 w' us vs t1 t2 := ⟨below_trans h.bel hb h.bel.size, (hb.block _ (blk_lt h.b1)).trans h.b1, (hb.block _ (blk_lt h.b2)).trans h.b2⟩
theorem Blk2.drew (h : Blk2 w0 w us vs t1 t2) : Blk2 w0 w.drew us vs t1 t2 := ⟨h.bel.drew, h.b1, h.b2⟩
theorem Blk2.alloc (h : Blk2 w0 w us vs t1 t2) (o : Obj) : Blk2 w0 (w.alloc o) us vs t1 t2 := h.next ((Below.refl _ _).alloc (Nat.le_refl _) _)
theorem Blk2.c1 (h : Blk2 w0 w us vs t1 t2) (j : Nat) : w.cell? ⟨w0.heap.size, j, none⟩ = us[j]? := by rw [cell_of_blk h.b1]; simp
theorem Blk2.c2 (h : Blk2 w0 w us vs t1 t2) (j : Nat) : w.cell? ⟨w0.heap.size + 1, j, none⟩ = vs[j]? := by rw [cell_of_blk h.b2]; simp
end
theorem hid {p : Prop} (h : p) : Hid p := h
/-- What is told of a condition. -/
def CR (w : World) (r : Int × Int) (e : Ending) (w' : World) : Prop := ∃ m : Int, e = .returned (.tuple #[.int .i64 m, .int .i64 r.2]) ∧ (r.2 = 0 → m = r.1) ∧ Below w.heap.size w w'
set_option maxHeartbeats 8000000 in
theorem cond_kind (on : ByteArray) (ck : Int) (n : Nat) (lk lvk lvi rk rvk rvi : Int) (lvt lva lfd rvt rva rfd : ByteArray) (tp kp fp p : Option Addr) (tl tc kl kc fl fc cap : Nat) (dp : Int) (w : World) (hk : ¬ (1 ≤ ck ∧ ck ≤ 7)) : Calls Tryz.prog 122 #[.slice tp tl tc, .slice kp kl kc, .agg #[.string on, .slice fp fl fc], (cnV ck (.slice p n cap) ⟨lk, lvk, lvi, lvt, lva, lfd⟩ ⟨rk, rvk, rvi, rvt, rva, rfd⟩), .int .i64 dp] w fun e w' => e = .returned (.tuple #[.int .i64 0, .int .i64 3]) ∧ Below w.heap.size w w' := by
  have HI : Hid (∀ W, Calls Tryz.prog 17 #[.int .i64 ck, .int .i64 1, .int .i64 7] W fun e w' => e = .returned (.bool false) ∧ w' = W) := fun W => in_any ck _ _ false (say_false hk) W
  clear hk
  go_enter Tryz.func122, Tryz.ntmps122
  go_wp2_with (go_at_call 17; refine (HI.out _).mono ?_; rintro e w' ⟨rfl, rfl⟩)
  all_goals
    go_ret2
    exact ⟨rfl, by go_grown⟩
set_option maxHeartbeats 8000000 in
theorem cond_deep (on : ByteArray) (ck : Int) (n : Nat) (lk lvk lvi rk rvk rvi : Int) (lvt lva lfd rvt rva rfd : ByteArray) (tp kp fp p : Option Addr) (tl tc kl kc fl fc cap : Nat) (dp : Int) (w : World) (hk : 1 ≤ ck ∧ ck ≤ 7) (hd : 8 < dp) : Calls Tryz.prog 122 #[.slice tp tl tc, .slice kp kl kc, .agg #[.string on, .slice fp fl fc], (cnV ck (.slice p n cap) ⟨lk, lvk, lvi, lvt, lva, lfd⟩ ⟨rk, rvk, rvi, rvt, rva, rfd⟩), .int .i64 dp] w fun e w' => e = .returned (.tuple #[.int .i64 0, .int .i64 14]) ∧ Below w.heap.size w w' := by
  have HI : Hid (∀ W, Calls Tryz.prog 17 #[.int .i64 ck, .int .i64 1, .int .i64 7] W fun e w' => e = .returned (.bool true) ∧ w' = W) := fun W => in_any ck _ _ true (say_true hk) W
  clear hk
  go_enter Tryz.func122, Tryz.ntmps122
  go_wp2_with (go_at_call 17; refine (HI.out _).mono ?_; rintro e w' ⟨rfl, rfl⟩)
  all_goals
    go_ret2
    exact ⟨rfl, by go_grown⟩
set_option maxHeartbeats 8000000 in
theorem cond_subs (on : ByteArray) (ck : Int) (n : Nat) (lk lvk lvi rk rvk rvi : Int) (lvt lva lfd rvt rva rfd : ByteArray) (tp kp fp p : Option Addr) (tl tc kl kc fl fc cap : Nat) (dp : Int) (w : World) (hk : 1 ≤ ck ∧ ck ≤ 7) (hd : ¬ 8 < dp) (h3 : 3 < ck) (hn : n ≠ 0) : Calls Tryz.prog 122 #[.slice tp tl tc, .slice kp kl kc, .agg #[.string on, .slice fp fl fc], (cnV ck (.slice p n cap) ⟨lk, lvk, lvi, lvt, lva, lfd⟩ ⟨rk, rvk, rvi, rvt, rva, rfd⟩), .int .i64 dp] w fun e w' => e = .returned (.tuple #[.int .i64 0, .int .i64 4]) ∧ Below w.heap.size w w' := by
  have HI : Hid (∀ W, Calls Tryz.prog 17 #[.int .i64 ck, .int .i64 1, .int .i64 7] W fun e w' => e = .returned (.bool true) ∧ w' = W) := fun W => in_any ck _ _ true (say_true hk) W
  have b1 : (0 : Int) < (n : Int) := by omega
  clear hk
  go_enter Tryz.func122, Tryz.ntmps122
  go_wp2_with (go_at_call 17; refine (HI.out _).mono ?_; rintro e w' ⟨rfl, rfl⟩)
  all_goals
    go_ret2
    exact ⟨rfl, by go_grown⟩
set_option maxHeartbeats 8000000 in
theorem cond_left (am ae : Int) (on : ByteArray) (ck : Int) (n : Nat) (lk lvk lvi rk rvk rvi : Int) (lvt lva lfd rvt rva rfd : ByteArray) (tp kp fp p : Option Addr) (tl tc kl kc fl fc cap : Nat) (dp : Int) (w : World) (hk : 1 ≤ ck ∧ ck ≤ 7) (hd : ¬ 8 < dp) (h3 : 3 < ck) (hn : n = 0) (hsl : ∀ W, Below w.heap.size w W → Calls Tryz.prog 125 #[.slice tp tl tc, .slice kp kl kc, .agg #[.string on, .slice fp fl fc], (.agg #[.int .i64 lk, .int .i64 lvk, .int .i64 lvi, .string lvt, .string lva, .string lfd])] W fun e w' => e = .returned (.tuple #[.int .i64 am, .int .i64 ae]) ∧ Below W.heap.size W w') (hae : ae ≠ 0) : Calls Tryz.prog 122 #[.slice tp tl tc, .slice kp kl kc, .agg #[.string on, .slice fp fl fc], (cnV ck (.slice p n cap) ⟨lk, lvk, lvi, lvt, lva, lfd⟩ ⟨rk, rvk, rvi, rvt, rva, rfd⟩), .int .i64 dp] w fun e w' => e = .returned (.tuple #[.int .i64 0, .int .i64 ae]) ∧ Below w.heap.size w w' := by
  have HI : Hid (∀ W, Calls Tryz.prog 17 #[.int .i64 ck, .int .i64 1, .int .i64 7] W fun e w' => e = .returned (.bool true) ∧ w' = W) := fun W => in_any ck _ _ true (say_true hk) W
  have HSL := hid hsl
  obtain rfl : n = 0 := hn
  have b1 : (ae != 0) = true := by simpa using hae
  have b2 : (ae == 0) = false := by simpa using hae
  have HB2 : Hid (Blk2 w ((w.alloc (.cells [.string on, .slice fp fl fc].toArray 72)).alloc (.cells (cnC ck (.slice p 0 cap) ⟨lk, lvk, lvi, lvt, lva, lfd⟩ ⟨rk, rvk, rvi, rvt, rva, rfd⟩).toArray 63)) [.string on, .slice fp fl fc] (cnC ck (.slice p 0 cap) ⟨lk, lvk, lvi, lvt, lva, lfd⟩ ⟨rk, rvk, rvi, rvt, rva, rfd⟩) 72 63) := Blk2.start w _ _ _ _
  clear hk hsl
  go_enter Tryz.func122, Tryz.ntmps122
  go_wp2_with (first
    | (go_at_call 17; refine (HI.out _).mono ?_; rintro e w' ⟨rfl, rfl⟩)
    | (go_at_call 125; refine (HSL.out _ HB2.out.bel).mono ?_; rintro e w5 ⟨rfl, hb_⟩; have HB5 : Hid (Blk2 w w5 [.string on, .slice fp fl fc] (cnC ck (.slice p 0 cap) ⟨lk, lvk, lvi, lvt, lva, lfd⟩ ⟨rk, rvk, rvi, rvt, rva, rfd⟩) 72 63) := HB2.out.next hb_; have y0_w5 : w5.cell? ⟨w.heap.size + 1, 8, none⟩ = some (.int .i64 rk) := HB5.out.c2 8; have y1_w5 : w5.cell? ⟨w.heap.size + 1, 9, none⟩ = some (.int .i64 rvk) := HB5.out.c2 9; have y2_w5 : w5.cell? ⟨w.heap.size + 1, 10, none⟩ = some (.int .i64 rvi) := HB5.out.c2 10; have y3_w5 : w5.cell? ⟨w.heap.size + 1, 11, none⟩ = some (.string rvt) := HB5.out.c2 11; have y4_w5 : w5.cell? ⟨w.heap.size + 1, 12, none⟩ = some (.string rva) := HB5.out.c2 12; have y5_w5 : w5.cell? ⟨w.heap.size + 1, 13, none⟩ = some (.string rfd) := HB5.out.c2 13; have o0_w5 : w5.cell? ⟨w.heap.size, 0, none⟩ = some (.string on) := HB5.out.c1 0; have o1_w5 : w5.cell? ⟨w.heap.size, 1, none⟩ = some (.slice fp fl fc) := HB5.out.c1 1; clear hb_))
  all_goals
    go_ret2
    exact ⟨rfl, HB5.out.bel⟩
set_option maxHeartbeats 8000000 in
theorem cond_right (am bm be : Int) (on : ByteArray) (ck : Int) (n : Nat) (lk lvk lvi rk rvk rvi : Int) (lvt lva lfd rvt rva rfd : ByteArray) (tp kp fp p : Option Addr) (tl tc kl kc fl fc cap : Nat) (dp : Int) (w : World) (hk : 1 ≤ ck ∧ ck ≤ 7) (hd : ¬ 8 < dp) (h3 : 3 < ck) (hn : n = 0) (hsl : ∀ W, Below w.heap.size w W → Calls Tryz.prog 125 #[.slice tp tl tc, .slice kp kl kc, .agg #[.string on, .slice fp fl fc], (.agg #[.int .i64 lk, .int .i64 lvk, .int .i64 lvi, .string lvt, .string lva, .string lfd])] W fun e w' => e = .returned (.tuple #[.int .i64 am, .int .i64 0]) ∧ Below W.heap.size W w') (hsr : ∀ W, Below w.heap.size w W → Calls Tryz.prog 125 #[.slice tp tl tc, .slice kp kl kc, .agg #[.string on, .slice fp fl fc], (.agg #[.int .i64 rk, .int .i64 rvk, .int .i64 rvi, .string rvt, .string rva, .string rfd])] W fun e w' => e = .returned (.tuple #[.int .i64 bm, .int .i64 be]) ∧ Below W.heap.size W w') (hbe : be ≠ 0) : Calls Tryz.prog 122 #[.slice tp tl tc, .slice kp kl kc, .agg #[.string on, .slice fp fl fc], (cnV ck (.slice p n cap) ⟨lk, lvk, lvi, lvt, lva, lfd⟩ ⟨rk, rvk, rvi, rvt, rva, rfd⟩), .int .i64 dp] w fun e w' => e = .returned (.tuple #[.int .i64 1, .int .i64 be]) ∧ Below w.heap.size w w' := by
  have HI : Hid (∀ W, Calls Tryz.prog 17 #[.int .i64 ck, .int .i64 1, .int .i64 7] W fun e w' => e = .returned (.bool true) ∧ w' = W) := fun W => in_any ck _ _ true (say_true hk) W
  have HSL := hid hsl
  have HSR := hid hsr
  obtain rfl : n = 0 := hn
  have b1 : (be != 0) = true := by simpa using hbe
  have b2 : (be == 0) = false := by simpa using hbe
  have HB2 : Hid (Blk2 w ((w.alloc (.cells [.string on, .slice fp fl fc].toArray 72)).alloc (.cells (cnC ck (.slice p 0 cap) ⟨lk, lvk, lvi, lvt, lva, lfd⟩ ⟨rk, rvk, rvi, rvt, rva, rfd⟩).toArray 63)) [.string on, .slice fp fl fc] (cnC ck (.slice p 0 cap) ⟨lk, lvk, lvi, lvt, lva, lfd⟩ ⟨rk, rvk, rvi, rvt, rva, rfd⟩) 72 63) := Blk2.start w _ _ _ _
  clear hk hsl hsr
  go_enter Tryz.func122, Tryz.ntmps122
  go_wp2_with (first
    | (go_at_call 17; refine (HI.out _).mono ?_; rintro e w' ⟨rfl, rfl⟩)
    | (go_at_call 125; refine (HSR.out _ HB5.out.bel).mono ?_; rintro e w6 ⟨rfl, hb_⟩; have HB6 : Hid (Blk2 w w6 [.string on, .slice fp fl fc] (cnC ck (.slice p 0 cap) ⟨lk, lvk, lvi, lvt, lva, lfd⟩ ⟨rk, rvk, rvi, rvt, rva, rfd⟩) 72 63) := HB5.out.next hb_; clear hb_)
    | (go_at_call 125; refine (HSL.out _ HB2.out.bel).mono ?_; rintro e w5 ⟨rfl, hb_⟩; have HB5 : Hid (Blk2 w w5 [.string on, .slice fp fl fc] (cnC ck (.slice p 0 cap) ⟨lk, lvk, lvi, lvt, lva, lfd⟩ ⟨rk, rvk, rvi, rvt, rva, rfd⟩) 72 63) := HB2.out.next hb_; have y0_w5 : w5.cell? ⟨w.heap.size + 1, 8, none⟩ = some (.int .i64 rk) := HB5.out.c2 8; have y1_w5 : w5.cell? ⟨w.heap.size + 1, 9, none⟩ = some (.int .i64 rvk) := HB5.out.c2 9; have y2_w5 : w5.cell? ⟨w.heap.size + 1, 10, none⟩ = some (.int .i64 rvi) := HB5.out.c2 10; have y3_w5 : w5.cell? ⟨w.heap.size + 1, 11, none⟩ = some (.string rvt) := HB5.out.c2 11; have y4_w5 : w5.cell? ⟨w.heap.size + 1, 12, none⟩ = some (.string rva) := HB5.out.c2 12; have y5_w5 : w5.cell? ⟨w.heap.size + 1, 13, none⟩ = some (.string rfd) := HB5.out.c2 13; have o0_w5 : w5.cell? ⟨w.heap.size, 0, none⟩ = some (.string on) := HB5.out.c1 0; have o1_w5 : w5.cell? ⟨w.heap.size, 1, none⟩ = some (.slice fp fl fc) := HB5.out.c1 1; clear hb_))
  all_goals
    go_ret2
    exact ⟨rfl, HB6.out.bel⟩
set_option maxHeartbeats 8000000 in
theorem cond_type (am bm be : Int) (on : ByteArray) (ck : Int) (n : Nat) (lk lvk lvi rk rvk rvi : Int) (lvt lva lfd rvt rva rfd : ByteArray) (tp kp fp p : Option Addr) (tl tc kl kc fl fc cap : Nat) (dp : Int) (w : World) (hk : 1 ≤ ck ∧ ck ≤ 7) (hd : ¬ 8 < dp) (h3 : 3 < ck) (hn : n = 0) (hsl : ∀ W, Below w.heap.size w W → Calls Tryz.prog 125 #[.slice tp tl tc, .slice kp kl kc, .agg #[.string on, .slice fp fl fc], (.agg #[.int .i64 lk, .int .i64 lvk, .int .i64 lvi, .string lvt, .string lva, .string lfd])] W fun e w' => e = .returned (.tuple #[.int .i64 am, .int .i64 0]) ∧ Below W.heap.size W w') (hsr : ∀ W, Below w.heap.size w W → Calls Tryz.prog 125 #[.slice tp tl tc, .slice kp kl kc, .agg #[.string on, .slice fp fl fc], (.agg #[.int .i64 rk, .int .i64 rvk, .int .i64 rvi, .string rvt, .string rva, .string rfd])] W fun e w' => e = .returned (.tuple #[.int .i64 bm, .int .i64 be]) ∧ Below W.heap.size W w') (hbe : be = 0) (hab : am ≠ bm) : Calls Tryz.prog 122 #[.slice tp tl tc, .slice kp kl kc, .agg #[.string on, .slice fp fl fc], (cnV ck (.slice p n cap) ⟨lk, lvk, lvi, lvt, lva, lfd⟩ ⟨rk, rvk, rvi, rvt, rva, rfd⟩), .int .i64 dp] w fun e w' => e = .returned (.tuple #[.int .i64 1, .int .i64 13]) ∧ Below w.heap.size w w' := by
  have HI : Hid (∀ W, Calls Tryz.prog 17 #[.int .i64 ck, .int .i64 1, .int .i64 7] W fun e w' => e = .returned (.bool true) ∧ w' = W) := fun W => in_any ck _ _ true (say_true hk) W
  have HSL := hid hsl
  have HSR := hid hsr
  obtain rfl : n = 0 := hn
  obtain rfl : be = 0 := hbe
  have b1 : (am != bm) = true := by simpa using hab
  have b2 : (am == bm) = false := by simpa using hab
  have HB2 : Hid (Blk2 w ((w.alloc (.cells [.string on, .slice fp fl fc].toArray 72)).alloc (.cells (cnC ck (.slice p 0 cap) ⟨lk, lvk, lvi, lvt, lva, lfd⟩ ⟨rk, rvk, rvi, rvt, rva, rfd⟩).toArray 63)) [.string on, .slice fp fl fc] (cnC ck (.slice p 0 cap) ⟨lk, lvk, lvi, lvt, lva, lfd⟩ ⟨rk, rvk, rvi, rvt, rva, rfd⟩) 72 63) := Blk2.start w _ _ _ _
  clear hk hsl hsr
  go_enter Tryz.func122, Tryz.ntmps122
  go_wp2_with (first
    | (go_at_call 17; refine (HI.out _).mono ?_; rintro e w' ⟨rfl, rfl⟩)
    | (go_at_call 125; refine (HSR.out _ HB5.out.bel).mono ?_; rintro e w6 ⟨rfl, hb_⟩; have HB6 : Hid (Blk2 w w6 [.string on, .slice fp fl fc] (cnC ck (.slice p 0 cap) ⟨lk, lvk, lvi, lvt, lva, lfd⟩ ⟨rk, rvk, rvi, rvt, rva, rfd⟩) 72 63) := HB5.out.next hb_; clear hb_)
    | (go_at_call 125; refine (HSL.out _ HB2.out.bel).mono ?_; rintro e w5 ⟨rfl, hb_⟩; have HB5 : Hid (Blk2 w w5 [.string on, .slice fp fl fc] (cnC ck (.slice p 0 cap) ⟨lk, lvk, lvi, lvt, lva, lfd⟩ ⟨rk, rvk, rvi, rvt, rva, rfd⟩) 72 63) := HB2.out.next hb_; have y0_w5 : w5.cell? ⟨w.heap.size + 1, 8, none⟩ = some (.int .i64 rk) := HB5.out.c2 8; have y1_w5 : w5.cell? ⟨w.heap.size + 1, 9, none⟩ = some (.int .i64 rvk) := HB5.out.c2 9; have y2_w5 : w5.cell? ⟨w.heap.size + 1, 10, none⟩ = some (.int .i64 rvi) := HB5.out.c2 10; have y3_w5 : w5.cell? ⟨w.heap.size + 1, 11, none⟩ = some (.string rvt) := HB5.out.c2 11; have y4_w5 : w5.cell? ⟨w.heap.size + 1, 12, none⟩ = some (.string rva) := HB5.out.c2 12; have y5_w5 : w5.cell? ⟨w.heap.size + 1, 13, none⟩ = some (.string rfd) := HB5.out.c2 13; have o0_w5 : w5.cell? ⟨w.heap.size, 0, none⟩ = some (.string on) := HB5.out.c1 0; have o1_w5 : w5.cell? ⟨w.heap.size, 1, none⟩ = some (.slice fp fl fc) := HB5.out.c1 1; clear hb_))
  all_goals
    go_ret2
    exact ⟨rfl, HB6.out.bel⟩
set_option maxHeartbeats 8000000 in
theorem cond_good (am bm be : Int) (on : ByteArray) (ck : Int) (n : Nat) (lk lvk lvi rk rvk rvi : Int) (lvt lva lfd rvt rva rfd : ByteArray) (tp kp fp p : Option Addr) (tl tc kl kc fl fc cap : Nat) (dp : Int) (w : World) (hk : 1 ≤ ck ∧ ck ≤ 7) (hd : ¬ 8 < dp) (h3 : 3 < ck) (hn : n = 0) (hsl : ∀ W, Below w.heap.size w W → Calls Tryz.prog 125 #[.slice tp tl tc, .slice kp kl kc, .agg #[.string on, .slice fp fl fc], (.agg #[.int .i64 lk, .int .i64 lvk, .int .i64 lvi, .string lvt, .string lva, .string lfd])] W fun e w' => e = .returned (.tuple #[.int .i64 am, .int .i64 0]) ∧ Below W.heap.size W w') (hsr : ∀ W, Below w.heap.size w W → Calls Tryz.prog 125 #[.slice tp tl tc, .slice kp kl kc, .agg #[.string on, .slice fp fl fc], (.agg #[.int .i64 rk, .int .i64 rvk, .int .i64 rvi, .string rvt, .string rva, .string rfd])] W fun e w' => e = .returned (.tuple #[.int .i64 bm, .int .i64 be]) ∧ Below W.heap.size W w') (hbe : be = 0) (hab : am = bm) : Calls Tryz.prog 122 #[.slice tp tl tc, .slice kp kl kc, .agg #[.string on, .slice fp fl fc], (cnV ck (.slice p n cap) ⟨lk, lvk, lvi, lvt, lva, lfd⟩ ⟨rk, rvk, rvi, rvt, rva, rfd⟩), .int .i64 dp] w fun e w' => e = .returned (.tuple #[.int .i64 1, .int .i64 0]) ∧ Below w.heap.size w w' := by
  have HI : Hid (∀ W, Calls Tryz.prog 17 #[.int .i64 ck, .int .i64 1, .int .i64 7] W fun e w' => e = .returned (.bool true) ∧ w' = W) := fun W => in_any ck _ _ true (say_true hk) W
  have HSL := hid hsl
  have HSR := hid hsr
  obtain rfl : n = 0 := hn
  obtain rfl : be = 0 := hbe
  obtain rfl : am = bm := hab
  have HB2 : Hid (Blk2 w ((w.alloc (.cells [.string on, .slice fp fl fc].toArray 72)).alloc (.cells (cnC ck (.slice p 0 cap) ⟨lk, lvk, lvi, lvt, lva, lfd⟩ ⟨rk, rvk, rvi, rvt, rva, rfd⟩).toArray 63)) [.string on, .slice fp fl fc] (cnC ck (.slice p 0 cap) ⟨lk, lvk, lvi, lvt, lva, lfd⟩ ⟨rk, rvk, rvi, rvt, rva, rfd⟩) 72 63) := Blk2.start w _ _ _ _
  clear hk hsl hsr
  go_enter Tryz.func122, Tryz.ntmps122
  go_wp2_with (first
    | (go_at_call 17; refine (HI.out _).mono ?_; rintro e w' ⟨rfl, rfl⟩)
    | (go_at_call 125; refine (HSR.out _ HB5.out.bel).mono ?_; rintro e w6 ⟨rfl, hb_⟩; have HB6 : Hid (Blk2 w w6 [.string on, .slice fp fl fc] (cnC ck (.slice p 0 cap) ⟨lk, lvk, lvi, lvt, lva, lfd⟩ ⟨rk, rvk, rvi, rvt, rva, rfd⟩) 72 63) := HB5.out.next hb_; clear hb_)
    | (go_at_call 125; refine (HSL.out _ HB2.out.bel).mono ?_; rintro e w5 ⟨rfl, hb_⟩; have HB5 : Hid (Blk2 w w5 [.string on, .slice fp fl fc] (cnC ck (.slice p 0 cap) ⟨lk, lvk, lvi, lvt, lva, lfd⟩ ⟨rk, rvk, rvi, rvt, rva, rfd⟩) 72 63) := HB2.out.next hb_; have y0_w5 : w5.cell? ⟨w.heap.size + 1, 8, none⟩ = some (.int .i64 rk) := HB5.out.c2 8; have y1_w5 : w5.cell? ⟨w.heap.size + 1, 9, none⟩ = some (.int .i64 rvk) := HB5.out.c2 9; have y2_w5 : w5.cell? ⟨w.heap.size + 1, 10, none⟩ = some (.int .i64 rvi) := HB5.out.c2 10; have y3_w5 : w5.cell? ⟨w.heap.size + 1, 11, none⟩ = some (.string rvt) := HB5.out.c2 11; have y4_w5 : w5.cell? ⟨w.heap.size + 1, 12, none⟩ = some (.string rva) := HB5.out.c2 12; have y5_w5 : w5.cell? ⟨w.heap.size + 1, 13, none⟩ = some (.string rfd) := HB5.out.c2 13; have o0_w5 : w5.cell? ⟨w.heap.size, 0, none⟩ = some (.string on) := HB5.out.c1 0; have o1_w5 : w5.cell? ⟨w.heap.size, 1, none⟩ = some (.slice fp fl fc) := HB5.out.c1 1; clear hb_))
  all_goals
    go_ret2
    exact ⟨rfl, HB6.out.bel⟩
set_option maxHeartbeats 8000000 in
theorem cond_sides (on : ByteArray) (ck : Int) (n : Nat) (lk lvk lvi rk rvk rvi : Int) (lvt lva lfd rvt rva rfd : ByteArray) (tp kp fp p : Option Addr) (tl tc kl kc fl fc cap : Nat) (dp : Int) (w : World) (hk : 1 ≤ ck ∧ ck ≤ 7) (hd : ¬ 8 < dp) (h3 : ¬ 3 < ck) (hz : eqz ⟨lk, lvk, lvi, lvt, lva, lfd⟩ = false ∨ eqz ⟨rk, rvk, rvi, rvt, rva, rfd⟩ = false) : Calls Tryz.prog 122 #[.slice tp tl tc, .slice kp kl kc, .agg #[.string on, .slice fp fl fc], (cnV ck (.slice p n cap) ⟨lk, lvk, lvi, lvt, lva, lfd⟩ ⟨rk, rvk, rvi, rvt, rva, rfd⟩), .int .i64 dp] w fun e w' => e = .returned (.tuple #[.int .i64 0, .int .i64 4]) ∧ Below w.heap.size w w' := by
  have HI : Hid (∀ W, Calls Tryz.prog 17 #[.int .i64 ck, .int .i64 1, .int .i64 7] W fun e w' => e = .returned (.bool true) ∧ w' = W) := fun W => in_any ck _ _ true (say_true hk) W
  have HZ := hid hz
  clear hk hz
  go_enter Tryz.func122, Tryz.ntmps122
  go_wp2_with (go_at_call 17; refine (HI.out _).mono ?_; rintro e w' ⟨rfl, rfl⟩)
  all_goals first
    | (go_ret2; exact ⟨rfl, by go_grown⟩)
    | (exfalso; have h := HZ.out; simp [eqz, emp, *] at h; done)
set_option maxHeartbeats 8000000 in
theorem cond_count3 (on : ByteArray) (ck : Int) (n : Nat) (lk lvk lvi rk rvk rvi : Int) (lvt lva lfd rvt rva rfd : ByteArray) (tp kp fp p : Option Addr) (tl tc kl kc fl fc cap : Nat) (dp : Int) (w : World) (hk : 1 ≤ ck ∧ ck ≤ 7) (hd : ¬ 8 < dp) (h3 : ¬ 3 < ck) (hl : eqz ⟨lk, lvk, lvi, lvt, lva, lfd⟩ = true) (hr : eqz ⟨rk, rvk, rvi, rvt, rva, rfd⟩ = true) (hc : ck = 3) (hn : n ≠ 1) : Calls Tryz.prog 122 #[.slice tp tl tc, .slice kp kl kc, .agg #[.string on, .slice fp fl fc], (cnV ck (.slice p n cap) ⟨lk, lvk, lvi, lvt, lva, lfd⟩ ⟨rk, rvk, rvi, rvt, rva, rfd⟩), .int .i64 dp] w fun e w' => e = .returned (.tuple #[.int .i64 0, .int .i64 4]) ∧ Below w.heap.size w w' := by
  have HI : Hid (∀ W, Calls Tryz.prog 17 #[.int .i64 ck, .int .i64 1, .int .i64 7] W fun e w' => e = .returned (.bool true) ∧ w' = W) := fun W => in_any ck _ _ true (say_true hk) W
  obtain rfl : ck = 3 := hc
  have b1 : ((n : Int) != 1) = true := by simp; omega
  have b2 : ((n : Int) == 1) = false := by simp; omega
  have b3 : ¬ (n : Int) = 1 := by omega
  obtain ⟨z1, z2, z3, z4, z5, z6⟩ := eqz_of hl
  obtain ⟨z7, z8, z9, y1, y2, y3⟩ := eqz_of hr
  simp only at z1 z2 z3 z4 z5 z6 z7 z8 z9 y1 y2 y3
  subst z1 z2 z3 z7 z8 z9
  clear hl hr
  clear hk
  go_enter Tryz.func122, Tryz.ntmps122
  go_wp2_with (go_at_call 17; refine (HI.out _).mono ?_; rintro e w' ⟨rfl, rfl⟩)
  all_goals
    go_ret2
    exact ⟨rfl, by go_grown⟩
set_option maxHeartbeats 8000000 in
theorem cond_count2 (on : ByteArray) (ck : Int) (n : Nat) (lk lvk lvi rk rvk rvi : Int) (lvt lva lfd rvt rva rfd : ByteArray) (tp kp fp p : Option Addr) (tl tc kl kc fl fc cap : Nat) (dp : Int) (w : World) (hk : 1 ≤ ck ∧ ck ≤ 7) (hd : ¬ 8 < dp) (h3 : ¬ 3 < ck) (hl : eqz ⟨lk, lvk, lvi, lvt, lva, lfd⟩ = true) (hr : eqz ⟨rk, rvk, rvi, rvt, rva, rfd⟩ = true) (hc : ck ≠ 3) (hn : n < 2) : Calls Tryz.prog 122 #[.slice tp tl tc, .slice kp kl kc, .agg #[.string on, .slice fp fl fc], (cnV ck (.slice p n cap) ⟨lk, lvk, lvi, lvt, lva, lfd⟩ ⟨rk, rvk, rvi, rvt, rva, rfd⟩), .int .i64 dp] w fun e w' => e = .returned (.tuple #[.int .i64 0, .int .i64 4]) ∧ Below w.heap.size w w' := by
  have HI : Hid (∀ W, Calls Tryz.prog 17 #[.int .i64 ck, .int .i64 1, .int .i64 7] W fun e w' => e = .returned (.bool true) ∧ w' = W) := fun W => in_any ck _ _ true (say_true hk) W
  have b0 : (ck == 3) = false := by simpa using hc
  have b9 : (ck != 3) = true := by simpa using hc
  have b1 : (n : Int) < 2 := by omega
  obtain ⟨z1, z2, z3, z4, z5, z6⟩ := eqz_of hl
  obtain ⟨z7, z8, z9, y1, y2, y3⟩ := eqz_of hr
  simp only at z1 z2 z3 z4 z5 z6 z7 z8 z9 y1 y2 y3
  subst z1 z2 z3 z7 z8 z9
  clear hl hr
  clear hk
  go_enter Tryz.func122, Tryz.ntmps122
  go_wp2_with (go_at_call 17; refine (HI.out _).mono ?_; rintro e w' ⟨rfl, rfl⟩)
  all_goals
    go_ret2
    exact ⟨rfl, by go_grown⟩
end Go.Proofs.YthndlfdbmljkhaaGreatDoor.Chk
