/-
  Options, and fields that are summed up, by the reference. Conditions, by the reference. Does a rule speak of a type? By the reference. What comes of what, by the reference. A type, by the reference. The first elements of a row that is only read.
-/
import Derived.Test.YthndlfdbmljkhaaGreatDoorCb
namespace Go.Proofs.YthndlfdbmljkhaaGreatDoor.Chk
open Go.ChangeShapes Go.WideShapes Go.ChangeAt Go.RowKit Go.Maps
set_option linter.unusedVariables false
set_option linter.unusedSimpArgs false
set_option maxRecDepth 20000
theorem hid' {p : Prop} (h : p) : Hid p := h
/-- What is wrong with an option. -/
def ock (r lo hi : Int) : Int := if ¬ (1 ≤ r ∧ r ≤ 13) then 3 else if ¬ (0 ≤ lo ∧ lo ≤ 1073741824) ∨ ¬ (-1 ≤ hi ∧ hi ≤ 1073741824) then 2 else if hi ≠ -1 ∧ hi < lo then 11 else 0
set_option maxHeartbeats 4000000 in
theorem optionFault_any (r lo hi : Int) (w : World) : Calls Tryz.prog 124 #[.agg #[.int .i64 r, .int .i64 lo, .int .i64 hi]] w fun e w' => e = .returned (.int .i64 (ock r lo hi)) ∧ Below w.heap.size w w' := by
  unfold ock
  by_cases h1 : 1 ≤ r ∧ r ≤ 13
  · have H1 : Hid (∀ W, Calls Tryz.prog 17 #[.int .i64 r, .int .i64 1, .int .i64 13] W fun e w' => e = .returned (.bool true) ∧ w' = W) := fun W => in_any r _ _ true (say_true h1) W
    rw [if_neg (fun c => c h1)]
    by_cases h2 : 0 ≤ lo ∧ lo ≤ 1073741824
    · have H2 : Hid (∀ W, Calls Tryz.prog 17 #[.int .i64 lo, .int .i64 0, .int .i64 1073741824] W fun e w' => e = .returned (.bool true) ∧ w' = W) := fun W => in_any lo _ _ true (say_true h2) W
      by_cases h3 : -1 ≤ hi ∧ hi ≤ 1073741824
      · have H3 : Hid (∀ W, Calls Tryz.prog 17 #[.int .i64 hi, .int .i64 (-1), .int .i64 1073741824] W fun e w' => e = .returned (.bool true) ∧ w' = W) := fun W => in_any hi _ _ true (say_true h3) W
        rw [if_neg (by rintro (c | c); exact c h2; exact c h3)]
        by_cases h4 : hi = -1
        · subst h4
          rw [if_neg (fun c => c.1 rfl)]
          clear h1 h2 h3
          go_enter Tryz.func124, Tryz.ntmps124
          go_wp2_with (first
            | (go_at_call_of 17 (Value.int .i64 13); refine (H1.out _).mono ?_; rintro e w' ⟨rfl, rfl⟩)
            | (go_at_call_of 17 (Value.int .i64 0); refine (H2.out _).mono ?_; rintro e w' ⟨rfl, rfl⟩)
            | (go_at_call 17; refine (H3.out _).mono ?_; rintro e w' ⟨rfl, rfl⟩))
          go_ret
          exact ⟨rfl, by go_grown⟩
        · have b1 : (hi == -1) = false := by simpa using h4
          have b2 : (hi != -1) = true := by simpa using h4
          by_cases h5 : hi < lo
          · rw [if_pos ⟨h4, h5⟩]
            clear h1 h2 h3
            go_enter Tryz.func124, Tryz.ntmps124
            go_wp2_with (first
              | (go_at_call_of 17 (Value.int .i64 13); refine (H1.out _).mono ?_; rintro e w' ⟨rfl, rfl⟩)
              | (go_at_call_of 17 (Value.int .i64 0); refine (H2.out _).mono ?_; rintro e w' ⟨rfl, rfl⟩)
              | (go_at_call 17; refine (H3.out _).mono ?_; rintro e w' ⟨rfl, rfl⟩))
            go_ret
            exact ⟨rfl, by go_grown⟩
          · rw [if_neg (fun c => h5 c.2)]
            clear h1 h2 h3
            go_enter Tryz.func124, Tryz.ntmps124
            go_wp2_with (first
              | (go_at_call_of 17 (Value.int .i64 13); refine (H1.out _).mono ?_; rintro e w' ⟨rfl, rfl⟩)
              | (go_at_call_of 17 (Value.int .i64 0); refine (H2.out _).mono ?_; rintro e w' ⟨rfl, rfl⟩)
              | (go_at_call 17; refine (H3.out _).mono ?_; rintro e w' ⟨rfl, rfl⟩))
            go_ret
            exact ⟨rfl, by go_grown⟩
      · have H3 : Hid (∀ W, Calls Tryz.prog 17 #[.int .i64 hi, .int .i64 (-1), .int .i64 1073741824] W fun e w' => e = .returned (.bool false) ∧ w' = W) := fun W => in_any hi _ _ false (say_false h3) W
        rw [if_pos (.inr h3)]
        clear h1 h2 h3
        go_enter Tryz.func124, Tryz.ntmps124
        go_wp2_with (first
          | (go_at_call_of 17 (Value.int .i64 13); refine (H1.out _).mono ?_; rintro e w' ⟨rfl, rfl⟩)
          | (go_at_call_of 17 (Value.int .i64 0); refine (H2.out _).mono ?_; rintro e w' ⟨rfl, rfl⟩)
          | (go_at_call 17; refine (H3.out _).mono ?_; rintro e w' ⟨rfl, rfl⟩))
        go_ret
        exact ⟨rfl, by go_grown⟩
    · have H2 : Hid (∀ W, Calls Tryz.prog 17 #[.int .i64 lo, .int .i64 0, .int .i64 1073741824] W fun e w' => e = .returned (.bool false) ∧ w' = W) := fun W => in_any lo _ _ false (say_false h2) W
      rw [if_pos (.inl h2)]
      clear h1 h2
      go_enter Tryz.func124, Tryz.ntmps124
      go_wp2_with (first
        | (go_at_call_of 17 (Value.int .i64 13); refine (H1.out _).mono ?_; rintro e w' ⟨rfl, rfl⟩)
        | (go_at_call_of 17 (Value.int .i64 0); refine (H2.out _).mono ?_; rintro e w' ⟨rfl, rfl⟩))
      go_ret
      exact ⟨rfl, by go_grown⟩
  · have H1 : Hid (∀ W, Calls Tryz.prog 17 #[.int .i64 r, .int .i64 1, .int .i64 13] W fun e w' => e = .returned (.bool false) ∧ w' = W) := fun W => in_any r _ _ false (say_false h1) W
    rw [if_pos h1]
    clear h1
    go_enter Tryz.func124, Tryz.ntmps124
    go_wp2_with (first
      | (go_at_call_of 17 (Value.int .i64 13); refine (H1.out _).mono ?_; rintro e w' ⟨rfl, rfl⟩))
    go_ret
    exact ⟨rfl, by go_grown⟩
/-- What is wrong with a field that is to be summed up. -/
def sck (fs : List Fd) (n : ByteArray) : Int := if (fck fs n).2 ≠ 0 then 6 else if (fck fs n).1 = 1 then 0 else 13
structure BlkT (w0 w : World) (us : List Value) (t : TypeId) : Prop where
  bel : Below w0.heap.size w0 w
  b1 : w.heap[w0.heap.size]? = some (.cells us.toArray t (0, 0))
theorem BlkT.start (w : World) (us : List Value) (t : TypeId) : BlkT w (w.alloc (.cells us.toArray t)) us t := ⟨(Below.refl _ _).alloc (Nat.le_refl _) _, heap_alloc_new _ _⟩
theorem BlkT.next {w0 w w' : World} {us : List Value} {t : TypeId} (h : BlkT w0 w us t) (hb : Below w.heap.size w w') : BlkT w0 w' us t := ⟨below_trans h.bel hb h.bel.size, (hb.block _ (blk_lt h.b1)).trans h.b1⟩
theorem BlkT.c {w0 w : World} {us : List Value} {t : TypeId} (h : BlkT w0 w us t) (j : Nat) : w.cell? ⟨w0.heap.size, j, none⟩ = us[j]? := by rw [cell_of_blk h.b1]; simp
set_option maxHeartbeats 4000000 in
theorem sumFault_any (tn : ByteArray) (tf : List Fd) (v : Value) (nm : ByteArray) (w : World) (hF : Rd w (.row 93 2 (tf.map encF)) v) : Calls Tryz.prog 74 #[.agg #[.string tn, v], .string nm] w fun e w' => e = .returned (.int .i64 (sck tf nm)) ∧ Below w.heap.size w w' := by
  have hfa := fun W (hW : Below w.heap.size w W) => fieldAt_any tn tf v nm W (hF.later hW)
  obtain ⟨p, cap, rfl, hmx, hat⟩ := rd_row lenF hF
  obtain ⟨n, hn⟩ : ∃ n, tf.length = n := ⟨_, rfl⟩
  have HN := hid' hn
  have HAT : Hid (At encF 2 w p tf) := hat
  rw [hn] at hfa hmx ⊢
  have HB1 : Hid (BlkT w (w.alloc (.cells [.string tn, .slice p n cap].toArray 72)) [.string tn, .slice p n cap] 72) := BlkT.start w _ _
  unfold sck
  rcases ixq_lt (q := fun f : Fd => seq f.n nm) tf 0 with c | ⟨j, hj, c, hqq⟩
  · have c0 : fdq tf nm = -1 := c
    rw [fck_none c0, if_pos (by decide)]
    rw [c0] at hfa
    have HFA := hid' hfa
    clear hF hat hn c c0 hfa
    go_enter Tryz.func74, Tryz.ntmps74
    go_wp2_with (first
      | (go_at_call 123; refine (HFA.out _ HB1.out.bel).mono ?_; rintro e w5 ⟨rfl, hb_⟩; have HB5 : Hid (BlkT w w5 [.string tn, .slice p n cap] 72) := HB1.out.next hb_; clear hb_))
    go_ret
    exact ⟨rfl, HB5.out.bel⟩
  · have c0 : fdq tf nm = (j : Int) := by show ixq _ _ _ = _; rw [c]; simp
    rw [fck_some hj c0, if_neg (by simp)]
    rw [c0] at hfa
    have HFA := hid' hfa
    obtain ⟨g, off, rfl, hrd⟩ := hat (by omega)
    obtain ⟨fk, hfk⟩ : ∃ fk, tf[j].k = fk := ⟨_, rfl⟩
    have HCF : Hid (∀ W, Below w.heap.size w W → W.cell? ⟨g, off + j * 2 + 1, none⟩ = some (.int .i64 fk)) := fun W hW => by
      obtain ⟨us, r1, o1⟩ := hrd W hW j hj
      have z1 := rdF o1
      clear o1
      subst z1
      rw [← hfk]
      exact r1 1 _ rfl
    have i1 : (0 : Int) ≤ (j : Int) := by omega
    have i2 : (j : Int) < (n : Int) := by omega
    simp only [hfk]
    clear hqq hF hn c c0 hfa hrd hfk hj HAT
    by_cases hk : fk = 1
    · rw [if_pos hk]
      subst hk
      go_enter Tryz.func74, Tryz.ntmps74
      go_wp2_with (first
        | (go_at_call 123; refine (HFA.out _ HB1.out.bel).mono ?_; rintro e w5 ⟨rfl, hb_⟩; have HB5 : Hid (BlkT w w5 [.string tn, .slice (some ⟨g, off, none⟩) n cap] 72) := HB1.out.next hb_; have z1 : w5.cell? ⟨w.heap.size, 1, none⟩ = some (.slice (some ⟨g, off, none⟩) n cap) := HB5.out.c 1; have z2 := HCF.out _ HB5.out.bel; clear hb_))
      go_ret
      exact ⟨rfl, HB5.out.bel⟩
    · rw [if_neg hk]
      have b1 : (fk != 1) = true := by simpa using hk
      have b2 : (fk == 1) = false := by simpa using hk
      go_enter Tryz.func74, Tryz.ntmps74
      go_wp2_with (first
        | (go_at_call 123; refine (HFA.out _ HB1.out.bel).mono ?_; rintro e w5 ⟨rfl, hb_⟩; have HB5 : Hid (BlkT w w5 [.string tn, .slice (some ⟨g, off, none⟩) n cap] 72) := HB1.out.next hb_; have z1 : w5.cell? ⟨w.heap.size, 1, none⟩ = some (.slice (some ⟨g, off, none⟩) n cap) := HB5.out.c 1; have z2 := HCF.out _ HB5.out.bel; clear hb_))
      go_ret
      exact ⟨rfl, HB5.out.bel⟩
end Go.Proofs.YthndlfdbmljkhaaGreatDoor.Chk
namespace Go.Proofs.YthndlfdbmljkhaaGreatDoor.Chk
open Go.ChangeShapes Go.WideShapes Go.ChangeAt Go.RowKit Go.Maps
set_option linter.unusedVariables false
set_option linter.unusedSimpArgs false
set_option maxRecDepth 20000
def eqz (o : Opd) : Bool := decide (o.k = 0) && decide (o.vk = 0) && decide (o.vi = 0) && emp o.vt && emp o.va && emp o.fd
def noc (c : Cn) : Bool := decide (c.k = 0) && decide (c.sb.length = 0) && eqz c.l && eqz c.r
set_option maxHeartbeats 8000000 in
theorem noCondition_any (c : Cn) (p : Option Addr) (cap : Nat) (w : World) : Calls Tryz.prog 121 #[cnV c.k (.slice p c.sb.length cap) c.l c.r] w fun e w' => e = .returned (.bool (noc c)) ∧ Below w.heap.size w w' := by
  obtain ⟨ck, csb, ⟨lk, lvk, lvi, lvt, lva, lfd⟩, ⟨rk, rvk, rvi, rvt, rva, rfd⟩⟩ := c
  unfold noc
  simp only
  obtain ⟨n, hn⟩ : ∃ n, csb.length = n := ⟨_, rfl⟩
  rw [hn]
  clear hn
  by_cases hk : ck = 0
  · subst hk
    by_cases h0 : n = 0
    · subst h0
      go_enter Tryz.func121, Tryz.ntmps121
      go_wp2_with fail
      all_goals
        go_ret
        exact ⟨by simp [eqz, emp, *], by go_grown⟩
    · have b0 : ((n : Int) == 0) = false := by simp; omega
      have b1 : ¬ (n : Int) = 0 := by omega
      go_enter Tryz.func121, Tryz.ntmps121
      go_wp2_with fail
      all_goals
        go_ret
        exact ⟨by simp [h0], by go_grown⟩
  · have b0 : (ck == 0) = false := by simpa using hk
    go_enter Tryz.func121, Tryz.ntmps121
    go_wp2_with fail
    all_goals
      go_ret
      exact ⟨by simp [hk], by go_grown⟩
def decO : List Dat → Option Opd
  | [.lit (.int .i64 a), .lit (.int .i64 b), .lit (.int .i64 c), .lit (.string x), .lit (.string y), .lit (.string z)] => some ⟨a, b, c, x, y, z⟩
  | _ => none
def decC : List Dat → Option Cn
  | .lit (.int .i64 k) :: .row _ _ sb :: rest => (match decO (rest.take 6), decO (rest.drop 6) with | some l, some r => some ⟨k, sb, l, r⟩ | _, _ => none)
  | _ => none
theorem decC_enc (c : Cn) : decC (encC c) = some c := rfl
/-- The parts of a condition. -/
def subs (c : Cn) : List Cn := c.sb.filterMap decC
theorem dec_all : ∀ cs : List Cn, (cs.map encC).filterMap decC = cs
  | [] => rfl
  | x :: r => by rw [List.map_cons, List.filterMap_cons, decC_enc, dec_all r]
theorem subs_of {c : Cn} {cs : List Cn} (h : c.sb = cs.map encC) : subs c = cs := by
  unfold subs
  rw [h]
  exact dec_all cs
theorem eqz_of {o : Opd} (h : eqz o = true) : o.k = 0 ∧ o.vk = 0 ∧ o.vi = 0 ∧ o.vt.toList = [] ∧ o.va.toList = [] ∧ o.fd.toList = [] := by
  simp only [eqz, Bool.and_eq_true, decide_eq_true_eq] at h
  exact ⟨h.1.1.1.1.1, h.1.1.1.1.2, h.1.1.1.2, emp_t h.1.1.2, emp_t h.1.2, emp_t h.2⟩
/-- A condition whose parts are conditions. -/
inductive Wfc : Cn → Prop
  | mk (c : Cn) (cs : List Cn) : c.sb = cs.map encC → (∀ x, x ∈ cs → Wfc x) → Wfc c
/-- Parts, one by one: how many comparisons, and what is wrong. -/
def cgo (f : Cn → Int × Int) : List Cn → Int → Int × Int
  | [], m => (m, 0)
  | x :: r, m => if (f x).2 ≠ 0 then (0, (f x).2) else if 12 < m + (f x).1 then (0, 1) else cgo f r (m + (f x).1)
/-- A condition, n deep at most. -/
def cdk (ts : List Tp) (kn : List Pt) (own : Tp) : Nat → Cn → Int × Int
  | 0, c => if 1 ≤ c.k ∧ c.k ≤ 7 then (0, 14) else (0, 3)
  | n + 1, c =>
    if ¬ (1 ≤ c.k ∧ c.k ≤ 7) then (0, 3)
    else if 3 < c.k then
      (if c.sb.length ≠ 0 then (0, 4)
       else if (sdk ts kn own c.l).2 ≠ 0 then (0, (sdk ts kn own c.l).2)
       else if (sdk ts kn own c.r).2 ≠ 0 then (0, (sdk ts kn own c.r).2)
       else if (sdk ts kn own c.l).1 ≠ (sdk ts kn own c.r).1 then (0, 13) else (1, 0))
    else if eqz c.l = false ∨ eqz c.r = false then (0, 4)
    else if (c.k = 3 ∧ c.sb.length ≠ 1) ∨ (c.k ≠ 3 ∧ c.sb.length < 2) then (0, 4)
    else cgo (cdk ts kn own n) (subs c) 0
/-- Two structs in new blocks, and what was there ahead of them. -/
structure Blk2 (w0 w : World) (us vs : List Value) (t1 t2 : TypeId) : Prop where
  bel : Below w0.heap.size w0 w
  b1 : w.heap[w0.heap.size]? = some (.cells us.toArray t1 (0, 0))
  b2 : w.heap[w0.heap.size + 1]? = some (.cells vs.toArray t2 (0, 0))
theorem Blk2.start (w : World) (us vs : List Value) (t1 t2 : TypeId) : Blk2 w ((w.alloc (.cells us.toArray t1)).alloc (.cells vs.toArray t2)) us vs t1 t2 :=
  ⟨((Below.refl _ _).alloc (Nat.le_refl _) _).alloc (by simp) _, (Below.heap_alloc _ _ _ (by simp)).trans (heap_alloc_new _ _), heap_2 _ _ _⟩
section
variable {w0 w w' : World} {us vs : List Value} {t1 t2 : TypeId}
theorem Blk2.next (h : Blk2 w0 w us vs t1 t2) (hb : Below w.heap.size w w') : Blk2 w0 w' us vs t1 t2 := ⟨below_trans h.bel hb h.bel.size, (hb.block _ (blk_lt h.b1)).trans h.b1, (hb.block _ (blk_lt h.b2)).trans h.b2⟩
theorem Blk2.drew (h : Blk2 w0 w us vs t1 t2) : Blk2 w0 w.drew us vs t1 t2 := ⟨h.bel.drew, h.b1, h.b2⟩
theorem Blk2.alloc (h : Blk2 w0 w us vs t1 t2) (o : Obj) : Blk2 w0 (w.alloc o) us vs t1 t2 := h.next ((Below.refl _ _).alloc (Nat.le_refl _) _)
theorem Blk2.c1 (h : Blk2 w0 w us vs t1 t2) (j : Nat) : w.cell? ⟨w0.heap.size, j, none⟩ = us[j]? := by rw [cell_of_blk h.b1]; simp
theorem Blk2.c2 (h : Blk2 w0 w us vs t1 t2) (j : Nat) : w.cell? ⟨w0.heap.size + 1, j, none⟩ = vs[j]? := by rw [cell_of_blk h.b2]; simp
end
theorem hid {p : Prop} (h : p) : Hid p := h
/-- What is told of a condition. -/
def CR (w : World) (r : Int × Int) (e : Ending) (w' : World) : Prop := ∃ m : Int, e = .returned (.tuple #[.int .i64 m, .int .i64 r.2]) ∧ (r.2 = 0 → m = r.1) ∧ Below w.heap.size w w'
set_option maxHeartbeats 8000000 in
theorem cond_kind (on : ByteArray) (ck : Int) (n : Nat) (lk lvk lvi rk rvk rvi : Int) (lvt lva lfd rvt rva rfd : ByteArray) (tp kp fp p : Option Addr) (tl tc kl kc fl fc cap : Nat) (dp : Int) (w : World) (hk : ¬ (1 ≤ ck ∧ ck ≤ 7)) : Calls Tryz.prog 122 #[.slice tp tl tc, .slice kp kl kc, .agg #[.string on, .slice fp fl fc], (cnV ck (.slice p n cap) ⟨lk, lvk, lvi, lvt, lva, lfd⟩ ⟨rk, rvk, rvi, rvt, rva, rfd⟩), .int .i64 dp] w fun e w' => e = .returned (.tuple #[.int .i64 0, .int .i64 3]) ∧ Below w.heap.size w w' := by
  have HI : Hid (∀ W, Calls Tryz.prog 17 #[.int .i64 ck, .int .i64 1, .int .i64 7] W fun e w' => e = .returned (.bool false) ∧ w' = W) := fun W => in_any ck _ _ false (say_false hk) W
  clear hk
  go_enter Tryz.func122, Tryz.ntmps122
  go_wp2_with (go_at_call 17; refine (HI.out _).mono ?_; rintro e w' ⟨rfl, rfl⟩)
  all_goals
    go_ret2
    exact ⟨rfl, by go_grown⟩
set_option maxHeartbeats 8000000 in
theorem cond_deep (on : ByteArray) (ck : Int) (n : Nat) (lk lvk lvi rk rvk rvi : Int) (lvt lva lfd rvt rva rfd : ByteArray) (tp kp fp p : Option Addr) (tl tc kl kc fl fc cap : Nat) (dp : Int) (w : World) (hk : 1 ≤ ck ∧ ck ≤ 7) (hd : 8 < dp) : Calls Tryz.prog 122 #[.slice tp tl tc, .slice kp kl kc, .agg #[.string on, .slice fp fl fc], (cnV ck (.slice p n cap) ⟨lk, lvk, lvi, lvt, lva, lfd⟩ ⟨rk, rvk, rvi, rvt, rva, rfd⟩), .int .i64 dp] w fun e w' => e = .returned (.tuple #[.int .i64 0, .int .i64 14]) ∧ Below w.heap.size w w' := by
  have HI : Hid (∀ W, Calls Tryz.prog 17 #[.int .i64 ck, .int .i64 1, .int .i64 7] W fun e w' => e = .returned (.bool true) ∧ w' = W) := fun W => in_any ck _ _ true (say_true hk) W
  clear hk
  go_enter Tryz.func122, Tryz.ntmps122
  go_wp2_with (go_at_call 17; refine (HI.out _).mono ?_; rintro e w' ⟨rfl, rfl⟩)
  all_goals
    go_ret2
    exact ⟨rfl, by go_grown⟩
set_option maxHeartbeats 8000000 in
theorem cond_subs (on : ByteArray) (ck : Int) (n : Nat) (lk lvk lvi rk rvk rvi : Int) (lvt lva lfd rvt rva rfd : ByteArray) (tp kp fp p : Option Addr) (tl tc kl kc fl fc cap : Nat) (dp : Int) (w : World) (hk : 1 ≤ ck ∧ ck ≤ 7) (hd : ¬ 8 < dp) (h3 : 3 < ck) (hn : n ≠ 0) : Calls Tryz.prog 122 #[.slice tp tl tc, .slice kp kl kc, .agg #[.string on, .slice fp fl fc], (cnV ck (.slice p n cap) ⟨lk, lvk, lvi, lvt, lva, lfd⟩ ⟨rk, rvk, rvi, rvt, rva, rfd⟩), .int .i64 dp] w fun e w' => e = .returned (.tuple #[.int .i64 0, .int .i64 4]) ∧ Below w.heap.size w w' := by
  have HI : Hid (∀ W, Calls Tryz.prog 17 #[.int .i64 ck, .int .i64 1, .int .i64 7] W fun e w' => e = .returned (.bool true) ∧ w' = W) := fun W => in_any ck _ _ true (say_true hk) W
  have b1 : (0 : Int) < (n : Int) := by omega
  clear hk
  go_enter Tryz.func122, Tryz.ntmps122
  go_wp2_with (go_at_call 17; refine (HI.out _).mono ?_; rintro e w' ⟨rfl, rfl⟩)
  all_goals
    go_ret2
    exact ⟨rfl, by go_grown⟩
set_option maxHeartbeats 8000000 in
theorem cond_left (am ae : Int) (on : ByteArray) (ck : Int) (n : Nat) (lk lvk lvi rk rvk rvi : Int) (lvt lva lfd rvt rva rfd : ByteArray) (tp kp fp p : Option Addr) (tl tc kl kc fl fc cap : Nat) (dp : Int) (w : World) (hk : 1 ≤ ck ∧ ck ≤ 7) (hd : ¬ 8 < dp) (h3 : 3 < ck) (hn : n = 0) (hsl : ∀ W, Below w.heap.size w W → Calls Tryz.prog 125 #[.slice tp tl tc, .slice kp kl kc, .agg #[.string on, .slice fp fl fc], (.agg #[.int .i64 lk, .int .i64 lvk, .int .i64 lvi, .string lvt, .string lva, .string lfd])] W fun e w' => e = .returned (.tuple #[.int .i64 am, .int .i64 ae]) ∧ Below W.heap.size W w') (hae : ae ≠ 0) : Calls Tryz.prog 122 #[.slice tp tl tc, .slice kp kl kc, .agg #[.string on, .slice fp fl fc], (cnV ck (.slice p n cap) ⟨lk, lvk, lvi, lvt, lva, lfd⟩ ⟨rk, rvk, rvi, rvt, rva, rfd⟩), .int .i64 dp] w fun e w' => e = .returned (.tuple #[.int .i64 0, .int .i64 ae]) ∧ Below w.heap.size w w' := by
  have HI : Hid (∀ W, Calls Tryz.prog 17 #[.int .i64 ck, .int .i64 1, .int .i64 7] W fun e w' => e = .returned (.bool true) ∧ w' = W) := fun W => in_any ck _ _ true (say_true hk) W
  have HSL := hid hsl
  obtain rfl : n = 0 := hn
  have b1 : (ae != 0) = true := by simpa using hae
  have b2 : (ae == 0) = false := by simpa using hae
  have HB2 : Hid (Blk2 w ((w.alloc (.cells [.string on, .slice fp fl fc].toArray 72)).alloc (.cells (cnC ck (.slice p 0 cap) ⟨lk, lvk, lvi, lvt, lva, lfd⟩ ⟨rk, rvk, rvi, rvt, rva, rfd⟩).toArray 63)) [.string on, .slice fp fl fc] (cnC ck (.slice p 0 cap) ⟨lk, lvk, lvi, lvt, lva, lfd⟩ ⟨rk, rvk, rvi, rvt, rva, rfd⟩) 72 63) := Blk2.start w _ _ _ _
  clear hk hsl
  go_enter Tryz.func122, Tryz.ntmps122
  go_wp2_with (first
    | (go_at_call 17; refine (HI.out _).mono ?_; rintro e w' ⟨rfl, rfl⟩)
    | (go_at_call 125; refine (HSL.out _ HB2.out.bel).mono ?_; rintro e w5 ⟨rfl, hb_⟩; have HB5 : Hid (Blk2 w w5 [.string on, .slice fp fl fc] (cnC ck (.slice p 0 cap) ⟨lk, lvk, lvi, lvt, lva, lfd⟩ ⟨rk, rvk, rvi, rvt, rva, rfd⟩) 72 63) := HB2.out.next hb_; have y0_w5 : w5.cell? ⟨w.heap.size + 1, 8, none⟩ = some (.int .i64 rk) := HB5.out.c2 8; have y1_w5 : w5.cell? ⟨w.heap.size + 1, 9, none⟩ = some (.int .i64 rvk) := HB5.out.c2 9; have y2_w5 : w5.cell? ⟨w.heap.size + 1, 10, none⟩ = some (.int .i64 rvi) := HB5.out.c2 10; have y3_w5 : w5.cell? ⟨w.heap.size + 1, 11, none⟩ = some (.string rvt) := HB5.out.c2 11; have y4_w5 : w5.cell? ⟨w.heap.size + 1, 12, none⟩ = some (.string rva) := HB5.out.c2 12; have y5_w5 : w5.cell? ⟨w.heap.size + 1, 13, none⟩ = some (.string rfd) := HB5.out.c2 13; have o0_w5 : w5.cell? ⟨w.heap.size, 0, none⟩ = some (.string on) := HB5.out.c1 0; have o1_w5 : w5.cell? ⟨w.heap.size, 1, none⟩ = some (.slice fp fl fc) := HB5.out.c1 1; clear hb_))
  all_goals
    go_ret2
    exact ⟨rfl, HB5.out.bel⟩
set_option maxHeartbeats 8000000 in
theorem cond_right (am bm be : Int) (on : ByteArray) (ck : Int) (n : Nat) (lk lvk lvi rk rvk rvi : Int) (lvt lva lfd rvt rva rfd : ByteArray) (tp kp fp p : Option Addr) (tl tc kl kc fl fc cap : Nat) (dp : Int) (w : World) (hk : 1 ≤ ck ∧ ck ≤ 7) (hd : ¬ 8 < dp) (h3 : 3 < ck) (hn : n = 0) (hsl : ∀ W, Below w.heap.size w W → Calls Tryz.prog 125 #[.slice tp tl tc, .slice kp kl kc, .agg #[.string on, .slice fp fl fc], (.agg #[.int .i64 lk, .int .i64 lvk, .int .i64 lvi, .string lvt, .string lva, .string lfd])] W fun e w' => e = .returned (.tuple #[.int .i64 am, .int .i64 0]) ∧ Below W.heap.size W w') (hsr : ∀ W, Below w.heap.size w W → Calls Tryz.prog 125 #[.slice tp tl tc, .slice kp kl kc, .agg #[.string on, .slice fp fl fc], (.agg #[.int .i64 rk, .int .i64 rvk, .int .i64 rvi, .string rvt, .string rva, .string rfd])] W fun e w' => e = .returned (.tuple #[.int .i64 bm, .int .i64 be]) ∧ Below W.heap.size W w') (hbe : be ≠ 0) : Calls Tryz.prog 122 #[.slice tp tl tc, .slice kp kl kc, .agg #[.string on, .slice fp fl fc], (cnV ck (.slice p n cap) ⟨lk, lvk, lvi, lvt, lva, lfd⟩ ⟨rk, rvk, rvi, rvt, rva, rfd⟩), .int .i64 dp] w fun e w' => e = .returned (.tuple #[.int .i64 1, .int .i64 be]) ∧ Below w.heap.size w w' := by
  have HI : Hid (∀ W, Calls Tryz.prog 17 #[.int .i64 ck, .int .i64 1, .int .i64 7] W fun e w' => e = .returned (.bool true) ∧ w' = W) := fun W => in_any ck _ _ true (say_true hk) W
  have HSL := hid hsl
  have HSR := hid hsr
  obtain rfl : n = 0 := hn
  have b1 : (be != 0) = true := by simpa using hbe
  have b2 : (be == 0) = false := by simpa using hbe
  have HB2 : Hid (Blk2 w ((w.alloc (.cells [.string on, .slice fp fl fc].toArray 72)).alloc (.cells (cnC ck (.slice p 0 cap) ⟨lk, lvk, lvi, lvt, lva, lfd⟩ ⟨rk, rvk, rvi, rvt, rva, rfd⟩).toArray 63)) [.string on, .slice fp fl fc] (cnC ck (.slice p 0 cap) ⟨lk, lvk, lvi, lvt, lva, lfd⟩ ⟨rk, rvk, rvi, rvt, rva, rfd⟩) 72 63) := Blk2.start w _ _ _ _
  clear hk hsl hsr
  go_enter Tryz.func122, Tryz.ntmps122
  go_wp2_with (first
    | (go_at_call 17; refine (HI.out _).mono ?_; rintro e w' ⟨rfl, rfl⟩)
    | (go_at_call 125; refine (HSR.out _ HB5.out.bel).mono ?_; rintro e w6 ⟨rfl, hb_⟩; have HB6 : Hid (Blk2 w w6 [.string on, .slice fp fl fc] (cnC ck (.slice p 0 cap) ⟨lk, lvk, lvi, lvt, lva, lfd⟩ ⟨rk, rvk, rvi, rvt, rva, rfd⟩) 72 63) := HB5.out.next hb_; clear hb_)
    | (go_at_call 125; refine (HSL.out _ HB2.out.bel).mono ?_; rintro e w5 ⟨rfl, hb_⟩; have HB5 : Hid (Blk2 w w5 [.string on, .slice fp fl fc] (cnC ck (.slice p 0 cap) ⟨lk, lvk, lvi, lvt, lva, lfd⟩ ⟨rk, rvk, rvi, rvt, rva, rfd⟩) 72 63) := HB2.out.next hb_; have y0_w5 : w5.cell? ⟨w.heap.size + 1, 8, none⟩ = some (.int .i64 rk) := HB5.out.c2 8; have y1_w5 : w5.cell? ⟨w.heap.size + 1, 9, none⟩ = some (.int .i64 rvk) := HB5.out.c2 9; have y2_w5 : w5.cell? ⟨w.heap.size + 1, 10, none⟩ = some (.int .i64 rvi) := HB5.out.c2 10; have y3_w5 : w5.cell? ⟨w.heap.size + 1, 11, none⟩ = some (.string rvt) := HB5.out.c2 11; have y4_w5 : w5.cell? ⟨w.heap.size + 1, 12, none⟩ = some (.string rva) := HB5.out.c2 12; have y5_w5 : w5.cell? ⟨w.heap.size + 1, 13, none⟩ = some (.string rfd) := HB5.out.c2 13; have o0_w5 : w5.cell? ⟨w.heap.size, 0, none⟩ = some (.string on) := HB5.out.c1 0; have o1_w5 : w5.cell? ⟨w.heap.size, 1, none⟩ = some (.slice fp fl fc) := HB5.out.c1 1; clear hb_))
  all_goals
    go_ret2
    exact ⟨rfl, HB6.out.bel⟩
set_option maxHeartbeats 8000000 in
theorem cond_type (am bm be : Int) (on : ByteArray) (ck : Int) (n : Nat) (lk lvk lvi rk rvk rvi : Int) (lvt lva lfd rvt rva rfd : ByteArray) (tp kp fp p : Option Addr) (tl tc kl kc fl fc cap : Nat) (dp : Int) (w : World) (hk : 1 ≤ ck ∧ ck ≤ 7) (hd : ¬ 8 < dp) (h3 : 3 < ck) (hn : n = 0) (hsl : ∀ W, Below w.heap.size w W → Calls Tryz.prog 125 #[.slice tp tl tc, .slice kp kl kc, .agg #[.string on, .slice fp fl fc], (.agg #[.int .i64 lk, .int .i64 lvk, .int .i64 lvi, .string lvt, .string lva, .string lfd])] W fun e w' => e = .returned (.tuple #[.int .i64 am, .int .i64 0]) ∧ Below W.heap.size W w') (hsr : ∀ W, Below w.heap.size w W → Calls Tryz.prog 125 #[.slice tp tl tc, .slice kp kl kc, .agg #[.string on, .slice fp fl fc], (.agg #[.int .i64 rk, .int .i64 rvk, .int .i64 rvi, .string rvt, .string rva, .string rfd])] W fun e w' => e = .returned (.tuple #[.int .i64 bm, .int .i64 be]) ∧ Below W.heap.size W w') (hbe : be = 0) (hab : am ≠ bm) : Calls Tryz.prog 122 #[.slice tp tl tc, .slice kp kl kc, .agg #[.string on, .slice fp fl fc], (cnV ck (.slice p n cap) ⟨lk, lvk, lvi, lvt, lva, lfd⟩ ⟨rk, rvk, rvi, rvt, rva, rfd⟩), .int .i64 dp] w fun e w' => e = .returned (.tuple #[.int .i64 1, .int .i64 13]) ∧ Below w.heap.size w w' := by
  have HI : Hid (∀ W, Calls Tryz.prog 17 #[.int .i64 ck, .int .i64 1, .int .i64 7] W fun e w' => e = .returned (.bool true) ∧ w' = W) := fun W => in_any ck _ _ true (say_true hk) W
  have HSL := hid hsl
  have HSR := hid hsr
  obtain rfl : n = 0 := hn
  obtain rfl : be = 0 := hbe
  have b1 : (am != bm) = true := by simpa using hab
  have b2 : (am == bm) = false := by simpa using hab
  have HB2 : Hid (Blk2 w ((w.alloc (.cells [.string on, .slice fp fl fc].toArray 72)).alloc (.cells (cnC ck (.slice p 0 cap) ⟨lk, lvk, lvi, lvt, lva, lfd⟩ ⟨rk, rvk, rvi, rvt, rva, rfd⟩).toArray 63)) [.string on, .slice fp fl fc] (cnC ck (.slice p 0 cap) ⟨lk, lvk, lvi, lvt, lva, lfd⟩ ⟨rk, rvk, rvi, rvt, rva, rfd⟩) 72 63) := Blk2.start w _ _ _ _
  clear hk hsl hsr
  go_enter Tryz.func122, Tryz.ntmps122
  go_wp2_with (first
    | (go_at_call 17; refine (HI.out _).mono ?_; rintro e w' ⟨rfl, rfl⟩)
    | (go_at_call 125; refine (HSR.out _ HB5.out.bel).mono ?_; rintro e w6 ⟨rfl, hb_⟩; have HB6 : Hid (Blk2 w w6 [.string on, .slice fp fl fc] (cnC ck (.slice p 0 cap) ⟨lk, lvk, lvi, lvt, lva, lfd⟩ ⟨rk, rvk, rvi, rvt, rva, rfd⟩) 72 63) := HB5.out.next hb_; clear hb_)
    | (go_at_call 125; refine (HSL.out _ HB2.out.bel).mono ?_; rintro e w5 ⟨rfl, hb_⟩; have HB5 : Hid (Blk2 w w5 [.string on, .slice fp fl fc] (cnC ck (.slice p 0 cap) ⟨lk, lvk, lvi, lvt, lva, lfd⟩ ⟨rk, rvk, rvi, rvt, rva, rfd⟩) 72 63) := HB2.out.next hb_; have y0_w5 : w5.cell? ⟨w.heap.size + 1, 8, none⟩ = some (.int .i64 rk) := HB5.out.c2 8; have y1_w5 : w5.cell? ⟨w.heap.size + 1, 9, none⟩ = some (.int .i64 rvk) := HB5.out.c2 9; have y2_w5 : w5.cell? ⟨w.heap.size + 1, 10, none⟩ = some (.int .i64 rvi) := HB5.out.c2 10; have y3_w5 : w5.cell? ⟨w.heap.size + 1, 11, none⟩ = some (.string rvt) := HB5.out.c2 11; have y4_w5 : w5.cell? ⟨w.heap.size + 1, 12, none⟩ = some (.string rva) := HB5.out.c2 12; have y5_w5 : w5.cell? ⟨w.heap.size + 1, 13, none⟩ = some (.string rfd) := HB5.out.c2 13; have o0_w5 : w5.cell? ⟨w.heap.size, 0, none⟩ = some (.string on) := HB5.out.c1 0; have o1_w5 : w5.cell? ⟨w.heap.size, 1, none⟩ = some (.slice fp fl fc) := HB5.out.c1 1; clear hb_))
  all_goals
    go_ret2
    exact ⟨rfl, HB6.out.bel⟩
set_option maxHeartbeats 8000000 in
theorem cond_good (am bm be : Int) (on : ByteArray) (ck : Int) (n : Nat) (lk lvk lvi rk rvk rvi : Int) (lvt lva lfd rvt rva rfd : ByteArray) (tp kp fp p : Option Addr) (tl tc kl kc fl fc cap : Nat) (dp : Int) (w : World) (hk : 1 ≤ ck ∧ ck ≤ 7) (hd : ¬ 8 < dp) (h3 : 3 < ck) (hn : n = 0) (hsl : ∀ W, Below w.heap.size w W → Calls Tryz.prog 125 #[.slice tp tl tc, .slice kp kl kc, .agg #[.string on, .slice fp fl fc], (.agg #[.int .i64 lk, .int .i64 lvk, .int .i64 lvi, .string lvt, .string lva, .string lfd])] W fun e w' => e = .returned (.tuple #[.int .i64 am, .int .i64 0]) ∧ Below W.heap.size W w') (hsr : ∀ W, Below w.heap.size w W → Calls Tryz.prog 125 #[.slice tp tl tc, .slice kp kl kc, .agg #[.string on, .slice fp fl fc], (.agg #[.int .i64 rk, .int .i64 rvk, .int .i64 rvi, .string rvt, .string rva, .string rfd])] W fun e w' => e = .returned (.tuple #[.int .i64 bm, .int .i64 be]) ∧ Below W.heap.size W w') (hbe : be = 0) (hab : am = bm) : Calls Tryz.prog 122 #[.slice tp tl tc, .slice kp kl kc, .agg #[.string on, .slice fp fl fc], (cnV ck (.slice p n cap) ⟨lk, lvk, lvi, lvt, lva, lfd⟩ ⟨rk, rvk, rvi, rvt, rva, rfd⟩), .int .i64 dp] w fun e w' => e = .returned (.tuple #[.int .i64 1, .int .i64 0]) ∧ Below w.heap.size w w' := by
  have HI : Hid (∀ W, Calls Tryz.prog 17 #[.int .i64 ck, .int .i64 1, .int .i64 7] W fun e w' => e = .returned (.bool true) ∧ w' = W) := fun W => in_any ck _ _ true (say_true hk) W
  have HSL := hid hsl
  have HSR := hid hsr
  obtain rfl : n = 0 := hn
  obtain rfl : be = 0 := hbe
  obtain rfl : am = bm := hab
  have HB2 : Hid (Blk2 w ((w.alloc (.cells [.string on, .slice fp fl fc].toArray 72)).alloc (.cells (cnC ck (.slice p 0 cap) ⟨lk, lvk, lvi, lvt, lva, lfd⟩ ⟨rk, rvk, rvi, rvt, rva, rfd⟩).toArray 63)) [.string on, .slice fp fl fc] (cnC ck (.slice p 0 cap) ⟨lk, lvk, lvi, lvt, lva, lfd⟩ ⟨rk, rvk, rvi, rvt, rva, rfd⟩) 72 63) := Blk2.start w _ _ _ _
  clear hk hsl hsr
  go_enter Tryz.func122, Tryz.ntmps122
  go_wp2_with (first
    | (go_at_call 17; refine (HI.out _).mono ?_; rintro e w' ⟨rfl, rfl⟩)
    | (go_at_call 125; refine (HSR.out _ HB5.out.bel).mono ?_; rintro e w6 ⟨rfl, hb_⟩; have HB6 : Hid (Blk2 w w6 [.string on, .slice fp fl fc] (cnC ck (.slice p 0 cap) ⟨lk, lvk, lvi, lvt, lva, lfd⟩ ⟨rk, rvk, rvi, rvt, rva, rfd⟩) 72 63) := HB5.out.next hb_; clear hb_)
    | (go_at_call 125; refine (HSL.out _ HB2.out.bel).mono ?_; rintro e w5 ⟨rfl, hb_⟩; have HB5 : Hid (Blk2 w w5 [.string on, .slice fp fl fc] (cnC ck (.slice p 0 cap) ⟨lk, lvk, lvi, lvt, lva, lfd⟩ ⟨rk, rvk, rvi, rvt, rva, rfd⟩) 72 63) := HB2.out.next hb_; have y0_w5 : w5.cell? ⟨w.heap.size + 1, 8, none⟩ = some (.int .i64 rk) := HB5.out.c2 8; have y1_w5 : w5.cell? ⟨w.heap.size + 1, 9, none⟩ = some (.int .i64 rvk) := HB5.out.c2 9; have y2_w5 : w5.cell? ⟨w.heap.size + 1, 10, none⟩ = some (.int .i64 rvi) := HB5.out.c2 10; have y3_w5 : w5.cell? ⟨w.heap.size + 1, 11, none⟩ = some (.string rvt) := HB5.out.c2 11; have y4_w5 : w5.cell? ⟨w.heap.size + 1, 12, none⟩ = some (.string rva) := HB5.out.c2 12; have y5_w5 : w5.cell? ⟨w.heap.size + 1, 13, none⟩ = some (.string rfd) := HB5.out.c2 13; have o0_w5 : w5.cell? ⟨w.heap.size, 0, none⟩ = some (.string on) := HB5.out.c1 0; have o1_w5 : w5.cell? ⟨w.heap.size, 1, none⟩ = some (.slice fp fl fc) := HB5.out.c1 1; clear hb_))
  all_goals
    go_ret2
    exact ⟨rfl, HB6.out.bel⟩
set_option maxHeartbeats 8000000 in
theorem cond_sides (on : ByteArray) (ck : Int) (n : Nat) (lk lvk lvi rk rvk rvi : Int) (lvt lva lfd rvt rva rfd : ByteArray) (tp kp fp p : Option Addr) (tl tc kl kc fl fc cap : Nat) (dp : Int) (w : World) (hk : 1 ≤ ck ∧ ck ≤ 7) (hd : ¬ 8 < dp) (h3 : ¬ 3 < ck) (hz : eqz ⟨lk, lvk, lvi, lvt, lva, lfd⟩ = false ∨ eqz ⟨rk, rvk, rvi, rvt, rva, rfd⟩ = false) : Calls Tryz.prog 122 #[.slice tp tl tc, .slice kp kl kc, .agg #[.string on, .slice fp fl fc], (cnV ck (.slice p n cap) ⟨lk, lvk, lvi, lvt, lva, lfd⟩ ⟨rk, rvk, rvi, rvt, rva, rfd⟩), .int .i64 dp] w fun e w' => e = .returned (.tuple #[.int .i64 0, .int .i64 4]) ∧ Below w.heap.size w w' := by
  have HI : Hid (∀ W, Calls Tryz.prog 17 #[.int .i64 ck, .int .i64 1, .int .i64 7] W fun e w' => e = .returned (.bool true) ∧ w' = W) := fun W => in_any ck _ _ true (say_true hk) W
  have HZ := hid hz
  clear hk hz
  go_enter Tryz.func122, Tryz.ntmps122
  go_wp2_with (go_at_call 17; refine (HI.out _).mono ?_; rintro e w' ⟨rfl, rfl⟩)
  all_goals first
    | (go_ret2; exact ⟨rfl, by go_grown⟩)
    | (exfalso; have h := HZ.out; simp [eqz, emp, *] at h; done)
set_option maxHeartbeats 8000000 in
theorem cond_count3 (on : ByteArray) (ck : Int) (n : Nat) (lk lvk lvi rk rvk rvi : Int) (lvt lva lfd rvt rva rfd : ByteArray) (tp kp fp p : Option Addr) (tl tc kl kc fl fc cap : Nat) (dp : Int) (w : World) (hk : 1 ≤ ck ∧ ck ≤ 7) (hd : ¬ 8 < dp) (h3 : ¬ 3 < ck) (hl : eqz ⟨lk, lvk, lvi, lvt, lva, lfd⟩ = true) (hr : eqz ⟨rk, rvk, rvi, rvt, rva, rfd⟩ = true) (hc : ck = 3) (hn : n ≠ 1) : Calls Tryz.prog 122 #[.slice tp tl tc, .slice kp kl kc, .agg #[.string on, .slice fp fl fc], (cnV ck (.slice p n cap) ⟨lk, lvk, lvi, lvt, lva, lfd⟩ ⟨rk, rvk, rvi, rvt, rva, rfd⟩), .int .i64 dp] w fun e w' => e = .returned (.tuple #[.int .i64 0, .int .i64 4]) ∧ Below w.heap.size w w' := by
  have HI : Hid (∀ W, Calls Tryz.prog 17 #[.int .i64 ck, .int .i64 1, .int .i64 7] W fun e w' => e = .returned (.bool true) ∧ w' = W) := fun W => in_any ck _ _ true (say_true hk) W
  obtain rfl : ck = 3 := hc
  have b1 : ((n : Int) != 1) = true := by simp; omega
  have b2 : ((n : Int) == 1) = false := by simp; omega
  have b3 : ¬ (n : Int) = 1 := by omega
  obtain ⟨z1, z2, z3, z4, z5, z6⟩ := eqz_of hl
  obtain ⟨z7, z8, z9, y1, y2, y3⟩ := eqz_of hr
  simp only at z1 z2 z3 z4 z5 z6 z7 z8 z9 y1 y2 y3
  subst z1 z2 z3 z7 z8 z9
  clear hl hr
  clear hk
  go_enter Tryz.func122, Tryz.ntmps122
  go_wp2_with (go_at_call 17; refine (HI.out _).mono ?_; rintro e w' ⟨rfl, rfl⟩)
  all_goals
    go_ret2
    exact ⟨rfl, by go_grown⟩
set_option maxHeartbeats 8000000 in
theorem cond_count2 (on : ByteArray) (ck : Int) (n : Nat) (lk lvk lvi rk rvk rvi : Int) (lvt lva lfd rvt rva rfd : ByteArray) (tp kp fp p : Option Addr) (tl tc kl kc fl fc cap : Nat) (dp : Int) (w : World) (hk : 1 ≤ ck ∧ ck ≤ 7) (hd : ¬ 8 < dp) (h3 : ¬ 3 < ck) (hl : eqz ⟨lk, lvk, lvi, lvt, lva, lfd⟩ = true) (hr : eqz ⟨rk, rvk, rvi, rvt, rva, rfd⟩ = true) (hc : ck ≠ 3) (hn : n < 2) : Calls Tryz.prog 122 #[.slice tp tl tc, .slice kp kl kc, .agg #[.string on, .slice fp fl fc], (cnV ck (.slice p n cap) ⟨lk, lvk, lvi, lvt, lva, lfd⟩ ⟨rk, rvk, rvi, rvt, rva, rfd⟩), .int .i64 dp] w fun e w' => e = .returned (.tuple #[.int .i64 0, .int .i64 4]) ∧ Below w.heap.size w w' := by
  have HI : Hid (∀ W, Calls Tryz.prog 17 #[.int .i64 ck, .int .i64 1, .int .i64 7] W fun e w' => e = .returned (.bool true) ∧ w' = W) := fun W => in_any ck _ _ true (say_true hk) W
  have b0 : (ck == 3) = false := by simpa using hc
  have b9 : (ck != 3) = true := by simpa using hc
  have b1 : (n : Int) < 2 := by omega
  obtain ⟨z1, z2, z3, z4, z5, z6⟩ := eqz_of hl
  obtain ⟨z7, z8, z9, y1, y2, y3⟩ := eqz_of hr
  simp only at z1 z2 z3 z4 z5 z6 z7 z8 z9 y1 y2 y3
  subst z1 z2 z3 z7 z8 z9
  clear hl hr
  clear hk
  go_enter Tryz.func122, Tryz.ntmps122
  go_wp2_with (go_at_call 17; refine (HI.out _).mono ?_; rintro e w' ⟨rfl, rfl⟩)
  all_goals
    go_ret2
    exact ⟨rfl, by go_grown⟩
end Go.Proofs.YthndlfdbmljkhaaGreatDoor.Chk
namespace Go.Proofs.YthndlfdbmljkhaaGreatDoor.Chk
open Go.ChangeShapes Go.WideShapes Go.ChangeAt Go.RowKit Go.Maps
set_option linter.unusedVariables false
set_option linter.unusedSimpArgs false
set_option maxRecDepth 20000
theorem rdM {w : World} {m : Mn} {vs : List Value} (h : RdL w (encM m) vs) : ∃ us, vs = .int .i64 m.c :: .string m.f :: us ∧ RdL w (encP m.p) us := by
  obtain ⟨v0, r0, rfl, h0, h⟩ := RdL.one h
  obtain ⟨v1, r1, rfl, h1, h⟩ := RdL.one h
  rw [rd_lit h0, rd_lit h1]
  exact ⟨r1, rfl, h⟩
/-- Has a rule a pattern of a type? -/
def spk (ws ns : List Pt) (ms : List Mn) (n : ByteArray) : Bool := ws.any (fun p => seq p.ty n) || ns.any (fun p => seq p.ty n) || ms.any (fun m => seq m.p.ty n)
theorem any_none {α : Type} {q : α → Bool} {l : List α} (h : ∀ j (hj : j < l.length), q l[j] = false) : l.any q = false := by
  rw [List.any_eq_false]
  intro x hx
  obtain ⟨j, hj, rfl⟩ := List.getElem_of_mem hx
  rw [h j hj]
  decide
theorem any_some {α : Type} {q : α → Bool} {l : List α} {j : Nat} (hj : j < l.length) (h : q l[j] = true) : l.any q = true := List.any_eq_true.2 ⟨_, List.getElem_mem hj, h⟩
set_option maxHeartbeats 16000000 in
theorem speaksOf_any (ws ns : List Pt) (ms : List Mn) (rn ety nm : ByteArray) (u1 u2 u3 : Value) (q4 q5 : Option Addr) (l4 l5 j4 j5 : Nat) (w : World) (h1 : Rd w (.row 65 18 (ws.map encP)) u1) (h2 : Rd w (.row 65 18 (ns.map encP)) u2) (h3 : Rd w (.row 68 20 (ms.map encM)) u3) :
    Calls Tryz.prog 77 #[.agg #[.string rn, u1, u2, u3, (.slice q4 l4 j4), .string ety, (.slice q5 l5 j5)], .string nm] w fun e w' => e = .returned (.bool (spk ws ns ms nm)) ∧ Below w.heap.size w w' := by
  obtain ⟨q1, j1, e1, m1, a1⟩ := rd_row lenP h1
  obtain ⟨q2, j2, e2, m2, a2⟩ := rd_row lenP h2
  obtain ⟨q3, j3, e3, m3, a3⟩ := rd_row lenM h3
  subst e1 e2 e3
  obtain ⟨l1, hl1⟩ : ∃ l, ws.length = l := ⟨_, rfl⟩
  obtain ⟨l2, hl2⟩ : ∃ l, ns.length = l := ⟨_, rfl⟩
  obtain ⟨l3, hl3⟩ : ∃ l, ms.length = l := ⟨_, rfl⟩
  have HA1 := hid a1
  have HA2 := hid a2
  have HA3 := hid a3
  have HN1 := hid hl1
  have HN2 := hid hl2
  have HN3 := hid hl3
  rw [hl1] at m1
  rw [hl2] at m2
  rw [hl3] at m3
  rw [hl1, hl2, hl3]
  have HB0 : Hid (BlkT w (w.alloc (.cells [.string rn, (.slice q1 l1 j1), (.slice q2 l2 j2), (.slice q3 l3 j3), (.slice q4 l4 j4), .string ety, (.slice q5 l5 j5)].toArray 49)) [.string rn, (.slice q1 l1 j1), (.slice q2 l2 j2), (.slice q3 l3 j3), (.slice q4 l4 j4), .string ety, (.slice q5 l5 j5)] 49) := BlkT.start w _ _
  clear h1 h2 h3 a1 a2 a3 hl1 hl2 hl3
  go_enter Tryz.func77, Tryz.ntmps77
  go_wp2_with fail
  go_loopw [5] (fun i wr => ∃ k : Nat, k ≤ l1 ∧ i = .int .i64 (k : Nat) ∧ (∀ (j : Nat) (hj : j < ws.length), j < k → seq ws[j].ty nm = false) ∧ BlkT w wr [.string rn, (.slice q1 l1 j1), (.slice q2 l2 j2), (.slice q3 l3 j3), (.slice q4 l4 j4), .string ety, (.slice q5 l5 j5)] 49) (fun i _ => l1 + 1 - (intOf i).toNat)
  case atStart => exact ⟨0, by omega, rfl, fun j hj h => by omega, HB0.out⟩
  case round =>
    obtain ⟨k, hk, rfl, hf, hTr⟩ := hrel
    have HF := hid hf
    have HTa : Hid (BlkT w wr [.string rn, (.slice q1 l1 j1), (.slice q2 l2 j2), (.slice q3 l3 j3), (.slice q4 l4 j4), .string ety, (.slice q5 l5 j5)] 49) := hTr
    have a1 : wr.cell? ⟨w.heap.size, 1, none⟩ = some (.slice q1 l1 j1) := hTr.c 1
    clear hf
    by_cases hlt : k < l1
    · have hkc : k < ws.length := by have := HN1.out; omega
      obtain ⟨g, off, hp, hrd⟩ := HA1.out (by omega)
      rw [hp] at a1
      obtain ⟨us, r1, o1⟩ := hrd wr hTr.bel k hkc
      obtain ⟨vf, z1, o2⟩ := rdP o1
      clear o1 o2
      subst z1
      have n1 := r1 1 _ rfl
      have HNX : seq ws[k].ty nm = false → Hid (∀ (j : Nat) (hj : j < ws.length), j < k + 1 → seq ws[j].ty nm = false) := fun hq j hj h => by
        by_cases c : j = k
        · subst c; exact hq
        · exact HF.out j hj (by omega)
      have HHT : seq ws[k].ty nm = true → Hid (spk ws ns ms nm = true) := fun hq => by
        show _ = _
        unfold spk
        rw [any_some (l := ws) (q := fun p => seq p.ty nm) hkc hq]
        simp
      obtain ⟨d, hd⟩ : ∃ d, ws[k].ty = d := ⟨_, rfl⟩
      rw [hd] at n1 HNX HHT
      have i1 : (0 : Int) ≤ (k : Int) := by omega
      have i2 : (k : Int) < (l1 : Int) := by omega
      cases hq : seq d nm
      · have HNY := HNX hq
        have hq2 : (d.toList == nm.toList) = false := hq
        clear HNX HHT hq hd hrd hTr hkc r1 hp
        go_wp2_with fail
        go_roundw
        case rel => exact ⟨k + 1, by omega, by go_num, HNY.out, HTa.out⟩
        case measure => simp [intOf]; omega
      · have HR0 := HHT hq
        have hq2 : (d.toList == nm.toList) = true := hq
        clear HNX HHT hq hd hrd hTr hkc r1 hp
        go_wp2_with fail
        go_ret
        rw [HR0.out]
        exact ⟨rfl, HTa.out.bel⟩
    · obtain rfl : l1 = k := by omega
      have HAa : Hid (∀ (j : Nat) (hj : j < ws.length), seq ws[j].ty nm = false) := fun j hj => HF.out j hj (by have := HN1.out; omega)
      clear hTr HF
      go_wp2_with fail
      go_loopw [6] (fun i wr => ∃ k : Nat, k ≤ l2 ∧ i = .int .i64 (k : Nat) ∧ (∀ (j : Nat) (hj : j < ns.length), j < k → seq ns[j].ty nm = false) ∧ BlkT w wr [.string rn, (.slice q1 l1 j1), (.slice q2 l2 j2), (.slice q3 l3 j3), (.slice q4 l4 j4), .string ety, (.slice q5 l5 j5)] 49) (fun i _ => l2 + 1 - (intOf i).toNat)
      case atStart => exact ⟨0, by omega, rfl, fun j hj h => by omega, HTa.out⟩
      case round =>
        obtain ⟨k, hk, rfl, hf, hTr⟩ := hrel
        have HF := hid hf
        have HTb : Hid (BlkT w wr [.string rn, (.slice q1 l1 j1), (.slice q2 l2 j2), (.slice q3 l3 j3), (.slice q4 l4 j4), .string ety, (.slice q5 l5 j5)] 49) := hTr
        have a1 : wr.cell? ⟨w.heap.size, 2, none⟩ = some (.slice q2 l2 j2) := hTr.c 2
        clear hf
        by_cases hlt : k < l2
        · have hkc : k < ns.length := by have := HN2.out; omega
          obtain ⟨g, off, hp, hrd⟩ := HA2.out (by omega)
          rw [hp] at a1
          obtain ⟨us, r1, o1⟩ := hrd wr hTr.bel k hkc
          obtain ⟨vf, z1, o2⟩ := rdP o1
          clear o1 o2
          subst z1
          have n1 := r1 1 _ rfl
          have HNX : seq ns[k].ty nm = false → Hid (∀ (j : Nat) (hj : j < ns.length), j < k + 1 → seq ns[j].ty nm = false) := fun hq j hj h => by
            by_cases c : j = k
            · subst c; exact hq
            · exact HF.out j hj (by omega)
          have HHT : seq ns[k].ty nm = true → Hid (spk ws ns ms nm = true) := fun hq => by
            show _ = _
            unfold spk
            rw [any_some (l := ns) (q := fun p => seq p.ty nm) hkc hq]
            simp
          obtain ⟨d, hd⟩ : ∃ d, ns[k].ty = d := ⟨_, rfl⟩
          rw [hd] at n1 HNX HHT
          have i1 : (0 : Int) ≤ (k : Int) := by omega
          have i2 : (k : Int) < (l2 : Int) := by omega
          cases hq : seq d nm
          · have HNY := HNX hq
            have hq2 : (d.toList == nm.toList) = false := hq
            clear HNX HHT hq hd hrd hTr hkc r1 hp
            go_wp2_with fail
            go_roundw
            case rel => exact ⟨k + 1, by omega, by go_num, HNY.out, HTb.out⟩
            case measure => simp [intOf]; omega
          · have HR0 := HHT hq
            have hq2 : (d.toList == nm.toList) = true := hq
            clear HNX HHT hq hd hrd hTr hkc r1 hp
            go_wp2_with fail
            go_ret
            rw [HR0.out]
            exact ⟨rfl, HTb.out.bel⟩
        · obtain rfl : l2 = k := by omega
          have HAb : Hid (∀ (j : Nat) (hj : j < ns.length), seq ns[j].ty nm = false) := fun j hj => HF.out j hj (by have := HN2.out; omega)
          clear hTr HF
          go_wp2_with fail
          go_loopw [7] (fun i wr => ∃ k : Nat, k ≤ l3 ∧ i = .int .i64 (k : Nat) ∧ (∀ (j : Nat) (hj : j < ms.length), j < k → seq ms[j].p.ty nm = false) ∧ BlkT w wr [.string rn, (.slice q1 l1 j1), (.slice q2 l2 j2), (.slice q3 l3 j3), (.slice q4 l4 j4), .string ety, (.slice q5 l5 j5)] 49) (fun i _ => l3 + 1 - (intOf i).toNat)
          case atStart => exact ⟨0, by omega, rfl, fun j hj h => by omega, HTb.out⟩
          case round =>
            obtain ⟨k, hk, rfl, hf, hTr⟩ := hrel
            have HF := hid hf
            have HTc : Hid (BlkT w wr [.string rn, (.slice q1 l1 j1), (.slice q2 l2 j2), (.slice q3 l3 j3), (.slice q4 l4 j4), .string ety, (.slice q5 l5 j5)] 49) := hTr
            have a1 : wr.cell? ⟨w.heap.size, 3, none⟩ = some (.slice q3 l3 j3) := hTr.c 3
            clear hf
            by_cases hlt : k < l3
            · have hkc : k < ms.length := by have := HN3.out; omega
              obtain ⟨g, off, hp, hrd⟩ := HA3.out (by omega)
              rw [hp] at a1
              obtain ⟨us, r1, o1⟩ := hrd wr hTr.bel k hkc
              obtain ⟨us', z1, o2⟩ := rdM o1
              clear o1
              subst z1
              obtain ⟨vf, z2, o3⟩ := rdP o2
              clear o2 o3
              subst z2
              have n1 := r1 3 _ rfl
              have HNX : seq ms[k].p.ty nm = false → Hid (∀ (j : Nat) (hj : j < ms.length), j < k + 1 → seq ms[j].p.ty nm = false) := fun hq j hj h => by
                by_cases c : j = k
                · subst c; exact hq
                · exact HF.out j hj (by omega)
              have HHT : seq ms[k].p.ty nm = true → Hid (spk ws ns ms nm = true) := fun hq => by
                show _ = _
                unfold spk
                rw [any_some (l := ms) (q := fun m => seq m.p.ty nm) hkc hq]
                simp
              obtain ⟨d, hd⟩ : ∃ d, ms[k].p.ty = d := ⟨_, rfl⟩
              rw [hd] at n1 HNX HHT
              have i1 : (0 : Int) ≤ (k : Int) := by omega
              have i2 : (k : Int) < (l3 : Int) := by omega
              cases hq : seq d nm
              · have HNY := HNX hq
                have hq2 : (d.toList == nm.toList) = false := hq
                clear HNX HHT hq hd hrd hTr hkc r1 hp
                go_wp2_with fail
                go_roundw
                case rel => exact ⟨k + 1, by omega, by go_num, HNY.out, HTc.out⟩
                case measure => simp [intOf]; omega
              · have HR0 := HHT hq
                have hq2 : (d.toList == nm.toList) = true := hq
                clear HNX HHT hq hd hrd hTr hkc r1 hp
                go_wp2_with fail
                go_ret
                rw [HR0.out]
                exact ⟨rfl, HTc.out.bel⟩
            · obtain rfl : l3 = k := by omega
              have HAc : Hid (∀ (j : Nat) (hj : j < ms.length), seq ms[j].p.ty nm = false) := fun j hj => HF.out j hj (by have := HN3.out; omega)
              clear hTr HF
              go_wp2_with fail
              go_ret
              have h1 : spk ws ns ms nm = false := by
                unfold spk
                rw [any_none HAa.out, any_none HAb.out, any_none HAc.out]
                rfl
              rw [h1]
              exact ⟨rfl, HTc.out.bel⟩
end Go.Proofs.YthndlfdbmljkhaaGreatDoor.Chk
namespace Go.Proofs.YthndlfdbmljkhaaGreatDoor.Chk
open Go.ChangeShapes Go.WideShapes Go.ChangeAt Go.RowKit Go.Maps
set_option linter.unusedVariables false
set_option linter.unusedSimpArgs false
set_option maxRecDepth 20000
theorem rdR {w : World} {r : Rl} {vs : List Value} (h : RdL w (encR r) vs) : ∃ v1 v2 v3 v4 v5, vs = [.string r.n, v1, v2, v3, v4, .string r.e.ty, v5] ∧ Rd w (.row 65 18 (r.w.map encP)) v1 ∧ Rd w (.row 65 18 (r.t.map encP)) v2 ∧ Rd w (.row 68 20 (r.m.map encM)) v3 ∧ Rd w (.row 103 3 (r.k.map encK)) v4 ∧ Rd w (.row 61 6 (r.e.v.map encO)) v5 := by
  obtain ⟨v0, r0, rfl, h0, h⟩ := RdL.one h
  obtain ⟨v1, r1, rfl, h1, h⟩ := RdL.one h
  obtain ⟨v2, r2, rfl, h2, h⟩ := RdL.one h
  obtain ⟨v3, r3, rfl, h3, h⟩ := RdL.one h
  obtain ⟨v4, r4, rfl, h4, h⟩ := RdL.one h
  obtain ⟨v5, r5, rfl, h5, h⟩ := RdL.one h
  obtain ⟨v6, r6, rfl, h6, h⟩ := RdL.one h
  rw [rd_lit h0, rd_lit h5, RdL.none h]
  exact ⟨v1, v2, v3, v4, v6, rfl, h1, h2, h3, h4, h6⟩
/-- Does an event of a type come of events of another one, by so many rules at most? -/
def cmo (rs : List Rl) (to : ByteArray) : Nat → ByteArray → Bool
  | 0, _ => false
  | n + 1, nm => rs.any fun x => !(emp x.e.ty) && (spk x.w x.t x.m nm && (seq x.e.ty to || cmo rs to n x.e.ty))
set_option maxHeartbeats 16000000 in
theorem comesOf_any (rs : List Rl) (to : ByteArray) (tp : Option Addr) (tl tc : Nat) (rv : Value) : ∀ (n : Nat) (nm : ByteArray) (w : World), n ≤ 1000 → Rd w (.row 49 7 (rs.map encR)) rv → Calls Tryz.prog 37 #[.agg #[.slice tp tl tc, rv], .string to, .string nm, .int .i64 (n : Int)] w fun e w' => e = .returned (.bool (cmo rs to n nm)) ∧ Below w.heap.size w w' := by
  intro n
  induction n with
  | zero =>
    intro nm w _ hR
    obtain ⟨rp, rc, rfl, hmx, hat⟩ := rd_row lenR hR
    obtain ⟨nr, hnr⟩ : ∃ l, rs.length = l := ⟨_, rfl⟩
    rw [hnr] at hmx ⊢
    unfold cmo
    have HB0 : Hid (BlkT w (w.alloc (.cells [.slice tp tl tc, .slice rp nr rc].toArray 25)) [.slice tp tl tc, .slice rp nr rc] 25) := BlkT.start w _ _
    clear hR hat hnr
    go_enter Tryz.func37, Tryz.ntmps37
    go_wp2_with fail
    go_loopw [9, 10] (fun i _ wr => i = .int .i64 0 ∧ BlkT w wr [.slice tp tl tc, .slice rp nr rc] 25) (fun _ _ _ => 0)
    case atStart => exact ⟨rfl, HB0.out⟩
    case round =>
      obtain ⟨rfl, hTr⟩ := hrel
      have HT := hid hTr
      have y1 : wr.cell? ⟨w.heap.size, 1, none⟩ = some (.slice rp nr rc) := hTr.c 1
      clear hTr HB0
      by_cases h0 : (0 : Int) < (nr : Int)
      · go_wp2_with fail
        go_ret
        exact ⟨rfl, HT.out.bel⟩
      · go_wp2_with fail
        go_ret
        exact ⟨rfl, HT.out.bel⟩
  | succ n ih =>
    intro nm w hn9 hR
    have hR0 := hR
    obtain ⟨rp, rc, rfl, hmx, hat⟩ := rd_row lenR hR
    obtain ⟨nr, hnr⟩ : ∃ l, rs.length = l := ⟨_, rfl⟩
    have HAT := hid hat
    have HN := hid hnr
    rw [hnr] at hmx hR0 ih ⊢
    have HIH : Hid (∀ x W, Below w.heap.size w W → Calls Tryz.prog 37 #[.agg #[.slice tp tl tc, .slice rp nr rc], .string to, .string x, .int .i64 (n : Int)] W fun e w' => e = .returned (.bool (cmo rs to n x)) ∧ Below W.heap.size W w') := fun x W hW => ih x W (by omega) (hR0.later hW)
    have HB0 : Hid (BlkT w (w.alloc (.cells [.slice tp tl tc, .slice rp nr rc].toArray 25)) [.slice tp tl tc, .slice rp nr rc] 25) := BlkT.start w _ _
    have hst : (0 : Int) < ((n + 1 : Nat) : Int) := by omega
    have hsb : ((n + 1 : Nat) : Int) - 1 = (n : Int) := by omega
    have hsw : IntKind.i64.wrap (n : Int) = (n : Int) := by rw [IntKind.wrap_i64]; omega
    obtain ⟨N1, hN1⟩ : ∃ N1 : Int, ((n + 1 : Nat) : Int) = N1 := ⟨_, rfl⟩
    rw [hN1] at hst hsb ⊢
    clear hR hR0 hat hnr ih hN1 hn9
    go_enter Tryz.func37, Tryz.ntmps37
    go_wp2_with fail
    go_loopw [9, 10] (fun i _ wr => ∃ k : Nat, k ≤ nr ∧ i = .int .i64 (k : Nat) ∧ (∀ (j : Nat) (hj : j < rs.length), j < k → (!(emp rs[j].e.ty) && (spk rs[j].w rs[j].t rs[j].m nm && (seq rs[j].e.ty to || cmo rs to n rs[j].e.ty))) = false) ∧ BlkT w wr [.slice tp tl tc, .slice rp nr rc] 25) (fun i _ _ => nr + 1 - (intOf i).toNat)
    case atStart => exact ⟨0, by omega, rfl, fun j hj h => by omega, HB0.out⟩
    case round =>
      obtain ⟨k, hk, rfl, hf, hTr⟩ := hrel
      have HF := hid hf
      have HT : Hid (BlkT w wr [.slice tp tl tc, .slice rp nr rc] 25) := hTr
      have a1 : wr.cell? ⟨w.heap.size, 1, none⟩ = some (.slice rp nr rc) := hTr.c 1
      clear hf
      by_cases hlt : k < nr
      · have hkc : k < rs.length := by have := HN.out; omega
        obtain ⟨g, off, hp, hrd⟩ := HAT.out (by omega)
        have HQ := hid hp
        rw [hp] at a1
        obtain ⟨us, r1, o1⟩ := hrd wr hTr.bel k hkc
        obtain ⟨v1, v2, v3, v4, v5, z1, g1, g2, g3, g4, g5⟩ := rdR o1
        clear o1
        subst z1
        have HNX : (!(emp rs[k].e.ty) && (spk rs[k].w rs[k].t rs[k].m nm && (seq rs[k].e.ty to || cmo rs to n rs[k].e.ty))) = false → Hid (∀ (j : Nat) (hj : j < rs.length), j < k + 1 → (!(emp rs[j].e.ty) && (spk rs[j].w rs[j].t rs[j].m nm && (seq rs[j].e.ty to || cmo rs to n rs[j].e.ty))) = false) := fun hq j hj h => by
          by_cases c : j = k
          · subst c; exact hq
          · exact HF.out j hj (by omega)
        have HHT : (!(emp rs[k].e.ty) && (spk rs[k].w rs[k].t rs[k].m nm && (seq rs[k].e.ty to || cmo rs to n rs[k].e.ty))) = true → Hid (cmo rs to (n + 1) nm = true) := fun hq => by
          show cmo rs to (n + 1) nm = true
          rw [cmo]
          exact any_some (l := rs) (q := fun x : Rl => !(emp x.e.ty) && (spk x.w x.t x.m nm && (seq x.e.ty to || cmo rs to n x.e.ty))) hkc hq
        obtain ⟨q4, j4, e4, s4a, s4b⟩ := rd_row lenK g4
        obtain ⟨q5, j5, e5, s5a, s5b⟩ := rd_row lenO g5
        have hspk := fun W (hW : Below wr.heap.size wr W) => speaksOf_any rs[k].w rs[k].t rs[k].m rs[k].n rs[k].e.ty nm v1 v2 v3 q4 q5 rs[k].k.length rs[k].e.v.length j4 j5 W (g1.later hW) (g2.later hW) (g3.later hW)
        obtain ⟨q1, j1, e1, s1a, s1b⟩ := rd_row lenP g1
        obtain ⟨q2, j2, e2, s2a, s2b⟩ := rd_row lenP g2
        obtain ⟨q3, j3, e3, s3a, s3b⟩ := rd_row lenM g3
        subst e1 e2 e3 e4 e5
        obtain ⟨x, hx⟩ : ∃ x, rs[k] = x := ⟨_, rfl⟩
        rw [hx] at r1 HNX HHT hspk
        obtain ⟨xn, xw, xs, xm, xk, ⟨xt, xv⟩⟩ := x
        simp only at r1 HNX HHT hspk
        have hic := HIH.out xt
        obtain ⟨l1, hl1⟩ : ∃ l, xw.length = l := ⟨_, rfl⟩
        obtain ⟨l2, hl2⟩ : ∃ l, xs.length = l := ⟨_, rfl⟩
        obtain ⟨l3, hl3⟩ : ∃ l, xm.length = l := ⟨_, rfl⟩
        obtain ⟨l4, hl4⟩ : ∃ l, xk.length = l := ⟨_, rfl⟩
        obtain ⟨l5, hl5⟩ : ∃ l, xv.length = l := ⟨_, rfl⟩
        rw [hl1, hl2, hl3, hl4, hl5] at hspk
        rw [hl1, hl2, hl3, hl4, hl5] at r1
        have n0 := r1 0 _ rfl
        have n1 := r1 1 _ rfl
        have n2 := r1 2 _ rfl
        have n3 := r1 3 _ rfl
        have n4 := r1 4 _ rfl
        have n5 := r1 5 _ rfl
        have n6 := r1 6 _ rfl
        simp only [Nat.add_zero] at n0
        have HX : Hid (BlkT wr (wr.alloc (.cells [.string xn, (.slice q1 l1 j1), (.slice q2 l2 j2), (.slice q3 l3 j3), (.slice q4 l4 j4), .string xt, (.slice q5 l5 j5)].toArray 49)) [.string xn, (.slice q1 l1 j1), (.slice q2 l2 j2), (.slice q3 l3 j3), (.slice q4 l4 j4), .string xt, (.slice q5 l5 j5)] 49) := BlkT.start wr _ _
        rw [hp] at hic
        have i1 : (0 : Int) ≤ (k : Int) := by omega
        have i2 : (k : Int) < (nr : Int) := by omega
        clear s1a s1b s2a s2b s3a s3b s4a s4b s5a s5b g1 g2 g3 g4 g5 r1 hx hrd hTr hkc hp hl1 hl2 hl3 hl4 hl5 HF HB0
        cases hem : emp xt
        · obtain ⟨f1, f2⟩ := emp_f hem
          cases hsp : spk xw xs xm nm
          · rw [hsp] at hspk
            have HSP := hid hspk
            have HNY := HNX (by rw [hsp]; simp)
            clear HNX hspk hem hsp
            go_wp2_with (first
              | (go_at_call 77; refine (HSP.out _ HX.out.bel).mono ?_; rintro e w5 ⟨rfl, hb_⟩; have HX5 : Hid (BlkT wr w5 [.string xn, (.slice q1 l1 j1), (.slice q2 l2 j2), (.slice q3 l3 j3), (.slice q4 l4 j4), .string xt, (.slice q5 l5 j5)] 49) := HX.out.next hb_; have HT5 : Hid (BlkT w w5 [.slice tp tl tc, .slice rp nr rc] 25) := HT.out.next HX5.out.bel; have x5 : w5.cell? ⟨wr.heap.size, 5, none⟩ = some (.string xt) := HX5.out.c 5; have y0 : w5.cell? ⟨w.heap.size, 0, none⟩ = some (.slice tp tl tc) := HT5.out.c 0; have y1 : w5.cell? ⟨w.heap.size, 1, none⟩ = some (.slice rp nr rc) := HT5.out.c 1; rw [HQ.out] at y1; clear hb_))
            go_roundw
            case rel => exact ⟨k + 1, by omega, by go_num, HNY.out, HT5.out⟩
            case measure => simp [intOf]; omega
          · rw [hsp] at hspk
            have HSP := hid hspk
            cases hsq : seq xt to
            · have hq2 : (xt.toList == to.toList) = false := hsq
              cases hco : cmo rs to n xt
              · rw [hco] at hic
                have HIC := hid hic
                have HNY := HNX (by rw [hsq, hco]; simp)
                clear HNX hspk hem hsp hsq hco hic
                go_wp2_with (first
                  | (go_at_call 37; refine (HIC.out _ HT5.out.bel).mono ?_; rintro e w6 ⟨rfl, hb_⟩; have HT6 : Hid (BlkT w w6 [.slice tp tl tc, .slice rp nr rc] 25) := HT5.out.next hb_; clear hb_)
                  | (go_at_call 77; refine (HSP.out _ HX.out.bel).mono ?_; rintro e w5 ⟨rfl, hb_⟩; have HX5 : Hid (BlkT wr w5 [.string xn, (.slice q1 l1 j1), (.slice q2 l2 j2), (.slice q3 l3 j3), (.slice q4 l4 j4), .string xt, (.slice q5 l5 j5)] 49) := HX.out.next hb_; have HT5 : Hid (BlkT w w5 [.slice tp tl tc, .slice rp nr rc] 25) := HT.out.next HX5.out.bel; have x5 : w5.cell? ⟨wr.heap.size, 5, none⟩ = some (.string xt) := HX5.out.c 5; have y0 : w5.cell? ⟨w.heap.size, 0, none⟩ = some (.slice tp tl tc) := HT5.out.c 0; have y1 : w5.cell? ⟨w.heap.size, 1, none⟩ = some (.slice rp nr rc) := HT5.out.c 1; rw [HQ.out] at y1; clear hb_))
                go_roundw
                case rel => exact ⟨k + 1, by omega, by go_num, HNY.out, HT6.out⟩
                case measure => simp [intOf]; omega
              · rw [hco] at hic
                have HIC := hid hic
                have HR0 := HHT (by rw [hem, hsp, hco]; simp)
                clear HNX HHT hspk hem hsp hsq hco hic
                go_wp2_with (first
                  | (go_at_call 37; refine (HIC.out _ HT5.out.bel).mono ?_; rintro e w6 ⟨rfl, hb_⟩; have HT6 : Hid (BlkT w w6 [.slice tp tl tc, .slice rp nr rc] 25) := HT5.out.next hb_; clear hb_)
                  | (go_at_call 77; refine (HSP.out _ HX.out.bel).mono ?_; rintro e w5 ⟨rfl, hb_⟩; have HX5 : Hid (BlkT wr w5 [.string xn, (.slice q1 l1 j1), (.slice q2 l2 j2), (.slice q3 l3 j3), (.slice q4 l4 j4), .string xt, (.slice q5 l5 j5)] 49) := HX.out.next hb_; have HT5 : Hid (BlkT w w5 [.slice tp tl tc, .slice rp nr rc] 25) := HT.out.next HX5.out.bel; have x5 : w5.cell? ⟨wr.heap.size, 5, none⟩ = some (.string xt) := HX5.out.c 5; have y0 : w5.cell? ⟨w.heap.size, 0, none⟩ = some (.slice tp tl tc) := HT5.out.c 0; have y1 : w5.cell? ⟨w.heap.size, 1, none⟩ = some (.slice rp nr rc) := HT5.out.c 1; rw [HQ.out] at y1; clear hb_))
                go_ret
                rw [HR0.out]
                exact ⟨rfl, HT6.out.bel⟩
            · have hq2 : (xt.toList == to.toList) = true := hsq
              have HR0 := HHT (by rw [hem, hsp, hsq]; simp)
              clear HNX HHT hspk hem hsp hsq hic
              go_wp2_with (first
                | (go_at_call 77; refine (HSP.out _ HX.out.bel).mono ?_; rintro e w5 ⟨rfl, hb_⟩; have HX5 : Hid (BlkT wr w5 [.string xn, (.slice q1 l1 j1), (.slice q2 l2 j2), (.slice q3 l3 j3), (.slice q4 l4 j4), .string xt, (.slice q5 l5 j5)] 49) := HX.out.next hb_; have HT5 : Hid (BlkT w w5 [.slice tp tl tc, .slice rp nr rc] 25) := HT.out.next HX5.out.bel; have x5 : w5.cell? ⟨wr.heap.size, 5, none⟩ = some (.string xt) := HX5.out.c 5; have y0 : w5.cell? ⟨w.heap.size, 0, none⟩ = some (.slice tp tl tc) := HT5.out.c 0; have y1 : w5.cell? ⟨w.heap.size, 1, none⟩ = some (.slice rp nr rc) := HT5.out.c 1; rw [HQ.out] at y1; clear hb_))
              go_ret
              rw [HR0.out]
              exact ⟨rfl, HT5.out.bel⟩
        · have f1 := emp_t hem
          have HNY := HNX (by rw [hem]; simp)
          clear HNX hspk hem
          go_wp2_with fail
          go_roundw
          case rel => exact ⟨k + 1, by omega, by go_num, HNY.out, (HT.out.next HX.out.bel)⟩
          case measure => simp [intOf]; omega
      · obtain rfl : nr = k := by omega
        have HA : Hid (cmo rs to (n + 1) nm = false) := by
          show cmo rs to (n + 1) nm = false
          rw [cmo]
          exact any_none (l := rs) (q := fun x : Rl => !(emp x.e.ty) && (spk x.w x.t x.m nm && (seq x.e.ty to || cmo rs to n x.e.ty))) fun j hj => HF.out j hj (by have := HN.out; omega)
        clear hTr HF
        go_wp2_with fail
        go_ret
        rw [HA.out]
        exact ⟨rfl, HT.out.bel⟩
end Go.Proofs.YthndlfdbmljkhaaGreatDoor.Chk
namespace Go.Proofs.YthndlfdbmljkhaaGreatDoor.Chk
open Go.ChangeShapes Go.WideShapes Go.ChangeAt Go.RowKit Go.Maps
set_option linter.unusedVariables false
set_option linter.unusedSimpArgs false
set_option maxRecDepth 20000
/-- What is wrong with a field. -/
def fdk (f : Fd) : Int := if nchk f.n ≠ 0 then nchk f.n else if 1 ≤ f.k ∧ f.k ≤ 2 then 0 else 3
/-- Fields, one by one, behind some that are done. -/
def tfs (done : List Fd) : List Fd → Int
  | [] => 0
  | f :: r => if fdk f ≠ 0 then fdk f else if done.any (fun d => seq d.n f.n) = true then 7 else tfs (done ++ [f]) r
/-- What is wrong with a type. -/
def tyk (n : ByteArray) (fs : List Fd) : Int := if nchk n ≠ 0 then nchk n else if 4 < fs.length then 1 else tfs [] fs
theorem nf_any (s : ByteArray) (r : Int) (h : nchk s = r) (W : World) : Calls Tryz.prog 70 #[.string s] W fun e w' => e = .returned (.int .i64 r) ∧ w' = W := by rw [← h]; exact nfault_any s W
set_option maxHeartbeats 16000000 in
theorem typeFault_any (tn : ByteArray) (fs : List Fd) (v : Value) (w : World) (hF : Rd w (.row 93 2 (fs.map encF)) v) : Calls Tryz.prog 33 #[.agg #[.string tn, v]] w fun e w' => e = .returned (.int .i64 (tyk tn fs)) ∧ Below w.heap.size w w' := by
  obtain ⟨fp, fc, rfl, hmx, hat⟩ := rd_row lenF hF
  obtain ⟨n, hn⟩ : ∃ n, fs.length = n := ⟨_, rfl⟩
  have HN := hid hn
  have HAT : Hid (At encF 2 w fp fs) := hat
  unfold tyk
  rw [hn] at hmx ⊢
  have HB0 : Hid (BlkT w (w.alloc (.cells [.string tn, .slice fp n fc].toArray 72)) [.string tn, .slice fp n fc] 72) := BlkT.start w _ _
  obtain ⟨r, hr⟩ : ∃ r, nchk tn = r := ⟨_, rfl⟩
  rw [hr]
  have HNT : Hid (∀ W, Calls Tryz.prog 70 #[.string tn] W fun e w' => e = .returned (.int .i64 r) ∧ w' = W) := fun W => nf_any tn r hr W
  clear hF hat hn hr
  by_cases h1 : r = 0
  · rw [if_neg (fun c => c h1)]
    subst h1
    by_cases h4 : 4 < n
    · rw [if_pos h4]
      have b4 : (4 : Int) < (n : Int) := by omega
      go_enter Tryz.func33, Tryz.ntmps33
      go_wp2_with (first
        | (go_at_call_of 70 (Value.string tn); refine (HNT.out _).mono ?_; rintro e w' ⟨rfl, rfl⟩))
      go_loopw [3, 4, 5, 6] (fun e i _ _ wr => e = .int .i64 1 ∧ i = .int .i64 0 ∧ BlkT w wr [.string tn, .slice fp n fc] 72) (fun _ _ _ _ _ => 0)
      case atStart => exact ⟨rfl, rfl, HB0.out⟩
      case round =>
        obtain ⟨rfl, rfl, hTr⟩ := hrel
        have HT := hid hTr
        have a1 : wr.cell? ⟨w.heap.size, 1, none⟩ = some (.slice fp n fc) := hTr.c 1
        clear hTr HB0
        by_cases h0 : (0 : Int) < (n : Int)
        · go_wp2_with fail
          go_ret
          exact ⟨rfl, HT.out.bel⟩
        · exfalso
          omega
    · rw [if_neg h4]
      have b4 : ¬ (4 : Int) < (n : Int) := by omega
      obtain ⟨R, hR⟩ : ∃ R, tfs [] fs = R := ⟨_, rfl⟩
      rw [hR]
      have HR := hid hR
      clear hR
      go_enter Tryz.func33, Tryz.ntmps33
      go_wp2_with (first
        | (go_at_call_of 70 (Value.string tn); refine (HNT.out _).mono ?_; rintro e w' ⟨rfl, rfl⟩))
      go_loopw [3, 4, 5, 6] (fun e i _ _ wr => ∃ (k : Nat) (e1 : Int), k ≤ n ∧ i = .int .i64 (k : Nat) ∧ e = .int .i64 e1 ∧ ((e1 = 0 ∧ tfs (fs.take k) (fs.drop k) = R) ∨ (e1 ≠ 0 ∧ e1 = R)) ∧ BlkT w wr [.string tn, .slice fp n fc] 72) (fun _ i _ _ _ => n + 1 - (intOf i).toNat)
      case atStart => exact ⟨0, 0, by omega, rfl, rfl, .inl ⟨rfl, HR.out⟩, HB0.out⟩
      case round =>
        obtain ⟨k, e1, hk, rfl, rfl, hc, hTr⟩ := hrel
        have HT : Hid (BlkT w wr [.string tn, .slice fp n fc] 72) := hTr
        have a1 : wr.cell? ⟨w.heap.size, 1, none⟩ = some (.slice fp n fc) := hTr.c 1
        clear HB0
        rcases hc with ⟨rfl, hev⟩ | ⟨he, hR⟩
        · by_cases hlt : k < n
          · have hkc : k < fs.length := by have := HN.out; omega
            obtain ⟨g, off, hp, hrd⟩ := HAT.out (by omega)
            have HQ := hid hp
            have HRD := hid hrd
            rw [hp] at a1
            obtain ⟨us, r1, o1⟩ := hrd wr hTr.bel k hkc
            have z1 := rdF o1
            clear o1
            subst z1
            rw [List.drop_eq_getElem_cons hkc, tfs] at hev
            have htk : fs.take (k + 1) = fs.take k ++ [fs[k]] := by rw [List.take_succ_eq_append_getElem hkc]
            obtain ⟨f, hfd⟩ : ∃ f, fs[k] = f := ⟨_, rfl⟩
            rw [hfd] at r1 hev htk
            obtain ⟨fnm, fk⟩ := f
            simp only at r1 hev
            have HTK := hid htk
            have n0 := r1 0 _ rfl
            have n1 := r1 1 _ rfl
            simp only [Nat.add_zero] at n0
            unfold fdk at hev
            simp only at hev
            obtain ⟨rf, hrf⟩ : ∃ rf, nchk fnm = rf := ⟨_, rfl⟩
            rw [hrf] at hev
            have HNF : Hid (∀ W, Calls Tryz.prog 70 #[.string fnm] W fun e w' => e = .returned (.int .i64 rf) ∧ w' = W) := fun W => nf_any fnm rf hrf W
            have HX : Hid (BlkT wr (wr.alloc (.cells [.string fnm, .int .i64 fk].toArray 93)) [.string fnm, .int .i64 fk] 93) := BlkT.start wr _ _
            have i1 : (0 : Int) ≤ (k : Int) := by omega
            have i2 : (k : Int) < (n : Int) := by omega
            clear hrf r1 hfd hrd hTr hkc hp htk
            by_cases h1 : rf = 0
            · rw [if_neg (show ¬ rf ≠ 0 from fun c => c h1)] at hev
              by_cases h2 : 1 ≤ fk ∧ fk ≤ 2
              · rw [if_pos h2, if_neg (by decide)] at hev
                have HEV : Hid ((if (fs.take k).any (fun d => seq d.n fnm) = true then (7 : Int) else tfs (fs.take k ++ [⟨fnm, fk⟩]) (fs.drop (k + 1))) = R) := hev
                have HIN : Hid (∀ W, Calls Tryz.prog 17 #[.int .i64 fk, .int .i64 1, .int .i64 2] W fun e w' => e = .returned (.bool true) ∧ w' = W) := fun W => in_any fk _ _ true (say_true h2) W
                subst h1
                clear hev h2
                go_wp2_with (first
                  | (go_at_call 17; refine (HIN.out _).mono ?_; rintro e w' ⟨rfl, rfl⟩)
                  | (go_at_call 70; refine (HNF.out _).mono ?_; rintro e w' ⟨rfl, rfl⟩))
                obtain ⟨w0, hw0⟩ : ∃ w0, wr = w0 := ⟨_, rfl⟩
                rw [hw0] at HX HT ⊢
                clear a1 n0 n1
                clear hw0
                go_loopw [3, 6] (fun e i wq => ∃ (j : Nat) (e2 : Int), j ≤ k ∧ i = .int .i64 (j : Nat) ∧ e = .int .i64 e2 ∧ ((e2 = 0 ∧ ∀ (q : Nat) (hq : q < fs.length), q < j → seq fs[q].n fnm = false) ∨ (e2 = 7 ∧ (fs.take k).any (fun d => seq d.n fnm) = true)) ∧ BlkT w0 wq [.string fnm, .int .i64 fk] 93) (fun e i _ => (k + 1 - (intOf i).toNat) + (if intOf e = 0 then 1 else 0))
                case atStart => exact ⟨0, 0, by omega, rfl, rfl, .inl ⟨rfl, fun q hq h => by omega⟩, HX.out⟩
                case round =>
                  obtain ⟨j, e2, hj, rfl, rfl, hc, hXr⟩ := hrel
                  have HX2 : Hid (BlkT w0 wr [.string fnm, .int .i64 fk] 93) := hXr
                  have HT2 : Hid (BlkT w wr [.string tn, .slice fp n fc] 72) := HT.out.next hXr.bel
                  have a2 : wr.cell? ⟨w.heap.size, 1, none⟩ = some (.slice fp n fc) := HT2.out.c 1
                  have x0 : wr.cell? ⟨w0.heap.size, 0, none⟩ = some (.string fnm) := hXr.c 0
                  rw [HQ.out] at a2
                  clear hXr
                  rcases hc with ⟨rfl, hno⟩ | ⟨rfl, hany⟩
                  · have HNO := hid hno
                    clear hno
                    by_cases hjk : j < k
                    · have hjc : j < fs.length := by have := HN.out; omega
                      obtain ⟨us, r1, o1⟩ := HRD.out wr HT2.out.bel j hjc
                      have z1 := rdF o1
                      clear o1
                      subst z1
                      have n0 := r1 0 _ rfl
                      simp only [Nat.add_zero] at n0
                      have HNX : seq fs[j].n fnm = false → Hid (∀ (q : Nat) (hq : q < fs.length), q < j + 1 → seq fs[q].n fnm = false) := fun h9 q hq h => by
                        by_cases c : q = j
                        · subst c; exact h9
                        · exact HNO.out q hq (by omega)
                      have HHT : seq fs[j].n fnm = true → Hid ((fs.take k).any (fun d => seq d.n fnm) = true) := fun h9 => List.any_eq_true.2 ⟨fs[j], by rw [List.mem_take_iff_getElem]; exact ⟨j, by omega, rfl⟩, h9⟩
                      obtain ⟨d, hd⟩ : ∃ d, fs[j].n = d := ⟨_, rfl⟩
                      rw [hd] at n0 HNX HHT
                      have i3 : (0 : Int) ≤ (j : Int) := by omega
                      have i4 : (j : Int) < (n : Int) := by omega
                      have i5 : (j : Int) < (k : Int) := by omega
                      cases hq : seq d fnm
                      · have HNY := HNX hq
                        have hq2 : (d.toList == fnm.toList) = false := hq
                        clear HNX HHT hq hd r1 hjc
                        go_wp2_with fail
                        go_quiet (fail)
                        go_wp2_with fail
                        go_roundw
                        case rel => exact ⟨j + 1, 0, by omega, by go_num, rfl, .inl ⟨rfl, HNY.out⟩, HX2.out.next (below_drawn (Below.refl _ _) _)⟩
                        case measure => simp [intOf]; omega
                      · have HNY := HHT hq
                        have hq2 : (d.toList == fnm.toList) = true := hq
                        clear HNX HHT hq hd r1 hjc
                        go_wp2_with fail
                        go_quiet (fail)
                        go_wp2_with fail
                        go_roundw
                        case rel => exact ⟨j + 1, 7, by omega, by go_num, rfl, .inr ⟨rfl, HNY.out⟩, HX2.out.next (below_drawn (Below.refl _ _) _)⟩
                        case measure => simp [intOf]; omega
                    · obtain rfl : j = k := by omega
                      have HR0 : Hid (tfs (fs.take (j + 1)) (fs.drop (j + 1)) = R) := by
                        have h := HEV.out
                        have hn9 : (fs.take j).any (fun d => seq d.n fnm) = false := by
                          rw [List.any_eq_false]
                          intro x hx
                          rw [List.mem_take_iff_getElem] at hx
                          obtain ⟨q, hq, rfl⟩ := hx
                          rw [HNO.out q (by omega) (by omega)]
                          decide
                        rw [if_neg (by rw [hn9]; decide)] at h
                        rw [HTK.out]
                        exact h
                      clear HNO a2 x0
                      go_wp2_with fail
                      go_roundw
                      case rel => exact ⟨j + 1, 0, by omega, by go_num, rfl, .inl ⟨rfl, HR0.out⟩, HT2.out⟩
                      case measure => simp [intOf]; omega
                  · have HR0 : Hid (7 = R) := by
                      have h := HEV.out
                      rw [if_pos hany] at h
                      exact h
                    clear hany a2 x0
                    by_cases hjk : (j : Int) < (k : Int)
                    · go_wp2_with fail
                      go_roundw
                      case rel => exact ⟨k + 1, 7, by omega, by go_num, rfl, .inr ⟨by decide, HR0.out⟩, HT2.out⟩
                      case measure => simp [intOf]; omega
                    · go_wp2_with fail
                      go_roundw
                      case rel => exact ⟨k + 1, 7, by omega, by go_num, rfl, .inr ⟨by decide, HR0.out⟩, HT2.out⟩
                      case measure => simp [intOf]; omega
              · rw [if_neg h2, if_pos (by decide)] at hev
                have HR0 : Hid (3 = R) := hev
                have HE0 : Hid ((3 : Int) ≠ 0) := by show (3 : Int) ≠ 0; decide
                have HIN : Hid (∀ W, Calls Tryz.prog 17 #[.int .i64 fk, .int .i64 1, .int .i64 2] W fun e w' => e = .returned (.bool false) ∧ w' = W) := fun W => in_any fk _ _ false (say_false h2) W
                subst h1
                clear hev h2
                go_wp2_with (first
                  | (go_at_call 17; refine (HIN.out _).mono ?_; rintro e w' ⟨rfl, rfl⟩)
                  | (go_at_call 70; refine (HNF.out _).mono ?_; rintro e w' ⟨rfl, rfl⟩))
                go_loopw [3, 6] (fun e i wq => e = .int .i64 3 ∧ i = .int .i64 0 ∧ BlkT wr wq [.string fnm, .int .i64 fk] 93) (fun _ _ _ => 0)
                case atStart => exact ⟨rfl, rfl, HX.out⟩
                case round =>
                  obtain ⟨rfl, rfl, hXr⟩ := hrel
                  have HX2 := hid hXr
                  clear hXr
                  by_cases h0 : (0 : Int) < (k : Int)
                  · go_wp2_with fail
                    go_roundw
                    case rel => exact ⟨k + 1, 3, by omega, by go_num, rfl, .inr ⟨HE0.out, HR0.out⟩, HT.out.next HX2.out.bel⟩
                    case measure => simp [intOf]; omega
                  · go_wp2_with fail
                    go_roundw
                    case rel => exact ⟨k + 1, 3, by omega, by go_num, rfl, .inr ⟨HE0.out, HR0.out⟩, HT.out.next HX2.out.bel⟩
                    case measure => simp [intOf]; omega
            · rw [if_pos h1, if_pos h1] at hev
              have HR0 : Hid (rf = R) := hev
              have HE0 : Hid (rf ≠ 0) := h1
              have b1 : (rf == 0) = false := by simpa using h1
              have b2 : (rf != 0) = true := by simpa using h1
              clear hev
              go_wp2_with (first
                | (go_at_call 70; refine (HNF.out _).mono ?_; rintro e w' ⟨rfl, rfl⟩))
              go_loopw [3, 6] (fun e i wq => e = .int .i64 rf ∧ i = .int .i64 0 ∧ BlkT wr wq [.string fnm, .int .i64 fk] 93) (fun _ _ _ => 0)
              case atStart => exact ⟨rfl, rfl, HX.out⟩
              case round =>
                obtain ⟨rfl, rfl, hXr⟩ := hrel
                have HX2 := hid hXr
                clear hXr
                by_cases h0 : (0 : Int) < (k : Int)
                · go_wp2_with fail
                  go_roundw
                  case rel => exact ⟨k + 1, rf, by omega, by go_num, rfl, .inr ⟨HE0.out, HR0.out⟩, HT.out.next HX2.out.bel⟩
                  case measure => simp [intOf]; omega
                · go_wp2_with fail
                  go_roundw
                  case rel => exact ⟨k + 1, rf, by omega, by go_num, rfl, .inr ⟨HE0.out, HR0.out⟩, HT.out.next HX2.out.bel⟩
                  case measure => simp [intOf]; omega
          · obtain rfl : n = k := by omega
            rw [List.drop_eq_nil_of_le (by have := HN.out; omega), tfs] at hev
            have HR0 := hid hev
            clear hTr hev
            go_wp2_with fail
            go_ret
            exact ⟨ret_int HR0.out, HT.out.bel⟩
        · have HR0 := hid hR
          have b1 : (e1 == 0) = false := by simpa using he
          clear hTr hR
          by_cases h0 : (k : Int) < (n : Int)
          · go_wp2_with fail
            go_ret
            exact ⟨ret_int HR0.out, HT.out.bel⟩
          · go_wp2_with fail
            go_ret
            exact ⟨ret_int HR0.out, HT.out.bel⟩
  · rw [if_pos h1]
    have b1 : (r == 0) = false := by simpa using h1
    have b2 : (r != 0) = true := by simpa using h1
    go_enter Tryz.func33, Tryz.ntmps33
    go_wp2_with (first
      | (go_at_call_of 70 (Value.string tn); refine (HNT.out _).mono ?_; rintro e w' ⟨rfl, rfl⟩))
    go_loopw [3, 4, 5, 6] (fun e i _ _ wr => e = .int .i64 r ∧ i = .int .i64 0 ∧ BlkT w wr [.string tn, .slice fp n fc] 72) (fun _ _ _ _ _ => 0)
    case atStart => exact ⟨rfl, rfl, HB0.out⟩
    case round =>
      obtain ⟨rfl, rfl, hTr⟩ := hrel
      have HT := hid hTr
      have a1 : wr.cell? ⟨w.heap.size, 1, none⟩ = some (.slice fp n fc) := hTr.c 1
      clear hTr HB0
      by_cases h0 : (0 : Int) < (n : Int)
      · go_wp2_with fail
        go_ret
        exact ⟨rfl, HT.out.bel⟩
      · go_wp2_with fail
        go_ret
        exact ⟨rfl, HT.out.bel⟩
end Go.Proofs.YthndlfdbmljkhaaGreatDoor.Chk
namespace Go.Proofs.YthndlfdbmljkhaaGreatDoor.Chk
open Go.ChangeShapes Go.WideShapes Go.ChangeAt Go.RowKit Go.Maps
set_option linter.unusedVariables false
set_option linter.unusedSimpArgs false
theorem flat_take {α : Type} {enc : α → List Dat} (cs : List α) (k : Nat) : ∃ r, (cs.map enc).flatten = ((cs.take k).map enc).flatten ++ r := ⟨((cs.drop k).map enc).flatten, by rw [← List.flatten_append, ← List.map_append, List.take_append_drop]⟩
/-- The first k elements of a row, as x[:k] has them. -/
theorem rd_take {α : Type} {enc : α → List Dat} {e z : Nat} {w : World} {p : Option Addr} {n cap : Nat} {cs : List α} (h : Rd w (.row e z (cs.map enc)) (.slice p n cap)) (k : Nat) (hk : k ≤ cs.length) : Rd w (.row e z ((cs.take k).map enc)) (.slice p k cap) := by
  generalize hd : Dat.row e z (cs.map enc) = d at h
  generalize hv : Value.slice p n cap = v at h
  cases h with
  | lit v => cases hd
  | nil e' z' p' cap' h1 =>
    simp only [Dat.row.injEq] at hd
    simp only [Value.slice.injEq] at hv
    have h0 : cs.length = 0 := by have := congrArg List.length hd.2.2; simpa using this
    obtain rfl : k = 0 := by omega
    obtain ⟨rfl, _, rfl⟩ := hv
    have : (cs.take 0).map enc = [] := rfl
    rw [this]
    exact .nil _ _ _ _ h1
  | row e' z' l g off cap' xs h1 h2 h3 h4 h5 h6 =>
    simp only [Dat.row.injEq] at hd
    simp only [Value.slice.injEq] at hv
    obtain ⟨rfl, rfl, rfl⟩ := hd
    obtain ⟨rfl, rfl, rfl⟩ := hv
    by_cases h0 : k = 0
    · subst h0
      have : (cs.take 0).map enc = [] := rfl
      rw [this]
      exact .nil _ _ _ _ h3
    · obtain ⟨r, hr⟩ := flat_take (enc := enc) cs k
      have hl : ((cs.take k).map enc).length = k := by simp; omega
      have hlen : ((cs.take k).map enc).flatten.length ≤ xs.length := by rw [← h5, hr, List.length_append]; omega
      have key := Rd.row e z ((cs.take k).map enc) g off cap (xs.take ((cs.take k).map enc).flatten.length) (w := w) (by rw [hl]; omega) (by rw [hl]; rw [List.length_map] at h2; omega) h3 (fun j u hu => by
        have hj : j < ((cs.take k).map enc).flatten.length := by
          have := (List.getElem?_eq_some_iff.1 hu).1
          rw [List.length_take] at this
          omega
        rw [List.getElem?_take_of_lt hj] at hu
        exact h4 j u hu) (by rw [List.length_take]; omega) (fun q hq => by
        have h9 := h6 q (by rw [hr, List.length_append]; omega)
        have e1 : (cs.map enc).flatten[q]'(by rw [hr, List.length_append]; omega) = ((cs.take k).map enc).flatten[q] := by
          rw [List.getElem_of_eq hr, List.getElem_append_left hq]
        rw [e1] at h9
        have e2 : (xs.take ((cs.take k).map enc).flatten.length).getD q nilV = xs.getD q nilV := by
          rw [List.getD_eq_getElem?_getD, List.getD_eq_getElem?_getD, List.getElem?_take_of_lt hq]
        rw [e2]
        exact h9)
      rw [hl] at key
      exact key
end Go.Proofs.YthndlfdbmljkhaaGreatDoor.Chk
