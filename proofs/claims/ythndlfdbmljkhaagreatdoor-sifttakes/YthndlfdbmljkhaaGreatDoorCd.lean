/-
  Sides and conditions, by the reference. Options, and fields that are summed up, by the reference. Conditions, by the reference. Does a rule speak of a type? By the reference.
-/
import Derived.Test.YthndlfdbmljkhaaGreatDoorCc
namespace Go.Proofs.YthndlfdbmljkhaaGreatDoor.Chk
open Go.ChangeShapes Go.WideShapes Go.ChangeAt Go.RowKit Go.Maps
set_option linter.unusedVariables false
set_option linter.unusedSimpArgs false
set_option maxRecDepth 20000
theorem fck_none {fs : List Fd} {n : ByteArray} (h : fdq fs n = -1) : fck fs n = (0, 6) := by
  unfold fck
  rw [if_pos (by rw [h]; decide)]
theorem fck_some {fs : List Fd} {n : ByteArray} {j : Nat} (hj : j < fs.length) (h : fdq fs n = (j : Int)) : fck fs n = (fs[j].k, 0) := by
  unfold fck
  rw [if_neg (by rw [h]; omega), h]
  simp [hj]
def Known (ts : List Tp) (kn : List Pt) : Prop := ∀ j (hj : j < kn.length), ∃ i, ∃ _ : i < ts.length, tyq ts kn[j].ty = (i : Int)
theorem sideKind_any (ts : List Tp) (kn : List Pt) (own : Tp) (o : Opd) (tv kv fv : Value) (w : World) (hT : Rd w (.row 72 2 (ts.map encY)) tv) (hK : Rd w (.row 65 18 (kn.map encP)) kv) (hF : Rd w (.row 93 2 (own.f.map encF)) fv) (hkn : Known ts kn) :
   Calls Tryz.prog 125 #[tv, kv, .agg #[.string own.n, fv], opV o] w fun e w' => e = .returned (.tuple #[.int .i64 (sdk ts kn own o).1, .int .i64 (sdk ts kn own o).2]) ∧ Below w.heap.size w w' := by
 obtain ⟨tp, tc, e1, _, _⟩ := rd_row lenY hT
 obtain ⟨kp, kc, e2, _, _⟩ := rd_row lenP hK
 obtain ⟨fp, fc, e3, _, _⟩ := rd_row lenF hF
 subst e1 e2 e3
 obtain ⟨tn, tf⟩ := own
 obtain ⟨ok, ovk, ovi, ovt, ova, ofd⟩ := o
 simp only at hF ⊢
 unfold sdk opV
 simp only
 by_cases hk : 1 ≤ ok ∧ ok ≤ 3
 . rw [if_neg (fun c => c hk)]
   by_cases h1 : ok = 1
   . rw [if_pos h1]
     cases hv : emp ova
     . rw [if_pos (.inl rfl)]
       exact side_c1 ts kn tn tf ok ovk ovi ovt ova ofd tp kp fp _ tc _ kc _ fc w h1 hv
     . cases hf : emp ofd
       . rw [if_pos (.inr rfl)]
         exact side_c2 ts kn tn tf ok ovk ovi ovt ova ofd tp kp fp _ tc _ kc _ fc w h1 hv hf
       . rw [if_neg (by simp)]
         exact side_const ts kn tn tf ok ovk ovi ovt ova ofd tp kp fp _ tc _ kc _ fc w h1 hv hf
   . rw [if_neg h1]
     by_cases h2 : ok = 2
     . rw [if_pos h2]
       cases hv : emp ova
       . rw [if_pos (.inl rfl)]
         exact side_o1 ts kn tn tf ok ovk ovi ovt ova ofd tp kp fp _ tc _ kc _ fc w h2 hv
       . by_cases z1 : ovk = 0
         . by_cases z2 : ovi = 0
           . cases z3 : emp ovt
             . rw [if_pos (.inr (by simp [nzv, z3]))]
               exact side_o4 ts kn tn tf ok ovk ovi ovt ova ofd tp kp fp _ tc _ kc _ fc w h2 hv z1 z2 z3
             . rw [if_neg (by simp [nzv, z1, z2, z3])]
               rcases ixq_lt (q := fun f : Fd => seq f.n ofd) tf 0 with c | ⟨j, hj, c, _⟩
               . rw [fck_none c]
                 exact side_own0 ts kn tn tf ok ovk ovi ovt ova ofd tp kp fp _ tc _ kc _ fc w h2 hv z1 z2 z3 hF c
               . have c' : fdq tf ofd = (j : Int) := by show ixq _ _ _ = _; rw [c]; simp
                 rw [fck_some hj c']
                 exact side_own1 ts kn tn tf ok ovk ovi ovt ova ofd tp kp fp _ tc _ kc _ fc w h2 hv z1 z2 z3 hF j hj c' _ rfl
           . rw [if_pos (.inr (by simp [nzv, z2]))]
             exact side_o3 ts kn tn tf ok ovk ovi ovt ova ofd tp kp fp _ tc _ kc _ fc w h2 hv z1 z2
         . rw [if_pos (.inr (by simp [nzv, z1]))]
           exact side_o2 ts kn tn tf ok ovk ovi ovt ova ofd tp kp fp _ tc _ kc _ fc w h2 hv z1
     . rw [if_neg h2]
       have h3 : ok = 3 := by omega
       rcases ixq_lt (q := fun p : Pt => seq p.va ova) kn 0 with c | ⟨j, hj, c, _⟩
       . have c0 : ptq kn ova = -1 := c
         rw [if_pos (by rw [c0]; decide)]
         exact side_oth0 ts kn tn tf ok ovk ovi ovt ova ofd tp kp fp _ tc _ kc _ fc w h3 hK c0
       . have c' : ptq kn ova = (j : Int) := by show ixq _ _ _ = _; rw [c]; simp
         rw [if_neg (by rw [c']; omega)]
         obtain ⟨i, hi, hq⟩ := hkn j hj
         have hto : tyOf ts kn ova = ts[i] := by
           unfold tyOf
           rw [c']
           simp [hj, hq, hi]
         obtain ⟨⟨tn2, tf2⟩, ht2⟩ : ∃ t, ts[i] = t := ⟨_, rfl⟩
         rw [hto, ht2]
         simp only
         by_cases z1 : ovk = 0
         . by_cases z2 : ovi = 0
           . cases z3 : emp ovt
             . rw [if_pos (by simp [nzv, z3])]
               exact side_oth1c ts kn tn tf ok ovk ovi ovt ova ofd tp kp fp _ tc _ kc _ fc w h3 hK hT j hj c' _ rfl i hi hq tn2 tf2 ht2 z1 z2 z3
             . rw [if_neg (by simp [nzv, z1, z2, z3])]
               rcases ixq_lt (q := fun f : Fd => seq f.n ofd) tf2 0 with d | ⟨q, hq9, d, _⟩
               . rw [fck_none d]
                 exact side_oth2 ts kn tn tf ok ovk ovi ovt ova ofd tp kp fp _ tc _ kc _ fc w h3 hK hT j hj c' _ rfl i hi hq tn2 tf2 ht2 z1 z2 z3 d
               . have d' : fdq tf2 ofd = (q : Int) := by show ixq _ _ _ = _; rw [d]; simp
                 rw [fck_some hq9 d']
                 exact side_oth3 ts kn tn tf ok ovk ovi ovt ova ofd tp kp fp _ tc _ kc _ fc w h3 hK hT j hj c' _ rfl i hi hq tn2 tf2 ht2 z1 z2 z3 q hq9 d' _ rfl
           . rw [if_pos (by simp [nzv, z2])]
             exact side_oth1b ts kn tn tf ok ovk ovi ovt ova ofd tp kp fp _ tc _ kc _ fc w h3 hK hT j hj c' _ rfl i hi hq tn2 tf2 ht2 z1 z2
         . rw [if_pos (by simp [nzv, z1])]
           exact side_oth1a ts kn tn tf ok ovk ovi ovt ova ofd tp kp fp _ tc _ kc _ fc w h3 hK hT j hj c' _ rfl i hi hq tn2 tf2 ht2 z1
 . rw [if_pos hk]
   exact side_bad ts kn tn tf ok ovk ovi ovt ova ofd tp kp fp _ tc _ kc _ fc w hk
theorem hid' {p : Prop} (h : p) : Hid p := h
def ock (r lo hi : Int) : Int := if ¬ (1 ≤ r ∧ r ≤ 13) then 3 else if ¬ (0 ≤ lo ∧ lo ≤ 1073741824) ∨ ¬ (-1 ≤ hi ∧ hi ≤ 1073741824) then 2 else if hi ≠ -1 ∧ hi < lo then 11 else 0
set_option maxHeartbeats 4000000 in
theorem optionFault_any (r lo hi : Int) (w : World) : Calls Tryz.prog 124 #[.agg #[.int .i64 r, .int .i64 lo, .int .i64 hi]] w fun e w' => e = .returned (.int .i64 (ock r lo hi)) ∧ Below w.heap.size w w' := by
 unfold ock
 by_cases h1 : 1 ≤ r ∧ r ≤ 13
 . have H1 : Hid (∀ W, Calls Tryz.prog 17 #[.int .i64 r, .int .i64 1, .int .i64 13] W fun e w' => e = .returned (.bool true) ∧ w' = W) := fun W => in_any r _ _ true (say_true h1) W
   rw [if_neg (fun c => c h1)]
   by_cases h2 : 0 ≤ lo ∧ lo ≤ 1073741824
   . have H2 : Hid (∀ W, Calls Tryz.prog 17 #[.int .i64 lo, .int .i64 0, .int .i64 1073741824] W fun e w' => e = .returned (.bool true) ∧ w' = W) := fun W => in_any lo _ _ true (say_true h2) W
     by_cases h3 : -1 ≤ hi ∧ hi ≤ 1073741824
     . have H3 : Hid (∀ W, Calls Tryz.prog 17 #[.int .i64 hi, .int .i64 (-1), .int .i64 1073741824] W fun e w' => e = .returned (.bool true) ∧ w' = W) := fun W => in_any hi _ _ true (say_true h3) W
       rw [if_neg (by rintro (c | c); exact c h2; exact c h3)]
       by_cases h4 : hi = -1
       . subst h4
         rw [if_neg (fun c => c.1 rfl)]
         clear h1 h2 h3
         go_enter Tryz.func124, Tryz.ntmps124
         go_wp2_with (first
           | (go_at_call_of 17 (Value.int .i64 13); refine (H1.out _).mono ?_; rintro e w' ⟨rfl, rfl⟩)
           | (go_at_call_of 17 (Value.int .i64 0); refine (H2.out _).mono ?_; rintro e w' ⟨rfl, rfl⟩)
           | (go_at_call 17; refine (H3.out _).mono ?_; rintro e w' ⟨rfl, rfl⟩))
         go_ret
         exact ⟨rfl, by go_grown⟩
       . have b1 : (hi == -1) = false := by simpa using h4
         have b2 : (hi != -1) = true := by simpa using h4
         by_cases h5 : hi < lo
         . rw [if_pos ⟨h4, h5⟩]
           clear h1 h2 h3
           go_enter Tryz.func124, Tryz.ntmps124
           go_wp2_with (first
            | (go_at_call_of 17 (Value.int .i64 13); refine (H1.out _).mono ?_; rintro e w' ⟨rfl, rfl⟩)
            | (go_at_call_of 17 (Value.int .i64 0); refine (H2.out _).mono ?_; rintro e w' ⟨rfl, rfl⟩)
            | (go_at_call 17; refine (H3.out _).mono ?_; rintro e w' ⟨rfl, rfl⟩))
           go_ret
           exact ⟨rfl, by go_grown⟩
         . rw [if_neg (fun c => h5 c.2)]
           clear h1 h2 h3
           go_enter Tryz.func124, Tryz.ntmps124
           go_wp2_with (first
            | (go_at_call_of 17 (Value.int .i64 13); refine (H1.out _).mono ?_; rintro e w' ⟨rfl, rfl⟩)
            | (go_at_call_of 17 (Value.int .i64 0); refine (H2.out _).mono ?_; rintro e w' ⟨rfl, rfl⟩)
            | (go_at_call 17; refine (H3.out _).mono ?_; rintro e w' ⟨rfl, rfl⟩))
           go_ret
           exact ⟨rfl, by go_grown⟩
     . have H3 : Hid (∀ W, Calls Tryz.prog 17 #[.int .i64 hi, .int .i64 (-1), .int .i64 1073741824] W fun e w' => e = .returned (.bool false) ∧ w' = W) := fun W => in_any hi _ _ false (say_false h3) W
       rw [if_pos (.inr h3)]
       clear h1 h2 h3
       go_enter Tryz.func124, Tryz.ntmps124
       go_wp2_with (first
         | (go_at_call_of 17 (Value.int .i64 13); refine (H1.out _).mono ?_; rintro e w' ⟨rfl, rfl⟩)
         | (go_at_call_of 17 (Value.int .i64 0); refine (H2.out _).mono ?_; rintro e w' ⟨rfl, rfl⟩)
         | (go_at_call 17; refine (H3.out _).mono ?_; rintro e w' ⟨rfl, rfl⟩))
       go_ret
       exact ⟨rfl, by go_grown⟩
   . have H2 : Hid (∀ W, Calls Tryz.prog 17 #[.int .i64 lo, .int .i64 0, .int .i64 1073741824] W fun e w' => e = .returned (.bool false) ∧ w' = W) := fun W => in_any lo _ _ false (say_false h2) W
     rw [if_pos (.inl h2)]
     clear h1 h2
     go_enter Tryz.func124, Tryz.ntmps124
     go_wp2_with (first
       | (go_at_call_of 17 (Value.int .i64 13); refine (H1.out _).mono ?_; rintro e w' ⟨rfl, rfl⟩)
       | (go_at_call_of 17 (Value.int .i64 0); refine (H2.out _).mono ?_; rintro e w' ⟨rfl, rfl⟩))
     go_ret
     exact ⟨rfl, by go_grown⟩
 . have H1 : Hid (∀ W, Calls Tryz.prog 17 #[.int .i64 r, .int .i64 1, .int .i64 13] W fun e w' => e = .returned (.bool false) ∧ w' = W) := fun W => in_any r _ _ false (say_false h1) W
   rw [if_pos h1]
   clear h1
   go_enter Tryz.func124, Tryz.ntmps124
   go_wp2_with (first
     | (go_at_call_of 17 (Value.int .i64 13); refine (H1.out _).mono ?_; rintro e w' ⟨rfl, rfl⟩))
   go_ret
   exact ⟨rfl, by go_grown⟩
def sck (fs : List Fd) (n : ByteArray) : Int := if (fck fs n).2 ≠ 0 then 6 else if (fck fs n).1 = 1 then 0 else 13
structure BlkT (w0 w : World) (us : List Value) (t : TypeId) : Prop where
  bel : Below w0.heap.size w0 w
  b1 : w.heap[w0.heap.size]? = some (.cells us.toArray t (0, 0))
theorem BlkT.start (w : World) (us : List Value) (t : TypeId) : BlkT w (w.alloc (.cells us.toArray t)) us t := ⟨(Below.refl _ _).alloc (Nat.le_refl _) _, heap_alloc_new _ _⟩
theorem BlkT.next {w0 w w' : World} {us : List Value} {t : TypeId} (h : BlkT w0 w us t) (hb : Below w.heap.size w w') : BlkT w0 w' us t := ⟨below_trans h.bel hb h.bel.size, (hb.block _ (blk_lt h.b1)).trans h.b1⟩
theorem BlkT.c {w0 w : World} {us : List Value} {t : TypeId} (h : BlkT w0 w us t) (j : Nat) : w.cell? ⟨w0.heap.size, j, none⟩ = us[j]? := by rw [cell_of_blk h.b1]; simp
set_option maxHeartbeats 4000000 in
theorem sumFault_any (tn : ByteArray) (tf : List Fd) (v : Value) (nm : ByteArray) (w : World) (hF : Rd w (.row 93 2 (tf.map encF)) v) : Calls Tryz.prog 74 #[.agg #[.string tn, v], .string nm] w fun e w' => e = .returned (.int .i64 (sck tf nm)) ∧ Below w.heap.size w w' := by
 have hfa := fun W (hW : Below w.heap.size w W) => fieldAt_any tn tf v nm W (hF.later hW)
 obtain ⟨p, cap, rfl, hmx, hat⟩ := rd_row lenF hF
 obtain ⟨n, hn⟩ : ∃ n, tf.length = n := ⟨_, rfl⟩
 have HN := hid' hn
 have HAT : Hid (At encF 2 w p tf) := hat
 rw [hn] at hfa hmx ⊢
 have HB1 : Hid (BlkT w (w.alloc (.cells [.string tn, .slice p n cap].toArray 72)) [.string tn, .slice p n cap] 72) := BlkT.start w _ _
 unfold sck
 rcases ixq_lt (q := fun f : Fd => seq f.n nm) tf 0 with c | ⟨j, hj, c, hqq⟩
 . have c0 : fdq tf nm = -1 := c
   rw [fck_none c0, if_pos (by decide)]
   rw [c0] at hfa
   have HFA := hid' hfa
   clear hF hat hn c c0 hfa
   go_enter Tryz.func74, Tryz.ntmps74
   go_wp2_with (first
     | (go_at_call 123; refine (HFA.out _ HB1.out.bel).mono ?_; rintro e w5 ⟨rfl, hb_⟩; have HB5 : Hid _ := HB1.out.next hb_; clear hb_))
   go_ret
   exact ⟨rfl, HB5.out.bel⟩
 . have c0 : fdq tf nm = (j : Int) := by show ixq _ _ _ = _; rw [c]; simp
   rw [fck_some hj c0, if_neg (by simp)]
   rw [c0] at hfa
   have HFA := hid' hfa
   obtain ⟨g, off, rfl, hrd⟩ := hat (by omega)
   obtain ⟨fk, hfk⟩ : ∃ fk, tf[j].k = fk := ⟨_, rfl⟩
   have HCF : Hid (∀ W, Below w.heap.size w W → W.cell? ⟨g, off + j * 2 + 1, none⟩ = some (.int .i64 fk)) := fun W hW => by
     obtain ⟨us, r1, o1⟩ := hrd W hW j hj
     have z1 := rdF o1
     clear o1
     subst z1
     rw [← hfk]
     exact r1 1 _ rfl
   have i1 : (0 : Int) ≤ (j : Int) := by omega
   have i2 : (j : Int) < (n : Int) := by omega
   simp only [hfk]
   clear hqq hF hn c c0 hfa hrd hfk hj HAT
   by_cases hk : fk = 1
   . rw [if_pos hk]
     subst hk
     go_enter Tryz.func74, Tryz.ntmps74
     go_wp2_with (first
      | (go_at_call 123; refine (HFA.out _ HB1.out.bel).mono ?_; rintro e w5 ⟨rfl, hb_⟩; have HB5 : Hid _ := HB1.out.next hb_; have z1 : w5.cell? ⟨w.heap.size, 1, none⟩ = some (.slice (some ⟨g, off, none⟩) n cap) := HB5.out.c 1; have z2 := HCF.out _ HB5.out.bel; clear hb_))
     go_ret
     exact ⟨rfl, HB5.out.bel⟩
   . rw [if_neg hk]
     have b1 : (fk != 1) = true := by simpa using hk
     have b2 : (fk == 1) = false := by simpa using hk
     go_enter Tryz.func74, Tryz.ntmps74
     go_wp2_with (first
      | (go_at_call 123; refine (HFA.out _ HB1.out.bel).mono ?_; rintro e w5 ⟨rfl, hb_⟩; have HB5 : Hid _ := HB1.out.next hb_; have z1 : w5.cell? ⟨w.heap.size, 1, none⟩ = some (.slice (some ⟨g, off, none⟩) n cap) := HB5.out.c 1; have z2 := HCF.out _ HB5.out.bel; clear hb_))
     go_ret
     exact ⟨rfl, HB5.out.bel⟩
def eqz (o : Opd) : Bool := decide (o.k = 0) && decide (o.vk = 0) && decide (o.vi = 0) && emp o.vt && emp o.va && emp o.fd
def noc (c : Cn) : Bool := decide (c.k = 0) && decide (c.sb.length = 0) && eqz c.l && eqz c.r
set_option maxHeartbeats 8000000 in
theorem noCondition_any (c : Cn) (p : Option Addr) (cap : Nat) (w : World) : Calls Tryz.prog 121 #[cnV c.k (.slice p c.sb.length cap) c.l c.r] w fun e w' => e = .returned (.bool (noc c)) ∧ Below w.heap.size w w' := by
 obtain ⟨ck, csb, ⟨lk, lvk, lvi, lvt, lva, lfd⟩, ⟨rk, rvk, rvi, rvt, rva, rfd⟩⟩ := c
 unfold noc
 simp only
 obtain ⟨n, hn⟩ : ∃ n, csb.length = n := ⟨_, rfl⟩
 rw [hn]
 clear hn
 by_cases hk : ck = 0
 . subst hk
   by_cases h0 : n = 0
   . subst h0
     go_enter Tryz.func121, Tryz.ntmps121
     go_wp2_with fail
     all_goals
      go_ret
      exact ⟨by simp [eqz, emp, *], by go_grown⟩
   . have b0 : ((n : Int) == 0) = false := by simp; omega
     have b1 : ¬ (n : Int) = 0 := by omega
     go_enter Tryz.func121, Tryz.ntmps121
     go_wp2_with fail
     all_goals
      go_ret
      exact ⟨by simp [h0], by go_grown⟩
 . have b0 : (ck == 0) = false := by simpa using hk
   go_enter Tryz.func121, Tryz.ntmps121
   go_wp2_with fail
   all_goals
     go_ret
     exact ⟨by simp [hk], by go_grown⟩
def decO : List Dat → Option Opd
  | [.lit (.int .i64 a), .lit (.int .i64 b), .lit (.int .i64 c), .lit (.string x), .lit (.string y), .lit (.string z)] => some ⟨a, b, c, x, y, z⟩
  | _ => none
def decC : List Dat → Option Cn
  | .lit (.int .i64 k) :: .row _ _ sb :: rest => (match decO (rest.take 6), decO (rest.drop 6) with | some l, some r => some ⟨k, sb, l, r⟩ | _, _ => none)
  | _ => none
theorem decC_enc (c : Cn) : decC (encC c) = some c := rfl
def subs (c : Cn) : List Cn := c.sb.filterMap decC
theorem dec_all : ∀ cs : List Cn, (cs.map encC).filterMap decC = cs
  | [] => rfl
  | x :: r => by rw [List.map_cons, List.filterMap_cons, decC_enc, dec_all r]
theorem subs_of {c : Cn} {cs : List Cn} (h : c.sb = cs.map encC) : subs c = cs := by
  unfold subs
  rw [h]
  exact dec_all cs
theorem eqz_of {o : Opd} (h : eqz o = true) : o.k = 0 ∧ o.vk = 0 ∧ o.vi = 0 ∧ o.vt.toList = [] ∧ o.va.toList = [] ∧ o.fd.toList = [] := by
  simp only [eqz, Bool.and_eq_true, decide_eq_true_eq] at h
  exact ⟨h.1.1.1.1.1, h.1.1.1.1.2, h.1.1.1.2, emp_t h.1.1.2, emp_t h.1.2, emp_t h.2⟩
inductive Wfc : Cn → Prop
  | mk (c : Cn) (cs : List Cn) : c.sb = cs.map encC → (∀ x, x ∈ cs → Wfc x) → Wfc c
def cgo (f : Cn → Int × Int) : List Cn → Int → Int × Int
  | [], m => (m, 0)
  | x :: r, m => if (f x).2 ≠ 0 then (0, (f x).2) else if 12 < m + (f x).1 then (0, 1) else cgo f r (m + (f x).1)
def cdk (ts : List Tp) (kn : List Pt) (own : Tp) : Nat → Cn → Int × Int
  | 0, c => if 1 ≤ c.k ∧ c.k ≤ 7 then (0, 14) else (0, 3)
  | n + 1, c =>
    if ¬ (1 ≤ c.k ∧ c.k ≤ 7) then (0, 3)
    else if 3 < c.k then
      (if c.sb.length ≠ 0 then (0, 4)
       else if (sdk ts kn own c.l).2 ≠ 0 then (0, (sdk ts kn own c.l).2)
       else if (sdk ts kn own c.r).2 ≠ 0 then (0, (sdk ts kn own c.r).2)
       else if (sdk ts kn own c.l).1 ≠ (sdk ts kn own c.r).1 then (0, 13) else (1, 0))
    else if eqz c.l = false ∨ eqz c.r = false then (0, 4)
    else if (c.k = 3 ∧ c.sb.length ≠ 1) ∨ (c.k ≠ 3 ∧ c.sb.length < 2) then (0, 4)
    else cgo (cdk ts kn own n) (subs c) 0
structure Blk2 (w0 w : World) (us vs : List Value) (t1 t2 : TypeId) : Prop where
  bel : Below w0.heap.size w0 w
  b1 : w.heap[w0.heap.size]? = some (.cells us.toArray t1 (0, 0))
  b2 : w.heap[w0.heap.size + 1]? = some (.cells vs.toArray t2 (0, 0))
theorem Blk2.start (w : World) (us vs : List Value) (t1 t2 : TypeId) : Blk2 w ((w.alloc (.cells us.toArray t1)).alloc (.cells vs.toArray t2)) us vs t1 t2 :=
  ⟨((Below.refl _ _).alloc (Nat.le_refl _) _).alloc (by simp) _, (Below.heap_alloc _ _ _ (by simp)).trans (heap_alloc_new _ _), heap_2 _ _ _⟩
section
variable {w0 w w' : World} {us vs : List Value} {t1 t2 : TypeId}
theorem Blk2.next (h : Blk2 w0 w us vs t1 t2) (hb : Below w.heap.size w w') : Blk2 w0 w' us vs t1 t2 := ⟨below_trans h.bel hb h.bel.size, (hb.block _ (blk_lt h.b1)).trans h.b1, (hb.block _ (blk_lt h.b2)).trans h.b2⟩
theorem Blk2.drew (h : Blk2 w0 w us vs t1 t2) : Blk2 w0 w.drew us vs t1 t2 := ⟨h.bel.drew, h.b1, h.b2⟩
theorem Blk2.alloc (h : Blk2 w0 w us vs t1 t2) (o : Obj) : Blk2 w0 (w.alloc o) us vs t1 t2 := h.next ((Below.refl _ _).alloc (Nat.le_refl _) _)
theorem Blk2.c1 (h : Blk2 w0 w us vs t1 t2) (j : Nat) : w.cell? ⟨w0.heap.size, j, none⟩ = us[j]? := by rw [cell_of_blk h.b1]; simp
theorem Blk2.c2 (h : Blk2 w0 w us vs t1 t2) (j : Nat) : w.cell? ⟨w0.heap.size + 1, j, none⟩ = vs[j]? := by rw [cell_of_blk h.b2]; simp
end
theorem hid {p : Prop} (h : p) : Hid p := h
def CR (w : World) (r : Int × Int) (e : Ending) (w' : World) : Prop := ∃ m : Int, e = .returned (.tuple #[.int .i64 m, .int .i64 r.2]) ∧ (r.2 = 0 → m = r.1) ∧ Below w.heap.size w w'
set_option maxHeartbeats 8000000 in
theorem cond_kind (on : ByteArray) (ck : Int) (n : Nat) (lk lvk lvi rk rvk rvi : Int) (lvt lva lfd rvt rva rfd : ByteArray) (tp kp fp p : Option Addr) (tl tc kl kc fl fc cap : Nat) (dp : Int) (w : World) (hk : ¬ (1 ≤ ck ∧ ck ≤ 7)) : Calls Tryz.prog 122 #[.slice tp tl tc, .slice kp kl kc, .agg #[.string on, .slice fp fl fc], (cnV ck (.slice p n cap) ⟨lk, lvk, lvi, lvt, lva, lfd⟩ ⟨rk, rvk, rvi, rvt, rva, rfd⟩), .int .i64 dp] w fun e w' => e = .returned (.tuple #[.int .i64 0, .int .i64 3]) ∧ Below w.heap.size w w' := by
 have HI : Hid (∀ W, Calls Tryz.prog 17 #[.int .i64 ck, .int .i64 1, .int .i64 7] W fun e w' => e = .returned (.bool false) ∧ w' = W) := fun W => in_any ck _ _ false (say_false hk) W
 clear hk
 go_enter Tryz.func122, Tryz.ntmps122
 go_wp2_with (go_at_call 17; refine (HI.out _).mono ?_; rintro e w' ⟨rfl, rfl⟩)
 all_goals
  go_ret2
  exact ⟨rfl, by go_grown⟩
set_option maxHeartbeats 8000000 in
theorem cond_deep (on : ByteArray) (ck : Int) (n : Nat) (lk lvk lvi rk rvk rvi : Int) (lvt lva lfd rvt rva rfd : ByteArray) (tp kp fp p : Option Addr) (tl tc kl kc fl fc cap : Nat) (dp : Int) (w : World) (hk : 1 ≤ ck ∧ ck ≤ 7) (hd : 8 < dp) : Calls Tryz.prog 122 #[.slice tp tl tc, .slice kp kl kc, .agg #[.string on, .slice fp fl fc], (cnV ck (.slice p n cap) ⟨lk, lvk, lvi, lvt, lva, lfd⟩ ⟨rk, rvk, rvi, rvt, rva, rfd⟩), .int .i64 dp] w fun e w' => e = .returned (.tuple #[.int .i64 0, .int .i64 14]) ∧ Below w.heap.size w w' := by
 have HI : Hid (∀ W, Calls Tryz.prog 17 #[.int .i64 ck, .int .i64 1, .int .i64 7] W fun e w' => e = .returned (.bool true) ∧ w' = W) := fun W => in_any ck _ _ true (say_true hk) W
 clear hk
 go_enter Tryz.func122, Tryz.ntmps122
 go_wp2_with (go_at_call 17; refine (HI.out _).mono ?_; rintro e w' ⟨rfl, rfl⟩)
 all_goals
  go_ret2
  exact ⟨rfl, by go_grown⟩
set_option maxHeartbeats 8000000 in
theorem cond_subs (on : ByteArray) (ck : Int) (n : Nat) (lk lvk lvi rk rvk rvi : Int) (lvt lva lfd rvt rva rfd : ByteArray) (tp kp fp p : Option Addr) (tl tc kl kc fl fc cap : Nat) (dp : Int) (w : World) (hk : 1 ≤ ck ∧ ck ≤ 7) (hd : ¬ 8 < dp) (h3 : 3 < ck) (hn : n ≠ 0) : Calls Tryz.prog 122 #[.slice tp tl tc, .slice kp kl kc, .agg #[.string on, .slice fp fl fc], (cnV ck (.slice p n cap) ⟨lk, lvk, lvi, lvt, lva, lfd⟩ ⟨rk, rvk, rvi, rvt, rva, rfd⟩), .int .i64 dp] w fun e w' => e = .returned (.tuple #[.int .i64 0, .int .i64 4]) ∧ Below w.heap.size w w' := by
 have HI : Hid (∀ W, Calls Tryz.prog 17 #[.int .i64 ck, .int .i64 1, .int .i64 7] W fun e w' => e = .returned (.bool true) ∧ w' = W) := fun W => in_any ck _ _ true (say_true hk) W
 have b1 : (0 : Int) < (n : Int) := by omega
 clear hk
 go_enter Tryz.func122, Tryz.ntmps122
 go_wp2_with (go_at_call 17; refine (HI.out _).mono ?_; rintro e w' ⟨rfl, rfl⟩)
 all_goals
  go_ret2
  exact ⟨rfl, by go_grown⟩
set_option maxHeartbeats 8000000 in
theorem cond_left (am ae : Int) (on : ByteArray) (ck : Int) (n : Nat) (lk lvk lvi rk rvk rvi : Int) (lvt lva lfd rvt rva rfd : ByteArray) (tp kp fp p : Option Addr) (tl tc kl kc fl fc cap : Nat) (dp : Int) (w : World) (hk : 1 ≤ ck ∧ ck ≤ 7) (hd : ¬ 8 < dp) (h3 : 3 < ck) (hn : n = 0) (hsl : ∀ W, Below w.heap.size w W → Calls Tryz.prog 125 #[.slice tp tl tc, .slice kp kl kc, .agg #[.string on, .slice fp fl fc], (.agg #[.int .i64 lk, .int .i64 lvk, .int .i64 lvi, .string lvt, .string lva, .string lfd])] W fun e w' => e = .returned (.tuple #[.int .i64 am, .int .i64 ae]) ∧ Below W.heap.size W w') (hae : ae ≠ 0) : Calls Tryz.prog 122 #[.slice tp tl tc, .slice kp kl kc, .agg #[.string on, .slice fp fl fc], (cnV ck (.slice p n cap) ⟨lk, lvk, lvi, lvt, lva, lfd⟩ ⟨rk, rvk, rvi, rvt, rva, rfd⟩), .int .i64 dp] w fun e w' => e = .returned (.tuple #[.int .i64 0, .int .i64 ae]) ∧ Below w.heap.size w w' := by
 have HI : Hid (∀ W, Calls Tryz.prog 17 #[.int .i64 ck, .int .i64 1, .int .i64 7] W fun e w' => e = .returned (.bool true) ∧ w' = W) := fun W => in_any ck _ _ true (say_true hk) W
 have HSL := hid hsl
 obtain rfl : n = 0 := hn
 have b1 : (ae != 0) = true := by simpa using hae
 have b2 : (ae == 0) = false := by simpa using hae
 have HB2 : Hid (Blk2 w ((w.alloc (.cells [.string on, .slice fp fl fc].toArray 72)).alloc (.cells (cnC ck (.slice p 0 cap) ⟨lk, lvk, lvi, lvt, lva, lfd⟩ ⟨rk, rvk, rvi, rvt, rva, rfd⟩).toArray 63)) [.string on, .slice fp fl fc] (cnC ck (.slice p 0 cap) ⟨lk, lvk, lvi, lvt, lva, lfd⟩ ⟨rk, rvk, rvi, rvt, rva, rfd⟩) 72 63) := Blk2.start w _ _ _ _
 clear hk hsl
 go_enter Tryz.func122, Tryz.ntmps122
 go_wp2_with (first
  | (go_at_call 17; refine (HI.out _).mono ?_; rintro e w' ⟨rfl, rfl⟩)
  | (go_at_call 125; refine (HSL.out _ HB2.out.bel).mono ?_; rintro e w5 ⟨rfl, hb_⟩; have HB5 : Hid _ := HB2.out.next hb_; have y0_w5 : w5.cell? ⟨w.heap.size + 1, 8, none⟩ = some (.int .i64 rk) := HB5.out.c2 8; have y1_w5 : w5.cell? ⟨w.heap.size + 1, 9, none⟩ = some (.int .i64 rvk) := HB5.out.c2 9; have y2_w5 : w5.cell? ⟨w.heap.size + 1, 10, none⟩ = some (.int .i64 rvi) := HB5.out.c2 10; have y3_w5 : w5.cell? ⟨w.heap.size + 1, 11, none⟩ = some (.string rvt) := HB5.out.c2 11; have y4_w5 : w5.cell? ⟨w.heap.size + 1, 12, none⟩ = some (.string rva) := HB5.out.c2 12; have y5_w5 : w5.cell? ⟨w.heap.size + 1, 13, none⟩ = some (.string rfd) := HB5.out.c2 13; have o0_w5 : w5.cell? ⟨w.heap.size, 0, none⟩ = some (.string on) := HB5.out.c1 0; have o1_w5 : w5.cell? ⟨w.heap.size, 1, none⟩ = some (.slice fp fl fc) := HB5.out.c1 1; clear hb_))
 all_goals
  go_ret2
  exact ⟨rfl, HB5.out.bel⟩
set_option maxHeartbeats 8000000 in
theorem cond_right (am bm be : Int) (on : ByteArray) (ck : Int) (n : Nat) (lk lvk lvi rk rvk rvi : Int) (lvt lva lfd rvt rva rfd : ByteArray) (tp kp fp p : Option Addr) (tl tc kl kc fl fc cap : Nat) (dp : Int) (w : World) (hk : 1 ≤ ck ∧ ck ≤ 7) (hd : ¬ 8 < dp) (h3 : 3 < ck) (hn : n = 0) (hsl : ∀ W, Below w.heap.size w W → Calls Tryz.prog 125 #[.slice tp tl tc, .slice kp kl kc, .agg #[.string on, .slice fp fl fc], (.agg #[.int .i64 lk, .int .i64 lvk, .int .i64 lvi, .string lvt, .string lva, .string lfd])] W fun e w' => e = .returned (.tuple #[.int .i64 am, .int .i64 0]) ∧ Below W.heap.size W w') (hsr : ∀ W, Below w.heap.size w W → Calls Tryz.prog 125 #[.slice tp tl tc, .slice kp kl kc, .agg #[.string on, .slice fp fl fc], (.agg #[.int .i64 rk, .int .i64 rvk, .int .i64 rvi, .string rvt, .string rva, .string rfd])] W fun e w' => e = .returned (.tuple #[.int .i64 bm, .int .i64 be]) ∧ Below W.heap.size W w') (hbe : be ≠ 0) : Calls Tryz.prog 122 #[.slice tp tl tc, .slice kp kl kc, .agg #[.string on, .slice fp fl fc], (cnV ck (.slice p n cap) ⟨lk, lvk, lvi, lvt, lva, lfd⟩ ⟨rk, rvk, rvi, rvt, rva, rfd⟩), .int .i64 dp] w fun e w' => e = .returned (.tuple #[.int .i64 1, .int .i64 be]) ∧ Below w.heap.size w w' := by
 have HI : Hid (∀ W, Calls Tryz.prog 17 #[.int .i64 ck, .int .i64 1, .int .i64 7] W fun e w' => e = .returned (.bool true) ∧ w' = W) := fun W => in_any ck _ _ true (say_true hk) W
 have HSL := hid hsl
 have HSR := hid hsr
 obtain rfl : n = 0 := hn
 have b1 : (be != 0) = true := by simpa using hbe
 have b2 : (be == 0) = false := by simpa using hbe
 have HB2 : Hid (Blk2 w ((w.alloc (.cells [.string on, .slice fp fl fc].toArray 72)).alloc (.cells (cnC ck (.slice p 0 cap) ⟨lk, lvk, lvi, lvt, lva, lfd⟩ ⟨rk, rvk, rvi, rvt, rva, rfd⟩).toArray 63)) [.string on, .slice fp fl fc] (cnC ck (.slice p 0 cap) ⟨lk, lvk, lvi, lvt, lva, lfd⟩ ⟨rk, rvk, rvi, rvt, rva, rfd⟩) 72 63) := Blk2.start w _ _ _ _
 clear hk hsl hsr
 go_enter Tryz.func122, Tryz.ntmps122
 go_wp2_with (first
  | (go_at_call 17; refine (HI.out _).mono ?_; rintro e w' ⟨rfl, rfl⟩)
  | (go_at_call 125; refine (HSR.out _ HB5.out.bel).mono ?_; rintro e w6 ⟨rfl, hb_⟩; have HB6 : Hid _ := HB5.out.next hb_; clear hb_)
  | (go_at_call 125; refine (HSL.out _ HB2.out.bel).mono ?_; rintro e w5 ⟨rfl, hb_⟩; have HB5 : Hid _ := HB2.out.next hb_; have y0_w5 : w5.cell? ⟨w.heap.size + 1, 8, none⟩ = some (.int .i64 rk) := HB5.out.c2 8; have y1_w5 : w5.cell? ⟨w.heap.size + 1, 9, none⟩ = some (.int .i64 rvk) := HB5.out.c2 9; have y2_w5 : w5.cell? ⟨w.heap.size + 1, 10, none⟩ = some (.int .i64 rvi) := HB5.out.c2 10; have y3_w5 : w5.cell? ⟨w.heap.size + 1, 11, none⟩ = some (.string rvt) := HB5.out.c2 11; have y4_w5 : w5.cell? ⟨w.heap.size + 1, 12, none⟩ = some (.string rva) := HB5.out.c2 12; have y5_w5 : w5.cell? ⟨w.heap.size + 1, 13, none⟩ = some (.string rfd) := HB5.out.c2 13; have o0_w5 : w5.cell? ⟨w.heap.size, 0, none⟩ = some (.string on) := HB5.out.c1 0; have o1_w5 : w5.cell? ⟨w.heap.size, 1, none⟩ = some (.slice fp fl fc) := HB5.out.c1 1; clear hb_))
 all_goals
  go_ret2
  exact ⟨rfl, HB6.out.bel⟩
set_option maxHeartbeats 8000000 in
theorem cond_type (am bm be : Int) (on : ByteArray) (ck : Int) (n : Nat) (lk lvk lvi rk rvk rvi : Int) (lvt lva lfd rvt rva rfd : ByteArray) (tp kp fp p : Option Addr) (tl tc kl kc fl fc cap : Nat) (dp : Int) (w : World) (hk : 1 ≤ ck ∧ ck ≤ 7) (hd : ¬ 8 < dp) (h3 : 3 < ck) (hn : n = 0) (hsl : ∀ W, Below w.heap.size w W → Calls Tryz.prog 125 #[.slice tp tl tc, .slice kp kl kc, .agg #[.string on, .slice fp fl fc], (.agg #[.int .i64 lk, .int .i64 lvk, .int .i64 lvi, .string lvt, .string lva, .string lfd])] W fun e w' => e = .returned (.tuple #[.int .i64 am, .int .i64 0]) ∧ Below W.heap.size W w') (hsr : ∀ W, Below w.heap.size w W → Calls Tryz.prog 125 #[.slice tp tl tc, .slice kp kl kc, .agg #[.string on, .slice fp fl fc], (.agg #[.int .i64 rk, .int .i64 rvk, .int .i64 rvi, .string rvt, .string rva, .string rfd])] W fun e w' => e = .returned (.tuple #[.int .i64 bm, .int .i64 be]) ∧ Below W.heap.size W w') (hbe : be = 0) (hab : am ≠ bm) : Calls Tryz.prog 122 #[.slice tp tl tc, .slice kp kl kc, .agg #[.string on, .slice fp fl fc], (cnV ck (.slice p n cap) ⟨lk, lvk, lvi, lvt, lva, lfd⟩ ⟨rk, rvk, rvi, rvt, rva, rfd⟩), .int .i64 dp] w fun e w' => e = .returned (.tuple #[.int .i64 1, .int .i64 13]) ∧ Below w.heap.size w w' := by
 have HI : Hid (∀ W, Calls Tryz.prog 17 #[.int .i64 ck, .int .i64 1, .int .i64 7] W fun e w' => e = .returned (.bool true) ∧ w' = W) := fun W => in_any ck _ _ true (say_true hk) W
 have HSL := hid hsl
 have HSR := hid hsr
 obtain rfl : n = 0 := hn
 obtain rfl : be = 0 := hbe
 have b1 : (am != bm) = true := by simpa using hab
 have b2 : (am == bm) = false := by simpa using hab
 have HB2 : Hid (Blk2 w ((w.alloc (.cells [.string on, .slice fp fl fc].toArray 72)).alloc (.cells (cnC ck (.slice p 0 cap) ⟨lk, lvk, lvi, lvt, lva, lfd⟩ ⟨rk, rvk, rvi, rvt, rva, rfd⟩).toArray 63)) [.string on, .slice fp fl fc] (cnC ck (.slice p 0 cap) ⟨lk, lvk, lvi, lvt, lva, lfd⟩ ⟨rk, rvk, rvi, rvt, rva, rfd⟩) 72 63) := Blk2.start w _ _ _ _
 clear hk hsl hsr
 go_enter Tryz.func122, Tryz.ntmps122
 go_wp2_with (first
  | (go_at_call 17; refine (HI.out _).mono ?_; rintro e w' ⟨rfl, rfl⟩)
  | (go_at_call 125; refine (HSR.out _ HB5.out.bel).mono ?_; rintro e w6 ⟨rfl, hb_⟩; have HB6 : Hid _ := HB5.out.next hb_; clear hb_)
  | (go_at_call 125; refine (HSL.out _ HB2.out.bel).mono ?_; rintro e w5 ⟨rfl, hb_⟩; have HB5 : Hid _ := HB2.out.next hb_; have y0_w5 : w5.cell? ⟨w.heap.size + 1, 8, none⟩ = some (.int .i64 rk) := HB5.out.c2 8; have y1_w5 : w5.cell? ⟨w.heap.size + 1, 9, none⟩ = some (.int .i64 rvk) := HB5.out.c2 9; have y2_w5 : w5.cell? ⟨w.heap.size + 1, 10, none⟩ = some (.int .i64 rvi) := HB5.out.c2 10; have y3_w5 : w5.cell? ⟨w.heap.size + 1, 11, none⟩ = some (.string rvt) := HB5.out.c2 11; have y4_w5 : w5.cell? ⟨w.heap.size + 1, 12, none⟩ = some (.string rva) := HB5.out.c2 12; have y5_w5 : w5.cell? ⟨w.heap.size + 1, 13, none⟩ = some (.string rfd) := HB5.out.c2 13; have o0_w5 : w5.cell? ⟨w.heap.size, 0, none⟩ = some (.string on) := HB5.out.c1 0; have o1_w5 : w5.cell? ⟨w.heap.size, 1, none⟩ = some (.slice fp fl fc) := HB5.out.c1 1; clear hb_))
 all_goals
  go_ret2
  exact ⟨rfl, HB6.out.bel⟩
set_option maxHeartbeats 8000000 in
theorem cond_good (am bm be : Int) (on : ByteArray) (ck : Int) (n : Nat) (lk lvk lvi rk rvk rvi : Int) (lvt lva lfd rvt rva rfd : ByteArray) (tp kp fp p : Option Addr) (tl tc kl kc fl fc cap : Nat) (dp : Int) (w : World) (hk : 1 ≤ ck ∧ ck ≤ 7) (hd : ¬ 8 < dp) (h3 : 3 < ck) (hn : n = 0) (hsl : ∀ W, Below w.heap.size w W → Calls Tryz.prog 125 #[.slice tp tl tc, .slice kp kl kc, .agg #[.string on, .slice fp fl fc], (.agg #[.int .i64 lk, .int .i64 lvk, .int .i64 lvi, .string lvt, .string lva, .string lfd])] W fun e w' => e = .returned (.tuple #[.int .i64 am, .int .i64 0]) ∧ Below W.heap.size W w') (hsr : ∀ W, Below w.heap.size w W → Calls Tryz.prog 125 #[.slice tp tl tc, .slice kp kl kc, .agg #[.string on, .slice fp fl fc], (.agg #[.int .i64 rk, .int .i64 rvk, .int .i64 rvi, .string rvt, .string rva, .string rfd])] W fun e w' => e = .returned (.tuple #[.int .i64 bm, .int .i64 be]) ∧ Below W.heap.size W w') (hbe : be = 0) (hab : am = bm) : Calls Tryz.prog 122 #[.slice tp tl tc, .slice kp kl kc, .agg #[.string on, .slice fp fl fc], (cnV ck (.slice p n cap) ⟨lk, lvk, lvi, lvt, lva, lfd⟩ ⟨rk, rvk, rvi, rvt, rva, rfd⟩), .int .i64 dp] w fun e w' => e = .returned (.tuple #[.int .i64 1, .int .i64 0]) ∧ Below w.heap.size w w' := by
 have HI : Hid (∀ W, Calls Tryz.prog 17 #[.int .i64 ck, .int .i64 1, .int .i64 7] W fun e w' => e = .returned (.bool true) ∧ w' = W) := fun W => in_any ck _ _ true (say_true hk) W
 have HSL := hid hsl
 have HSR := hid hsr
 obtain rfl : n = 0 := hn
 obtain rfl : be = 0 := hbe
 obtain rfl : am = bm := hab
 have HB2 : Hid (Blk2 w ((w.alloc (.cells [.string on, .slice fp fl fc].toArray 72)).alloc (.cells (cnC ck (.slice p 0 cap) ⟨lk, lvk, lvi, lvt, lva, lfd⟩ ⟨rk, rvk, rvi, rvt, rva, rfd⟩).toArray 63)) [.string on, .slice fp fl fc] (cnC ck (.slice p 0 cap) ⟨lk, lvk, lvi, lvt, lva, lfd⟩ ⟨rk, rvk, rvi, rvt, rva, rfd⟩) 72 63) := Blk2.start w _ _ _ _
 clear hk hsl hsr
 go_enter Tryz.func122, Tryz.ntmps122
 go_wp2_with (first
  | (go_at_call 17; refine (HI.out _).mono ?_; rintro e w' ⟨rfl, rfl⟩)
  | (go_at_call 125; refine (HSR.out _ HB5.out.bel).mono ?_; rintro e w6 ⟨rfl, hb_⟩; have HB6 : Hid _ := HB5.out.next hb_; clear hb_)
  | (go_at_call 125; refine (HSL.out _ HB2.out.bel).mono ?_; rintro e w5 ⟨rfl, hb_⟩; have HB5 : Hid _ := HB2.out.next hb_; have y0_w5 : w5.cell? ⟨w.heap.size + 1, 8, none⟩ = some (.int .i64 rk) := HB5.out.c2 8; have y1_w5 : w5.cell? ⟨w.heap.size + 1, 9, none⟩ = some (.int .i64 rvk) := HB5.out.c2 9; have y2_w5 : w5.cell? ⟨w.heap.size + 1, 10, none⟩ = some (.int .i64 rvi) := HB5.out.c2 10; have y3_w5 : w5.cell? ⟨w.heap.size + 1, 11, none⟩ = some (.string rvt) := HB5.out.c2 11; have y4_w5 : w5.cell? ⟨w.heap.size + 1, 12, none⟩ = some (.string rva) := HB5.out.c2 12; have y5_w5 : w5.cell? ⟨w.heap.size + 1, 13, none⟩ = some (.string rfd) := HB5.out.c2 13; have o0_w5 : w5.cell? ⟨w.heap.size, 0, none⟩ = some (.string on) := HB5.out.c1 0; have o1_w5 : w5.cell? ⟨w.heap.size, 1, none⟩ = some (.slice fp fl fc) := HB5.out.c1 1; clear hb_))
 all_goals
  go_ret2
  exact ⟨rfl, HB6.out.bel⟩
set_option maxHeartbeats 8000000 in
theorem cond_sides (on : ByteArray) (ck : Int) (n : Nat) (lk lvk lvi rk rvk rvi : Int) (lvt lva lfd rvt rva rfd : ByteArray) (tp kp fp p : Option Addr) (tl tc kl kc fl fc cap : Nat) (dp : Int) (w : World) (hk : 1 ≤ ck ∧ ck ≤ 7) (hd : ¬ 8 < dp) (h3 : ¬ 3 < ck) (hz : eqz ⟨lk, lvk, lvi, lvt, lva, lfd⟩ = false ∨ eqz ⟨rk, rvk, rvi, rvt, rva, rfd⟩ = false) : Calls Tryz.prog 122 #[.slice tp tl tc, .slice kp kl kc, .agg #[.string on, .slice fp fl fc], (cnV ck (.slice p n cap) ⟨lk, lvk, lvi, lvt, lva, lfd⟩ ⟨rk, rvk, rvi, rvt, rva, rfd⟩), .int .i64 dp] w fun e w' => e = .returned (.tuple #[.int .i64 0, .int .i64 4]) ∧ Below w.heap.size w w' := by
 have HI : Hid (∀ W, Calls Tryz.prog 17 #[.int .i64 ck, .int .i64 1, .int .i64 7] W fun e w' => e = .returned (.bool true) ∧ w' = W) := fun W => in_any ck _ _ true (say_true hk) W
 have HZ := hid hz
 clear hk hz
 go_enter Tryz.func122, Tryz.ntmps122
 go_wp2_with (go_at_call 17; refine (HI.out _).mono ?_; rintro e w' ⟨rfl, rfl⟩)
 all_goals first
  | (go_ret2; exact ⟨rfl, by go_grown⟩)
  | (exfalso; have h := HZ.out; simp [eqz, emp, *] at h; done)
set_option maxHeartbeats 8000000 in
theorem cond_count3 (on : ByteArray) (ck : Int) (n : Nat) (lk lvk lvi rk rvk rvi : Int) (lvt lva lfd rvt rva rfd : ByteArray) (tp kp fp p : Option Addr) (tl tc kl kc fl fc cap : Nat) (dp : Int) (w : World) (hk : 1 ≤ ck ∧ ck ≤ 7) (hd : ¬ 8 < dp) (h3 : ¬ 3 < ck) (hl : eqz ⟨lk, lvk, lvi, lvt, lva, lfd⟩ = true) (hr : eqz ⟨rk, rvk, rvi, rvt, rva, rfd⟩ = true) (hc : ck = 3) (hn : n ≠ 1) : Calls Tryz.prog 122 #[.slice tp tl tc, .slice kp kl kc, .agg #[.string on, .slice fp fl fc], (cnV ck (.slice p n cap) ⟨lk, lvk, lvi, lvt, lva, lfd⟩ ⟨rk, rvk, rvi, rvt, rva, rfd⟩), .int .i64 dp] w fun e w' => e = .returned (.tuple #[.int .i64 0, .int .i64 4]) ∧ Below w.heap.size w w' := by
 have HI : Hid (∀ W, Calls Tryz.prog 17 #[.int .i64 ck, .int .i64 1, .int .i64 7] W fun e w' => e = .returned (.bool true) ∧ w' = W) := fun W => in_any ck _ _ true (say_true hk) W
 obtain rfl : ck = 3 := hc
 have b1 : ((n : Int) != 1) = true := by simp; omega
 have b2 : ((n : Int) == 1) = false := by simp; omega
 have b3 : ¬ (n : Int) = 1 := by omega
 obtain ⟨z1, z2, z3, z4, z5, z6⟩ := eqz_of hl
 obtain ⟨z7, z8, z9, y1, y2, y3⟩ := eqz_of hr
 simp only at z1 z2 z3 z4 z5 z6 z7 z8 z9 y1 y2 y3
 subst z1 z2 z3 z7 z8 z9
 clear hl hr
 clear hk
 go_enter Tryz.func122, Tryz.ntmps122
 go_wp2_with (go_at_call 17; refine (HI.out _).mono ?_; rintro e w' ⟨rfl, rfl⟩)
 all_goals
  go_ret2
  exact ⟨rfl, by go_grown⟩
set_option maxHeartbeats 8000000 in
theorem cond_count2 (on : ByteArray) (ck : Int) (n : Nat) (lk lvk lvi rk rvk rvi : Int) (lvt lva lfd rvt rva rfd : ByteArray) (tp kp fp p : Option Addr) (tl tc kl kc fl fc cap : Nat) (dp : Int) (w : World) (hk : 1 ≤ ck ∧ ck ≤ 7) (hd : ¬ 8 < dp) (h3 : ¬ 3 < ck) (hl : eqz ⟨lk, lvk, lvi, lvt, lva, lfd⟩ = true) (hr : eqz ⟨rk, rvk, rvi, rvt, rva, rfd⟩ = true) (hc : ck ≠ 3) (hn : n < 2) : Calls Tryz.prog 122 #[.slice tp tl tc, .slice kp kl kc, .agg #[.string on, .slice fp fl fc], (cnV ck (.slice p n cap) ⟨lk, lvk, lvi, lvt, lva, lfd⟩ ⟨rk, rvk, rvi, rvt, rva, rfd⟩), .int .i64 dp] w fun e w' => e = .returned (.tuple #[.int .i64 0, .int .i64 4]) ∧ Below w.heap.size w w' := by
 have HI : Hid (∀ W, Calls Tryz.prog 17 #[.int .i64 ck, .int .i64 1, .int .i64 7] W fun e w' => e = .returned (.bool true) ∧ w' = W) := fun W => in_any ck _ _ true (say_true hk) W
 have b0 : (ck == 3) = false := by simpa using hc
 have b9 : (ck != 3) = true := by simpa using hc
 have b1 : (n : Int) < 2 := by omega
 obtain ⟨z1, z2, z3, z4, z5, z6⟩ := eqz_of hl
 obtain ⟨z7, z8, z9, y1, y2, y3⟩ := eqz_of hr
 simp only at z1 z2 z3 z4 z5 z6 z7 z8 z9 y1 y2 y3
 subst z1 z2 z3 z7 z8 z9
 clear hl hr
 clear hk
 go_enter Tryz.func122, Tryz.ntmps122
 go_wp2_with (go_at_call 17; refine (HI.out _).mono ?_; rintro e w' ⟨rfl, rfl⟩)
 all_goals
  go_ret2
  exact ⟨rfl, by go_grown⟩
theorem rdM {w : World} {m : Mn} {vs : List Value} (h : RdL w (encM m) vs) : ∃ us, vs = .int .i64 m.c :: .string m.f :: us ∧ RdL w (encP m.p) us := by
  obtain ⟨v0, r0, rfl, h0, h⟩ := RdL.one h
  obtain ⟨v1, r1, rfl, h1, h⟩ := RdL.one h
  rw [rd_lit h0, rd_lit h1]
  exact ⟨r1, rfl, h⟩
def spk (ws ns : List Pt) (ms : List Mn) (n : ByteArray) : Bool := ws.any (fun p => seq p.ty n) || ns.any (fun p => seq p.ty n) || ms.any (fun m => seq m.p.ty n)
theorem any_none {α : Type} {q : α → Bool} {l : List α} (h : ∀ j (hj : j < l.length), q l[j] = false) : l.any q = false := by
  rw [List.any_eq_false]
  intro x hx
  obtain ⟨j, hj, rfl⟩ := List.getElem_of_mem hx
  rw [h j hj]
  decide
theorem any_some {α : Type} {q : α → Bool} {l : List α} {j : Nat} (hj : j < l.length) (h : q l[j] = true) : l.any q = true := List.any_eq_true.2 ⟨_, List.getElem_mem hj, h⟩
set_option maxHeartbeats 16000000 in
theorem speaksOf_any (ws ns : List Pt) (ms : List Mn) (rn ety nm : ByteArray) (u1 u2 u3 : Value) (q4 q5 : Option Addr) (l4 l5 j4 j5 : Nat) (w : World) (h1 : Rd w (.row 65 18 (ws.map encP)) u1) (h2 : Rd w (.row 65 18 (ns.map encP)) u2) (h3 : Rd w (.row 68 20 (ms.map encM)) u3) :
  Calls Tryz.prog 77 #[.agg #[.string rn, u1, u2, u3, (.slice q4 l4 j4), .string ety, (.slice q5 l5 j5)], .string nm] w fun e w' => e = .returned (.bool (spk ws ns ms nm)) ∧ Below w.heap.size w w' := by
 obtain ⟨q1, j1, e1, m1, a1⟩ := rd_row lenP h1
 obtain ⟨q2, j2, e2, m2, a2⟩ := rd_row lenP h2
 obtain ⟨q3, j3, e3, m3, a3⟩ := rd_row lenM h3
 subst e1 e2 e3
 obtain ⟨l1, hl1⟩ : ∃ l, ws.length = l := ⟨_, rfl⟩
 obtain ⟨l2, hl2⟩ : ∃ l, ns.length = l := ⟨_, rfl⟩
 obtain ⟨l3, hl3⟩ : ∃ l, ms.length = l := ⟨_, rfl⟩
 have HA1 := hid a1
 have HA2 := hid a2
 have HA3 := hid a3
 have HN1 := hid hl1
 have HN2 := hid hl2
 have HN3 := hid hl3
 rw [hl1] at m1
 rw [hl2] at m2
 rw [hl3] at m3
 rw [hl1, hl2, hl3]
 have HB0 : Hid (BlkT w (w.alloc (.cells [.string rn, (.slice q1 l1 j1), (.slice q2 l2 j2), (.slice q3 l3 j3), (.slice q4 l4 j4), .string ety, (.slice q5 l5 j5)].toArray 49)) [.string rn, (.slice q1 l1 j1), (.slice q2 l2 j2), (.slice q3 l3 j3), (.slice q4 l4 j4), .string ety, (.slice q5 l5 j5)] 49) := BlkT.start w _ _
 clear h1 h2 h3 a1 a2 a3 hl1 hl2 hl3
 go_enter Tryz.func77, Tryz.ntmps77
 go_wp2_with fail
 go_loopw [5] (fun i wr => ∃ k : Nat, k ≤ l1 ∧ i = .int .i64 (k : Nat) ∧ (∀ (j : Nat) (hj : j < ws.length), j < k → seq ws[j].ty nm = false) ∧ BlkT w wr [.string rn, (.slice q1 l1 j1), (.slice q2 l2 j2), (.slice q3 l3 j3), (.slice q4 l4 j4), .string ety, (.slice q5 l5 j5)] 49) (fun i _ => l1 + 1 - (intOf i).toNat)
 case atStart => exact ⟨0, by omega, rfl, fun j hj h => by omega, HB0.out⟩
 case round =>
  obtain ⟨k, hk, rfl, hf, hTr⟩ := hrel
  have HF := hid hf
  have HTa : Hid (BlkT w wr [.string rn, (.slice q1 l1 j1), (.slice q2 l2 j2), (.slice q3 l3 j3), (.slice q4 l4 j4), .string ety, (.slice q5 l5 j5)] 49) := hTr
  have a1 : wr.cell? ⟨w.heap.size, 1, none⟩ = some (.slice q1 l1 j1) := hTr.c 1
  clear hf
  by_cases hlt : k < l1
  . have hkc : k < ws.length := by have := HN1.out; omega
    obtain ⟨g, off, hp, hrd⟩ := HA1.out (by omega)
    rw [hp] at a1
    obtain ⟨us, r1, o1⟩ := hrd wr hTr.bel k hkc
    obtain ⟨vf, z1, o2⟩ := rdP o1
    clear o1 o2
    subst z1
    have n1 := r1 1 _ rfl
    have HNX : seq ws[k].ty nm = false → Hid (∀ (j : Nat) (hj : j < ws.length), j < k + 1 → seq ws[j].ty nm = false) := fun hq j hj h => by
      by_cases c : j = k
      . subst c; exact hq
      . exact HF.out j hj (by omega)
    have HHT : seq ws[k].ty nm = true → Hid (spk ws ns ms nm = true) := fun hq => by
      show _ = _
      unfold spk
      rw [any_some (l := ws) (q := fun p => seq p.ty nm) hkc hq]
      simp
    obtain ⟨d, hd⟩ : ∃ d, ws[k].ty = d := ⟨_, rfl⟩
    rw [hd] at n1 HNX HHT
    have i1 : (0 : Int) ≤ (k : Int) := by omega
    have i2 : (k : Int) < (l1 : Int) := by omega
    cases hq : seq d nm
    . have HNY := HNX hq
      have hq2 : (d.toList == nm.toList) = false := hq
      clear HNX HHT hq hd hrd hTr hkc r1 hp
      go_wp2_with fail
      go_roundw
      case rel => exact ⟨k + 1, by omega, by go_num, HNY.out, HTa.out⟩
      case measure => simp [intOf]; omega
    . have HR0 := HHT hq
      have hq2 : (d.toList == nm.toList) = true := hq
      clear HNX HHT hq hd hrd hTr hkc r1 hp
      go_wp2_with fail
      go_ret
      rw [HR0.out]
      exact ⟨rfl, HTa.out.bel⟩
  . obtain rfl : l1 = k := by omega
    have HAa : Hid (∀ (j : Nat) (hj : j < ws.length), seq ws[j].ty nm = false) := fun j hj => HF.out j hj (by have := HN1.out; omega)
    clear hTr HF
    go_wp2_with fail
    go_loopw [6] (fun i wr => ∃ k : Nat, k ≤ l2 ∧ i = .int .i64 (k : Nat) ∧ (∀ (j : Nat) (hj : j < ns.length), j < k → seq ns[j].ty nm = false) ∧ BlkT w wr [.string rn, (.slice q1 l1 j1), (.slice q2 l2 j2), (.slice q3 l3 j3), (.slice q4 l4 j4), .string ety, (.slice q5 l5 j5)] 49) (fun i _ => l2 + 1 - (intOf i).toNat)
    case atStart => exact ⟨0, by omega, rfl, fun j hj h => by omega, HTa.out⟩
    case round =>
      obtain ⟨k, hk, rfl, hf, hTr⟩ := hrel
      have HF := hid hf
      have HTb : Hid (BlkT w wr [.string rn, (.slice q1 l1 j1), (.slice q2 l2 j2), (.slice q3 l3 j3), (.slice q4 l4 j4), .string ety, (.slice q5 l5 j5)] 49) := hTr
      have a1 : wr.cell? ⟨w.heap.size, 2, none⟩ = some (.slice q2 l2 j2) := hTr.c 2
      clear hf
      by_cases hlt : k < l2
      . have hkc : k < ns.length := by have := HN2.out; omega
        obtain ⟨g, off, hp, hrd⟩ := HA2.out (by omega)
        rw [hp] at a1
        obtain ⟨us, r1, o1⟩ := hrd wr hTr.bel k hkc
        obtain ⟨vf, z1, o2⟩ := rdP o1
        clear o1 o2
        subst z1
        have n1 := r1 1 _ rfl
        have HNX : seq ns[k].ty nm = false → Hid (∀ (j : Nat) (hj : j < ns.length), j < k + 1 → seq ns[j].ty nm = false) := fun hq j hj h => by
          by_cases c : j = k
          . subst c; exact hq
          . exact HF.out j hj (by omega)
        have HHT : seq ns[k].ty nm = true → Hid (spk ws ns ms nm = true) := fun hq => by
          show _ = _
          unfold spk
          rw [any_some (l := ns) (q := fun p => seq p.ty nm) hkc hq]
          simp
        obtain ⟨d, hd⟩ : ∃ d, ns[k].ty = d := ⟨_, rfl⟩
        rw [hd] at n1 HNX HHT
        have i1 : (0 : Int) ≤ (k : Int) := by omega
        have i2 : (k : Int) < (l2 : Int) := by omega
        cases hq : seq d nm
        . have HNY := HNX hq
          have hq2 : (d.toList == nm.toList) = false := hq
          clear HNX HHT hq hd hrd hTr hkc r1 hp
          go_wp2_with fail
          go_roundw
          case rel => exact ⟨k + 1, by omega, by go_num, HNY.out, HTb.out⟩
          case measure => simp [intOf]; omega
        . have HR0 := HHT hq
          have hq2 : (d.toList == nm.toList) = true := hq
          clear HNX HHT hq hd hrd hTr hkc r1 hp
          go_wp2_with fail
          go_ret
          rw [HR0.out]
          exact ⟨rfl, HTb.out.bel⟩
      . obtain rfl : l2 = k := by omega
        have HAb : Hid (∀ (j : Nat) (hj : j < ns.length), seq ns[j].ty nm = false) := fun j hj => HF.out j hj (by have := HN2.out; omega)
        clear hTr HF
        go_wp2_with fail
        go_loopw [7] (fun i wr => ∃ k : Nat, k ≤ l3 ∧ i = .int .i64 (k : Nat) ∧ (∀ (j : Nat) (hj : j < ms.length), j < k → seq ms[j].p.ty nm = false) ∧ BlkT w wr [.string rn, (.slice q1 l1 j1), (.slice q2 l2 j2), (.slice q3 l3 j3), (.slice q4 l4 j4), .string ety, (.slice q5 l5 j5)] 49) (fun i _ => l3 + 1 - (intOf i).toNat)
        case atStart => exact ⟨0, by omega, rfl, fun j hj h => by omega, HTb.out⟩
        case round =>
          obtain ⟨k, hk, rfl, hf, hTr⟩ := hrel
          have HF := hid hf
          have HTc : Hid (BlkT w wr [.string rn, (.slice q1 l1 j1), (.slice q2 l2 j2), (.slice q3 l3 j3), (.slice q4 l4 j4), .string ety, (.slice q5 l5 j5)] 49) := hTr
          have a1 : wr.cell? ⟨w.heap.size, 3, none⟩ = some (.slice q3 l3 j3) := hTr.c 3
          clear hf
          by_cases hlt : k < l3
          . have hkc : k < ms.length := by have := HN3.out; omega
            obtain ⟨g, off, hp, hrd⟩ := HA3.out (by omega)
            rw [hp] at a1
            obtain ⟨us, r1, o1⟩ := hrd wr hTr.bel k hkc
            obtain ⟨us', z1, o2⟩ := rdM o1
            clear o1
            subst z1
            obtain ⟨vf, z2, o3⟩ := rdP o2
            clear o2 o3
            subst z2
            have n1 := r1 3 _ rfl
            have HNX : seq ms[k].p.ty nm = false → Hid (∀ (j : Nat) (hj : j < ms.length), j < k + 1 → seq ms[j].p.ty nm = false) := fun hq j hj h => by
              by_cases c : j = k
              . subst c; exact hq
              . exact HF.out j hj (by omega)
            have HHT : seq ms[k].p.ty nm = true → Hid (spk ws ns ms nm = true) := fun hq => by
              show _ = _
              unfold spk
              rw [any_some (l := ms) (q := fun m => seq m.p.ty nm) hkc hq]
              simp
            obtain ⟨d, hd⟩ : ∃ d, ms[k].p.ty = d := ⟨_, rfl⟩
            rw [hd] at n1 HNX HHT
            have i1 : (0 : Int) ≤ (k : Int) := by omega
            have i2 : (k : Int) < (l3 : Int) := by omega
            cases hq : seq d nm
            . have HNY := HNX hq
              have hq2 : (d.toList == nm.toList) = false := hq
              clear HNX HHT hq hd hrd hTr hkc r1 hp
              go_wp2_with fail
              go_roundw
              case rel => exact ⟨k + 1, by omega, by go_num, HNY.out, HTc.out⟩
              case measure => simp [intOf]; omega
            . have HR0 := HHT hq
              have hq2 : (d.toList == nm.toList) = true := hq
              clear HNX HHT hq hd hrd hTr hkc r1 hp
              go_wp2_with fail
              go_ret
              rw [HR0.out]
              exact ⟨rfl, HTc.out.bel⟩
          . obtain rfl : l3 = k := by omega
            have HAc : Hid (∀ (j : Nat) (hj : j < ms.length), seq ms[j].p.ty nm = false) := fun j hj => HF.out j hj (by have := HN3.out; omega)
            clear hTr HF
            go_wp2_with fail
            go_ret
            have h1 : spk ws ns ms nm = false := by
              unfold spk
              rw [any_none HAa.out, any_none HAb.out, any_none HAc.out]
              rfl
            rw [h1]
            exact ⟨rfl, HTc.out.bel⟩
end Go.Proofs.YthndlfdbmljkhaaGreatDoor.Chk
