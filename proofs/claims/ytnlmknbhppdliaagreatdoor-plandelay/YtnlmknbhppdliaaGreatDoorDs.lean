/-
  The patterns of a rule, all in one row, by the program. The bounds of a rule's spans, closed, by the program. The bounds of a rule's nots, and its delay, by the program.
-/
import Derived.Lib.AppendZeros
import Derived.Deep.Upon
import Derived.Lib.LazyBuf
import Derived.Test.YtnlmknbhppdliaaGreatDoorDp
import Derived.Test.YtnlmknbhppdliaaGreatDoorPe
set_option maxHeartbeats 64000000
namespace Go.Proofs.YtnlmknbhppdliaaGreatDoor.Chk
open Go.ChangeShapes Go.WideShapes Go.ChangeAt Go.RowKit Go.Maps
set_option linter.unusedVariables false
set_option linter.unusedSimpArgs false
set_option maxRecDepth 20000
theorem zIV {w : World} : ∀ {ds : List Dat} {vs : List Value} {es : List Dat} {us : List Value}, RdL w ds vs → RdL w es us → RdL w (ds ++ es) (vs ++ us)
 | [], vs, es, us, h, k => by rw [RdL.none h]; exact k
 | d :: ds, vs, es, us, h, k => by
  obtain ⟨v, r, rfl, h1, h2⟩ := RdL.one h
  exact .cons h1 (zIV h2 k)
theorem zH7 {w : World} : ∀ {L : List Pt} {xs : List Value}, RdL w (L.map encP).flatten xs → xs.length = L.length * 18 ∧ ∀ u, u ∈ xs → u.oneCell' = true
 | [], xs, h => by rw [RdL.none h]; exact ⟨rfl, fun u hu => by cases hu⟩
 | p :: L, xs, h => by
  obtain ⟨us, rs, rfl, h1, h2⟩ := RdL.split (ds := encP p) (es := (L.map encP).flatten) h
  obtain ⟨a, b⟩ := zH7 h2
  obtain ⟨v, rfl, h3⟩ := rdP h1
  obtain ⟨x, y, z, rfl⟩ := zAC h3
  refine ⟨by rw [List.length_append, a]; simp [ptC, List.length_cons]; omega, fun u hu => ?_⟩
  rcases List.mem_append.1 hu with hu | hu
  . exact List.all_eq_true.1 (show (ptC p.va p.ty p.c.k (.slice x y z) p.c.l p.c.r p.w p.n).all (·.oneCell') = true from rfl) u hu
  . exact b u hu
def Prw (w0 w : World) (v : Value) (L : List Pt) : Prop := ∃ xs, w.ownsRow w0.heap.size 48 18 v L.length xs ∧ RdL w0 (L.map encP).flatten xs
theorem Prw.shape {w0 w : World} {v : Value} {L : List Pt} (h : Prw w0 w v L) : ∃ p cap, v = .slice p L.length cap := by
  obtain ⟨xs, h1, _⟩ := h
  rcases h1.2 with ⟨h2, h3⟩ | ⟨g, cap, cur, h2, _⟩
  . exact ⟨none, 0, by rw [h2, h3]⟩
  . exact ⟨_, cap, h2⟩
theorem Prw.later {w0 w w' : World} {v : Value} {L : List Pt} (h : Prw w0 w v L) (hb : Below w.heap.size w w') : Prw w0 w' v L := by
  obtain ⟨xs, h1, h2⟩ := h
  exact ⟨xs, zH4 h1 fun i hi => hb.block _ (zBH h1 hi).2, h2⟩
theorem Prw.rd {w0 w : World} {v : Value} {L : List Pt} (h : Prw w0 w v L) (hb : Below w0.heap.size w0 w) : Rd w (.row 48 18 (L.map encP)) v := by
 obtain ⟨xs, h1, h2⟩ := h
 have hc := h1
 rcases h1.2 with ⟨rfl, h5⟩ | ⟨ga, cap, cur, rfl, _, _, hn, hx, _⟩
 . obtain rfl : L = [] := List.eq_nil_of_length_eq_zero h5
   exact .nil _ _ none 0 (Nat.zero_le _)
 . by_cases h0 : 0 < L.length
   . have h3 := h2.below hb
     have := Rd.row (w := w) 48 18 (L.map encP) ga 0 cap xs (by simpa using h0) (by simpa using hn) hx (fun j u hu => by
      have := hc.cells (g := ga) rfl j u hu
      rw [Addr.add_mid] at this
      simpa using this) h3.1 h3.2
     simpa using this
   . obtain rfl : L = [] := List.eq_nil_of_length_eq_zero (by omega)
     exact .nil _ _ _ cap hx
theorem bs_pt' (a b : ByteArray) (k : Int) (v : Value) (l r : Opd) (x n : Int) (w : World) : (Instr.buildSlice 49 1 #[(0, ptV a b k v l r x n)]).run Tryz.prog w = .ok (.slice (some ⟨w.heap.size, 0, none⟩) 1 1) (w.alloc (.cells (ptC a b k v l r x n).toArray 48)) := by kernel_rfl
theorem srcNil {P : Program} {t e : TypeId} (p : Option Addr) (cap : Nat) (ht : P.underlying t = some (.slice e)) (z : Nat) (w : World) : Src P z t (.slice p 0 cap) 0 [] w := by
  refine ⟨.inl ⟨e, ht⟩, fun w' => by simp [Builtin.lenOf], ?_, ?_, by simp, fun u hu => by cases hu⟩
  . cases p <;> simp [Builtin.firstCells, loadCells, loadCellsFrom]
  . cases p <;> simp [Builtin.firstCells, loadCells, loadCellsFrom]
section
variable {ops : Array Oper} {rest : List Oper} {o : Oper} {a : Act} {w : World} {Q : Exit → Act → World → Prop}
theorem zGY (hgd : o.guard = none) (s x : Operand) (ho : o.op = .call { callee := .builtin .append, args := #[s, x], argTypes := #[49, 49] }) (w0 : World) (v : Value) (L M : List Pt) (hs : a.eval s = v) (hp : Prw w0 w v L) (hb : Below w0.heap.size w0 w)
  (ad : Addr) (c : Nat) (us : List Value) (hx : a.eval x = .slice (some ad) M.length c) (hu : RdL w0 (M.map encP).flatten us) (hc : ∀ j u, us[j]? = some u → w.cell? (ad.add j) = some u) (hl : L.length + M.length ≤ 1000)
  (h : ∀ v' w', Prw w0 w' v' (L ++ M) → Below w0.heap.size w0 w' → wpList Tryz.prog ops Q rest (a.put o.dst v') w') : wpList Tryz.prog ops Q (o :: rest) a w := by
 obtain ⟨i0, b1, b2, b3, b4⟩ := info_parts infoP
 obtain ⟨xs, h1, h2⟩ := hp
 obtain ⟨c1, c2⟩ := zH7 hu
 refine wpList_append_own_at _ hgd s x 49 ho w0.heap.size 48 i0 zP 18 224 Tryz.underlying49 b1 b2 b3 b4 rfl (by omega) v L.length xs hs h1 ad M.length c us hx c1 hc c2 (by unfold maxLen; omega) (by omega) hb.size ?_
 intro v' w' q1 q2 q3 q4
 refine h v' w' ⟨xs ++ us, by rw [List.length_append]; exact q1, by rw [List.map_append, List.flatten_append]; exact zIV h2 hu⟩ ?_
 exact ⟨q2.os.trans hb.os, q2.tape.trans hb.tape, q2.output.trans hb.output, Nat.le_trans hb.size q2.size, fun k hk => (q2.block k (Nat.lt_of_lt_of_le hk hb.size) fun e => by have := (zBH h1 e.symm).1; omega).trans (hb.block k hk)⟩
theorem zH0 (hgd : o.guard = none) (s x : Operand) (ho : o.op = .call { callee := .builtin .append, args := #[s, x], argTypes := #[49, 49] }) (w0 : World) (v u : Value) (L M : List Pt) (hs : a.eval s = v) (hp : Prw w0 w v L) (hb : Below w0.heap.size w0 w)
  (hx : a.eval x = u) (hu : Rd w0 (.row 48 18 (M.map encP)) u) (hl : L.length + M.length ≤ 1000)
  (h : ∀ v' w', Prw w0 w' v' (L ++ M) → Below w0.heap.size w0 w' → wpList Tryz.prog ops Q rest (a.put o.dst v') w') : wpList Tryz.prog ops Q (o :: rest) a w := by
 generalize hd : Dat.row 48 18 (M.map encP) = d at hu
 cases hu with
 | lit v => cases hd
 | nil e z p cap h1 =>
  simp only [Dat.row.injEq] at hd
  obtain rfl : M = [] := List.eq_nil_of_length_eq_zero (by have := congrArg List.length hd.2.2; simpa using this)
  obtain ⟨i0, b1, b2, b3, b4⟩ := info_parts infoP
  obtain ⟨q, c, hv⟩ := hp.shape
  have hcap : L.length ≤ c := by
   obtain ⟨xs, h1, _⟩ := hp
   rcases h1.2 with ⟨h2, h3⟩ | ⟨g, cap, cur, h2, _, _, h4, _⟩
   . omega
   . rw [h2] at hv; simp only [Value.slice.injEq] at hv; omega
  have hsrc : Src Tryz.prog i0.size 49 (.slice p 0 cap) 0 [] w := srcNil p cap Tryz.underlying49 i0.size w
  refine Lib.wpList_append_run _ hgd s x 49 49 ho v (.slice p 0 cap) hs hx v w ?_ (h v w (by simpa using hp) hb)
  rw [hv]
  exact run_append_nothing w _ _ _ 48 i0 Tryz.underlying49 b1 q L.length c hcap _ hsrc
 | row e' z' l g off cap xs h1 h2 h3 h4 h5 h6 =>
  simp only [Dat.row.injEq] at hd
  obtain ⟨rfl, rfl, rfl⟩ := hd
  rw [List.length_map] at hx
  refine zGY hgd s x ho w0 v L M hs hp hb ⟨g, off, none⟩ cap xs hx ⟨h5, h6⟩ (fun j u hu => ?_) hl h
  rw [Addr.add_mid]
  exact zAY h4 hb j u hu
theorem wp_bsP (hgd : o.guard = none) (x : Operand) (ho : o.op = .buildSlice 49 1 #[(0, x)]) (A : List Value) (hA : ∃ a b k v l r y n, A = ptC a b k v l r y n) (hx : a.eval x = .agg A.toArray)
  (h : wpList Tryz.prog ops Q rest (a.put o.dst (.slice (some ⟨w.heap.size, 0, none⟩) 1 1)) (w.alloc (.cells A.toArray 48))) : wpList Tryz.prog ops Q (o :: rest) a w := by
 obtain ⟨a', b, k, v, l, r, y, n, rfl⟩ := hA
 refine wpList_plain hgd fun K hK => ?_
 have e := bs_pt' a' b k v l r y n w
 have hx' : a.eval x = ptV a' b k v l r y n := hx
 unfold Oper.wp
 simp [execOp, ho, hx', e, Result.andThen]
 exact hK _ _ h
end
theorem grow_any (n : Nat) (hn : n ≤ 1000) (w : World) : Calls Tryz.prog 113 #[.slice none 0 0, .int .i64 (n : Nat)] w fun e w' => ∃ v, e = .returned v ∧ Prw w w' v [] ∧ Below w.heap.size w w' := by
 have d1 : decide ((n : Int) < 0) = false := by simp
 have d2 : ¬ (n : Int) < 0 := by omega
 have d3 : wrap64 (n : Int) = n := by unfold wrap64; omega
 by_cases h0 : n = 0
 . subst h0
   go_enter Tryz.func113, Tryz.ntmps113
   go_wp2_with fail
   go_ret
   exact ⟨_, rfl, ⟨[], World.ownsRow_nil _ _ _ _, RdL.nil _⟩, Below.refl _ _⟩
 . obtain ⟨i0, b1, b2, b3, b4⟩ := info_parts infoP
   have d4 : decide ((n : Int) > 0) = true := by simp; omega
   have d5 : (0 : Int) < (n : Int) := by omega
   have d6 : (0 < n) = True := by simp; omega
   have HAP := hid (fun ty => Lib.run_append_nil_zeros (P := Tryz.prog) w 49 3 ty 48 i0 zP .i64 .i64 Tryz.underlying49 Tryz.underlying3 b1 b2 n (by omega) (by rw [b3]; omega) (by omega) (by rw [b4]; omega))
   have HC := hid (grownCap_ge w n 0 48)
   have HOW : Hid (∀ c, c = grownCap w n 0 48 → (w.drew.alloc (.cells (Builtin.zeroCells zP.cells n ++ Builtin.zeroCells zP.cells (grownCap w n 0 48 - n)) 48)).ownsRow w.heap.size 48 18 (.slice (some ⟨w.heap.size, 0, none⟩) 0 c) 0 []) := fun c hc => by
    have hge := grownCap_ge w n 0 48
    refine ⟨rfl, .inr ⟨w.heap.size, _, _, rfl, Nat.le_refl _, heap_alloc_new w.drew _, Nat.zero_le _, ?_, ?_, rfl⟩⟩
    . rw [hc]; exact grownCap_le_maxLen w n 0 48 (by unfold maxLen; omega)
    . simp only [Array.size_append, size_zeroCells]
      rw [hc, show zP.cells.size = 18 from rfl, ← Nat.add_mul]
      congr 1
      omega
   obtain ⟨C, hC⟩ : ∃ C, grownCap w n 0 48 = C := ⟨_, rfl⟩
   rw [hC] at HAP HC HOW
   have hCC := HOW.out C rfl
   have HO2 := hid hCC
   have HB : Hid (∀ o, Below w.heap.size w (w.drew.alloc o)) := fun o => ((Below.refl w.heap.size w).trans ⟨rfl, rfl, rfl, Nat.le_refl _, fun _ _ => rfl⟩ : Below w.heap.size w w.drew).alloc (Nat.le_refl _) _
   clear hC HOW hCC hn b1 b2 b3 b4
   go_enter Tryz.func113, Tryz.ntmps113
   go_wp2_with ((with_reducible show wpList _ _ _ (Oper.mk (some 22) _ _ _ _ _ :: _) _ _); refine Lib.wpList_append_run _ (by rfl) (.tmp 20) (.tmp 21) 49 3 (by rfl) (.slice none 0 0) (.int .i64 n) (by rfl) (by { show Value.int .i64 (wrap64 (n : Int)) = _; rw [d3] }) _ _ (HAP.out _) ?_)
   go_ret
   exact ⟨_, rfl, ⟨[], HO2.out, RdL.nil _⟩, HB.out _⟩
theorem zDW (ws ns : List Pt) (u1 u2 : Value) (g c : Nat) (w : World) (hg0 : w.cell? ⟨g, 0, none⟩ = some u1) (hg1 : w.cell? ⟨g, 1, none⟩ = some u2) (h1 : Rd w (.row 48 18 (ws.map encP)) u1) (h2 : Rd w (.row 48 18 (ns.map encP)) u2) (hl : ws.length + ns.length ≤ 500) :
  Calls Tryz.prog 72 #[.slice (some ⟨g, 0, none⟩) 2 c] w fun e w' => ∃ v, e = .returned v ∧ Prw w w' v (ws ++ ns) ∧ Below w.heap.size w w' := by
 obtain ⟨q1, j1, e1, _, _⟩ := zAK lenP h1
 obtain ⟨q2, j2, e2, _, _⟩ := zAK lenP h2
 subst e1 e2
 have HL := hid hl
 have HGR := hid (grow_any (ws.length + ns.length) (by omega) w)
 have H1 := hid h1
 have H2 := hid h2
 have G0 := hid hg0
 have G1 := hid hg1
 obtain ⟨l1, hl1⟩ : ∃ l, ws.length = l := ⟨_, rfl⟩
 obtain ⟨l2, hl2⟩ : ∃ l, ns.length = l := ⟨_, rfl⟩
 rw [hl1] at H1 HGR HL G0 hl hg0
 rw [hl2] at H2 HGR HL G1 hl hg1
 have HL1 := hid hl1
 have HL2 := hid hl2
 obtain ⟨m, hm⟩ : ∃ m, l1 + l2 = m := ⟨_, rfl⟩
 rw [hm] at HGR
 have a1 : wrap64 (l1 : Int) = l1 := by unfold wrap64; omega
 have a2 : wrap64 ((l1 : Int) + (l2 : Int)) = (m : Nat) := by unfold wrap64; omega
 have a3 : decide ((l1 : Int) < 0) = false := by simp
 have a4 : decide ((m : Int) < 0) = false := by simp
 clear hl h1 h2 hl1 hl2 hm
 go_enter Tryz.func72, Tryz.ntmps72
 go_wp2_with fail
 go_loopg [3, 11] 3 (fun gg s i wr => ∃ k : Nat, k ≤ 2 ∧ gg = 3 - k ∧ s = .int .i64 (if k = 0 then (0 : Int) else if k = 1 then (l1 : Int) else (m : Int)) ∧ i = .int .i64 (k : Nat) ∧ w = wr)
 case atStart => exact ⟨0, by omega, by omega, rfl, rfl, rfl⟩
 case round =>
  obtain ⟨k, hk, rfl, rfl, rfl, rfl⟩ := hrel
  rcases (by omega : k = 0 ∨ k = 1 ∨ k = 2) with rfl | rfl | rfl
  . go_wp2_with fail
    go_roundg (3 - 1)
    case rel => exact ⟨1, by omega, rfl, by rw [a1]; rfl, rfl, rfl⟩
    case measure => omega
  . go_wp2_with fail
    go_roundg (3 - 2)
    case rel => exact ⟨2, by omega, rfl, by rw [a2]; rfl, rfl, rfl⟩
    case measure => omega
  . go_wp2_with fail
    refine HGR.out.mono ?_
    rintro e w1 ⟨v1, rfl, hp1, hb1⟩
    have HP1 := hid hp1
    have HB1 := hid hb1
    clear hp1 hb1
    go_wp2_with fail
    go_loopg [6, 27] 3 (fun gg s i wr => ∃ (k : Nat) (v : Value), k ≤ 2 ∧ gg = 3 - k ∧ s = v ∧ i = .int .i64 (k : Nat) ∧ Prw w wr v (if k = 0 then [] else if k = 1 then ws else ws ++ ns) ∧ Below w.heap.size w wr)
    case atStart => exact ⟨0, v1, by omega, by omega, rfl, rfl, HP1.out, HB1.out⟩
    case round =>
     obtain ⟨k, v, hk, rfl, rfl, rfl, hP, hB⟩ := hrel
     rcases (by omega : k = 0 ∨ k = 1 ∨ k = 2) with rfl | rfl | rfl
     . simp only [if_true] at hP
       have c0 : wr.cell? ⟨g, 0, none⟩ = some (.slice q1 l1 j1) := (hB.cell (p := ⟨g, 0, none⟩) (World.block_lt_of_cell? _ _ G0.out)).trans G0.out
       have HP := hid hP
       have HB := hid hB
       obtain ⟨pv, cv, rfl⟩ := hP.shape
       simp only [List.length_nil] at HP ⊢
       clear hP hB
       go_wp2_with ((with_reducible show wpList _ _ _ (Oper.mk (some 33) _ _ _ _ _ :: _) _ _); refine zH0 (by rfl) (.tmp 31) (.tmp 32) (by rfl) w (.slice pv 0 cv) (.slice q1 l1 j1) [] ws (by rfl) HP.out HB.out (by rfl) H1.out (by have := HL.out; have := HL1.out; simp; omega) ?_; intro v9 w9 hp9 hb9; have HP9 := hid hp9; have HB9 := hid hb9; clear hp9 hb9)
       go_roundg (3 - 1)
       case rel => exact ⟨1, v9, by omega, rfl, rfl, rfl, HP9.out, HB9.out⟩
       case measure => omega
     . have c0 : wr.cell? ⟨g, 1, none⟩ = some (.slice q2 l2 j2) := (hB.cell (p := ⟨g, 1, none⟩) (World.block_lt_of_cell? _ _ G1.out)).trans G1.out
       simp only [if_neg (show ¬ (1 : Nat) = 0 by decide), if_true] at hP
       have HP := hid hP
       have HB := hid hB
       obtain ⟨pv, cv, rfl⟩ := hP.shape
       rw [HL1.out] at HP ⊢
       clear hP hB
       go_wp2_with ((with_reducible show wpList _ _ _ (Oper.mk (some 33) _ _ _ _ _ :: _) _ _); refine zH0 (by rfl) (.tmp 31) (.tmp 32) (by rfl) w (.slice pv l1 cv) (.slice q2 l2 j2) ws ns (by rfl) HP.out HB.out (by rfl) H2.out (by have := HL.out; have := HL1.out; have := HL2.out; omega) ?_; intro v9 w9 hp9 hb9; have HP9 := hid hp9; have HB9 := hid hb9; clear hp9 hb9)
       go_roundg (3 - 2)
       case rel => exact ⟨2, v9, by omega, rfl, rfl, rfl, HP9.out, HB9.out⟩
       case measure => omega
     . simp only [if_neg (show ¬ (2 : Nat) = 0 by decide), if_neg (show ¬ (2 : Nat) = 1 by decide)] at hP
       have HP := hid hP
       have HB := hid hB
       obtain ⟨pv, cv, rfl⟩ := hP.shape
       obtain ⟨n9, hn9⟩ : ∃ n9, (ws ++ ns).length = n9 := ⟨_, rfl⟩
       rw [hn9] at HP ⊢
       clear hP hB hn9
       go_wp2_with fail
       go_ret
       exact ⟨_, rfl, HP.out, HB.out⟩
theorem zFU (r : Rl) (u1 u2 u3 u4 u5 : Value) (w : World) (h1 : Rd w (.row 48 18 (r.w.map encP)) u1) (h2 : Rd w (.row 48 18 (r.t.map encP)) u2) (h3 : Rd w (.row 78 20 (r.m.map encM)) u3) (h4 : Rd w (.row 66 3 (r.k.map encK)) u4) (h5 : Rd w (.row 44 6 (r.e.v.map encO)) u5) (hz1 : r.w.length ≤ 100) (hz2 : r.t.length ≤ 100) (hz3 : r.m.length ≤ 100) :
  Calls Tryz.prog 62 #[.agg #[.string r.n, u1, u2, u3, u4, .string r.e.ty, u5]] w fun e w' => ∃ v, e = .returned v ∧ Rd w' (.row 48 18 ((r.w ++ r.t ++ r.m.map Mn.p).map encP)) v ∧ Below w.heap.size w w' ∧ ∀ i, v.ownBlock = some i → w.heap.size ≤ i := by
 obtain ⟨q1, j1, e1, _, _⟩ := zAK lenP h1
 obtain ⟨q2, j2, e2, _, _⟩ := zAK lenP h2
 obtain ⟨q3, j3, e3, hm3, _⟩ := zAK lenM h3
 obtain ⟨q4, l4, j4, e4⟩ := zAC h4
 obtain ⟨q5, l5, j5, e5⟩ := zAC h5
 subst e1 e2 e3 e4 e5
 obtain ⟨rn, ws, ns, ms, ks, ⟨ety, vs⟩⟩ := r
 simp only at h1 h2 h3 hz1 hz2 hz3 hm3 ⊢
 clear h4 h5
 obtain ⟨l1, hl1⟩ : ∃ l, ws.length = l := ⟨_, rfl⟩
 obtain ⟨l2, hl2⟩ : ∃ l, ns.length = l := ⟨_, rfl⟩
 obtain ⟨l3, hl3⟩ : ∃ l, ms.length = l := ⟨_, rfl⟩
 have HZ : Hid (ws.length ≤ 100 ∧ ns.length ≤ 100 ∧ ms.length ≤ 100) := ⟨hz1, hz2, hz3⟩
 rw [hl1] at h1
 rw [hl2] at h2
 rw [hl3] at h3 hm3
 rw [hl1, hl2, hl3]
 have HN := hid hl3
 have HT : Hid (BlkT w ((w.alloc (.cells [.string rn, .slice q1 l1 j1, .slice q2 l2 j2, .slice q3 l3 j3, .slice q4 l4 j4, .string ety, .slice q5 l5 j5].toArray 56)).alloc (.cells #[.slice q1 l1 j1, .slice q2 l2 j2] 49)) [.string rn, .slice q1 l1 j1, .slice q2 l2 j2, .slice q3 l3 j3, .slice q4 l4 j4, .string ety, .slice q5 l5 j5] 56) := (BlkT.start w _ _).next ((Below.refl _ _).alloc (Nat.le_refl _) _)
 have b2 : ((w.alloc (.cells [.string rn, .slice q1 l1 j1, .slice q2 l2 j2, .slice q3 l3 j3, .slice q4 l4 j4, .string ety, .slice q5 l5 j5].toArray 56)).alloc (.cells #[.slice q1 l1 j1, .slice q2 l2 j2] 49)).heap[w.heap.size + 1]? = some (.cells #[.slice q1 l1 j1, .slice q2 l2 j2] 49) := zDU _ _ _
 have HCO := hid (zDW ws ns _ _ (w.heap.size + 1) 2 ((w.alloc (.cells [.string rn, .slice q1 l1 j1, .slice q2 l2 j2, .slice q3 l3 j3, .slice q4 l4 j4, .string ety, .slice q5 l5 j5].toArray 56)).alloc (.cells #[.slice q1 l1 j1, .slice q2 l2 j2] 49)) (zAB b2 0) (zAB b2 1) (h1.later HT.out.bel) (h2.later HT.out.bel) (by omega))
 have HM := hid (h3.later HT.out.bel)
 clear h1 h2 h3 hz1 hz2 hz3 hl1 hl2 hl3 b2
 go_enter Tryz.func62, Tryz.ntmps62
 go_wp2_with fail
 refine HCO.out.mono ?_
 obtain ⟨w0, hw0⟩ : ∃ w0, ((w.alloc (.cells [.string rn, .slice q1 l1 j1, .slice q2 l2 j2, .slice q3 l3 j3, .slice q4 l4 j4, .string ety, .slice q5 l5 j5].toArray 56)).alloc (.cells #[.slice q1 l1 j1, .slice q2 l2 j2] 49)) = w0 := ⟨_, rfl⟩
 have hsz0 : w0.heap.size = w.heap.size + 2 := by rw [← hw0]; simp
 rw [hw0] at HT HM ⊢
 clear HCO
 rintro e w1 ⟨v1, rfl, hp1, hb1⟩
 have HP1 := hid hp1
 have HB1 := hid hb1
 have c3 : w1.cell? ⟨w.heap.size, 3, none⟩ = some (.slice q3 l3 j3) := (HT.out.next hb1).c 3
 have HSZ := hid hsz0
 clear hp1 hb1 hw0 hsz0
 go_wp2_with fail
 go_loopg [3, 15] (l3 + 1) (fun gg s i wr => ∃ (k : Nat) (v : Value), k ≤ l3 ∧ gg = l3 + 1 - k ∧ s = v ∧ i = .int .i64 (k : Nat) ∧ Prw w0 wr v (ws ++ ns ++ (ms.take k).map Mn.p) ∧ Below w0.heap.size w0 wr)
 case atStart => exact ⟨0, v1, by omega, by omega, rfl, rfl, by simpa using HP1.out, HB1.out⟩
 case round =>
  obtain ⟨k, v, hk, rfl, rfl, rfl, hP, hB⟩ := hrel
  have HP := hid hP
  have HB := hid hB
  obtain ⟨pv, cv, rfl⟩ := hP.shape
  obtain ⟨nv, hnv⟩ : ∃ nv, (ws ++ ns ++ (ms.take k).map Mn.p).length = nv := ⟨_, rfl⟩
  have HNV := hid hnv
  rw [hnv] at HP ⊢
  clear hP hnv
  by_cases hlt : k < l3
  . have hkc : k < ms.length := by have := HN.out; omega
    obtain ⟨p', cap', e0, _, hat⟩ := zAK lenM HM.out
    simp only [Value.slice.injEq] at e0
    obtain ⟨e01, hx0, e02⟩ := e0
    obtain ⟨g, off, e03, hrd⟩ := hat (by omega)
    obtain ⟨A, r1, o1⟩ := hrd w0 (Below.refl _ _) k hkc
    obtain ⟨B, z0, o0⟩ := rdM o1
    obtain ⟨vc, z1, o2⟩ := rdP o0
    obtain ⟨up, un, uc, hu⟩ := zAC o2
    obtain rfl : q3 = some ⟨g, off, none⟩ := e01.trans e03
    have hAz : A.length = 20 := o1.1.symm
    have HAO : Hid (A.all (·.oneCell') = true) := by show _ = _; rw [z0, z1, hu]; rfl
    have HBF : Hid (∃ a b k v l r y n, B = ptC a b k v l r y n) := ⟨_, _, _, _, _, _, _, _, z1⟩
    have ZA : Hid ((Tryz.prog.info? 78).map (·.size) = some A.length) := by show _ = _; rw [hAz]; kernel_rfl
    have ZB : Hid ((Tryz.prog.info? 48).map (·.size) = some B.length) := by show _ = _; rw [z1]; kernel_rfl
    have HRB : Hid (RdL w0 ([ms[k].p].map encP).flatten B) := by show RdL _ _ _; simpa using o0
    have HAL := hid hAz
    have HZ0 := hid z0
    have X1_ := hid (zAY r1 hB)
    have htk : ws ++ ns ++ (ms.take k).map Mn.p ++ [ms[k].p] = ws ++ ns ++ (ms.take (k + 1)).map Mn.p := by rw [List.take_succ_eq_append_getElem hkc, List.map_append, ← List.append_assoc]; rfl
    have HTK := hid htk
    have i1 : (0 : Int) ≤ (k : Int) := by omega
    have i2 : (k : Int) < (l3 : Int) := by omega
    clear hB hat hrd r1 o1 hAz hx0 z0 z1 hu o2 o0 e01 e02 e03 htk
    go_wp2_with (first
     | ((with_reducible refine gLq ?_); refine wpList_load_mid (by rfl) 78 _ (by rfl) g (off + k * 20) (by rfl) A _ X1_.out Tryz.underlying78 rfl ZA.out ?_)
     | ((with_reducible refine gSq ?_); refine zB2 (by rfl) 78 _ _ (by rfl) wr.heap.size 0 _ 78 (.agg A.toArray) A (by rfl) (by rfl) (by rfl) (heap_alloc_new _ _) (by have := HAL.out; simp; omega) ZA.out HAO.out ?_; intro w2 hblk hfr; rw [zBA (by rw [HAL.out]; rfl)] at hblk; have XB : Hid (w2.rangeAt wr.heap.size 2 B) := zDQ hblk HZ0.out; have HBW : Hid (Below wr.heap.size wr w2) := zAP hfr; clear hblk hfr)
     | ((with_reducible refine gLq ?_); refine wpList_load_mid (by rfl) 48 _ (by rfl) wr.heap.size 2 (by rfl) B _ XB.out Tryz.underlying48 rfl ZB.out ?_)
     | ((with_reducible show wpList _ _ _ (Oper.mk _ (.buildSlice _ _ _) _ _ _ _ :: _) _ _); refine wp_bsP (by rfl) _ (by rfl) B HBF.out (by rfl) ?_; have HB2 : Hid (Below wr.heap.size wr (w2.alloc (.cells B.toArray 48))) := HBW.out.alloc HBW.out.size _; have HCB : Hid (∀ j u, B[j]? = some u → (w2.alloc (.cells B.toArray 48)).cell? ((⟨w2.heap.size, 0, none⟩ : Addr).add j) = some u) := World.news_of_block (heap_alloc_new _ _))
     | ((with_reducible show wpList _ _ _ (Oper.mk (some 23) _ _ _ _ _ :: _) _ _); refine zGY (by rfl) (.tmp 19) (.tmp 22) (by rfl) w0 (.slice pv nv cv) (ws ++ ns ++ (ms.take k).map Mn.p) [ms[k].p] (by rfl) (HP.out.later HB2.out) (zAA HB.out HB2.out HB.out.size) ⟨w2.heap.size, 0, none⟩ 1 B (by rfl) HRB.out HCB.out (by have := HZ.out; simp; omega) ?_; intro v9 w9 hp9 hb9; have HP9 := hid hp9; have HB9 := hid hb9; clear hp9 hb9))
    go_roundg (l3 + 1 - (k + 1))
    case rel => exact ⟨k + 1, v9, by omega, rfl, rfl, by go_num, by rw [← HTK.out]; exact HP9.out, HB9.out⟩
    case measure => omega
  . obtain rfl : k = l3 := by omega
    have hw : ms.take k = ms := List.take_of_length_le (by have := HN.out; omega)
    have HRD := hid (HP.out.rd hB)
    have HOW : Hid (∀ i, (Value.slice pv nv cv).ownBlock = some i → w.heap.size ≤ i) := fun i hi => by
     obtain ⟨xs, h1, _⟩ := HP.out
     have h2 := (zBH h1 hi).1
     have h3 := HSZ.out
     omega
    rw [hw] at HRD
    have HBB := hid (zAA HT.out.bel hB HT.out.bel.size)
    clear hw hB
    go_wp2_with fail
    go_ret
    exact ⟨_, rfl, HRD.out, HBB.out, HOW.out⟩
end Go.Proofs.YtnlmknbhppdliaaGreatDoor.Chk
namespace Go.Proofs.YtnlmknbhppdliaaGreatDoor.B8
theorem owR_of {n : Nat} {Z : Mx} (hd : ∀ i, i < n → Z i i = 0) (hb : Bnd n 2147483648 Z) : ∀ {j : Nat}, j ≤ n → owR n Z j = 0
 | 0, _ => rfl
 | j + 1, hj => by
  rw [owR, owR_of hd hb (by omega), if_neg (by decide), if_neg (by rw [hd j (by omega)]; decide), if_pos (zFF fun k hk => hb j k (by omega) hk)]
theorem own_of {n : Nat} {Z : Mx} (hn : n ≤ 12) (hd : ∀ i, i < n → Z i i = 0) (hb : Bnd n 2147483648 Z) : own n (fun _ => n) Z = 0 := by
  unfold own
  rw [chk_sq hn (fun _ _ => rfl) (fun i hi k hk => by have := hb i k hi hk; unfold inb; omega), if_neg (by decide), owR_of hd hb (Nat.le_refl _)]
end Go.Proofs.YtnlmknbhppdliaaGreatDoor.B8
namespace Go.Proofs.YtnlmknbhppdliaaGreatDoor.Chk
open Go.ChangeShapes Go.WideShapes Go.ChangeAt Go.RowKit Go.Maps
open B8 (Mx OwnM New zA5 lowZ leaZ greZ neeZ Bnd Gd fw)
set_option linter.unusedVariables false
set_option linter.unusedSimpArgs false
set_option maxRecDepth 20000
set_option maxRecDepth 20000
def Bres (w w' : World) (e : Ending) (n : Nat) : Option Mx → Prop
  | none => e = .returned (.tuple #[.slice none 0 0, .int .i64 16])
  | some R => ∃ V, e = .returned (.tuple #[V, .int .i64 0]) ∧ New w w' V n (fun _ => n) R
theorem close_of {n : Nat} {M : Mx} {v : Value} {w : World} (hn : n ≤ 12) (h : zA5 w v n (fun _ => n) M) (hm : Mok n M) : Calls Tryz.prog 79 #[v] w fun e w' => Bres w w' e n (clo n (some M)) ∧ Below w.heap.size w w' := by
 refine (B8.closeP_any v n _ M w h (B8.own_of hn hm.1 hm.2)).mono ?_
 rintro e w' ⟨⟨hg, V, rfl, hV⟩ | ⟨hg, rfl⟩, hb⟩
 . refine ⟨?_, hb⟩
   show Bres w w' _ n (if _ then _ else _)
   rw [if_pos ((B8.gd_iff hm.1).1 hg)]
   exact ⟨V, rfl, hV⟩
 . refine ⟨?_, hb⟩
   show Bres w w' _ n (if _ then _ else _)
   rw [if_neg (fun c => hg ((B8.gd_iff hm.1).2 c))]
   rfl
theorem zDP (rw_ ns : List Pt) (rk : List Lk) (hw : Wok rw_) (hlk : Lok (rw_ ++ ns) rk) (h1 : 1 ≤ rw_.length) (h3 : rw_.length ≤ 3) (hns : ns.length ≤ 1) (rn rt : ByteArray) (v1 v2 v3 v4 v5 nv : Value) (w : World) (hsh : ∃ a b c d e f x y z i j k l m o, v1 = .slice a b c ∧ v2 = .slice d e f ∧ v3 = .slice x y z ∧ v4 = .slice i j k ∧ v5 = .slice l m o)
  (hW : Rd w (.row 48 18 (rw_.map encP)) v1) (hK : Rd w (.row 66 3 (rk.map encK)) v4) (hN : Rd w (.row 48 18 (ns.map encP)) nv) (ht : B8.Tab w) :
  Calls Tryz.prog 46 #[.agg #[.string rn, v1, v2, v3, v4, .string rt, v5], nv] w fun e w' => Bres w w' e (2 * (rw_ ++ ns).length) (rmx rw_ (rw_ ++ ns) rk) ∧ Below w.heap.size w w' := by
 obtain ⟨a1, a2, a3, a4, a5, a6, a7, a8, a9, b1_, b2_, b3_, b4_, b5_, b6_, rfl, rfl, rfl, rfl, rfl⟩ := hsh
 obtain ⟨n1, n2, n3, rfl⟩ := zAC hN
 obtain ⟨v1, hv1⟩ : ∃ x, Value.slice a1 a2 a3 = x := ⟨_, rfl⟩
 obtain ⟨v4, hv4⟩ : ∃ x, Value.slice b1_ b2_ b3_ = x := ⟨_, rfl⟩
 obtain ⟨sp, hsp⟩ : ∃ x, rw_ ++ ns = x := ⟨_, rfl⟩
 have hsl : sp.length = rw_.length + ns.length := by rw [← hsp, List.length_append]
 have hB1 : Below w.heap.size w (w.alloc (.cells #[.string rn, .slice a1 a2 a3, .slice a4 a5 a6, .slice a7 a8 a9, .slice b1_ b2_ b3_, .string rt, .slice b4_ b5_ b6_] 56)) := (Below.refl _ _).alloc (Nat.le_refl _) _
 have hblk : (w.alloc (.cells #[.string rn, .slice a1 a2 a3, .slice a4 a5 a6, .slice a7 a8 a9, .slice b1_ b2_ b3_, .string rt, .slice b4_ b5_ b6_] 56)).heap[w.heap.size]? = some (.cells #[.string rn, .slice a1 a2 a3, .slice a4 a5 a6, .slice a7 a8 a9, .slice b1_ b2_ b3_, .string rt, .slice b4_ b5_ b6_] 56 (0, 0)) := heap_alloc_new _ _
 obtain ⟨wb, hwb⟩ : ∃ x, w.alloc (.cells #[.string rn, .slice a1 a2 a3, .slice a4 a5 a6, .slice a7 a8 a9, .slice b1_ b2_ b3_, .string rt, .slice b4_ b5_ b6_] 56) = x := ⟨_, rfl⟩
 rw [hwb] at hB1 hblk
 have hB2 : Below wb.heap.size wb (wb.alloc (.cells #[.slice a1 a2 a3, .slice n1 n2 n3] 49)) := (Below.refl _ _).alloc (Nat.le_refl _) _
 have hB2' := zAA hB1 hB2 hB1.size
 have HCC := hid (zDW rw_ ns (.slice a1 a2 a3) (.slice n1 n2 n3) wb.heap.size 2 _ (by go_simp) (by go_simp) (hW.later hB2') (hN.later hB2') (by omega))
 rw [hsp] at HCC
 have HBC := hid hB2'
 have HW := hid hW
 have HKK := hid hK
 have HT := hid ht
 have HWB := hid hwb
 have HRB : Hid (∀ W, Below wb.heap.size wb W → W.heap[w.heap.size]? = some (.cells #[.string rn, .slice a1 a2 a3, .slice a4 a5 a6, .slice a7 a8 a9, .slice b1_ b2_ b3_, .string rt, .slice b4_ b5_ b6_] 56 (0, 0))) := fun W hW => (hW.block _ (zAE hblk)).trans hblk
 have HB2 := hid hB2
 have HSL := hid hsl
 have HL3 := hid (And.intro h1 (And.intro h3 hns))
 have HWK := hid hw
 have HLK : Hid (Lok sp rk) := by show Lok sp rk; rw [← hsp]; exact hlk
 obtain ⟨n, hn⟩ : ∃ x, 2 * sp.length = x := ⟨_, rfl⟩
 have HN2 := hid hn
 have hn12 : n ≤ 12 := by omega
 have hn0 : 0 < n := by omega
 have HN12 := hid (And.intro hn12 hn0)
 rw [hsp, hn]
 obtain ⟨nsp, hnsp⟩ : ∃ x, sp.length = x := ⟨_, rfl⟩
 have HNS := hid hnsp
 have hnsb : (nsp : Int) ≤ 6 := by omega
 have hmu : IntKind.i64.wrap (2 * (nsp : Int)) = (n : Nat) := by
  have h9 : IntKind.i64.wrap (2 * (nsp : Int)) = 2 * (nsp : Int) := by go_unwrap
  rw [h9]
  omega
 have hmu2 : RowKit.wrap64 (2 * (nsp : Int)) = (n : Nat) := by unfold RowKit.wrap64; omega
 have q1 : wb.cell? ⟨w.heap.size, 1, none⟩ = some (.slice a1 a2 a3) := by rw [zAB hblk]; rfl
 have HFR := hid (fun W => B8.freeP_any n W hn12)
 clear hB1 hB2 hB2' hblk hW hK hN ht hw hlk h1 h3 hns hsl hsp hv1 hv4 hn hnsp v1 v4
 go_enter Tryz.func46, Tryz.ntmps46
 go_wp2_with (first
  | (go_at_call 72; refine HCC.out.mono ?_; rintro e wd ⟨sv, rfl, hprw, hbd⟩; obtain ⟨x1, x2, rfl⟩ := hprw.shape; have HSV := hid (hprw.rd hbd); have HBD := hid hbd; rw [HNS.out] at HSV ⊢; clear hprw hbd)
  | (go_at_call 73; refine (HFR.out _).mono ?_; rintro e we ⟨⟨V, rfl, hNew⟩, hbe⟩; obtain ⟨p, cap, b, G, C, rfl, hp, hc1, hc2, hO⟩ := hNew; obtain rfl := hp HN12.out.2; have HO := hid hO; have HBE := hid hbe; have HCP := hid (And.intro hc1 hc2); clear hO hbe hc1 hc2 hp))
 have HBWD : Hid (Below w.heap.size w wd) := zAA HBC.out HBD.out HBC.out.size
 have HRD := hid (fun W (hW : Below wd.heap.size wd W) => HRB.out W (zAA HB2.out (zAA HBD.out hW HBD.out.size) HB2.out.size))
 go_loopg [28] nsp (fun gg io wr => ∃ (k : Nat) (Q : Mx), k ≤ nsp ∧ gg = nsp - k ∧ io = .int .i64 (k : Nat) ∧ OwnM wr wd.heap.size b n (fun _ => n) G C Q ∧ (∀ a c, a < n → c < n → Q a c = b1 k a c) ∧ Below wd.heap.size wd wr)
 case atStart => exact ⟨0, _, by omega, by omega, rfl, HO.out, fun a c _ _ => (b1_zero a c).symm, HBE.out⟩
 case round =>
  obtain ⟨k, Q, hk, rfl, rfl, hO1, hQ1, hBr⟩ := hrel
  clear HO
  have HO1 := hid hO1
  have HZ1 := hid hQ1
  have HB1 := hid hBr
  clear hO1 hQ1 hBr
  by_cases hkn : k < nsp
  . have k2 : (k : Int) < (nsp : Int) := by omega
    have HSK := hid (fun W => B8.start_any k (by have := HN12.out; have := HN2.out; have := HNS.out; omega) W)
    have HEK := hid (fun W => B8.end_any k (by have := HN12.out; have := HN2.out; have := HNS.out; omega) W)
    have HKN : Hid (2 * k < n ∧ 2 * k + 1 < n) := by have := HN2.out; have := HNS.out; show _ ∧ _; omega
    have HLW := hid (fun W (hW : OwnM W wd.heap.size b n (fun _ => n) G C Q) => B8.lower_any b n cap wd.heap.size (2 * k) (2 * k + 1) G C Q 0 W hW HKN.out.1 HKN.out.2 HN12.out.1)
    have HST := hid (b1_step k)
    obtain ⟨K0, hK0⟩ : ∃ x, 2 * k = x := ⟨_, rfl⟩
    obtain ⟨K1, hK1⟩ : ∃ x, K0 + 1 = x := ⟨_, rfl⟩
    rw [hK0] at HSK
    rw [hK0, hK1] at HEK HST HKN HLW
    have HKW : Hid (k + 1 ≤ nsp) := hkn
    clear hK0 hK1 hkn hk
    go_wp2_with (first
     | (go_at_call 75; refine (HSK.out _).mono ?_; rintro e wr ⟨rfl, rfl⟩)
     | (go_at_call 76; refine (HEK.out _).mono ?_; rintro e wr ⟨rfl, rfl⟩)
     | (go_at_call 74; refine (HLW.out _ HO1.out).mono ?_; rintro e wx ⟨rfl, hO2, hF2⟩; have HO2 := hid hO2; have HB2 := hid (zAU HB1.out hF2 (HO1.out.gB K0 HKN.out.1 HN12.out.2) (Nat.le_refl _)); clear hO2 hF2))
    go_roundg (nsp - (k + 1))
    case rel =>
     refine ⟨k + 1, _, HKW.out, rfl, by go_num, HO2.out, fun a c ha hc => ?_, HB2.out⟩
     have e2 : lowZ Q K0 K1 0 a c = lowZ (b1 k) K0 K1 0 a c := by
      unfold lowZ B8.upd
      rw [HZ1.out a c ha hc, HZ1.out K0 K1 HKN.out.1 HKN.out.2]
     rw [e2]
     exact HST.out a c
    case measure => have := HKW.out; omega
  . obtain rfl : k = nsp := by omega
    have q4 : wr.cell? ⟨w.heap.size, 1, none⟩ = some (.slice a1 a2 a3) := by rw [zAB (HRD.out wr HB1.out)]; rfl
    have HTW := hid (zCQ rw_ HWK.out HL3.out.2.1 (.slice a1 a2 a3) b n cap wd.heap.size G C Q wd wr HO1.out (fun a c ha hc => by rw [HZ1.out a c ha hc]; exact b2_zero rw_ _ a c (by have := HN2.out; have := HNS.out; omega)) HN12.out.1 (by have := HN2.out; have := HSL.out; omega) HN12.out.2 (HW.out.later HBWD.out) HB1.out (Nat.le_refl _) HB1.out.size)
    have HMM : Hid (rmx rw_ sp rk = clo n (lks sp rk (bas rw_))) := by show _ = _; unfold rmx; rw [HN2.out]
    obtain ⟨T0, hT0⟩ : ∃ x, lks sp rk (bas rw_) = x := ⟨_, rfl⟩
    rw [hT0] at HMM
    have HTT := hid hT0
    have HMK : Hid (∀ M, T0 = some M → Mok n M) := fun M hM => by
     have e := HTT.out
     rw [hM] at e
     have h9 := zFD HLK.out (zGV (2 * sp.length) HWK.out) e
     rw [HN2.out] at h9
     exact h9
    have HTL := hid (fun W (Q : Mx) (hO : OwnM W wd.heap.size b n (fun _ => n) G C Q) (hQ : ∀ a c, a < n → c < n → Q a c = bas rw_ a c) (hW : Below wd.heap.size wd W) => zD9 sp rk HLK.out n HN2.out HN12.out.1 HN12.out.2 (.slice x1 sp.length x2) (.slice b1_ b2_ b3_) b cap wd.heap.size G C (bas rw_) wd W (hO.congr (fun _ _ => rfl) (fun a ha c hc => hQ a c ha hc)) (by rw [HNS.out]; exact HSV.out) (HKK.out.later HBWD.out) (HT.out.later HBWD.out) hW (Nat.le_refl _) hW.size T0 HTT.out)
    rw [HNS.out] at HTL
    have HMM2 := HMM
    clear hT0 hk hkn
    cases T0 with
    | none =>
     go_wp2_with (first
      | (go_at_call 77; refine HTW.out.mono ?_; rintro e wf ⟨rfl, ⟨Q2, hO2, hQ2⟩, hb2⟩; have HBF := hid (zAA HB1.out hb2 (Nat.le_refl _)); have HTL2 := hid (HTL.out wf Q2 hO2 hQ2 HBF.out); have q5 : wf.cell? ⟨w.heap.size, 4, none⟩ = some (.slice b1_ b2_ b3_) := (by rw [zAB (HRD.out wf HBF.out)]; rfl); clear hO2 hQ2 hb2)
      | (go_at_call 78; refine HTL2.out.mono ?_; rintro e wg ⟨hres, hbg⟩; have hres2 : e = .returned (.int .i64 16) := hres; subst hres2; have HBG := hid (zAA HBWD.out (zAA HBF.out hbg (Nat.le_refl _)) HBWD.out.size); clear hres hbg))
     go_ret2
     rw [HMM2.out]
     exact ⟨rfl, HBG.out⟩
    | some M =>
     have hmk := HMK.out M rfl
     have HCL := hid (fun W (h : zA5 W (.slice (some ⟨b, 0, none⟩) n cap) n (fun _ => n) M) => close_of HN12.out.1 h hmk)
     obtain ⟨cr, hcr⟩ : ∃ x, clo n (some M) = x := ⟨_, rfl⟩
     rw [hcr] at HCL HMM2
     clear hmk hcr
     cases cr with
     | none =>
      go_wp2_with (first
       | (go_at_call 77; refine HTW.out.mono ?_; rintro e wf ⟨rfl, ⟨Q2, hO2, hQ2⟩, hb2⟩; have HBF := hid (zAA HB1.out hb2 (Nat.le_refl _)); have HTL2 := hid (HTL.out wf Q2 hO2 hQ2 HBF.out); have q5 : wf.cell? ⟨w.heap.size, 4, none⟩ = some (.slice b1_ b2_ b3_) := (by rw [zAB (HRD.out wf HBF.out)]; rfl); clear hO2 hQ2 hb2)
       | (go_at_call 78; refine HTL2.out.mono ?_; rintro e wg ⟨⟨rfl, hO3⟩, hbg⟩; have HBG := hid (zAA HBWD.out (zAA HBF.out hbg (Nat.le_refl _)) HBWD.out.size); have HCL2 := hid (HCL.out wg (hO3.mat (fun _ => rfl) HCP.out.1 HCP.out.2)); clear hO3 hbg)
       | (go_at_call 79; refine HCL2.out.mono ?_; rintro e wh ⟨hres, hbh⟩; have hres2 : e = .returned (.tuple #[.slice none 0 0, .int .i64 16]) := hres; subst hres2; have HBH := hid (zAA HBG.out hbh HBG.out.size); clear hres hbh))
      go_ret2
      rw [HMM2.out]
      exact ⟨rfl, HBH.out⟩
     | some R =>
      go_wp2_with (first
       | (go_at_call 77; refine HTW.out.mono ?_; rintro e wf ⟨rfl, ⟨Q2, hO2, hQ2⟩, hb2⟩; have HBF := hid (zAA HB1.out hb2 (Nat.le_refl _)); have HTL2 := hid (HTL.out wf Q2 hO2 hQ2 HBF.out); have q5 : wf.cell? ⟨w.heap.size, 4, none⟩ = some (.slice b1_ b2_ b3_) := (by rw [zAB (HRD.out wf HBF.out)]; rfl); clear hO2 hQ2 hb2)
       | (go_at_call 78; refine HTL2.out.mono ?_; rintro e wg ⟨⟨rfl, hO3⟩, hbg⟩; have HBG := hid (zAA HBWD.out (zAA HBF.out hbg (Nat.le_refl _)) HBWD.out.size); have HCL2 := hid (HCL.out wg (hO3.mat (fun _ => rfl) HCP.out.1 HCP.out.2)); clear hO3 hbg)
       | (go_at_call 79; refine HCL2.out.mono ?_; rintro e wh ⟨⟨V, rfl, hV⟩, hbh⟩; have HV := hid (hV.from HBG.out.size); have HBH := hid (zAA HBG.out hbh HBG.out.size); clear hV hbh))
      go_ret2
      rw [HMM2.out]
      exact ⟨⟨V, rfl, HV.out⟩, HBH.out⟩
open B8 (Mx OwnM New zA5 lowZ leaZ greZ neeZ Bnd Gd fw)
set_option linter.unusedVariables false
set_option linter.unusedSimpArgs false
set_option maxRecDepth 20000
def Nt (w : World) (B n : Nat) : Option Mx → Value → Prop
  | none, u => u = .slice none 0 0
  | some R, u => ∃ (cap b : Nat) (G C : Nat → Nat), u = .slice (some ⟨b, 0, none⟩) n cap ∧ n ≤ cap ∧ cap ≤ maxLen ∧ OwnM w B b n (fun _ => n) G C R
theorem Nt.fr {w w' : World} {B n : Nat} {r : Option Mx} {u : Value} {X : Nat → Prop} (h : Nt w B n r u) (hn : 0 < n) (hf : Fr X w w') (hx : ∀ x, X x → x < B) : Nt w' B n r u := by
 cases r with
 | none => exact h
 | some R =>
  obtain ⟨cap, b, G, C, rfl, h1, h2, h3⟩ := h
  exact ⟨cap, b, G, C, rfl, h1, h2, zI7 h3 hn hf (fun c => by have := hx _ c; have := h3.bB; omega) (fun i hi h0 c => by have := hx _ c; have := h3.gB i hi h0; omega)⟩
theorem Nt.base {w : World} {B B' n : Nat} {r : Option Mx} {u : Value} (h : Nt w B n r u) (hb : B' ≤ B) : Nt w B' n r u := by
 cases r with
 | none => exact h
 | some R =>
  obtain ⟨cap, b, G, C, rfl, h1, h2, h3⟩ := h
  exact ⟨cap, b, G, C, rfl, h1, h2, h3.base hb⟩
theorem Nt.of_new {w w' : World} {n : Nat} {R : Mx} {V : Value} (hn : 0 < n) (h : New w w' V n (fun _ => n) R) : Nt w' w.heap.size n (some R) V := by
  obtain ⟨p, cap, b, G, C, rfl, h1, h2, h3, h4⟩ := h
  rw [h1 hn]
  exact ⟨cap, b, G, C, rfl, h2, h3, h4⟩
theorem Nt.mat {w : World} {B n : Nat} {R : Mx} {u : Value} (h : Nt w B n (some R) u) : zA5 w u n (fun _ => n) R := by
  obtain ⟨cap, b, G, C, rfl, h1, h2, h3⟩ := h
  exact h3.mat (fun _ => rfl) h1 h2
def nmx (rw_ : List Pt) (rk : List Lk) (ts : List Pt) (i : Nat) : Option Mx := rmx rw_ (rw_ ++ [wAt ts i]) rk
theorem rd_one1 {w : World} {g : Nat} {p : Pt} {A : List Value} (h : w.heap[g]? = some (.cells A.toArray 48 (0, 0))) (hr : RdL w (encP p) A) : Rd w (.row 48 18 ([p].map encP)) (.slice (some ⟨g, 0, none⟩) 1 1) := by
  have e : ([p].map encP).flatten = encP p := by simp
  have := Rd.row (w := w) 48 18 ([p].map encP) g 0 1 A (by simp) (by simp) (by unfold maxLen; omega) (zAL h) (by rw [e]; exact hr.1) (by rw [e]; exact hr.2)
  simpa using this
theorem zA2 (w : World) (o : Obj) : Below w.heap.size w (w.alloc o) := (Below.refl _ _).alloc (Nat.le_refl _) _
theorem zAJ {w w' : World} {g n : Nat} {t : TypeId} {f : Nat → Value} (h : w.rowIs g t n f) (hb : Below w.heap.size w w') : w'.rowIs g t n f := by
  obtain ⟨c, h1, h2, h3⟩ := h
  exact ⟨c, (hb.block _ (zAE h1)).trans h1, h2, h3⟩
theorem infoM : (Tryz.prog.info? 130).map (fun i => (i.zero, i.size, i.bytes)) = some (some (.slice none 0 0), 1, 24) := by kernel_rfl
theorem zCK (rw_ ts : List Pt) (rk : List Lk) (hw : Wok rw_) (hlk : ∀ p, p ∈ ts → Lok (rw_ ++ [p]) rk) (h1 : 1 ≤ rw_.length) (h3 : rw_.length ≤ 3) (hts : ts.length ≤ 2) (n : Nat) (hn : 2 * (rw_.length + 1) = n) (rn rt : ByteArray) (a1 : Option Addr) (a2 a3 : Nat) (a4 : Option Addr) (a5 a6 : Nat) (a7 : Option Addr) (a8 a9 : Nat) (b1_ : Option Addr) (b2_ b3_ : Nat) (b4_ : Option Addr) (b5_ b6_ : Nat) (w : World)
  (hW : Rd w (.row 48 18 (rw_.map encP)) (.slice a1 a2 a3)) (hT : Rd w (.row 48 18 (ts.map encP)) (.slice a4 a5 a6)) (hK : Rd w (.row 66 3 (rk.map encK)) (.slice b1_ b2_ b3_)) (ht : B8.Tab w) :
  Calls Tryz.prog 47 #[.agg #[.string rn, .slice a1 a2 a3, .slice a4 a5 a6, .slice a7 a8 a9, .slice b1_ b2_ b3_, .string rt, .slice b4_ b5_ b6_]] w fun e w' => (∃ (g : Nat) (f : Nat → Value), e = .returned (.slice (some ⟨g, 0, none⟩) ts.length ts.length) ∧ w.heap.size ≤ g ∧ w'.rowIs g 130 ts.length f ∧ ∀ i, i < ts.length → Nt w' w.heap.size n (nmx rw_ rk ts i) (f i)) ∧ Below w.heap.size w w' := by
 obtain ⟨tp, tc, e0, hmx, hat⟩ := zAK lenP hT
 obtain ⟨nt, hnt⟩ : ∃ x, ts.length = x := ⟨_, rfl⟩
 rw [hnt] at e0
 simp only [Value.slice.injEq] at e0
 obtain ⟨rfl, rfl, rfl⟩ := e0
 have HAT := hid hat
 have HNT := hid hnt
 have HW := hid hW
 have HKK := hid hK
 have HTB := hid ht
 have HLK := hid hlk
 have HWK := hid hw
 have HL3 := hid (And.intro h1 h3)
 have HN := hid hn
 have hnt2 : (a5 : Int) ≤ 2 := by omega
 have hb0 : Below w.heap.size w (w.alloc (.cells #[.string rn, .slice a1 a2 a3, .slice a4 a5 a6, .slice a7 a8 a9, .slice b1_ b2_ b3_, .string rt, .slice b4_ b5_ b6_] 56)) := (Below.refl _ _).alloc (Nat.le_refl _) _
 have hblk : (w.alloc (.cells #[.string rn, .slice a1 a2 a3, .slice a4 a5 a6, .slice a7 a8 a9, .slice b1_ b2_ b3_, .string rt, .slice b4_ b5_ b6_] 56)).heap[w.heap.size]? = some (.cells #[.string rn, .slice a1 a2 a3, .slice a4 a5 a6, .slice a7 a8 a9, .slice b1_ b2_ b3_, .string rt, .slice b4_ b5_ b6_] 56 (0, 0)) := heap_alloc_new _ _
 have hsz : (w.alloc (.cells #[.string rn, .slice a1 a2 a3, .slice a4 a5 a6, .slice a7 a8 a9, .slice b1_ b2_ b3_, .string rt, .slice b4_ b5_ b6_] 56)).heap.size = w.heap.size + 1 := by simp
 obtain ⟨wb, hwb⟩ : ∃ x, w.alloc (.cells #[.string rn, .slice a1 a2 a3, .slice a4 a5 a6, .slice a7 a8 a9, .slice b1_ b2_ b3_, .string rt, .slice b4_ b5_ b6_] 56) = x := ⟨_, rfl⟩
 rw [hwb] at hb0 hblk hsz
 have HBW := hid hb0
 have HBK := hid hblk
 have HSZ := hid hsz
 have q2 : wb.cell? ⟨w.heap.size, 2, none⟩ = some (.slice a4 a5 a6) := by rw [zAB hblk]; rfl
 have q2' : ∀ o, (wb.alloc o).cell? ⟨w.heap.size, 2, none⟩ = some (.slice a4 a5 a6) := fun o => (((Below.refl wb.heap.size wb).alloc (Nat.le_refl _) o).cell (p := ⟨w.heap.size, 2, none⟩) (zAE hblk)).trans q2
 have hmk := run_make_row' (P := Tryz.prog) 133 130 (.slice none 0 0) 24 Tryz.underlying133 infoM rfl .i64 .i64 a5 (by omega) (by omega)
 have HB1 : Hid (Below wb.heap.size wb (wb.alloc (.cells (madeCells #[.slice none 0 0] a5) 130))) := (Below.refl _ _).alloc (Nat.le_refl _) _
 have HR1 := hid (World.rowIs_made wb (.slice none 0 0) a5 130)
 rw [hnt]
 clear hat hT hW hK ht hlk hw h1 h3 hts hn hb0 hblk hsz hnt
 go_enter Tryz.func47, Tryz.ntmps47
 go_wp2_with fail
 clear hmk q2 q2'
 obtain ⟨g, hg⟩ : ∃ x, wb.heap.size = x := ⟨_, rfl⟩
 have HSG : Hid (g = w.heap.size + 1) := by have := HSZ.out; show g = _; omega
 rw [hg] at HR1 ⊢
 have HG := hid hg
 clear hg
 go_loopg [15] (a5 + 1) (fun gg io wr => ∃ (k : Nat) (f : Nat → Value), k ≤ a5 ∧ gg = a5 + 1 - k ∧ io = .int .i64 (k : Nat) ∧ wr.rowIs g 130 a5 f ∧ (∀ i, i < k → Nt wr (g + 1) n (nmx rw_ rk ts i) (f i)) ∧ (∀ i, k ≤ i → i < a5 → f i = .slice none 0 0) ∧ Below wb.heap.size wb wr)
 case atStart => exact ⟨0, _, by omega, by omega, rfl, HR1.out, fun i hi => by omega, fun i _ _ => rfl, HB1.out⟩
 case round =>
  obtain ⟨k, f, hk, rfl, rfl, hR, hF, hZ, hBr⟩ := hrel
  have HR := hid hR
  have HF := hid hF
  have HZ := hid hZ
  have HBr := hid hBr
  have HBO := hid (zAA HBW.out hBr HBW.out.size)
  clear hR hF hZ
  by_cases hkn : k < a5
  . have hkc : k < ts.length := by have := HNT.out; omega
    obtain ⟨gp, off, rfl, hrd⟩ := HAT.out (by omega)
    obtain ⟨A, r1, o1⟩ := hrd wr HBO.out k hkc
    have hrdp : RdL wr (encP ts[k]) A := o1
    obtain ⟨vc, z1, o2⟩ := rdP o1
    obtain ⟨up, un, uc, hu⟩ := zAC o2
    rw [hu] at z1
    have hwa : wAt ts k = ts[k] := by unfold wAt; rw [List.getD_eq_getElem?_getD, List.getElem?_eq_getElem hkc]; rfl
    have HNM : Hid (nmx rw_ rk ts k = rmx rw_ (rw_ ++ [ts[k]]) rk) := by show _ = _; unfold nmx; rw [hwa]
    have HLP := hid (HLK.out ts[k] (List.getElem_mem hkc))
    obtain ⟨pt, hpt⟩ : ∃ x, ts[k] = x := ⟨_, rfl⟩
    rw [hpt] at z1 HNM HLP hrdp
    obtain ⟨va, hva⟩ : ∃ x, pt.va = x := ⟨_, rfl⟩
    obtain ⟨ty, hty⟩ : ∃ x, pt.ty = x := ⟨_, rfl⟩
    obtain ⟨ck, hck⟩ : ∃ x, pt.c.k = x := ⟨_, rfl⟩
    obtain ⟨ol, hol⟩ : ∃ x, pt.c.l = x := ⟨_, rfl⟩
    obtain ⟨or_, hor⟩ : ∃ x, pt.c.r = x := ⟨_, rfl⟩
    obtain ⟨pw, hpw⟩ : ∃ x, pt.w = x := ⟨_, rfl⟩
    obtain ⟨pn, hpn⟩ : ∃ x, pt.n = x := ⟨_, rfl⟩
    rw [hva, hty, hck, hol, hor, hpw, hpn] at z1
    rw [z1] at r1 hrdp
    have XA := hid r1
    have HRP := hid hrdp
    have k1 : (0 : Int) ≤ (k : Int) := by omega
    have k2 : (k : Int) < (a5 : Int) := by omega
    have HKN := hid hkn
    have HBL : Hid (wr.heap[w.heap.size]? = some (.cells #[.string rn, .slice a1 a2 a3, .slice (some ⟨gp, off, none⟩) a5 a6, .slice a7 a8 a9, .slice b1_ b2_ b3_, .string rt, .slice b4_ b5_ b6_] 56 (0, 0))) := (hBr.block _ (zAE HBK.out)).trans HBK.out
    have HGT : Hid (g < wr.heap.size) := by have := hBr.size; have := HB1.out.size; have h9 := HG.out; obtain ⟨c9, e9, _⟩ := HR.out; exact zAE e9
    clear hrd o1 o2 z1 r1 hu hva hty hck hol hor hpw hpn hwa hkc hBr hkn hpt hrdp hk
    obtain ⟨rm, hrm⟩ : ∃ x, rmx rw_ (rw_ ++ [pt]) rk = x := ⟨_, rfl⟩
    have HRM := hid hrm
    have HBN : Hid (∀ W, Below wr.heap.size wr W → ∀ g1, W.heap[g1]? = some (.cells (ptC va ty ck (.slice up un uc) ol or_ pw pn).toArray 48 (0, 0)) → Calls Tryz.prog 46 #[.agg #[.string rn, .slice a1 a2 a3, .slice (some ⟨gp, off, none⟩) a5 a6, .slice a7 a8 a9, .slice b1_ b2_ b3_, .string rt, .slice b4_ b5_ b6_], .slice (some ⟨g1, 0, none⟩) 1 1] W fun e w' => Bres W w' e n rm ∧ Below W.heap.size W w') := fun W hW g1 hg1 => by
     have hbw := zAA HBO.out hW HBO.out.size
     have h9 := zDP rw_ [pt] rk HWK.out HLP.out HL3.out.1 HL3.out.2 (Nat.le_refl _) rn rt (.slice a1 a2 a3) (.slice (some ⟨gp, off, none⟩) a5 a6) (.slice a7 a8 a9) (.slice b1_ b2_ b3_) (.slice b4_ b5_ b6_) (.slice (some ⟨g1, 0, none⟩) 1 1) W ⟨_, _, _, _, _, _, _, _, _, _, _, _, _, _, _, rfl, rfl, rfl, rfl, rfl⟩ (HW.out.later hbw) (HKK.out.later hbw) (rd_one1 hg1 (HRP.out.below hW)) (HTB.out.later hbw)
     rw [HRM.out, List.length_append, show 2 * (rw_.length + [pt].length) = n from HN.out] at h9
     exact h9
    cases rm with
    | none =>
     go_wp2_with (first
      | ((with_reducible show wpList _ _ _ (Oper.mk _ (.load 48 (.tmp 18)) _ _ _ _ :: _) _ _); refine wpList_load_mid (by rfl) 48 _ (by rfl) gp (off + k * 18) (by rfl) (ptC va ty ck (.slice up un uc) ol or_ pw pn) _ XA.out Tryz.underlying48 rfl (by kernel_rfl) ?_)
      | ((with_reducible show wpList _ _ _ (Oper.mk _ (.store 48 _ _) _ _ _ _ :: _) _ _); refine zBL 48 wr.heap.size 0 pt0 48 (ptC va ty ck (.slice up un uc) ol or_ pw pn) (heap_alloc_new _ _) ?_ (hl := Nat.le_refl 18); intro w6 hq1 hq2; have HBP1 : Hid (w6.heap[wr.heap.size]? = some (.cells (ptC va ty ck (.slice up un uc) ol or_ pw pn).toArray 48 (0, 0))) := hq1; have HBW6 : Hid (Below wr.heap.size wr w6) := zAP hq2; have HBL6 : Hid (w6.heap[w.heap.size]? = some (.cells #[.string rn, .slice a1 a2 a3, .slice (some ⟨gp, off, none⟩) a5 a6, .slice a7 a8 a9, .slice b1_ b2_ b3_, .string rt, .slice b4_ b5_ b6_] 56 (0, 0))) := (HBW6.out.block _ (zAE HBL.out)).trans HBL.out; clear hq1 hq2)
      | ((with_reducible show wpList _ _ _ (Oper.mk _ (.load 56 _) _ _ _ _ :: _) _ _); refine wpList_load_mid (by rfl) 56 _ (by rfl) w.heap.size 0 (by rfl) [.string rn, .slice a1 a2 a3, .slice (some ⟨gp, off, none⟩) a5 a6, .slice a7 a8 a9, .slice b1_ b2_ b3_, .string rt, .slice b4_ b5_ b6_] _ (zAL HBL6.out) Tryz.underlying56 rfl (by kernel_rfl) ?_)
      | ((with_reducible show wpList _ _ _ (Oper.mk _ (.load 48 (.tmp 5)) _ _ _ _ :: _) _ _); refine wpList_load_mid (by rfl) 48 _ (by rfl) wr.heap.size 0 (by rfl) (ptC va ty ck (.slice up un uc) ol or_ pw pn) _ (zAL HBP1.out) Tryz.underlying48 rfl (by kernel_rfl) ?_)
      | (go_at_call 46; refine (HBN.out _ (zAA HBW6.out (zA2 _ _) HBW6.out.size) w6.heap.size (heap_alloc_new _ _)).mono ?_; rintro e w8 ⟨hres, hb8⟩; have hres2 : e = .returned (.tuple #[.slice none 0 0, .int .i64 16]) := hres; subst hres2; have HB8 := hid (zAA HBW6.out (zAA (zA2 _ _) hb8 (zA2 _ _).size) HBW6.out.size); clear hres hb8))
     go_roundg (a5 + 1 - (k + 1))
     case rel =>
      refine ⟨k + 1, f, HKN.out, rfl, by go_num, zAJ HR.out HB8.out, fun i hi => ?_, fun i h1 h2 => HZ.out i (by omega) h2, zAA HBr.out HB8.out HBr.out.size⟩
      by_cases c : i = k
      . subst c
        rw [HNM.out, HRM.out]
        exact HZ.out i (Nat.le_refl _) HKN.out
      . exact (HF.out i (by omega)).fr (by have := HN.out; omega) (Fr.of_below (X := fun _ => False) HB8.out) (fun x h => h.elim)
     case measure => have := HKN.out; omega
    | some R =>
     go_wp2_with (first
      | ((with_reducible show wpList _ _ _ (Oper.mk _ (.load 48 (.tmp 18)) _ _ _ _ :: _) _ _); refine wpList_load_mid (by rfl) 48 _ (by rfl) gp (off + k * 18) (by rfl) (ptC va ty ck (.slice up un uc) ol or_ pw pn) _ XA.out Tryz.underlying48 rfl (by kernel_rfl) ?_)
      | ((with_reducible show wpList _ _ _ (Oper.mk _ (.store 48 _ _) _ _ _ _ :: _) _ _); refine zBL 48 wr.heap.size 0 pt0 48 (ptC va ty ck (.slice up un uc) ol or_ pw pn) (heap_alloc_new _ _) ?_ (hl := Nat.le_refl 18); intro w6 hq1 hq2; have HBP1 : Hid (w6.heap[wr.heap.size]? = some (.cells (ptC va ty ck (.slice up un uc) ol or_ pw pn).toArray 48 (0, 0))) := hq1; have HBW6 : Hid (Below wr.heap.size wr w6) := zAP hq2; have HBL6 : Hid (w6.heap[w.heap.size]? = some (.cells #[.string rn, .slice a1 a2 a3, .slice (some ⟨gp, off, none⟩) a5 a6, .slice a7 a8 a9, .slice b1_ b2_ b3_, .string rt, .slice b4_ b5_ b6_] 56 (0, 0))) := (HBW6.out.block _ (zAE HBL.out)).trans HBL.out; clear hq1 hq2)
      | ((with_reducible show wpList _ _ _ (Oper.mk _ (.load 56 _) _ _ _ _ :: _) _ _); refine wpList_load_mid (by rfl) 56 _ (by rfl) w.heap.size 0 (by rfl) [.string rn, .slice a1 a2 a3, .slice (some ⟨gp, off, none⟩) a5 a6, .slice a7 a8 a9, .slice b1_ b2_ b3_, .string rt, .slice b4_ b5_ b6_] _ (zAL HBL6.out) Tryz.underlying56 rfl (by kernel_rfl) ?_)
      | ((with_reducible show wpList _ _ _ (Oper.mk _ (.load 48 (.tmp 5)) _ _ _ _ :: _) _ _); refine wpList_load_mid (by rfl) 48 _ (by rfl) wr.heap.size 0 (by rfl) (ptC va ty ck (.slice up un uc) ol or_ pw pn) _ (zAL HBP1.out) Tryz.underlying48 rfl (by kernel_rfl) ?_)
      | (go_at_call 46; refine (HBN.out _ (zAA HBW6.out (zA2 _ _) HBW6.out.size) w6.heap.size (heap_alloc_new _ _)).mono ?_; rintro e w8 ⟨⟨V, rfl, hV⟩, hb8⟩; have hnt := Nt.of_new (by have := HN.out; omega) hV; obtain ⟨vc, vb, vG, vC, rfl, hv1, hv2, hv3⟩ := hnt; have HB8 := hid (zAA HBW6.out (zAA (zA2 _ _) hb8 (zA2 _ _).size) HBW6.out.size); have HR8 := hid (zAJ HR.out HB8.out); have HV8 := hid (And.intro hv1 (And.intro hv2 (hv3.base (B' := g + 1) (by have := HGT.out; have := HB8.out.size; have := hb8.size; have := HBW6.out.size; have h9 := (zA2 w6 (.cells (ptC va ty ck (.slice up un uc) ol or_ pw pn).toArray 48)).size; omega)))); have z1 : w8.cell? ⟨g, k, none⟩ = some (.slice none 0 0) := (by rw [HR8.out.cell HKN.out, HZ.out k (Nat.le_refl _) HKN.out]); have z2 : w8.frozen? ⟨g, k, none⟩ = false := HR8.out.frozen k; clear hb8 hV hv1 hv2 hv3))
     have HFS : Hid (Fr (fun x => x = g) w8 (w8.setCell ⟨g, k, none⟩ (.slice (some ⟨vb, 0, none⟩) n vc))) := Fr.setCell (X := fun x => x = g) (Fr.refl _ _) (p := ⟨g, k, none⟩) (.inl rfl) _
     have HRS := hid (HR8.out.set k (.slice (some ⟨vb, 0, none⟩) n vc))
     go_roundg (a5 + 1 - (k + 1))
     case rel =>
      have hn0 : 0 < n := by have := HN.out; omega
      refine ⟨k + 1, _, HKN.out, rfl, by go_num, HRS.out, fun i hi => ?_, fun i h1 h2 => ?_, ?_⟩
      . by_cases c : i = k
        . subst c
          rw [HNM.out, HRM.out, if_pos rfl]
          exact Nt.fr (r := some R) ⟨vc, vb, vG, vC, rfl, HV8.out.1, HV8.out.2.1, HV8.out.2.2⟩ hn0 HFS.out (fun x h => by omega)
        . rw [if_neg c]
          exact ((HF.out i (by omega)).fr hn0 (Fr.of_below (X := fun _ => False) HB8.out) (fun x h => h.elim)).fr hn0 HFS.out (fun x h => by omega)
      . rw [if_neg (by omega)]
        exact HZ.out i (by omega) h2
      . exact zAU (zAA HBr.out HB8.out HBr.out.size) HFS.out (by have := HG.out; omega) (Nat.le_refl _)
     case measure => have := HKN.out; omega
  . obtain rfl : k = a5 := by omega
    clear hBr
    go_wp2_with fail
    go_ret
    exact ⟨⟨g, f, rfl, by have := HSG.out; omega, HR.out, fun i hi => (HF.out i hi).base (by have := HSG.out; omega)⟩, HBO.out⟩
def dly (c : Nat) (L : Nat → Option Mx) : Nat → Option Int
 | 0 => some 0
 | k + 1 => match dly c L k with
  | none => none
  | some d => match L k with
   | none => some d
   | some R => if leaZ R (2 * c + 1) c = nob then none else some (max d (leaZ R (2 * c + 1) c))
theorem dly_up {c : Nat} {L : Nat → Option Mx} {k : Nat} (h : dly c L k = none) : ∀ m, k ≤ m → dly c L m = none
  | 0, hm => by obtain rfl : k = 0 := by omega
                exact h
  | m + 1, hm => by
    by_cases e : k = m + 1
    . subst e; exact h
    . rw [dly, dly_up h m (by omega)]
def Dres : Option Int → Ending
  | none => .returned (.tuple #[.int .i64 0, .int .i64 15])
  | some d => .returned (.tuple #[.int .i64 d, .int .i64 0])
theorem zDB (L : Nat → Option Mx) (g m c n B : Nat) (f : Nat → Value) (w : World) (hr : w.rowIs g 130 m f) (hf : ∀ i, i < m → Nt w B n (L i) (f i)) (hm : m ≤ 2) (hn : 2 * (c + 1) = n) (hc : c ≤ 3) :
  Calls Tryz.prog 48 #[.slice (some ⟨g, 0, none⟩) m m, .int .i64 (c : Nat)] w fun e w' => e = Dres (dly c L m) ∧ Below w.heap.size w w' := by
 have HR := hid hr
 have HF := hid hf
 have HN := hid hn
 have HC := hid hc
 have hm2 : (m : Int) ≤ 2 := by omega
 have E1 : ∀ w, (binOp .eql 130 (.slice none 0 0) (.slice none 0 0)).run Tryz.prog w = .ok (.bool true) w := fun w => run_eql_slice_nil w _ _ _ _ _ Tryz.underlying130
 have E2 : ∀ b cap w, (binOp .eql 130 (.slice (some ⟨b, 0, none⟩) n cap) (.slice none 0 0)).run Tryz.prog w = .ok (.bool false) w := fun b cap w => run_eql_slice_nil w _ _ _ _ _ Tryz.underlying130
 clear hr hf hn hc
 go_enter Tryz.func48, Tryz.ntmps48
 go_wp2_with fail
 go_loopg [6, 12] (m + 1) (fun gg d io wr => ∃ (k : Nat) (x : Int), k ≤ m ∧ gg = m + 1 - k ∧ io = .int .i64 (k : Nat) ∧ d = .int .i64 x ∧ dly c L k = some x ∧ Below w.heap.size w wr)
 case atStart => exact ⟨0, 0, by omega, by omega, rfl, rfl, rfl, Below.refl _ _⟩
 case round =>
  obtain ⟨k, x, hk, rfl, rfl, rfl, hd, hBr⟩ := hrel
  have HD := hid hd
  have HBr := hid hBr
  clear hd
  by_cases hkm : k < m
  . have k1 : (0 : Int) ≤ (k : Int) := by omega
    have k2 : (k : Int) < (m : Int) := by omega
    have z1 := (zAJ HR.out hBr).cell hkm
    have hnt := (HF.out k hkm).fr (by have := HN.out; omega) (Fr.of_below (X := fun _ => False) hBr) (fun x h => h.elim)
    have HKM := hid hkm
    have HSS : Hid (∀ q, dly c L k = some x → (match L k with | none => some x | some R => if leaZ R (2 * c + 1) c = nob then none else some (max x (leaZ R (2 * c + 1) c))) = q → dly c L (k + 1) = q) := fun q h1 h2 => by rw [dly, h1]; exact h2
    obtain ⟨lk, hlk⟩ : ∃ q, L k = q := ⟨_, rfl⟩
    rw [hlk] at hnt HSS
    clear hBr hkm hk hlk
    cases lk with
    | none =>
     have hfk : f k = .slice none 0 0 := hnt
     rw [hfk] at z1
     have HS := hid (HSS.out _ HD.out rfl)
     clear hnt hfk
     go_wp2_with fail
     go_roundg (m + 1 - (k + 1))
     case rel => exact ⟨k + 1, x, HKM.out, rfl, by go_num, rfl, HS.out, HBr.out⟩
     case measure => have := HKM.out; omega
    | some R =>
     have HM := hid hnt.mat
     obtain ⟨cap, b, G, C, hfk, _, _, _⟩ := hnt
     rw [hfk] at z1 HM
     have HLE := hid (B8.least_any _ n R c c wr HM.out (by have := HN.out; omega) (by have := HN.out; omega) (by have := HN.out; have := HC.out; omega))
     obtain ⟨y, hy⟩ : ∃ q, leaZ R (2 * c + 1) c = q := ⟨_, rfl⟩
     have HS := hid (HSS.out _ HD.out rfl)
     simp only [hy] at HS
     rw [hy] at HLE
     clear hfk hy
     by_cases hyn : y = nob
     . have HS2 : Hid (dly c L m = none) := dly_up (by rw [HS.out, if_pos hyn]) m (by have := HKM.out; omega)
       unfold nob at hyn
       subst hyn
       go_wp2_with (go_at_call 80; refine HLE.out.mono ?_; rintro e w2 ⟨rfl, hb2⟩; have HB2 := hid (zAA HBr.out hb2 HBr.out.size); clear hb2)
       go_ret2
       rw [HS2.out]
       exact ⟨rfl, HB2.out⟩
     . have HS2 : Hid (dly c L (k + 1) = some (max x y)) := by show _ = _; rw [HS.out, if_neg hyn]
       have d1 : (y == 1152921504606846976) = false := by simpa [nob] using hyn
       clear hyn
       by_cases hxy : x < y
       . have HV := hid (show max x y = y by omega)
         go_wp2_with (go_at_call 80; refine HLE.out.mono ?_; rintro e w2 ⟨rfl, hb2⟩; have HB2 := hid (zAA HBr.out hb2 HBr.out.size); clear hb2)
         go_roundg (m + 1 - (k + 1))
         case rel => exact ⟨k + 1, y, HKM.out, rfl, by go_num, rfl, by rw [HS2.out, HV.out], HB2.out⟩
         case measure => have := HKM.out; omega
       . have hxy2 : y ≤ x := by omega
         have HV := hid (show max x y = x by omega)
         go_wp2_with (go_at_call 80; refine HLE.out.mono ?_; rintro e w2 ⟨rfl, hb2⟩; have HB2 := hid (zAA HBr.out hb2 HBr.out.size); clear hb2)
         go_roundg (m + 1 - (k + 1))
         case rel => exact ⟨k + 1, x, HKM.out, rfl, by go_num, rfl, by rw [HS2.out, HV.out], HB2.out⟩
         case measure => have := HKM.out; omega
  . obtain rfl : k = m := by omega
    clear hBr
    go_wp2_with fail
    go_ret2
    rw [HD.out]
    exact ⟨rfl, HBr.out⟩
end Go.Proofs.YtnlmknbhppdliaaGreatDoor.Chk
