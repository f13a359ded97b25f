/-
  The patterns of a rule, all in one row, by the program. What comes of itself: ways by types, closed one type after the other, are ways by rules. Rules, one by one, by the program.
-/
import Derived.Lib.AppendZeros
import Derived.Deep.Upon
import Derived.Test.YtdihklfaiiclgaaDoorDl
import Derived.Test.YtdihklfaiiclgaaDoorE3
namespace Go.Proofs.YtdihklfaiiclgaaDoor.Chk
open Go.ChangeShapes Go.WideShapes Go.ChangeAt Go.RowKit Go.Maps
set_option linter.unusedVariables false
set_option linter.unusedSimpArgs false
set_option maxRecDepth 20000
theorem rdl_app {w : World} : ∀ {ds : List Dat} {vs : List Value} {es : List Dat} {us : List Value}, RdL w ds vs → RdL w es us → RdL w (ds ++ es) (vs ++ us)
  | [], vs, es, us, h, k => by rw [RdL.none h]; exact k
  | d :: ds, vs, es, us, h, k => by
    obtain ⟨v, r, rfl, h1, h2⟩ := RdL.one h
    exact .cons h1 (rdl_app h2 k)
theorem rdl_one {w : World} : ∀ {L : List Pt} {xs : List Value}, RdL w (L.map encP).flatten xs → xs.length = L.length * 18 ∧ ∀ u, u ∈ xs → u.oneCell' = true
  | [], xs, h => by rw [RdL.none h]; exact ⟨rfl, fun u hu => by cases hu⟩
  | p :: L, xs, h => by
    obtain ⟨us, rs, rfl, h1, h2⟩ := RdL.split (ds := encP p) (es := (L.map encP).flatten) h
    obtain ⟨a, b⟩ := rdl_one h2
    obtain ⟨v, rfl, h3⟩ := rdP h1
    obtain ⟨x, y, z, rfl⟩ := rd_shape h3
    refine ⟨by rw [List.length_append, a]; simp [ptC, List.length_cons]; omega, fun u hu => ?_⟩
    rcases List.mem_append.1 hu with hu | hu
    · exact List.all_eq_true.1 (show (ptC p.va p.ty p.c.k (.slice x y z) p.c.l p.c.r p.w p.n).all (·.oneCell') = true from rfl) u hu
    · exact b u hu
/-- A row of patterns that a call goes on appending to; its parts are read in the world w0, ahead of it. -/
def Prw (w0 w : World) (v : Value) (L : List Pt) : Prop := ∃ xs, w.ownsRow w0.heap.size 46 18 v L.length xs ∧ RdL w0 (L.map encP).flatten xs
theorem Prw.shape {w0 w : World} {v : Value} {L : List Pt} (h : Prw w0 w v L) : ∃ p cap, v = .slice p L.length cap := by
  obtain ⟨xs, h1, _⟩ := h
  rcases h1.2 with ⟨h2, h3⟩ | ⟨g, cap, cur, h2, _⟩
  · exact ⟨none, 0, by rw [h2, h3]⟩
  · exact ⟨_, cap, h2⟩
theorem Prw.later {w0 w w' : World} {v : Value} {L : List Pt} (h : Prw w0 w v L) (hb : Below w.heap.size w w') : Prw w0 w' v L := by
  obtain ⟨xs, h1, h2⟩ := h
  exact ⟨xs, owns_same h1 fun i hi => hb.block _ (own_block_some h1 hi).2, h2⟩
theorem Prw.rd {w0 w : World} {v : Value} {L : List Pt} (h : Prw w0 w v L) (hb : Below w0.heap.size w0 w) : Rd w (.row 46 18 (L.map encP)) v := by
  obtain ⟨xs, h1, h2⟩ := h
  have hc := h1
  rcases h1.2 with ⟨rfl, h5⟩ | ⟨ga, cap, cur, rfl, _, _, hn, hx, _⟩
  · obtain rfl : L = [] := List.eq_nil_of_length_eq_zero h5
    exact .nil _ _ none 0 (Nat.zero_le _)
  · by_cases h0 : 0 < L.length
    · have h3 := h2.below hb
      have := Rd.row (w := w) 46 18 (L.map encP) ga 0 cap xs (by simpa using h0) (by simpa using hn) hx (fun j u hu => by
        have := hc.cells (g := ga) rfl j u hu
        rw [Addr.add_mid] at this
        simpa using this) h3.1 h3.2
      simpa using this
    · obtain rfl : L = [] := List.eq_nil_of_length_eq_zero (by omega)
      exact .nil _ _ _ cap hx
theorem bs_pt' (a b : ByteArray) (k : Int) (v : Value) (l r : Opd) (x n : Int) (w : World) : (Instr.buildSlice 28 1 #[(0, ptV a b k v l r x n)]).run Tryd.prog w = .ok (.slice (some ⟨w.heap.size, 0, none⟩) 1 1) (w.alloc (.cells (ptC a b k v l r x n).toArray 46)) := by kernel_rfl
theorem srcNil {P : Program} {t e : TypeId} (p : Option Addr) (cap : Nat) (ht : P.underlying t = some (.slice e)) (z : Nat) (w : World) : Src P z t (.slice p 0 cap) 0 [] w := by
  refine ⟨.inl ⟨e, ht⟩, fun w' => by simp [Builtin.lenOf], ?_, ?_, by simp, fun u hu => by cases hu⟩
  · cases p <;> simp [Builtin.firstCells, loadCells, loadCellsFrom]
  · cases p <;> simp [Builtin.firstCells, loadCells, loadCellsFrom]
section
variable {ops : Array Oper} {rest : List Oper} {o : Oper} {a : Act} {w : World} {Q : Exit → Act → World → Prop}
/-- An append of some patterns, whose cells are at hand. -/
theorem wp_appP0 (hgd : o.guard = none) (s x : Operand) (ho : o.op = .call { callee := .builtin .append, args := #[s, x], argTypes := #[28, 28] }) (w0 : World) (v : Value) (L M : List Pt) (hs : a.eval s = v) (hp : Prw w0 w v L) (hb : Below w0.heap.size w0 w)
    (ad : Addr) (c : Nat) (us : List Value) (hx : a.eval x = .slice (some ad) M.length c) (hu : RdL w0 (M.map encP).flatten us) (hc : ∀ j u, us[j]? = some u → w.cell? (ad.add j) = some u) (hl : L.length + M.length ≤ 1000)
    (h : ∀ v' w', Prw w0 w' v' (L ++ M) → Below w0.heap.size w0 w' → wpList Tryd.prog ops Q rest (a.put o.dst v') w') : wpList Tryd.prog ops Q (o :: rest) a w := by
  obtain ⟨i0, b1, b2, b3, b4⟩ := info_parts infoP
  obtain ⟨xs, h1, h2⟩ := hp
  obtain ⟨c1, c2⟩ := rdl_one hu
  refine wpList_append_own_at _ hgd s x 28 ho w0.heap.size 46 i0 zP 18 224 Tryd.underlying28 b1 b2 b3 b4 rfl (by omega) v L.length xs hs h1 ad M.length c us hx c1 hc c2 (by unfold maxLen; omega) (by omega) hb.size ?_
  intro v' w' q1 q2 q3 q4
  refine h v' w' ⟨xs ++ us, by rw [List.length_append]; exact q1, by rw [List.map_append, List.flatten_append]; exact rdl_app h2 hu⟩ ?_
  exact ⟨q2.os.trans hb.os, q2.tape.trans hb.tape, q2.output.trans hb.output, Nat.le_trans hb.size q2.size, fun k hk => (q2.block k (Nat.lt_of_lt_of_le hk hb.size) fun e => by have := (own_block_some h1 e.symm).1; omega).trans (hb.block k hk)⟩
/-- An append of all patterns of a row that is read. -/
theorem wp_appP (hgd : o.guard = none) (s x : Operand) (ho : o.op = .call { callee := .builtin .append, args := #[s, x], argTypes := #[28, 28] }) (w0 : World) (v u : Value) (L M : List Pt) (hs : a.eval s = v) (hp : Prw w0 w v L) (hb : Below w0.heap.size w0 w)
    (hx : a.eval x = u) (hu : Rd w0 (.row 46 18 (M.map encP)) u) (hl : L.length + M.length ≤ 1000)
    (h : ∀ v' w', Prw w0 w' v' (L ++ M) → Below w0.heap.size w0 w' → wpList Tryd.prog ops Q rest (a.put o.dst v') w') : wpList Tryd.prog ops Q (o :: rest) a w := by
  generalize hd : Dat.row 46 18 (M.map encP) = d at hu
  cases hu with
  | lit v => cases hd
  | nil e z p cap h1 =>
    simp only [Dat.row.injEq] at hd
    obtain rfl : M = [] := List.eq_nil_of_length_eq_zero (by have := congrArg List.length hd.2.2; simpa using this)
    obtain ⟨i0, b1, b2, b3, b4⟩ := info_parts infoP
    obtain ⟨q, c, hv⟩ := hp.shape
    have hcap : L.length ≤ c := by
      obtain ⟨xs, h1, _⟩ := hp
      rcases h1.2 with ⟨h2, h3⟩ | ⟨g, cap, cur, h2, _, _, h4, _⟩
      · omega
      · rw [h2] at hv; simp only [Value.slice.injEq] at hv; omega
    have hsrc : Src Tryd.prog i0.size 28 (.slice p 0 cap) 0 [] w := srcNil p cap Tryd.underlying28 i0.size w
    refine Lib.wpList_append_run _ hgd s x 28 28 ho v (.slice p 0 cap) hs hx v w ?_ (h v w (by simpa using hp) hb)
    rw [hv]
    exact run_append_nothing w _ _ _ 46 i0 Tryd.underlying28 b1 q L.length c hcap _ hsrc
  | row e' z' l g off cap xs h1 h2 h3 h4 h5 h6 =>
    simp only [Dat.row.injEq] at hd
    obtain ⟨rfl, rfl, rfl⟩ := hd
    rw [List.length_map] at hx
    refine wp_appP0 hgd s x ho w0 v L M hs hp hb ⟨g, off, none⟩ cap xs hx ⟨h5, h6⟩ (fun j u hu => ?_) hl h
    rw [Addr.add_mid]
    exact range_below h4 hb j u hu
/-- A slice of one pattern. -/
theorem wp_bsP (hgd : o.guard = none) (x : Operand) (ho : o.op = .buildSlice 28 1 #[(0, x)]) (A : List Value) (hA : ∃ a b k v l r y n, A = ptC a b k v l r y n) (hx : a.eval x = .agg A.toArray)
    (h : wpList Tryd.prog ops Q rest (a.put o.dst (.slice (some ⟨w.heap.size, 0, none⟩) 1 1)) (w.alloc (.cells A.toArray 46))) : wpList Tryd.prog ops Q (o :: rest) a w := by
  obtain ⟨a', b, k, v, l, r, y, n, rfl⟩ := hA
  refine wpList_plain hgd fun K hK => ?_
  have e := bs_pt' a' b k v l r y n w
  have hx' : a.eval x = ptV a' b k v l r y n := hx
  unfold Oper.wp
  simp [execOp, ho, hx', e, Result.andThen]
  exact hK _ _ h
end
set_option maxHeartbeats 8000000 in
theorem grow_any (n : Nat) (hn : n ≤ 1000) (w : World) : Calls Tryd.prog 60 #[.slice none 0 0, .int .i64 (n : Nat)] w fun e w' => ∃ v, e = .returned v ∧ Prw w w' v [] ∧ Below w.heap.size w w' := by
  have d1 : decide ((n : Int) < 0) = false := by simp
  have d2 : ¬ (n : Int) < 0 := by omega
  have d3 : wrap64 (n : Int) = n := by unfold wrap64; omega
  by_cases h0 : n = 0
  · subst h0
    go_enter Tryd.func60, Tryd.ntmps60
    go_wp2_with fail
    go_ret
    exact ⟨_, rfl, ⟨[], World.ownsRow_nil _ _ _ _, RdL.nil _⟩, Below.refl _ _⟩
  · obtain ⟨i0, b1, b2, b3, b4⟩ := info_parts infoP
    have d4 : decide ((n : Int) > 0) = true := by simp; omega
    have d5 : (0 : Int) < (n : Int) := by omega
    have d6 : (0 < n) = True := by simp; omega
    have HAP := hid (fun ty => Lib.run_append_nil_zeros (P := Tryd.prog) w 28 3 ty 46 i0 zP .i64 .i64 Tryd.underlying28 Tryd.underlying3 b1 b2 n (by omega) (by rw [b3]; omega) (by omega) (by rw [b4]; omega))
    have HC := hid (grownCap_ge w n 0 46)
    have HOW : Hid (∀ c, c = grownCap w n 0 46 → (w.drew.alloc (.cells (Builtin.zeroCells zP.cells n ++ Builtin.zeroCells zP.cells (grownCap w n 0 46 - n)) 46)).ownsRow w.heap.size 46 18 (.slice (some ⟨w.heap.size, 0, none⟩) 0 c) 0 []) := fun c hc => by
      have hge := grownCap_ge w n 0 46
      refine ⟨rfl, .inr ⟨w.heap.size, _, _, rfl, Nat.le_refl _, heap_alloc_new w.drew _, Nat.zero_le _, ?_, ?_, rfl⟩⟩
      · rw [hc]; exact grownCap_le_maxLen w n 0 46 (by unfold maxLen; omega)
      · simp only [Array.size_append, size_zeroCells]
        rw [hc, show zP.cells.size = 18 from rfl, ← Nat.add_mul]
        congr 1
        omega
    obtain ⟨C, hC⟩ : ∃ C, grownCap w n 0 46 = C := ⟨_, rfl⟩
    rw [hC] at HAP HC HOW
    have hCC := HOW.out C rfl
    have HO2 := hid hCC
    have HB : Hid (∀ o, Below w.heap.size w (w.drew.alloc o)) := fun o => ((Below.refl w.heap.size w).trans ⟨rfl, rfl, rfl, Nat.le_refl _, fun _ _ => rfl⟩ : Below w.heap.size w w.drew).alloc (Nat.le_refl _) _
    clear hC HOW hCC hn b1 b2 b3 b4
    go_enter Tryd.func60, Tryd.ntmps60
    go_wp2_with ((with_reducible show wpList _ _ _ (Oper.mk (some 22) _ _ _ _ _ :: _) _ _); refine Lib.wpList_append_run _ (by rfl) (.tmp 20) (.tmp 21) 28 3 (by rfl) (.slice none 0 0) (.int .i64 n) (by rfl) (by { show Value.int .i64 (wrap64 (n : Int)) = _; rw [d3] }) _ _ (HAP.out _) ?_)
    go_ret
    exact ⟨_, rfl, ⟨[], HO2.out, RdL.nil _⟩, HB.out _⟩
set_option maxHeartbeats 16000000 in
theorem concat_any (ws ns : List Pt) (u1 u2 : Value) (g c : Nat) (w : World) (hg0 : w.cell? ⟨g, 0, none⟩ = some u1) (hg1 : w.cell? ⟨g, 1, none⟩ = some u2) (h1 : Rd w (.row 46 18 (ws.map encP)) u1) (h2 : Rd w (.row 46 18 (ns.map encP)) u2) (hl : ws.length + ns.length ≤ 500) :
    Calls Tryd.prog 49 #[.slice (some ⟨g, 0, none⟩) 2 c] w fun e w' => ∃ v, e = .returned v ∧ Prw w w' v (ws ++ ns) ∧ Below w.heap.size w w' := by
  obtain ⟨q1, j1, e1, _, _⟩ := rd_row lenP h1
  obtain ⟨q2, j2, e2, _, _⟩ := rd_row lenP h2
  subst e1 e2
  have HL := hid hl
  have HGR := hid (grow_any (ws.length + ns.length) (by omega) w)
  have H1 := hid h1
  have H2 := hid h2
  have G0 := hid hg0
  have G1 := hid hg1
  obtain ⟨l1, hl1⟩ : ∃ l, ws.length = l := ⟨_, rfl⟩
  obtain ⟨l2, hl2⟩ : ∃ l, ns.length = l := ⟨_, rfl⟩
  rw [hl1] at H1 HGR HL G0 hl hg0
  rw [hl2] at H2 HGR HL G1 hl hg1
  have HL1 := hid hl1
  have HL2 := hid hl2
  obtain ⟨m, hm⟩ : ∃ m, l1 + l2 = m := ⟨_, rfl⟩
  rw [hm] at HGR
  have a1 : wrap64 (l1 : Int) = l1 := by unfold wrap64; omega
  have a2 : wrap64 ((l1 : Int) + (l2 : Int)) = (m : Nat) := by unfold wrap64; omega
  have a3 : decide ((l1 : Int) < 0) = false := by simp
  have a4 : decide ((m : Int) < 0) = false := by simp
  clear hl h1 h2 hl1 hl2 hm
  go_enter Tryd.func49, Tryd.ntmps49
  go_wp2_with fail
  go_loopg [3, 11] 3 (fun gg s i wr => ∃ k : Nat, k ≤ 2 ∧ gg = 3 - k ∧ s = .int .i64 (if k = 0 then (0 : Int) else if k = 1 then (l1 : Int) else (m : Int)) ∧ i = .int .i64 (k : Nat) ∧ w = wr)
  case atStart => exact ⟨0, by omega, by omega, rfl, rfl, rfl⟩
  case round =>
    obtain ⟨k, hk, rfl, rfl, rfl, rfl⟩ := hrel
    rcases (by omega : k = 0 ∨ k = 1 ∨ k = 2) with rfl | rfl | rfl
    · go_wp2_with fail
      go_roundg (3 - 1)
      case rel => exact ⟨1, by omega, rfl, by rw [a1]; rfl, rfl, rfl⟩
      case measure => omega
    · go_wp2_with fail
      go_roundg (3 - 2)
      case rel => exact ⟨2, by omega, rfl, by rw [a2]; rfl, rfl, rfl⟩
      case measure => omega
    · go_wp2_with fail
      refine HGR.out.mono ?_
      rintro e w1 ⟨v1, rfl, hp1, hb1⟩
      have HP1 := hid hp1
      have HB1 := hid hb1
      clear hp1 hb1
      go_wp2_with fail
      go_loopg [6, 27] 3 (fun gg s i wr => ∃ (k : Nat) (v : Value), k ≤ 2 ∧ gg = 3 - k ∧ s = v ∧ i = .int .i64 (k : Nat) ∧ Prw w wr v (if k = 0 then [] else if k = 1 then ws else ws ++ ns) ∧ Below w.heap.size w wr)
      case atStart => exact ⟨0, v1, by omega, by omega, rfl, rfl, HP1.out, HB1.out⟩
      case round =>
        obtain ⟨k, v, hk, rfl, rfl, rfl, hP, hB⟩ := hrel
        rcases (by omega : k = 0 ∨ k = 1 ∨ k = 2) with rfl | rfl | rfl
        · simp only [if_true] at hP
          have c0 : wr.cell? ⟨g, 0, none⟩ = some (.slice q1 l1 j1) := (hB.cell (p := ⟨g, 0, none⟩) (World.block_lt_of_cell? _ _ G0.out)).trans G0.out
          have HP := hid hP
          have HB := hid hB
          obtain ⟨pv, cv, rfl⟩ := hP.shape
          simp only [List.length_nil] at HP ⊢
          clear hP hB
          go_wp2_with ((with_reducible show wpList _ _ _ (Oper.mk (some 33) _ _ _ _ _ :: _) _ _); refine wp_appP (by rfl) (.tmp 31) (.tmp 32) (by rfl) w (.slice pv 0 cv) (.slice q1 l1 j1) [] ws (by rfl) HP.out HB.out (by rfl) H1.out (by have := HL.out; have := HL1.out; simp; omega) ?_; intro v9 w9 hp9 hb9; have HP9 := hid hp9; have HB9 := hid hb9; clear hp9 hb9)
          go_roundg (3 - 1)
          case rel => exact ⟨1, v9, by omega, rfl, rfl, rfl, HP9.out, HB9.out⟩
          case measure => omega
        · have c0 : wr.cell? ⟨g, 1, none⟩ = some (.slice q2 l2 j2) := (hB.cell (p := ⟨g, 1, none⟩) (World.block_lt_of_cell? _ _ G1.out)).trans G1.out
          simp only [if_neg (show ¬ (1 : Nat) = 0 by decide), if_true] at hP
          have HP := hid hP
          have HB := hid hB
          obtain ⟨pv, cv, rfl⟩ := hP.shape
          rw [HL1.out] at HP ⊢
          clear hP hB
          go_wp2_with ((with_reducible show wpList _ _ _ (Oper.mk (some 33) _ _ _ _ _ :: _) _ _); refine wp_appP (by rfl) (.tmp 31) (.tmp 32) (by rfl) w (.slice pv l1 cv) (.slice q2 l2 j2) ws ns (by rfl) HP.out HB.out (by rfl) H2.out (by have := HL.out; have := HL1.out; have := HL2.out; omega) ?_; intro v9 w9 hp9 hb9; have HP9 := hid hp9; have HB9 := hid hb9; clear hp9 hb9)
          go_roundg (3 - 2)
          case rel => exact ⟨2, v9, by omega, rfl, rfl, rfl, HP9.out, HB9.out⟩
          case measure => omega
        · simp only [if_neg (show ¬ (2 : Nat) = 0 by decide), if_neg (show ¬ (2 : Nat) = 1 by decide)] at hP
          have HP := hid hP
          have HB := hid hB
          obtain ⟨pv, cv, rfl⟩ := hP.shape
          obtain ⟨n9, hn9⟩ : ∃ n9, (ws ++ ns).length = n9 := ⟨_, rfl⟩
          rw [hn9] at HP ⊢
          clear hP hB hn9
          go_wp2_with fail
          go_ret
          exact ⟨_, rfl, HP.out, HB.out⟩
set_option maxHeartbeats 16000000 in
theorem patterns_any (r : Rl) (u1 u2 u3 u4 u5 : Value) (w : World) (h1 : Rd w (.row 46 18 (r.w.map encP)) u1) (h2 : Rd w (.row 46 18 (r.t.map encP)) u2) (h3 : Rd w (.row 78 20 (r.m.map encM)) u3) (h4 : Rd w (.row 54 3 (r.k.map encK)) u4) (h5 : Rd w (.row 42 6 (r.e.v.map encO)) u5) (hz1 : r.w.length ≤ 100) (hz2 : r.t.length ≤ 100) (hz3 : r.m.length ≤ 100) :
    Calls Tryd.prog 30 #[.agg #[.string r.n, u1, u2, u3, u4, .string r.e.ty, u5]] w fun e w' => ∃ v, e = .returned v ∧ Rd w' (.row 46 18 ((r.w ++ r.t ++ r.m.map Mn.p).map encP)) v ∧ Below w.heap.size w w' ∧ ∀ i, v.ownBlock = some i → w.heap.size ≤ i := by
  obtain ⟨q1, j1, e1, _, _⟩ := rd_row lenP h1
  obtain ⟨q2, j2, e2, _, _⟩ := rd_row lenP h2
  obtain ⟨q3, j3, e3, hm3, _⟩ := rd_row lenM h3
  obtain ⟨q4, l4, j4, e4⟩ := rd_shape h4
  obtain ⟨q5, l5, j5, e5⟩ := rd_shape h5
  subst e1 e2 e3 e4 e5
  obtain ⟨rn, ws, ns, ms, ks, ⟨ety, vs⟩⟩ := r
  simp only at h1 h2 h3 hz1 hz2 hz3 hm3 ⊢
  clear h4 h5
  obtain ⟨l1, hl1⟩ : ∃ l, ws.length = l := ⟨_, rfl⟩
  obtain ⟨l2, hl2⟩ : ∃ l, ns.length = l := ⟨_, rfl⟩
  obtain ⟨l3, hl3⟩ : ∃ l, ms.length = l := ⟨_, rfl⟩
  have HZ : Hid (ws.length ≤ 100 ∧ ns.length ≤ 100 ∧ ms.length ≤ 100) := ⟨hz1, hz2, hz3⟩
  rw [hl1] at h1
  rw [hl2] at h2
  rw [hl3] at h3 hm3
  rw [hl1, hl2, hl3]
  have HN := hid hl3
  have HT : Hid (BlkT w ((w.alloc (.cells [.string rn, .slice q1 l1 j1, .slice q2 l2 j2, .slice q3 l3 j3, .slice q4 l4 j4, .string ety, .slice q5 l5 j5].toArray 35)).alloc (.cells #[.slice q1 l1 j1, .slice q2 l2 j2] 28)) [.string rn, .slice q1 l1 j1, .slice q2 l2 j2, .slice q3 l3 j3, .slice q4 l4 j4, .string ety, .slice q5 l5 j5] 35) := (BlkT.start w _ _).next ((Below.refl _ _).alloc (Nat.le_refl _) _)
  have b2 : ((w.alloc (.cells [.string rn, .slice q1 l1 j1, .slice q2 l2 j2, .slice q3 l3 j3, .slice q4 l4 j4, .string ety, .slice q5 l5 j5].toArray 35)).alloc (.cells #[.slice q1 l1 j1, .slice q2 l2 j2] 28)).heap[w.heap.size + 1]? = some (.cells #[.slice q1 l1 j1, .slice q2 l2 j2] 28) := heap_2 _ _ _
  have HCO := hid (concat_any ws ns _ _ (w.heap.size + 1) 2 ((w.alloc (.cells [.string rn, .slice q1 l1 j1, .slice q2 l2 j2, .slice q3 l3 j3, .slice q4 l4 j4, .string ety, .slice q5 l5 j5].toArray 35)).alloc (.cells #[.slice q1 l1 j1, .slice q2 l2 j2] 28)) (cell_of_blk b2 0) (cell_of_blk b2 1) (h1.later HT.out.bel) (h2.later HT.out.bel) (by omega))
  have HM := hid (h3.later HT.out.bel)
  clear h1 h2 h3 hz1 hz2 hz3 hl1 hl2 hl3 b2
  go_enter Tryd.func30, Tryd.ntmps30
  go_wp2_with fail
  refine HCO.out.mono ?_
  obtain ⟨w0, hw0⟩ : ∃ w0, ((w.alloc (.cells [.string rn, .slice q1 l1 j1, .slice q2 l2 j2, .slice q3 l3 j3, .slice q4 l4 j4, .string ety, .slice q5 l5 j5].toArray 35)).alloc (.cells #[.slice q1 l1 j1, .slice q2 l2 j2] 28)) = w0 := ⟨_, rfl⟩
  have hsz0 : w0.heap.size = w.heap.size + 2 := by rw [← hw0]; simp
  rw [hw0] at HT HM ⊢
  clear HCO
  rintro e w1 ⟨v1, rfl, hp1, hb1⟩
  have HP1 := hid hp1
  have HB1 := hid hb1
  have c3 : w1.cell? ⟨w.heap.size, 3, none⟩ = some (.slice q3 l3 j3) := (HT.out.next hb1).c 3
  have HSZ := hid hsz0
  clear hp1 hb1 hw0 hsz0
  go_wp2_with fail
  go_loopg [3, 15] (l3 + 1) (fun gg s i wr => ∃ (k : Nat) (v : Value), k ≤ l3 ∧ gg = l3 + 1 - k ∧ s = v ∧ i = .int .i64 (k : Nat) ∧ Prw w0 wr v (ws ++ ns ++ (ms.take k).map Mn.p) ∧ Below w0.heap.size w0 wr)
  case atStart => exact ⟨0, v1, by omega, by omega, rfl, rfl, by simpa using HP1.out, HB1.out⟩
  case round =>
    obtain ⟨k, v, hk, rfl, rfl, rfl, hP, hB⟩ := hrel
    have HP := hid hP
    have HB := hid hB
    obtain ⟨pv, cv, rfl⟩ := hP.shape
    obtain ⟨nv, hnv⟩ : ∃ nv, (ws ++ ns ++ (ms.take k).map Mn.p).length = nv := ⟨_, rfl⟩
    have HNV := hid hnv
    rw [hnv] at HP ⊢
    clear hP hnv
    by_cases hlt : k < l3
    · have hkc : k < ms.length := by have := HN.out; omega
      obtain ⟨p', cap', e0, _, hat⟩ := rd_row lenM HM.out
      simp only [Value.slice.injEq] at e0
      obtain ⟨e01, hx0, e02⟩ := e0
      obtain ⟨g, off, e03, hrd⟩ := hat (by omega)
      obtain ⟨A, r1, o1⟩ := hrd w0 (Below.refl _ _) k hkc
      obtain ⟨B, z0, o0⟩ := rdM o1
      obtain ⟨vc, z1, o2⟩ := rdP o0
      obtain ⟨up, un, uc, hu⟩ := rd_shape o2
      obtain rfl : q3 = some ⟨g, off, none⟩ := e01.trans e03
      have hAz : A.length = 20 := o1.1.symm
      have HAO : Hid (A.all (·.oneCell') = true) := by show _ = _; rw [z0, z1, hu]; rfl
      have HBF : Hid (∃ a b k v l r y n, B = ptC a b k v l r y n) := ⟨_, _, _, _, _, _, _, _, z1⟩
      have ZA : Hid ((Tryd.prog.info? 78).map (·.size) = some A.length) := by show _ = _; rw [hAz]; kernel_rfl
      have ZB : Hid ((Tryd.prog.info? 46).map (·.size) = some B.length) := by show _ = _; rw [z1]; kernel_rfl
      have HRB : Hid (RdL w0 ([ms[k].p].map encP).flatten B) := by show RdL _ _ _; simpa using o0
      have HAL := hid hAz
      have HZ0 := hid z0
      have X1_ := hid (range_below r1 hB)
      have htk : ws ++ ns ++ (ms.take k).map Mn.p ++ [ms[k].p] = ws ++ ns ++ (ms.take (k + 1)).map Mn.p := by rw [List.take_succ_eq_append_getElem hkc, List.map_append, ← List.append_assoc]; rfl
      have HTK := hid htk
      have i1 : (0 : Int) ≤ (k : Int) := by omega
      have i2 : (k : Int) < (l3 : Int) := by omega
      clear hB hat hrd r1 o1 hAz hx0 z0 z1 hu o2 o0 e01 e02 e03 htk
      go_wp2_with (first
        | ((with_reducible show wpList _ _ _ (Oper.mk _ (.load _ _) _ _ _ _ :: _) _ _); refine wpList_load_mid (by rfl) 78 _ (by rfl) g (off + k * 20) (by rfl) A _ X1_.out Tryd.underlying78 rfl ZA.out ?_)
        | ((with_reducible show wpList _ _ _ (Oper.mk _ (.store _ _ _) _ _ _ _ :: _) _ _); refine wp_st (by rfl) 78 _ _ (by rfl) wr.heap.size 0 _ 78 (.agg A.toArray) A (by rfl) (by rfl) (by rfl) (heap_alloc_new _ _) (by have := HAL.out; simp; omega) ZA.out HAO.out ?_; intro w2 hblk hfr; rw [ovr_all (by rw [HAL.out]; rfl)] at hblk; have XB : Hid (w2.rangeAt wr.heap.size 2 B) := range_tail hblk HZ0.out; have HBW : Hid (Below wr.heap.size wr w2) := new_store hfr; clear hblk hfr)
        | ((with_reducible show wpList _ _ _ (Oper.mk _ (.load _ _) _ _ _ _ :: _) _ _); refine wpList_load_mid (by rfl) 46 _ (by rfl) wr.heap.size 2 (by rfl) B _ XB.out Tryd.underlying46 rfl ZB.out ?_)
        | ((with_reducible show wpList _ _ _ (Oper.mk _ (.buildSlice _ _ _) _ _ _ _ :: _) _ _); refine wp_bsP (by rfl) _ (by rfl) B HBF.out (by rfl) ?_; have HB2 : Hid (Below wr.heap.size wr (w2.alloc (.cells B.toArray 46))) := HBW.out.alloc HBW.out.size _; have HCB : Hid (∀ j u, B[j]? = some u → (w2.alloc (.cells B.toArray 46)).cell? ((⟨w2.heap.size, 0, none⟩ : Addr).add j) = some u) := World.news_of_block (heap_alloc_new _ _))
        | ((with_reducible show wpList _ _ _ (Oper.mk (some 23) _ _ _ _ _ :: _) _ _); refine wp_appP0 (by rfl) (.tmp 19) (.tmp 22) (by rfl) w0 (.slice pv nv cv) (ws ++ ns ++ (ms.take k).map Mn.p) [ms[k].p] (by rfl) (HP.out.later HB2.out) (below_trans HB.out HB2.out HB.out.size) ⟨w2.heap.size, 0, none⟩ 1 B (by rfl) HRB.out HCB.out (by have := HZ.out; simp; omega) ?_; intro v9 w9 hp9 hb9; have HP9 := hid hp9; have HB9 := hid hb9; clear hp9 hb9))
      go_roundg (l3 + 1 - (k + 1))
      case rel => exact ⟨k + 1, v9, by omega, rfl, rfl, by go_num, by rw [← HTK.out]; exact HP9.out, HB9.out⟩
      case measure => omega
    · obtain rfl : k = l3 := by omega
      have hw : ms.take k = ms := List.take_of_length_le (by have := HN.out; omega)
      have HRD := hid (HP.out.rd hB)
      have HOW : Hid (∀ i, (Value.slice pv nv cv).ownBlock = some i → w.heap.size ≤ i) := fun i hi => by
        obtain ⟨xs, h1, _⟩ := HP.out
        have h2 := (own_block_some h1 hi).1
        have h3 := HSZ.out
        omega
      rw [hw] at HRD
      have HBB := hid (below_trans HT.out.bel hB HT.out.bel.size)
      clear hw hB
      go_wp2_with fail
      go_ret
      exact ⟨_, rfl, HRD.out, HBB.out, HOW.out⟩
/-! Ways of rules: as many steps as there are rules are enough. -/
def gdr (rs : List Rl) (ot : ByteArray) : Nat → Rl → Bool
  | 0, _ => false
  | n + 1, x => !(emp x.e.ty) && (seq x.e.ty ot || cmo rs ot n x.e.ty)
theorem cmo_gdr (rs : List Rl) (ot : ByteArray) (n : Nat) (nm : ByteArray) : cmo rs ot n nm = rs.any fun x => spk x.w x.t x.m nm && gdr rs ot n x := by
  cases n with
  | zero => rw [cmo]; symm; rw [List.any_eq_false]; intro x _; simp [gdr]
  | succ n =>
    rw [cmo]
    congr 1
    funext x
    rw [gdr]
    cases emp x.e.ty <;> cases spk x.w x.t x.m nm <;> simp
theorem gdr_step {rs : List Rl} {ot : ByteArray} {a b : Nat} (h : ∀ x, x ∈ rs → gdr rs ot a x = gdr rs ot b x) (x : Rl) : gdr rs ot (a + 1) x = gdr rs ot (b + 1) x := by
  rw [gdr, gdr, cmo_gdr, cmo_gdr]
  have e : (rs.any fun y => spk y.w y.t y.m x.e.ty && gdr rs ot a y) = (rs.any fun y => spk y.w y.t y.m x.e.ty && gdr rs ot b y) := by
    rw [Bool.eq_iff_iff, List.any_eq_true, List.any_eq_true]
    constructor
    · rintro ⟨y, hy, h1⟩; exact ⟨y, hy, by rw [← h y hy]; exact h1⟩
    · rintro ⟨y, hy, h1⟩; exact ⟨y, hy, by rw [h y hy]; exact h1⟩
  rw [e]
theorem gdr_mono (rs : List Rl) (ot : ByteArray) : ∀ (n : Nat) (x : Rl), gdr rs ot n x = true → gdr rs ot (n + 1) x = true
  | 0, x, h => by simp [gdr] at h
  | n + 1, x, h => by
    rw [gdr] at h ⊢
    rw [Bool.and_eq_true, Bool.or_eq_true] at h ⊢
    refine ⟨h.1, h.2.imp id fun c => ?_⟩
    rw [cmo_gdr, List.any_eq_true] at c ⊢
    obtain ⟨y, hy, h1⟩ := c
    rw [Bool.and_eq_true] at h1
    exact ⟨y, hy, by rw [Bool.and_eq_true]; exact ⟨h1.1, gdr_mono rs ot n y h1.2⟩⟩
theorem gdr_le {rs : List Rl} {ot : ByteArray} {a b : Nat} (h : a ≤ b) (x : Rl) (hx : gdr rs ot a x = true) : gdr rs ot b x = true := by
  induction b with
  | zero => rw [show a = 0 by omega] at hx; exact hx
  | succ b ih =>
    by_cases c : a ≤ b
    · exact gdr_mono rs ot b x (ih c)
    · obtain rfl : a = b + 1 := by omega
      exact hx
theorem gdr_fix {rs : List Rl} {ot : ByteArray} {a : Nat} (h : ∀ x, x ∈ rs → gdr rs ot a x = gdr rs ot (a + 1) x) : ∀ (d : Nat) (x : Rl), x ∈ rs → gdr rs ot a x = gdr rs ot (a + d) x
  | 0, x, hx => rfl
  | d + 1, x, hx => by
    have ih := gdr_fix h d
    rw [h x hx]
    exact gdr_step ih x
theorem countP_lt {α : Type} {p q : α → Bool} : ∀ (l : List α), (∀ x, p x = true → q x = true) → (∃ x, x ∈ l ∧ q x = true ∧ p x = false) → l.countP p < l.countP q
  | [], _, ⟨x, hx, _⟩ => by cases hx
  | y :: r, h, ⟨x, hx, h1, h2⟩ => by
    have hle : r.countP p ≤ r.countP q := List.countP_mono_left fun z _ hz => h z hz
    rw [List.countP_cons, List.countP_cons]
    rcases List.mem_cons.1 hx with rfl | hx
    · rw [if_pos h1, if_neg (by rw [h2]; decide)]; omega
    · have := countP_lt r h ⟨x, hx, h1, h2⟩
      by_cases c : p y = true
      · rw [if_pos c, if_pos (h y c)]; omega
      · rw [if_neg c]; split <;> omega
theorem gdr_stable (rs : List Rl) (ot : ByteArray) : ∃ n, n ≤ rs.length ∧ ∀ x, x ∈ rs → gdr rs ot n x = gdr rs ot (n + 1) x := by
  refine Classical.byContradiction fun hno => ?_
  have hs : ∀ n, n ≤ rs.length → ∃ x, x ∈ rs ∧ gdr rs ot (n + 1) x = true ∧ gdr rs ot n x = false := fun n hn => by
    refine Classical.byContradiction fun hc => hno ⟨n, hn, fun x hx => ?_⟩
    cases h1 : gdr rs ot n x with
    | true => exact (gdr_mono rs ot n x h1).symm
    | false =>
      cases h2 : gdr rs ot (n + 1) x with
      | false => rfl
      | true => exact absurd ⟨x, hx, h2, h1⟩ hc
  have hcnt : ∀ n, n ≤ rs.length + 1 → n ≤ rs.countP (gdr rs ot n) := fun n => by
    induction n with
    | zero => intro _; omega
    | succ n ih =>
      intro hn
      have h1 := ih (by omega)
      have h2 := countP_lt rs (gdr_mono rs ot n) (hs n (by omega))
      omega
  have h1 := hcnt (rs.length + 1) (Nat.le_refl _)
  have h2 : rs.countP (gdr rs ot (rs.length + 1)) ≤ rs.length := List.countP_le_length
  omega
theorem cmo_enough (rs : List Rl) (ot nm : ByteArray) (n : Nat) (h : cmo rs ot n nm = true) : cmo rs ot rs.length nm = true := by
  obtain ⟨a, ha, hst⟩ := gdr_stable rs ot
  rw [cmo_gdr, List.any_eq_true] at h ⊢
  obtain ⟨x, hx, h1⟩ := h
  rw [Bool.and_eq_true] at h1
  refine ⟨x, hx, ?_⟩
  rw [Bool.and_eq_true]
  refine ⟨h1.1, ?_⟩
  have e1 := gdr_fix hst (rs.length - a) x hx
  have e2 := gdr_fix hst n x hx
  rw [show a + (rs.length - a) = rs.length by omega] at e1
  rw [← e1, e2]
  exact gdr_le (by omega) x h1.2
/-! Ways by types. -/
inductive Wlk (E : Nat → Nat → Prop) : Nat → Nat → Prop
  | one {i j : Nat} (h : E i j) : Wlk E i j
  | cons {i k j : Nat} (h : E i k) (t : Wlk E k j) : Wlk E i j
theorem Wlk.trans {E : Nat → Nat → Prop} {i k j : Nat} (h : Wlk E i k) (t : Wlk E k j) : Wlk E i j := by
  induction h with
  | one h => exact .cons h t
  | cons h _ ih => exact .cons h (ih t)
/-- Of a type some rule makes an event of another one. -/
def Edg (ts : List Tp) (rs : List Rl) (i j : Nat) : Prop :=
  ∃ x, x ∈ rs ∧ emp x.e.ty = false ∧ (∃ p, p ∈ x.w ++ x.t ++ x.m.map Mn.p ∧ tyq ts p.ty = (i : Int)) ∧ tyq ts x.e.ty = (j : Int)
/-- Rules whose types there are. -/
def Rok (ts : List Tp) (x : Rl) : Prop := (∀ p, p ∈ x.w ++ x.t ++ x.m.map Mn.p → ∃ i, ∃ _ : i < ts.length, tyq ts p.ty = (i : Int)) ∧ (emp x.e.ty = false → ∃ i, ∃ _ : i < ts.length, tyq ts x.e.ty = (i : Int))
theorem seq_refl (a : ByteArray) : seq a a = true := by unfold seq; simp
theorem seq_eq {a b : ByteArray} (h : seq a b = true) : a.toList = b.toList := by simpa [seq] using h
theorem seq_symm {a b : ByteArray} (h : seq a b = true) : seq b a = true := by have := seq_eq h; simp [seq, this]
theorem seq_trans {a b c : ByteArray} (h : seq a b = true) (k : seq b c = true) : seq a c = true := by have := seq_eq h; have := seq_eq k; simp [seq, *]
theorem spk_iff (x : Rl) (n : ByteArray) : spk x.w x.t x.m n = true ↔ ∃ p, p ∈ x.w ++ x.t ++ x.m.map Mn.p ∧ seq p.ty n = true := by
  unfold spk
  rw [Bool.or_eq_true, Bool.or_eq_true, List.any_eq_true, List.any_eq_true, List.any_eq_true]
  constructor
  · rintro ((⟨p, hp, h⟩ | ⟨p, hp, h⟩) | ⟨m, hm, h⟩)
    · exact ⟨p, by simp [hp], h⟩
    · exact ⟨p, by simp [hp], h⟩
    · exact ⟨m.p, by simp; exact .inr (.inr ⟨m, hm, rfl⟩), h⟩
  · rintro ⟨p, hp, h⟩
    rw [List.mem_append, List.mem_append] at hp
    rcases hp with (hp | hp) | hp
    · exact .inl (.inl ⟨p, hp, h⟩)
    · exact .inl (.inr ⟨p, hp, h⟩)
    · obtain ⟨m, hm, rfl⟩ := List.mem_map.1 hp
      exact .inr ⟨m, hm, h⟩
/-- A type that is found has the name. -/
theorem tyq_name {ts : List Tp} {n : ByteArray} {i : Nat} (hi : i < ts.length) (h : tyq ts n = (i : Int)) : seq ts[i].n n = true := by
  rcases ixq_lt (q := fun t : Tp => seq t.n n) ts 0 with c | ⟨j, hj, c, hq⟩
  · have c0 : tyq ts n = -1 := c
    omega
  · have c0 : tyq ts n = (j : Int) := by show ixq _ _ _ = _; rw [c]; simp
    obtain rfl : i = j := by omega
    exact hq
theorem ixq_congr {α : Type} {q r : α → Bool} (h : ∀ x, q x = r x) : ∀ (l : List α) (n : Nat), ixq q l n = ixq r l n
  | [], _ => rfl
  | x :: l, n => by rw [ixq, ixq, h x, ixq_congr h l (n + 1)]
theorem seq_congr {a b : ByteArray} (h : seq a b = true) (c : ByteArray) : seq c a = seq c b := by
  have := seq_eq h
  simp [seq, this]
theorem tyq_congr {ts : List Tp} {a b : ByteArray} (h : seq a b = true) : tyq ts a = tyq ts b := ixq_congr (q := fun t : Tp => seq t.n a) (r := fun t : Tp => seq t.n b) (fun t => seq_congr h t.n) ts 0
/-- Names that are all others. -/
def Dst (ts : List Tp) : Prop := ∀ i (hi : i < ts.length), tyq ts ts[i].n = (i : Int)
theorem tks_dst : ∀ (rest done : List Tp), tks done rest = 0 → ∀ i (hi : i < rest.length), tyq (done ++ rest.take i) rest[i].n < 0
  | [], done, _, i, hi => by simp at hi
  | t :: r, done, h, i, hi => by
    rw [tks] at h
    split at h
    · rename_i c; exact absurd h c
    · split at h
      · omega
      · split at h
        · omega
        · split at h
          · omega
          · rename_i c
            cases i with
            | zero => simpa using c
            | succ i =>
              have := tks_dst r (done ++ [t]) h i (by simpa using hi)
              simpa using this
theorem ixq_skip {α : Type} {q : α → Bool} : ∀ (l r : List α) (n : Nat), ixq q l n < 0 → ixq q (l ++ r) n = ixq q r (n + l.length)
  | [], r, n, _ => by simp
  | y :: l, r, n, h => by
    rw [ixq] at h
    by_cases c : q y = true
    · rw [if_pos c] at h; omega
    · rw [if_neg c] at h
      rw [List.cons_append, ixq, if_neg c, ixq_skip l r (n + 1) h]
      congr 1
      simp; omega
theorem dst_of {ts : List Tp} (h : tks [] ts = 0) : Dst ts := fun i hi => by
  have h1 := tks_dst ts [] h i hi
  rw [List.nil_append] at h1
  have e : ts = ts.take i ++ ts.drop i := (List.take_append_drop i ts).symm
  have e2 : ts.drop i = ts[i] :: ts.drop (i + 1) := List.drop_eq_getElem_cons hi
  have h2 : tyq ts ts[i].n = ixq (fun t : Tp => seq t.n ts[i].n) (ts.take i ++ ts.drop i) 0 := by rw [List.take_append_drop]; rfl
  rw [h2, ixq_skip _ _ _ h1, e2, ixq, if_pos (seq_refl _)]
  simp
  omega
theorem wlk_cmo {ts : List Tp} {rs : List Rl} {i j : Nat} (h : Wlk (Edg ts rs) i j) (hj : j < ts.length) (hr : ∀ x, x ∈ rs → Rok ts x) : ∀ (_ : i < ts.length), ∃ n, cmo rs ts[j].n n ts[i].n = true := by
  induction h with
  | @one i j h =>
    intro hi
    obtain ⟨x, hx, he, ⟨p, hp, h1⟩, h2⟩ := h
    refine ⟨1, ?_⟩
    rw [cmo, List.any_eq_true]
    refine ⟨x, hx, ?_⟩
    have a1 : spk x.w x.t x.m ts[i].n = true := (spk_iff x _).2 ⟨p, hp, seq_symm (tyq_name hi h1)⟩
    have a2 : seq x.e.ty ts[j].n = true := seq_symm (tyq_name hj h2)
    simp [he, a1, a2]
  | @cons i k j h _ ih =>
    intro hi
    obtain ⟨x, hx, he, ⟨p, hp, h1⟩, h2⟩ := h
    obtain ⟨k', hk', h3⟩ := (hr x hx).2 he
    obtain rfl : k = k' := by omega
    obtain ⟨n, hn⟩ := ih hj hk'
    refine ⟨n + 1, ?_⟩
    rw [cmo, List.any_eq_true]
    refine ⟨x, hx, ?_⟩
    have a1 : spk x.w x.t x.m ts[i].n = true := (spk_iff x _).2 ⟨p, hp, seq_symm (tyq_name hi h1)⟩
    have a2 : cmo rs ts[j].n n x.e.ty = true := by
      rw [cmo_gdr, List.any_eq_true] at hn ⊢
      obtain ⟨y, hy, h4⟩ := hn
      rw [Bool.and_eq_true] at h4
      refine ⟨y, hy, ?_⟩
      rw [Bool.and_eq_true]
      refine ⟨?_, h4.2⟩
      obtain ⟨p2, hp2, h5⟩ := (spk_iff y _).1 h4.1
      exact (spk_iff y _).2 ⟨p2, hp2, seq_trans h5 (tyq_name hk' h2)⟩
    simp [he, a1, a2]
theorem cmo_wlk {ts : List Tp} {rs : List Rl} (hd : Dst ts) (hr : ∀ x, x ∈ rs → Rok ts x) {j : Nat} (hj : j < ts.length) : ∀ (n i : Nat) (hi : i < ts.length), cmo rs ts[j].n n ts[i].n = true → Wlk (Edg ts rs) i j
  | 0, i, hi, h => by rw [cmo] at h; cases h
  | n + 1, i, hi, h => by
    rw [cmo, List.any_eq_true] at h
    obtain ⟨x, hx, h⟩ := h
    rw [Bool.and_eq_true, Bool.and_eq_true, Bool.or_eq_true] at h
    obtain ⟨h0, h1, h2⟩ := h
    have he : emp x.e.ty = false := by simpa using h0
    obtain ⟨k, hk, h3⟩ := (hr x hx).2 he
    obtain ⟨p, hp, h4⟩ := (spk_iff x _).1 h1
    have hed : Edg ts rs i k := ⟨x, hx, he, ⟨p, hp, by rw [tyq_congr h4]; exact hd i hi⟩, h3⟩
    rcases h2 with h2 | h2
    · have : tyq ts x.e.ty = (j : Int) := by rw [tyq_congr h2]; exact hd j hj
      obtain rfl : k = j := by omega
      exact .one hed
    · refine .cons hed (cmo_wlk hd hr hj n k hk ?_)
      rw [cmo_gdr, List.any_eq_true] at h2 ⊢
      obtain ⟨y, hy, h5⟩ := h2
      rw [Bool.and_eq_true] at h5
      refine ⟨y, hy, ?_⟩
      rw [Bool.and_eq_true]
      refine ⟨?_, h5.2⟩
      obtain ⟨p2, hp2, h6⟩ := (spk_iff y _).1 h5.1
      exact (spk_iff y _).2 ⟨p2, hp2, seq_trans h6 (seq_symm (tyq_name hk h3))⟩
/-! The matrix. -/
/-- Ways that go by one type more. -/
def byy (M : Nat → Nat → Bool) (b : Nat) : Nat → Nat → Bool := fun i j => M i j || (M i b && M b j)
def wsh (M : Nat → Nat → Bool) : Nat → Nat → Nat → Bool
  | 0 => M
  | b + 1 => byy (wsh M b) b
theorem wsh_wlk {E : Nat → Nat → Prop} {M : Nat → Nat → Bool} (h : ∀ i j, M i j = true → Wlk E i j) : ∀ (b i j : Nat), wsh M b i j = true → Wlk E i j
  | 0, i, j, c => h i j c
  | b + 1, i, j, c => by
    rw [wsh, byy, Bool.or_eq_true, Bool.and_eq_true] at c
    rcases c with c | ⟨c, d⟩
    · exact wsh_wlk h b i j c
    · exact (wsh_wlk h b i b c).trans (wsh_wlk h b b j d)
theorem wsh_grow (M : Nat → Nat → Bool) (b i j : Nat) (h : wsh M b i j = true) : wsh M (b + 1) i j = true := by rw [wsh, byy, h]; rfl
theorem wsh_base (M : Nat → Nat → Bool) (i j : Nat) (h : M i j = true) : ∀ b, wsh M b i j = true
  | 0 => h
  | b + 1 => wsh_grow M b i j (wsh_base M i j h b)
theorem wsh_by (M : Nat → Nat → Bool) : ∀ (b k i j : Nat), k < b → wsh M b i k = true → wsh M b k j = true → wsh M b i j = true
  | 0, k, i, j, hk, _, _ => by omega
  | b + 1, k, i, j, hk, h1, h2 => by
    rw [wsh, byy, Bool.or_eq_true, Bool.and_eq_true] at h1 h2 ⊢
    by_cases c : k = b
    · subst c
      have a : wsh M k i k = true := h1.elim id (·.1)
      have d : wsh M k k j = true := h2.elim id (·.2)
      exact .inr ⟨a, d⟩
    · have hk' : k < b := by omega
      rcases h1 with h1 | ⟨h1, h3⟩
      · rcases h2 with h2 | ⟨h2, h4⟩
        · exact .inl (wsh_by M b k i j hk' h1 h2)
        · exact .inr ⟨wsh_by M b k i b hk' h1 h2, h4⟩
      · rcases h2 with h2 | ⟨h2, h4⟩
        · exact .inr ⟨h1, wsh_by M b k b j hk' h3 h2⟩
        · exact .inr ⟨h1, h4⟩
theorem wlk_wsh {E : Nat → Nat → Prop} {M : Nat → Nat → Bool} {b : Nat} (h : ∀ i j, E i j → M i j = true) (hb : ∀ i j, E i j → j < b) {i j : Nat} (hw : Wlk E i j) : wsh M b i j = true := by
  induction hw with
  | one h1 => exact wsh_base M _ _ (h _ _ h1) b
  | cons h1 _ ih => exact wsh_by M b _ _ _ (hb _ _ h1) (wsh_base M _ _ (h _ _ h1) b) ih
/-- Does an event come of one of its own type, by the matrix? -/
def edl (M : Nat → Nat → Bool) : Bool := (List.range 6).any fun t => wsh M 6 t t
theorem edl_eq {ts : List Tp} {rs : List Rl} {M : Nat → Nat → Bool} (hd : Dst ts) (hr : ∀ x, x ∈ rs → Rok ts x) (hl : ts.length ≤ 6) (hM : ∀ i j, M i j = true ↔ Edg ts rs i j) : edl M = ts.any fun t => cmo rs t.n rs.length t.n := by
  have hlt : ∀ i j, Edg ts rs i j → i < ts.length ∧ j < ts.length := fun i j h => by
    obtain ⟨x, hx, he, ⟨p, hp, h1⟩, h2⟩ := h
    obtain ⟨a, ha, e1⟩ := (hr x hx).1 p hp
    obtain ⟨b, hb, e2⟩ := (hr x hx).2 he
    omega
  have hwl : ∀ i j, Wlk (Edg ts rs) i j → i < ts.length := fun i j h => by cases h with
    | one h => exact (hlt _ _ h).1
    | cons h _ => exact (hlt _ _ h).1
  rw [Bool.eq_iff_iff]
  unfold edl
  rw [List.any_eq_true, List.any_eq_true]
  constructor
  · rintro ⟨t, _, h⟩
    have hw := wsh_wlk (E := Edg ts rs) (fun i j c => .one ((hM i j).1 c)) 6 t t h
    have ht := hwl t t hw
    obtain ⟨n, hn⟩ := wlk_cmo hw ht hr ht
    exact ⟨ts[t], List.getElem_mem ht, cmo_enough rs _ _ n hn⟩
  · rintro ⟨t, ht, h⟩
    obtain ⟨i, hi, rfl⟩ := List.getElem_of_mem ht
    refine ⟨i, List.mem_range.2 (by omega), ?_⟩
    exact wlk_wsh (E := Edg ts rs) (fun i j c => (hM i j).2 c) (fun i j c => by have := hlt i j c; omega) (cmo_wlk hd hr hi rs.length i hi h)
/-! Rules that may be. -/
theorem wfs_known {ts : List Tp} : ∀ (l done : List Pt), wfs 0 ts done l = 0 → ∀ p, p ∈ l → ∃ i, ∃ _ : i < ts.length, tyq ts p.ty = (i : Int)
  | [], done, _, p, hp => by cases hp
  | y :: r, done, h, p, hp => by
    rw [wfs] at h
    split at h
    · rename_i c; exact absurd h c
    · rename_i c
      rcases List.mem_cons.1 hp with rfl | hp
      · exact pck_known (Classical.byContradiction c)
      · exact wfs_known r _ h p hp
theorem nfs_known {ts : List Tp} {ws : List Pt} : ∀ (l : List Pt) (ah : List ByteArray), nfs 0 ts ws ah l = 0 → ∀ p, p ∈ l → ∃ i, ∃ _ : i < ts.length, tyq ts p.ty = (i : Int)
  | [], ah, _, p, hp => by cases hp
  | y :: r, ah, h, p, hp => by
    rw [nfs] at h
    split at h
    · rename_i c; exact absurd h c
    · rename_i c
      rcases List.mem_cons.1 hp with rfl | hp
      · exact pck_known (Classical.byContradiction c)
      · exact nfs_known r _ h p hp
theorem mfs_known {ts : List Tp} {ws : List Pt} : ∀ (l : List Mn) (ah : List ByteArray), mfs 0 ts ws ah l = 0 → ∀ m, m ∈ l → ∃ i, ∃ _ : i < ts.length, tyq ts m.p.ty = (i : Int)
  | [], ah, _, p, hp => by cases hp
  | y :: r, ah, h, p, hp => by
    rw [mfs] at h
    split at h
    · rename_i c; exact absurd h c
    · rename_i c
      rcases List.mem_cons.1 hp with rfl | hp
      · have h0 : mck ts ws ah p = 0 := Classical.byContradiction c
        unfold mck at h0
        split at h0
        · omega
        · split at h0
          · rename_i d; exact absurd h0 d
          · rename_i d; exact pck_known (Classical.byContradiction d)
      · exact mfs_known r _ h p hp
/-- What is at hand while rules are checked. -/
structure Rsc (w : World) (ts : List Tp) (tv : Value) (tb cb mb : Nat) (L : List ByteArray) (n : Nat) : Prop where
  cc : w.cell? ⟨cb, 0, none⟩ = some (.map (some mb))
  nm : Nm w mb L n
  tk : Tab w 0 kpl
  tr : Tab w 1 rll
  tc : w.cell? ⟨tb, 0, none⟩ = some tv
  rt : Rd w (.row 71 2 (ts.map encY)) tv
theorem Rsc.later {w w' : World} {ts : List Tp} {tv : Value} {tb cb mb n : Nat} {L : List ByteArray} (h : Rsc w ts tv tb cb mb L n) (hb : Below w.heap.size w w') : Rsc w' ts tv tb cb mb L n :=
  ⟨(hb.cell (p := ⟨cb, 0, none⟩) (World.block_lt_of_cell? _ _ h.cc)).trans h.cc, h.nm.later hb, tab_later h.tk hb, tab_later h.tr hb, (hb.cell (p := ⟨tb, 0, none⟩) (World.block_lt_of_cell? _ _ h.tc)).trans h.tc, h.rt.later hb⟩
theorem Rsc.fr {w w' : World} {ts : List Tp} {tv : Value} {tb cb mb n n' : Nat} {L L' : List ByteArray} (h : Rsc w ts tv tb cb mb L n) (hf : Fr (fun i => i = mb) w w') (hk : Nm w' mb L' n') : Rsc w' ts tv tb cb mb L' n' :=
  ⟨cell_fr h.nm.isMap hf h.cc, hk, tab_fr h.nm.isMap hf h.tk (by decide), tab_fr h.nm.isMap hf h.tr (by decide), cell_fr h.nm.isMap hf h.tc, h.rt.fr h.nm.isMap hf⟩
/-- What is wrong with a rule behind others. -/
def rk1 (ts : List Tp) (done : List Rl) (x : Rl) : Int := if rck ts x ≠ 0 then rck ts x else tkn (done.map Rl.n) x.n
theorem rks_step (ts : List Tp) (done : List Rl) (x : Rl) (r : List Rl) : rks (rck ts) done (x :: r) = if rk1 ts done x ≠ 0 then rk1 ts done x else rks (rck ts) (done ++ [x]) r := by
  rw [rks]
  have e : (done.map Rl.n).any (fun r => seq r x.n) = done.any (fun d => seq d.n x.n) := by rw [List.any_map]; rfl
  unfold rk1 tkn
  rw [e]
  by_cases h1 : rck ts x = 0
  · by_cases h4 : done.any (fun d => seq d.n x.n) = true
    · have e : (if rck ts x ≠ 0 then rck ts x else if done.any (fun d => seq d.n x.n) = true then 7 else 0) = 7 := by rw [if_neg (fun c => c h1), if_pos h4]
      rw [e, if_neg (fun c => c h1), if_pos h4]
      rfl
    · have e : (if rck ts x ≠ 0 then rck ts x else if done.any (fun d => seq d.n x.n) = true then 7 else 0) = 0 := by rw [if_neg (fun c => c h1), if_neg h4]
      rw [e, if_neg (fun c => c h1), if_neg h4]
      rfl
  · simp [h1]
theorem rck_size {ts : List Tp} {x : Rl} (h : rck ts x = 0) : x.n.size ≤ maxLen := by
  unfold rck at h
  split at h
  · rename_i c; exact absurd h c
  · rename_i c; exact frn_size (Classical.byContradiction c)
set_option maxHeartbeats 16000000 in
theorem checkRule1_any (ts : List Tp) (hty : ∀ i (hi : i < ts.length), tyk ts[i].n ts[i].f = 0) (done : List Rl) (r : Rl) (hzr : Szr r) (tv u1 u2 u3 u4 u5 : Value) (tb cb mb n : Nat) (w : World) (hs : Rsc w ts tv tb cb mb (done.map Rl.n) n) (h1 : Rd w (.row 46 18 (r.w.map encP)) u1) (h2 : Rd w (.row 46 18 (r.t.map encP)) u2) (h3 : Rd w (.row 78 20 (r.m.map encM)) u3) (h4 : Rd w (.row 54 3 (r.k.map encK)) u4) (h5 : Rd w (.row 42 6 (r.e.v.map encO)) u5) (hn : n ≤ 100) :
    Calls Tryd.prog 27 #[.agg #[.string r.n, u1, u2, u3, u4, .string r.e.ty, u5], .pointer (some ⟨tb, 0, none⟩), .pointer (some ⟨cb, 0, none⟩)] w fun e w' => e = .returned (.int .i64 (rk1 ts done r)) ∧ Fr (fun i => i = mb) w w' ∧ (rk1 ts done r = 0 → Nm w' mb ((done ++ [r]).map Rl.n) (n + 1)) := by
  have HCR := hid (fun W (hW : Below w.heap.size w W) => checkRule_any ts hty r hzr tv u1 u2 u3 u4 u5 W (hs.rt.later hW) (tab_later hs.tk hW) (tab_later hs.tr hW) (h1.later hW) (h2.later hW) (h3.later hW) (h4.later hW) (h5.later hW))
  have HTA := hid (fun W (hW : Below w.heap.size w W) (hz : rck ts r = 0) => take_any mb (done.map Rl.n) n r.n (rck_size hz) hn W (hs.nm.later hW))
  have HCC := hid (fun W (hW : Below w.heap.size w W) => (hs.later hW).cc)
  have HTC := hid (fun W (hW : Below w.heap.size w W) => (hs.later hW).tc)
  have hmp : (done ++ [r]).map Rl.n = done.map Rl.n ++ [r.n] := by rw [List.map_append]; rfl
  rw [hmp]
  unfold rk1
  obtain ⟨E0, hE0⟩ : ∃ E, rck ts r = E := ⟨_, rfl⟩
  rw [hE0] at HCR HTA
  rw [hE0]
  obtain ⟨E3, hE3⟩ : ∃ E, tkn (done.map Rl.n) r.n = E := ⟨_, rfl⟩
  rw [hE3] at HTA
  rw [hE3]
  obtain ⟨tp, tn, tc, rfl⟩ := rd_shape hs.rt
  obtain ⟨q1, l1, j1, rfl⟩ := rd_shape h1
  obtain ⟨q2, l2, j2, rfl⟩ := rd_shape h2
  obtain ⟨q3, l3, j3, rfl⟩ := rd_shape h3
  obtain ⟨q4, l4, j4, rfl⟩ := rd_shape h4
  obtain ⟨q5, l5, j5, rfl⟩ := rd_shape h5
  clear hs h1 h2 h3 h4 h5 hn hmp hE0 hE3 hzr
  obtain ⟨rn, ws, ns, ms, ks, ⟨ety, vs⟩⟩ := r
  simp only at HCR HTA ⊢
  have HT : Hid (BlkT w (w.alloc (.cells [.string rn, .slice q1 l1 j1, .slice q2 l2 j2, .slice q3 l3 j3, .slice q4 l4 j4, .string ety, .slice q5 l5 j5].toArray 35)) [.string rn, .slice q1 l1 j1, .slice q2 l2 j2, .slice q3 l3 j3, .slice q4 l4 j4, .string ety, .slice q5 l5 j5] 35) := BlkT.start w _ _
  have XR : Hid ((w.alloc (.cells [.string rn, .slice q1 l1 j1, .slice q2 l2 j2, .slice q3 l3 j3, .slice q4 l4 j4, .string ety, .slice q5 l5 j5].toArray 35)).rangeAt w.heap.size 0 [.string rn, .slice q1 l1 j1, .slice q2 l2 j2, .slice q3 l3 j3, .slice q4 l4 j4, .string ety, .slice q5 l5 j5]) := range_blk HT.out.b1
  have c5 : (w.alloc (.cells #[.string rn, .slice q1 l1 j1, .slice q2 l2 j2, .slice q3 l3 j3, .slice q4 l4 j4, .string ety, .slice q5 l5 j5] 35)).cell? ⟨tb, 0, none⟩ = some (.slice tp tn tc) := HTC.out _ HT.out.bel
  by_cases hz : E0 = 0
  · have HZ := hid hz
    rw [if_neg (fun c => c hz)]
    subst hz
    go_enter Tryd.func27, Tryd.ntmps27
    go_wp2_with ((with_reducible show wpList _ _ _ (Oper.mk _ (.load _ _) _ _ _ _ :: _) _ _); refine wpList_load_mid (by rfl) 35 _ (by rfl) w.heap.size 0 (by rfl) [.string rn, .slice q1 l1 j1, .slice q2 l2 j2, .slice q3 l3 j3, .slice q4 l4 j4, .string ety, .slice q5 l5 j5] _ XR.out Tryd.underlying35 rfl (by kernel_rfl) ?_)
    refine (HCR.out _ HT.out.bel).mono ?_
    rintro e w1 ⟨rfl, hb1⟩
    have HT1 : Hid (BlkT w w1 [.string rn, .slice q1 l1 j1, .slice q2 l2 j2, .slice q3 l3 j3, .slice q4 l4 j4, .string ety, .slice q5 l5 j5] 35) := HT.out.next hb1
    clear hb1
    clear XR c5
    have c0 : w1.cell? ⟨w.heap.size, 0, none⟩ = some (.string rn) := HT1.out.c 0
    have c3 : w1.cell? ⟨cb, 0, none⟩ = some (.map (some mb)) := HCC.out _ HT1.out.bel
    go_wp2_with fail
    refine (HTA.out _ HT1.out.bel HZ.out).mono ?_
    rintro e w3 ⟨rfl, hf3, hk3⟩
    have HF3 := hid ((Fr.of_below HT1.out.bel).trans hf3)
    have HK3 := hid hk3
    clear hf3 hk3
    go_wp2_with fail
    go_ret
    exact ⟨rfl, HF3.out, HK3.out⟩
  · rw [if_pos hz]
    have d9 : (E0 != 0) = true := by simpa using hz
    have HZ := hid hz
    clear hz
    go_enter Tryd.func27, Tryd.ntmps27
    go_wp2_with ((with_reducible show wpList _ _ _ (Oper.mk _ (.load _ _) _ _ _ _ :: _) _ _); refine wpList_load_mid (by rfl) 35 _ (by rfl) w.heap.size 0 (by rfl) [.string rn, .slice q1 l1 j1, .slice q2 l2 j2, .slice q3 l3 j3, .slice q4 l4 j4, .string ety, .slice q5 l5 j5] _ XR.out Tryd.underlying35 rfl (by kernel_rfl) ?_)
    refine (HCR.out _ HT.out.bel).mono ?_
    rintro e w1 ⟨rfl, hb1⟩
    have HT1 : Hid (BlkT w w1 [.string rn, .slice q1 l1 j1, .slice q2 l2 j2, .slice q3 l3 j3, .slice q4 l4 j4, .string ety, .slice q5 l5 j5] 35) := HT.out.next hb1
    clear hb1
    go_wp2_with fail
    go_ret
    exact ⟨rfl, Fr.of_below HT1.out.bel, fun c => absurd c HZ.out⟩
set_option maxHeartbeats 32000000 in
theorem firstRule_any (ts : List Tp) (hty : ∀ i (hi : i < ts.length), tyk ts[i].n ts[i].f = 0) (rs : List Rl) (hzz : ∀ r, r ∈ rs → Szr r) (tv : Value) (tb cb mb n0 : Nat) (lv : Value) (w : World) (hs : Rsc w ts tv tb cb mb [] n0) (hR : Rd w (.row 35 7 (rs.map encR)) lv) (hn : n0 + rs.length ≤ 100) :
    Calls Tryd.prog 26 #[lv, .func (.func 27) #[] #[.pointer (some ⟨tb, 0, none⟩), .pointer (some ⟨cb, 0, none⟩)]] w fun e w' => e = .returned (.int .i64 (rks (rck ts) [] rs)) ∧ Fr (fun i => i = mb) w w' ∧ (rks (rck ts) [] rs = 0 → Rsc w' ts tv tb cb mb ((rs.take (rs.length)).map Rl.n) (n0 + (rs.length))) := by
  have HS := hid hs
  have HL := hid hR
  have HNN := hid hn
  obtain ⟨p, cap, rfl, hmx, _⟩ := rd_row lenR hR
  obtain ⟨n, hnl⟩ : ∃ n, rs.length = n := ⟨_, rfl⟩
  have HN := hid hnl
  obtain ⟨R, hRR⟩ : ∃ R, rks (rck ts) [] rs = R := ⟨_, rfl⟩
  have HR := hid hRR
  rw [hRR]
  rw [hnl] at hmx HL ⊢
  clear hR hs hn hnl hRR
  go_enter Tryd.func26, Tryd.ntmps26
  go_wp2_with fail
  go_loopg [10] (n + 1) (fun gg i wr => ∃ k : Nat, k ≤ n ∧ gg = n + 1 - k ∧ i = .int .i64 (k : Nat) ∧ rks (rck ts) (rs.take k) (rs.drop k) = R ∧ Fr (fun i => i = mb) w wr ∧ Rsc wr ts tv tb cb mb ((rs.take (k)).map Rl.n) (n0 + (k)))
  case atStart => exact ⟨0, by omega, by omega, rfl, by simpa using HR.out, Fr.refl _ _, by simpa using HS.out⟩
  case round =>
    obtain ⟨k, hk, rfl, rfl, hev, hF, hI⟩ := hrel
    have HF := hid hF
    have HI := hid hI
    by_cases hlt : k < n
    · have hkc : k < rs.length := by have := HN.out; omega
      obtain ⟨p', cap', e0, _, hat⟩ := rd_row lenR (HL.out.fr HS.out.nm.isMap hF)
      simp only [Value.slice.injEq] at e0
      obtain ⟨rfl, hx0, rfl⟩ := e0
      obtain ⟨g, off, rfl, hrd⟩ := hat (by omega)
      obtain ⟨A, r1, o1⟩ := hrd wr (Below.refl _ _) k hkc
      obtain ⟨v1, v2, v3, v4, v5, z1, o1', o2, o3, o4, o5⟩ := rdR o1
      obtain ⟨a1, a2, a3, hu1⟩ := rd_shape o1'
      obtain ⟨b1, b2, b3, hu2⟩ := rd_shape o2
      obtain ⟨d1, d2, d3, hu3⟩ := rd_shape o3
      obtain ⟨f1, f2, f3, hu4⟩ := rd_shape o4
      obtain ⟨g1, g2, g3, hu5⟩ := rd_shape o5
      have hAz : A.length = 7 := o1.1.symm
      rw [List.drop_eq_getElem_cons hkc, rks_step] at hev
      have htk : rs.take (k + 1) = rs.take k ++ [rs[k]] := List.take_succ_eq_append_getElem hkc
      have hcall := fun W (hW : Below wr.heap.size wr W) => checkRule1_any ts hty (rs.take k) rs[k] (hzz _ (List.getElem_mem hkc)) tv v1 v2 v3 v4 v5 tb cb mb (n0 + k) W (hI.later hW) (o1'.later hW) (o2.later hW) (o3.later hW) (o4.later hW) (o5.later hW) (by have := HNN.out; omega)
      rw [← htk] at hcall
      obtain ⟨e9, he9⟩ : ∃ e9, rk1 ts (rs.take k) rs[k] = e9 := ⟨_, rfl⟩
      rw [he9] at hcall hev
      have HCM : Hid (∀ W, Below wr.heap.size wr W → Calls Tryd.prog 27 #[.agg A.toArray, .pointer (some ⟨tb, 0, none⟩), .pointer (some ⟨cb, 0, none⟩)] W (fun e w' => e = .returned (.int .i64 e9) ∧ Fr (fun i => i = mb) W w' ∧ (e9 = 0 → Nm w' mb ((rs.take (k + 1)).map Rl.n) (n0 + k + 1)))) := fun W hW => by rw [z1]; exact hcall W hW
      have HAO : Hid (A.all (·.oneCell') = true) := by show _ = _; rw [z1, hu1, hu2, hu3, hu4, hu5]; rfl
      have ZA : Hid ((Tryd.prog.info? 35).map (·.size) = some A.length) := by show _ = _; rw [hAz]; kernel_rfl
      have HAL := hid hAz
      have X1_ := hid r1
      have HEV := hid hev
      have HTK := hid htk
      have i1 : (0 : Int) ≤ (k : Int) := by omega
      have i2 : (k : Int) < (n : Int) := by omega
      clear hF hI hat hrd r1 o1 hAz hev htk hx0 hcall he9 z1 hu1 hu2 hu3 hu4 hu5 o1' o2 o3 o4 o5
      go_wp2_with (first
        | ((with_reducible show wpList _ _ _ (Oper.mk _ (.load _ _) _ _ _ _ :: _) _ _); refine wpList_load_mid (by rfl) 35 _ (by rfl) g (off + k * 7) (by rfl) A _ X1_.out Tryd.underlying35 rfl ZA.out ?_)
        | ((with_reducible show wpList _ _ _ (Oper.mk _ (.store _ _ _) _ _ _ _ :: _) _ _); refine wp_st (by rfl) 35 _ _ (by rfl) wr.heap.size 0 _ 35 (.agg A.toArray) A (by rfl) (by rfl) (by rfl) (heap_alloc_new _ _) (by have := HAL.out; simp; omega) ZA.out HAO.out ?_; intro w1 hblk hfr; rw [ovr_all (by rw [HAL.out]; rfl)] at hblk; have XB : Hid (w1.rangeAt wr.heap.size 0 A) := range_blk hblk; have HBW : Hid (Below wr.heap.size wr w1) := new_store hfr; clear hblk hfr)
        | ((with_reducible show wpList _ _ _ (Oper.mk _ (.load _ _) _ _ _ _ :: _) _ _); refine wpList_load_mid (by rfl) 35 _ (by rfl) wr.heap.size 0 (by rfl) A _ XB.out Tryd.underlying35 rfl ZA.out ?_))
      refine (HCM.out _ HBW.out).mono ?_
      rintro e w2 ⟨rfl, hf2, hk2⟩
      have HF2 : Hid (Fr (fun i => i = mb) w w2) := HF.out.trans ((Fr.of_below HBW.out).trans hf2)
      have HK2 := hid hk2
      have HS1 := hid ((HI.out.later HBW.out))
      have HFR := hid hf2
      clear hk2 hf2
      by_cases hz : e9 = 0
      · have HE2 := HEV.out
        rw [if_neg (fun c => c hz)] at HE2
        have HE3 := hid HE2
        have HI2 := hid (show Rsc w2 ts tv tb cb mb ((rs.take (k + 1)).map Rl.n) (n0 + (k + 1)) from HS1.out.fr HFR.out (HK2.out hz))
        subst hz
        clear HE2 HK2 HS1 HFR
        go_wp2_with fail
        go_roundg (n + 1 - (k + 1))
        case rel => exact ⟨k + 1, by omega, rfl, by go_num, by rw [HTK.out]; exact HE3.out, HF2.out, HI2.out⟩
        case measure => omega
      · have HE2 : Hid (R = e9) := by have h := HEV.out; rw [if_pos hz] at h; exact h.symm
        have d9 : (e9 != 0) = true := by simpa using hz
        have HZ := hid hz
        clear hz HK2 HS1 HFR
        go_wp2_with fail
        go_ret
        exact ⟨ret_int HE2.out.symm, HF2.out, fun c => absurd (HE2.out.symm.trans c) HZ.out⟩
    · obtain rfl : k = n := by omega
      have hw : rs.take k = rs := List.take_of_length_le (by have := HN.out; omega)
      have hd : rs.drop k = [] := List.drop_of_length_le (by have := HN.out; omega)
      rw [hd, rks] at hev
      have HE2 : Hid (R = 0) := hev.symm
      have HI2 := hid hI
      clear hev hd hF hI hw
      go_wp2_with fail
      go_ret
      exact ⟨ret_int HE2.out.symm, HF.out, fun _ => HI2.out⟩
theorem heap_3 (w : World) (a b c : Obj) : (((w.alloc a).alloc b).alloc c).heap[w.heap.size + 2]? = some c := by
  have := heap_alloc_new ((w.alloc a).alloc b) c
  simpa using this
set_option maxHeartbeats 8000000 in
theorem checkRules_any (ts : List Tp) (hty : ∀ i (hi : i < ts.length), tyk ts[i].n ts[i].f = 0) (rs : List Rl) (hzz : ∀ r, r ∈ rs → Szr r) (tv rv : Value) (w : World) (hT : Rd w (.row 71 2 (ts.map encY)) tv) (hR : Rd w (.row 35 7 (rs.map encR)) rv) (htk : Tab w 0 kpl) (htr : Tab w 1 rll) (hn : rs.length ≤ 90) :
    Calls Tryd.prog 14 #[rv, tv] w fun e w' => e = .returned (.int .i64 (rks (rck ts) [] rs)) ∧ Below w.heap.size w w' := by
  have HC := hid (fun W tb cb mb (hs : Rsc W ts tv tb cb mb [] 0) hR => firstRule_any ts hty rs hzz tv tb cb mb 0 rv W hs hR (by omega))
  obtain ⟨tp, tn, tc, rfl⟩ := rd_shape hT
  obtain ⟨rp, rn, rc, rfl⟩ := rd_shape hR
  have hmm := @run_makeMap Tryd.prog
  have hb0 : Below w.heap.size w (w.alloc (.cells #[.slice tp tn tc] 23)) := (Below.refl _ _).alloc (Nat.le_refl _) _
  have hb1 : Below w.heap.size w ((w.alloc (.cells #[.slice tp tn tc] 23)).alloc (.map #[] 0)) := hb0.alloc (by simp) _
  have hb2 : Below ((w.alloc (.cells #[.slice tp tn tc] 23)).alloc (.map #[] 0)).heap.size ((w.alloc (.cells #[.slice tp tn tc] 23)).alloc (.map #[] 0)) (((w.alloc (.cells #[.slice tp tn tc] 23)).alloc (.map #[] 0)).alloc (.cells #[.map (some (w.heap.size + 1))] 83)) := (Below.refl _ _).alloc (Nat.le_refl _) _
  have hb3 : Below w.heap.size w (((w.alloc (.cells #[.slice tp tn tc] 23)).alloc (.map #[] 0)).alloc (.cells #[.map (some (w.heap.size + 1))] 83)) := hb1.alloc hb1.size _
  have hnm : Nm ((w.alloc (.cells #[.slice tp tn tc] 23)).alloc (.map #[] 0)) (w.heap.size + 1) [] 0 := by have := nm_made (w.alloc (.cells #[.slice tp tn tc] 23)); simpa using this
  have ht0 : (((w.alloc (.cells #[.slice tp tn tc] 23)).alloc (.map #[] 0)).alloc (.cells #[.map (some (w.heap.size + 1))] 83)).cell? ⟨w.heap.size, 0, none⟩ = some (.slice tp tn tc) := by
    refine cell_of_blk (cs := #[.slice tp tn tc]) (T := 23) ?_ 0
    rw [Below.heap_alloc _ _ _ (by simp; omega), Below.heap_alloc _ _ _ (by simp)]
    exact heap_alloc_new _ _
  have HTS : Hid (Rsc (((w.alloc (.cells #[.slice tp tn tc] 23)).alloc (.map #[] 0)).alloc (.cells #[.map (some (w.heap.size + 1))] 83)) ts (.slice tp tn tc) w.heap.size (w.heap.size + 2) (w.heap.size + 1) [] 0) := ⟨cell_of_blk (heap_3 _ _ _ _) 0, hnm.later hb2, tab_later htk hb3, tab_later htr hb3, ht0, hT.later hb3⟩
  have HRD := hid (hR.later hb3)
  have HB3 := hid hb3
  clear hb0 hb1 hb2 hb3 hT htk htr hn hR hnm ht0
  go_enter Tryd.func14, Tryd.ntmps14
  go_wp2_with fail
  refine (HC.out _ _ _ _ HTS.out HRD.out).mono ?_
  rintro e w3 ⟨rfl, hf3, _⟩
  have HB4 : Hid (Below w.heap.size w w3) := below_fr HB3.out hf3 (by omega)
  clear hf3
  go_wp2_with fail
  go_ret
  exact ⟨rfl, HB4.out⟩
end Go.Proofs.YtdihklfaiiclgaaDoor.Chk
