/-
  Events that came in, and a copy of them. What SiftTakes answers.
-/
import Derived.Test.YthndlfdbmljkhaaGreatDoorXa
import Derived.Test.YthndlfdbmljkhaaGreatDoorDt
import Derived.Test.YthndlfdbmljkhaaGreatDoorO
import Derived.Test.YthndlfdbmljkhaaGreatDoorXj
import Derived.Test.YthndlfdbmljkhaaGreatDoorXd
namespace Go.Proofs.YthndlfdbmljkhaaGreatDoor.Chk
open Go.Deep Go.ChangeShapes Go.WideShapes Go.ChangeAt Go.RowKit Go.Maps
set_option linter.unusedVariables false
set_option linter.unusedSimpArgs false
set_option maxRecDepth 20000
theorem rdl_oneX {w : World} : ∀ {L : List Ev} {xs : List Value}, RdL w (L.map encX).flatten xs → xs.length = L.length * 5 ∧ ∀ u, u ∈ xs → u.oneCell' = true
  | [], xs, h => by rw [RdL.none h]; exact ⟨rfl, fun u hu => by cases hu⟩
  | p :: L, xs, h => by
    obtain ⟨us, rs, rfl, h1, h2⟩ := RdL.split (ds := encX p) (es := (L.map encX).flatten) h
    obtain ⟨a, b⟩ := rdl_oneX h2
    obtain ⟨v, rfl, h3⟩ := rdX h1
    obtain ⟨x, y, z, rfl⟩ := rd_shape h3
    refine ⟨by rw [List.length_append, a]; simp [List.length_cons]; omega, fun u hu => ?_⟩
    rcases List.mem_append.1 hu with hu | hu
    · exact List.all_eq_true.1 (show ([.int .i64 p.n, .int .i64 p.t, .int .i64 p.st, .int .i64 p.en, .slice x y z] : List Value).all (·.oneCell') = true from rfl) u hu
    · exact b u hu
abbrev zX : Value := .agg #[.int .i64 0, .int .i64 0, .int .i64 0, .int .i64 0, .slice none 0 0]
theorem infoX : (Tryz.prog.info? 30).map (fun i => (i.zero, i.size, i.bytes)) = some (some zX, 5, 56) := by kernel_rfl
theorem rd_ownX {w0 w : World} {v : Value} {L : List Ev} {xs : List Value} (h1 : w.ownsRow w0.heap.size 30 5 v L.length xs) (h2 : RdL w (L.map encX).flatten xs) : Rd w (.row 30 5 (L.map encX)) v := by
  have hc := h1
  rcases h1.2 with ⟨rfl, h5⟩ | ⟨ga, cap, cur, rfl, _, _, hn, hx, _⟩
  · obtain rfl : L = [] := List.eq_nil_of_length_eq_zero h5
    exact .nil _ _ none 0 (Nat.zero_le _)
  · by_cases h0 : 0 < L.length
    · have := Rd.row (w := w) 30 5 (L.map encX) ga 0 cap xs (by simpa using h0) (by simpa using hn) hx (fun j u hu => by
        have := hc.cells (g := ga) rfl j u hu
        rw [Addr.add_mid] at this
        simpa using this) h2.1 h2.2
      simpa using this
    · obtain rfl : L = [] := List.eq_nil_of_length_eq_zero (by omega)
      exact .nil _ _ _ cap hx
theorem run_copyX (w : World) (ty : TypeId) {v : Value} {l : List Ev} (hu : Rd w (.row 30 5 (l.map encX)) v) (hb : l.length * 56 ≤ 140737488355328) :
    ∃ v' w', (Builtin.append_ #[31, 31] ty #[.slice none 0 0, v]).run Tryz.prog w = .ok v' w' ∧ Rd w' (.row 30 5 (l.map encX)) v' ∧ Below w.heap.size w w' := by
  obtain ⟨i0, hi, hz0, hz1, hz2⟩ := info_parts infoX
  generalize hd : Dat.row 30 5 (l.map encX) = d at hu
  cases hu with
  | lit v => cases hd
  | nil e z p cap h1 =>
    simp only [Dat.row.injEq] at hd
    obtain rfl : l = [] := List.eq_nil_of_length_eq_zero (by have := congrArg List.length hd.2.2; simpa using this)
    refine ⟨.slice none 0 0, w, ?_, ?_, Below.refl _ _⟩
    · cases p <;> simp [Builtin.append_, run_underlying Tryz.underlying31, sizeOf, typeInfo, hi, Builtin.lenOf, Builtin.firstCells, loadCells, loadCellsFrom]
    · obtain ⟨rfl, rfl, _⟩ := hd
      exact .nil _ _ none 0 (Nat.zero_le _)
  | row e' z' l' g off cap xs h1 h2 h3 h4 h5 h6 =>
    simp only [Dat.row.injEq] at hd
    obtain ⟨rfl, rfl, rfl⟩ := hd
    have hR : RdL w (l.map encX).flatten xs := ⟨h5, h6⟩
    obtain ⟨c1, c2⟩ := rdl_oneX hR
    rw [List.length_map]
    have hl0 : 0 < l.length := by simpa using h1
    obtain ⟨v', w', r1, r2, r3, _, r5⟩ := run_append_own_at (P := Tryz.prog) w w.heap.size 31 ty 30 i0 zX 5 56 Tryz.underlying31 hi hz0 hz1 hz2 rfl (by omega) (.slice none 0 0) 0 [] (World.ownsRow_nil w w.heap.size 30 5) ⟨g, off, none⟩ l.length cap xs c1 (fun j u hj => by rw [Addr.add_mid]; exact h4 j u hj) c2 (by unfold maxLen; omega) (by omega) (Nat.le_refl _)
    have hB : Below w.heap.size w w' := (Below.refl _ _).grown r3 (Nat.le_refl _) (fun k hk => by cases hk)
    exact ⟨v', w', r1, rd_ownX (w0 := w) (by simpa using r2) (hR.below hB), hB⟩
theorem step_copyX (w : World) {ops : Array Oper} {o : Oper} {a : Act} {K : Act → World → Prop} {Q : Exit → Act → World → Prop} {E : Prop} (hgd : o.guard = none) (s x : Operand)
    (ho : o.op = .call { callee := .builtin .append, args := #[s, x], argTypes := #[31, 31] }) (v : Value) (l : List Ev) (hs : a.eval s = .slice none 0 0) (hx : a.eval x = v) (hd : Rd w (.row 30 5 (l.map encX)) v) (hb : l.length * 56 ≤ 140737488355328)
    (h : ∀ v' w', Rd w' (.row 30 5 (l.map encX)) v' → Below w.heap.size w w' → K (a.put o.dst v') w') :
    if Region.wanted o (yielded ops a.tmps) = true then Oper.wp Tryz.prog o a w K Q else E := by
  have hw : Region.wanted o (yielded ops a.tmps) = true := by simp [Region.wanted, hgd]
  rw [if_pos hw]
  obtain ⟨v', w', hr, h2, h3⟩ := run_copyX w o.type hd hb
  unfold Oper.wp execOp
  simp only [ho, resolve, invoke, builtin, Sem.run_bind, Sem.run_pure, Result.andThen_ok, List.map_toArray, List.map_cons, List.map_nil, hs, hx, hr]
  exact h v' w' h2 h3
section
variable {H : Type} {enc : TypeId × Value → H} {W : World} {base b0 : Nat} {r : Reach} {spare : Nat → Bool} {held : Bool} {v : Value} {d : DataW H} {p : List MemPlace}
theorem kX : Tryz.prog.cellsOf 30 = 5 := by kernel_rfl
theorem kSp : Tryz.prog.cellsOf 27 = 2 := by kernel_rfl
theorem ksV : Tryz.prog.cellsOf 28 = 1 := by kernel_rfl
theorem tr_span {n : Nat} {cs : List Value} (h : Tr enc W base spare held n 27 cs) : ∃ a b : Int, RdL W [.lit (.int .i64 a), .lit (.int .i64 b)] cs := by
  obtain ⟨m, hm, hl, hf⟩ := tr_fld Tryz.underlying27 h
  rw [kSp] at hl
  have h0 : Tr enc W base spare held m 3 ((cs.drop 0).take (Tryz.prog.cellsOf 3)) := hf 0 _ rfl
  rw [k3] at h0
  have h1 : Tr enc W base spare held m 3 ((cs.drop 1).take (Tryz.prog.cellsOf 3)) := hf 1 _ rfl
  rw [k3] at h1
  obtain ⟨a, e0⟩ := tr_int h0
  obtain ⟨b, e1⟩ := tr_int h1
  exact ⟨a, b, rdl_fld (a := 0) (z := 1) (rdl_lit e0) rfl (rdl_fld (z := 1) (rdl_lit e1) rfl (rdl_end hl))⟩
theorem tr_event {n : Nat} {cs : List Value} (h : Tr enc W base spare held n 30 cs) : ∃ x : Ev, True ∧ RdL W (encX x) cs := by
  obtain ⟨m, hm, hl, hf⟩ := tr_fld Tryz.underlying30 h
  rw [kX] at hl
  have h0 : Tr enc W base spare held m 3 ((cs.drop 0).take (Tryz.prog.cellsOf 3)) := hf 0 _ rfl
  rw [k3] at h0
  have h1 : Tr enc W base spare held m 3 ((cs.drop 1).take (Tryz.prog.cellsOf 3)) := hf 1 _ rfl
  rw [k3] at h1
  have h2 : Tr enc W base spare held m 27 ((cs.drop 2).take (Tryz.prog.cellsOf 27)) := hf 2 _ rfl
  rw [kSp] at h2
  have h3 : Tr enc W base spare held m 28 ((cs.drop 4).take (Tryz.prog.cellsOf 28)) := hf 3 _ rfl
  rw [ksV] at h3
  obtain ⟨a, e0⟩ := tr_int h0
  obtain ⟨b, e1⟩ := tr_int h1
  obtain ⟨s, t, e2⟩ := tr_span h2
  obtain ⟨v, l, e3, q3, _⟩ := tr_row (ec := encV) (z := 3) (Q := fun _ => True) Tryz.underlying28 kV (by omega) h3 (fun m' hm' cs' h' => by obtain ⟨k, i, s, h9⟩ := tr_val h'; exact ⟨⟨k, i, s⟩, trivial, h9⟩)
  exact ⟨⟨a, b, s, t, l⟩, trivial, rdl_fld (a := 0) (z := 1) (rdl_lit e0) rfl (rdl_fld (z := 1) (rdl_lit e1) rfl (rdl_fld (z := 2) e2 rfl (rdl_fld (z := 1) (rdl_val e3 q3) rfl (rdl_end hl))))⟩
theorem open_event (hv : Value.okWide Tryz.prog W r b0 30 v) (h : DataW.Trod enc Tryz.prog W base spare held 30 v d p) : ∃ (x : Ev) (u : Value), v = evV x u ∧ Rd W (.row 59 3 (x.v.map encV)) u := by
  obtain ⟨cs, rfl, hsz⟩ := okWide_struct Tryz.underlying30 hv
  obtain ⟨fuel, hf⟩ := h
  have h : Tr enc W base spare held fuel 30 cs.toList := ⟨_, by simpa [Value.cells] using hf⟩
  obtain ⟨x, _, hr⟩ := tr_event h
  obtain ⟨u, z1, o2⟩ := rdX hr
  obtain ⟨l⟩ := cs
  simp only at z1
  subst z1
  exact ⟨x, u, rfl, o2⟩
theorem open_events (hv : Value.okWide Tryz.prog W r b0 31 v) (h : DataW.Trod enc Tryz.prog W base spare held 31 v d p) : ∃ l : List Ev, Rd W (.row 30 5 (l.map encX)) v := by
  obtain ⟨s, n, c, rfl⟩ := okWide_slice Tryz.underlying31 hv
  obtain ⟨fuel, hf⟩ := h
  have h : Tr enc W base spare held fuel 31 [.slice s n c] := ⟨_, by simpa [Value.cells] using hf⟩
  obtain ⟨v, l, e, q, _⟩ := tr_row (ec := encX) (z := 5) (Q := fun _ => True) Tryz.underlying31 kX (by omega) h (fun m' hm' cs' h' => tr_event h')
  simp only [List.cons.injEq, and_true] at e
  subst e
  exact ⟨l, q⟩
theorem bytesX : Tryz.prog.bytesOf 30 = 56 := by kernel_rfl
theorem evs_bound {ts : List TypeId} {ds : List (DataW H)} {j : Nat} {l : List Ev} (hv : Rd W (.row 30 5 (l.map encX)) v) (h : DataW.Trod enc Tryz.prog W base spare held 31 v d p) (hsz : (DataW.weightsEach Tryz.prog ts ds).all (· ≤ reachBytes) = true) (h1 : ts[j]? = some 31) (h2 : ds[j]? = some d) : l.length * 56 ≤ 140737488355328 := by
  obtain ⟨a, cap, rfl, _, _⟩ := rd_row lenX hv
  generalize l.length = len at h ⊢
  rcases slice_len Tryz.underlying31 h with rfl | ⟨elems, sp, rfl, rfl⟩
  · omega
  · have := sized_slice hsz h1 h2 Tryz.underlying31
    rw [bytesX] at this
    have hr : reachBytes ≤ 140737488355328 := by decide
    have e : elems.length * 56 ≤ (elems.length + sp.length) * 56 := Nat.mul_le_mul_right _ (by omega)
    omega
end
end Go.Proofs.YthndlfdbmljkhaaGreatDoor.Chk
namespace Go.Proofs.YthndlfdbmljkhaaGreatDoor.Chk
open Go.ChangeShapes Go.WideShapes Go.ChangeAt Go.RowKit Go.Maps
set_option linter.unusedVariables false
set_option linter.unusedSimpArgs false
set_option maxRecDepth 20000
theorem prt_off {part : Int} (r : Rl) (h : ¬ (0 ≤ part ∧ part ≤ 2)) : prt part r = [] := by
  unfold prt
  rw [if_neg (by omega), if_neg (by omega), if_neg (by omega)]
/-- TakenBy, for every book whose names are sized, every event and all known ones. -/
theorem takenBy_any (ts : List Tp) (rs : List Rl) (hzz : ∀ r, r ∈ rs → Szr r) (tv rv : Value) (rule part at_ : Int) (x : Ev) (u : Value) (kn : List Ev) (kv : Value) (w : World) (hT : Rd w (.row 72 2 (ts.map encY)) tv) (hR : Rd w (.row 49 7 (rs.map encR)) rv) (hu : Rd w (.row 59 3 (x.v.map encV)) u) (hK : Rd w (.row 30 5 (kn.map encX)) kv) :
    Calls Tryz.prog 6 #[.agg #[tv, rv], .int .i64 rule, .int .i64 part, .int .i64 at_, evV x u, kv] w fun e w' => e = .returned (.tuple #[.bool (tkr ts rs rule part at_ x kn).1, .int .i64 (tkr ts rs rule part at_ x kn).2]) ∧ Below w.heap.size w w' := by
  by_cases hb : bok ts rs = 0
  · by_cases hr : 0 ≤ rule ∧ rule < (rs.length : Int)
    · by_cases hp : 0 ≤ part ∧ part ≤ 2
      · obtain ⟨k, rfl⟩ : ∃ k : Nat, rule = (k : Int) := ⟨rule.toNat, by omega⟩
        rcases (by omega : part = 0 ∨ part = 1 ∨ part = 2) with rfl | rfl | rfl
        · exact tb_main0 ts rs hzz tv rv at_ x u kn kv w hT hR hu hK hb k (by omega) _ rfl
        · exact tb_main1 ts rs hzz tv rv at_ x u kn kv w hT hR hu hK hb k (by omega) _ rfl
        · exact tb_main2 ts rs hzz tv rv at_ x u kn kv w hT hR hu hK hb k (by omega) _ rfl
      · have e : tkr ts rs rule part at_ x kn = (false, 2) := by
          unfold tkr
          rw [if_neg (fun c => c hb), if_neg (fun c => c hr), if_pos (by rw [prt_off _ hp]; first | (simp; done) | (simp; omega))]
        rw [e]
        exact tb_off ts rs hzz tv rv rule part at_ x u kn kv w hT hR hu hK hb true (by show _ ↔ _; simp; omega) false (by show _ ↔ _; simp; omega) rfl
    · have e : tkr ts rs rule part at_ x kn = (false, 2) := by unfold tkr; rw [if_neg (fun c => c hb), if_pos hr]
      rw [e]
      by_cases hp : 0 ≤ part ∧ part ≤ 2
      · exact tb_off ts rs hzz tv rv rule part at_ x u kn kv w hT hR hu hK hb false (by show _ ↔ _; simp; omega) true (by show _ ↔ _; simp; omega) rfl
      · exact tb_off ts rs hzz tv rv rule part at_ x u kn kv w hT hR hu hK hb false (by show _ ↔ _; simp; omega) false (by show _ ↔ _; simp; omega) rfl
  · have e : tkr ts rs rule part at_ x kn = (false, bok ts rs) := by unfold tkr; rw [if_pos hb]
    rw [e]
    exact tb_bad ts rs hzz tv rv rule part at_ x u kn kv w hT hR hu hK hb
theorem step_call6 {ops : Array Oper} {o : Oper} {a : Act} {w : World} {K : Act → World → Prop} {Q : Exit → Act → World → Prop} {E : Prop} (f : FuncId) (he : ∀ args w, (callFunc f args).run Tryz.prog w = .ok (.enter f args) w) (hw : Region.wanted o (yielded ops a.tmps) = true) (x1 x2 x3 x4 x5 x6 : Operand) (ts : Array TypeId) (ho : o.op = .call { callee := .value (.func f), args := #[x1, x2, x3, x4, x5, x6], argTypes := ts }) (u1 u2 u3 u4 u5 u6 : Value) (h1 : a.eval x1 = u1) (h2 : a.eval x2 = u2) (h3 : a.eval x3 = u3) (h4 : a.eval x4 = u4) (h5 : a.eval x5 = u5) (h6 : a.eval x6 = u6)
    (R : Ending → World → Prop) (hc : Calls Tryz.prog f #[u1, u2, u3, u4, u5, u6] w R) (h : ∀ e w', R e w' → ∃ v, e = .returned v ∧ K (a.put o.dst v) w') :
    if Region.wanted o (yielded ops a.tmps) = true then Oper.wp Tryz.prog o a w K Q else E := by
  rw [if_pos hw]
  unfold Oper.wp execOp
  have hf : a.eval (.func f) = Value.func (Fn.func f) #[] #[] := rfl
  simp [ho, resolve, invoke, Deferred.ofValue, hf, h1, h2, h3, h4, h5, h6, he]
  refine hc.mono ?_
  intro e w' hr
  obtain ⟨v, rfl, hk⟩ := h e w' hr
  exact hk
theorem ent_tkp : ∀ args w, (callFunc 5 args).run Tryz.prog w = .ok (.enter 5 args) w := enters_of Tryz.func5 (by kernel_rfl) rfl
set_option maxHeartbeats 32000000 in
theorem siftTakes_walk (ts : List Tp) (rs : List Rl) (hzz : ∀ r, r ∈ rs → Szr r) (tv rv : Value) (rule part at_ : Int) (x : Ev) (u : Value) (kn : List Ev) (kv : Value) (w : World) (hT : Rd w (.row 72 2 (ts.map encY)) tv) (hR : Rd w (.row 49 7 (rs.map encR)) rv) (hu : Rd w (.row 59 3 (x.v.map encV)) u) (hK : Rd w (.row 30 5 (kn.map encX)) kv) (htk : Tab w 0 kpl) (htr : Tab w 1 rll) (hb : kn.length * 56 ≤ 140737488355328) :
    Calls Tryz.prog 3 #[.agg #[tv, rv], .int .i64 rule, .int .i64 part, .int .i64 at_, evV x u, kv] w fun e w' => e = .returned (.bool true) ∧ Below w.heap.size w w' := by
  obtain ⟨R, hRR⟩ : ∃ R, (tkr ts rs rule part at_ x kn).1 = R := ⟨_, rfl⟩
  obtain ⟨F, hFF⟩ : ∃ F, (tkr ts rs rule part at_ x kn).2 = F := ⟨_, rfl⟩
  obtain ⟨tp, tn, tc, hte⟩ := rd_shape hT
  obtain ⟨rp, rn, rc, hre⟩ := rd_shape hR
  obtain ⟨kp, n, kc, hle⟩ := rd_shape hK
  obtain ⟨up, un, uc, hue⟩ := rd_shape hu
  obtain ⟨UL, hUL⟩ : ∃ UL : List Value, [tv, rv] = UL := ⟨_, rfl⟩
  obtain ⟨XV, hXV⟩ : ∃ XV : List Value, ([.int .i64 x.n, .int .i64 x.t, .int .i64 x.st, .int .i64 x.en, u] : List Value) = XV := ⟨_, rfl⟩
  have hsv : (Value.agg #[tv, rv]) = .agg UL.toArray := by rw [← hUL]
  have hxv : evV x u = .agg XV.toArray := by rw [← hXV]
  have HC : Hid (∀ W kv', Below w.heap.size w W → Rd W (.row 30 5 (kn.map encX)) kv' → Calls Tryz.prog 5 #[.agg UL.toArray, .int .i64 rule, .int .i64 part, .int .i64 at_, .agg XV.toArray, kv'] W fun e w' => e = .returned (.tuple #[.bool R, .int .i64 F]) ∧ Below W.heap.size W w') := fun W kv' hW hl => by rw [← hsv, ← hxv, ← hRR, ← hFF]; exact takesP_any ts rs hzz tv rv rule part at_ x u kn kv' W (hT.later hW) (hR.later hW) (tab_later htk hW) (tab_later htr hW) (hu.later hW) hl
  have HF : Hid (∀ W, Below w.heap.size w W → Calls Tryz.prog 6 #[.agg UL.toArray, .int .i64 rule, .int .i64 part, .int .i64 at_, .agg XV.toArray, kv] W fun e w' => e = .returned (.tuple #[.bool R, .int .i64 F]) ∧ Below W.heap.size W w') := fun W hW => by rw [← hsv, ← hxv, ← hRR, ← hFF]; exact takenBy_any ts rs hzz tv rv rule part at_ x u kn kv W (hT.later hW) (hR.later hW) (hu.later hW) (hK.later hW)
  have ZU : Hid ((Tryz.prog.info? 25).map (·.size) = some UL.length) := by show _ = _; rw [← hUL]; kernel_rfl
  have ZX : Hid ((Tryz.prog.info? 30).map (·.size) = some XV.length) := by show _ = _; rw [← hXV]; kernel_rfl
  rw [hsv, hxv]
  subst hle
  have HK := hid hK
  have HBN := hid hb
  have hB := bxs2 w UL XV 25 30
  have HBD := hid (hB.next (Below.drew (Below.refl _ _)))
  clear hT hR hu hK htk htr hzz hRR hFF hsv hxv hUL hXV hte hre hue hb hB
  go_enter Tryz.func3, Tryz.ntmps3
  go_wp2_with fail
  refine start_n (S := (fun w' => Bxs w w' [(UL, 25), (XV, 30)])) 13 #[false, false, false, false, false, false, false, false, false, false, false, false, false] rfl rfl (by kernel_rfl) (HBD.out) (fun hHeld => ?_)
  refine take_mk (i := 1) (v := ?v1) rfl (by kernel_rfl) (by kernel_rfl) (by kernel_rfl) (fun _ _ _ h => h) (Or.inl ⟨by rfl, ?hy1⟩) (by assumption) ?rest1
  case hy1 => (intro w0 hSw; (try dsimp only at hSw); go_simp <;> (try (with_reducible rfl)))
  (try simp only [Act.put, List.setIfInBounds_toArray, List.set_cons_zero, List.set_cons_succ])
  refine take_mk (i := 2) (v := ?v2) rfl (by kernel_rfl) (by kernel_rfl) (by kernel_rfl) (fun _ _ _ h => h) (Or.inl ⟨by rfl, ?hy2⟩) (by assumption) ?rest2
  case hy2 => (intro w0 hSw; (try dsimp only at hSw); go_simp <;> (try (with_reducible rfl)))
  (try simp only [Act.put, List.setIfInBounds_toArray, List.set_cons_zero, List.set_cons_succ])
  refine take_mk (i := 3) (v := ?v3) rfl (by kernel_rfl) (by kernel_rfl) (by kernel_rfl) (fun _ _ _ h => h) (Or.inl ⟨by rfl, ?hy3⟩) (by assumption) ?rest3
  case hy3 => (intro w0 hSw; (try dsimp only at hSw); go_simp <;> (try (with_reducible rfl)))
  (try simp only [Act.put, List.setIfInBounds_toArray, List.set_cons_zero, List.set_cons_succ])
  refine take_mk (i := 5) (v := ?v4) rfl (by kernel_rfl) (by kernel_rfl) (by kernel_rfl) (fun _ _ _ h => h) (Or.inl ⟨by rfl, ?hy4⟩) (by assumption) ?rest4
  case hy4 => (intro w0 hSw; (try dsimp only at hSw); go_simp <;> (try (with_reducible rfl)))
  (try simp only [Act.put, List.setIfInBounds_toArray, List.set_cons_zero, List.set_cons_succ])
  refine take_mk (i := 0) rfl (by kernel_rfl) (by kernel_rfl) (by kernel_rfl) (fun _ _ _ h => h) (yieldsIf_load_mid (by rfl) 25 _ rfl w.heap.size (0) (by rfl) UL _ (fun _ h => h.r 0 (by simp)) Tryz.underlying25 rfl ZU.out) (by assumption) ?_
  (try simp only [Act.put, List.setIfInBounds_toArray, List.set_cons_zero, List.set_cons_succ])
  refine take_mk (i := 4) rfl (by kernel_rfl) (by kernel_rfl) (by kernel_rfl) (fun _ _ _ h => h) (yieldsIf_load_mid (by rfl) 30 _ rfl (w.heap.size + 1) (0) (by rfl) XV _ (fun _ h => h.r 1 (by simp)) Tryz.underlying30 rfl ZX.out) (by assumption) ?_
  (try simp only [Act.put, List.setIfInBounds_toArray, List.set_cons_zero, List.set_cons_succ])
  refine wpAnyH_ready (rs := [6]) (by kernel_rfl) (by simp) ?_
  refine cons_mk rfl (fun K hK => ?_) AllReadyH.nil
  refine step_copyX _ (by rfl) _ _ (by rfl) (.slice kp n kc) kn (by rfl) (by rfl) (HK.out.later HBD.out.bel) HBN.out ?_
  intro v' w3 hrd3 hb3
  obtain ⟨cp, cn, cc, rfl⟩ := rd_shape hrd3
  have HRD3 := hid hrd3
  have HB3 := hid (HBD.out.next hb3)
  clear hrd3 hb3
  refine hK.out _ _ (HB3.out) (fun hHeld => ?_)
  clear hK K
  (try simp only [Act.put, List.setIfInBounds_toArray, List.set_cons_zero, List.set_cons_succ])
  refine wpAnyH_ready (rs := [7]) (by kernel_rfl) (by simp) ?_
  refine cons_mk rfl (fun K hK => ?_) AllReadyH.nil
  refine step_call6 5 ent_tkp (by rfl) _ _ _ _ _ _ _ (by rfl) (.agg UL.toArray) (.int .i64 rule) (.int .i64 part) (.int .i64 at_) (.agg XV.toArray) (.slice cp cn cc) (by rfl) (by rfl) (by rfl) (by rfl) (by rfl) (by rfl) _ (HC.out _ _ HB3.out.bel HRD3.out) ?_
  rintro e w4 ⟨rfl, hb4⟩
  refine ⟨_, rfl, ?_⟩
  have HB4 := hid (HB3.out.next hb4)
  clear hb4
  refine hK.out _ _ (HB4.out) (fun hHeld => ?_)
  clear hK K
  (try simp only [Act.put, List.setIfInBounds_toArray, List.set_cons_zero, List.set_cons_succ])
  refine take_mk (i := 8) (v := ?v5) rfl (by kernel_rfl) (by kernel_rfl) (by kernel_rfl) (fun _ _ _ h => h) (Or.inl ⟨by rfl, ?hy5⟩) (by assumption) ?rest5
  case hy5 => (intro w0 hSw; (try dsimp only at hSw); go_simp <;> (try (with_reducible rfl)))
  (try simp only [Act.put, List.setIfInBounds_toArray, List.set_cons_zero, List.set_cons_succ])
  refine take_mk (i := 9) (v := ?v6) rfl (by kernel_rfl) (by kernel_rfl) (by kernel_rfl) (fun _ _ _ h => h) (Or.inl ⟨by rfl, ?hy6⟩) (by assumption) ?rest6
  case hy6 => (intro w0 hSw; (try dsimp only at hSw); go_simp <;> (try (with_reducible rfl)))
  (try simp only [Act.put, List.setIfInBounds_toArray, List.set_cons_zero, List.set_cons_succ])
  refine take_mk (i := 10) (v := ?v7) rfl (by kernel_rfl) (by kernel_rfl) (by kernel_rfl) (fun _ _ _ h => h) (Or.inl ⟨by rfl, ?hy7⟩) (by assumption) ?rest7
  case hy7 => (intro w0 hSw; (try dsimp only at hSw); go_simp <;> (try (with_reducible rfl)))
  (try simp only [Act.put, List.setIfInBounds_toArray, List.set_cons_zero, List.set_cons_succ])
  refine take_mk (i := 11) (v := ?v8) rfl (by kernel_rfl) (by kernel_rfl) (by kernel_rfl) (fun _ _ _ h => h) (Or.inl ⟨by rfl, ?hy8⟩) (by assumption) ?rest8
  case hy8 => (intro w0 hSw; (try dsimp only at hSw); go_simp <;> (try (with_reducible rfl)))
  (try simp only [Act.put, List.setIfInBounds_toArray, List.set_cons_zero, List.set_cons_succ])
  refine take_mk (i := 12) (v := ?v9) rfl (by kernel_rfl) (by kernel_rfl) (by kernel_rfl) (fun _ _ _ h => h) (Or.inl ⟨by rfl, ?hy9⟩) (by assumption) ?rest9
  case hy9 => (intro w0 hSw; (try dsimp only at hSw); go_simp <;> (try (with_reducible rfl)))
  (try simp only [Act.put, List.setIfInBounds_toArray, List.set_cons_zero, List.set_cons_succ])
  refine wpAnyH_done (by kernel_rfl) ?_ _
  have XU := hid (HB4.out.r 0 (by simp))
  have XX := hid (HB4.out.r 1 (by simp))
  go_wp2_with (first
    | ((with_reducible show wpList _ _ _ (Oper.mk _ (.load 25 _) _ _ _ _ :: _) _ _); refine wpList_load_mid (by rfl) 25 _ (by rfl) w.heap.size 0 (by rfl) UL _ XU.out Tryz.underlying25 rfl ZU.out ?_)
    | ((with_reducible show wpList _ _ _ (Oper.mk _ (.load 30 _) _ _ _ _ :: _) _ _); refine wpList_load_mid (by rfl) 30 _ (by rfl) (w.heap.size + 1) 0 (by rfl) XV _ XX.out Tryz.underlying30 rfl ZX.out ?_))
  refine (HF.out _ HB4.out.bel).mono ?_
  rintro e w5 ⟨rfl, hb5⟩
  have HB5 := hid (HB4.out.next hb5)
  clear hb5
  cases R
  · go_wp2_with fail
    go_ret
    exact ⟨ret_bool (by simp), HB5.out.bel⟩
  · go_wp2_with fail
    go_ret
    exact ⟨ret_bool (by simp), HB5.out.bel⟩
end Go.Proofs.YthndlfdbmljkhaaGreatDoor.Chk
