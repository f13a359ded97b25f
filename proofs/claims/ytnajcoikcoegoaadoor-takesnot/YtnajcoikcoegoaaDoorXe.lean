/-
  The patterns of a part, and the whens that are asked, by the program.
-/
import Derived.Test.YtnajcoikcoegoaaDoorDu
namespace Go.Proofs.YtnajcoikcoegoaaDoor.Chk
open Go.ChangeShapes Go.WideShapes Go.ChangeAt Go.RowKit Go.Maps
set_option linter.unusedVariables false
set_option linter.unusedSimpArgs false
set_option maxRecDepth 20000
/-- The whens whose events a pattern is given. -/
def asq (part : Int) (k : Nat) (ws : List Pt) : List Pt := if part = 0 then ws.take k else ws
set_option maxHeartbeats 8000000 in
theorem asked_s (r : Rl) (u1 u2 u3 u4 u5 : Value) (w : World) (h1 : Rd w (.row 47 18 (r.w.map encP)) u1) (h2 : Rd w (.row 47 18 (r.t.map encP)) u2) (h3 : Rd w (.row 87 20 (r.m.map encM)) u3) (h4 : Rd w (.row 126 3 (r.k.map encK)) u4) (h5 : Rd w (.row 31 6 (r.e.v.map encO)) u5) (part at_ : Int) (k : Nat) (hk : part = 0 → at_ = (k : Int) ∧ k ≤ r.w.length) :
    Calls Tryd.prog 16 #[.agg #[.string r.n, u1, u2, u3, u4, .string r.e.ty, u5], .int .i64 part, .int .i64 at_] w fun e w' => ∃ v, e = .returned v ∧ (∀ W', Rd W' (.row 47 18 (r.w.map encP)) u1 → Rd W' (.row 47 18 ((asq part k r.w).map encP)) v) ∧ Below w.heap.size w w' := by
  obtain ⟨q1, j1, e1, _, _⟩ := rd_row lenP h1
  obtain ⟨q2, j2, e2, _, _⟩ := rd_row lenP h2
  obtain ⟨q3, j3, e3, _, _⟩ := rd_row lenM h3
  obtain ⟨q4, l4, j4, e4⟩ := rd_shape h4
  obtain ⟨q5, l5, j5, e5⟩ := rd_shape h5
  subst e1 e2 e3 e4 e5
  have hcp := rd_cap h1
  by_cases hp : part = 0
  · obtain ⟨rfl, hkl⟩ := hk hp
    have htk := fun W' (h : Rd W' (.row 47 18 (r.w.map encP)) (.slice q1 r.w.length j1)) => rd_take h k hkl
    have e : asq part k r.w = r.w.take k := by unfold asq; rw [if_pos hp]
    rw [e]
    subst hp
    obtain ⟨rn, ws, ns, ms, ks, ⟨ety, vs⟩⟩ := r
    simp only at htk hkl hcp ⊢
    have HTK := hid htk
    obtain ⟨LD, hLD⟩ : ∃ LD, (ws.take k).map encP = LD := ⟨_, rfl⟩
    obtain ⟨LE, hLE⟩ : ∃ LE, ws.map encP = LE := ⟨_, rfl⟩
    rw [hLD, hLE] at HTK ⊢
    clear hLD hLE
    generalize ws.length = l1 at *
    generalize ns.length = l2
    generalize ms.length = l3
    have HB : Hid (Below w.heap.size w (w.alloc (.cells #[.string rn, .slice q1 l1 j1, .slice q2 l2 j2, .slice q3 l3 j3, .slice q4 l4 j4, .string ety, .slice q5 l5 j5] 55))) := (Below.refl _ _).alloc (Nat.le_refl _) _
    have i1 : (0 : Int) ≤ (k : Int) := by omega
    have i2 : (k : Int) ≤ (j1 : Int) := by omega
    have i3 : (j1 < k) = False := by simp; omega
    clear h1 h2 h3 h4 h5 hk htk
    go_enter Tryd.func16, Tryd.ntmps16
    go_wp2_with fail
    all_goals
      go_ret
      exact ⟨_, rfl, HTK.out, HB.out⟩
  · have e : asq part k r.w = r.w := by unfold asq; rw [if_neg hp]
    rw [e]
    obtain ⟨rn, ws, ns, ms, ks, ⟨ety, vs⟩⟩ := r
    simp only
    obtain ⟨l1, hl1⟩ : ∃ l, ws.length = l := ⟨_, rfl⟩
    rw [hl1]
    generalize ns.length = l2
    generalize ms.length = l3
    have HB : Hid (Below w.heap.size w (w.alloc (.cells #[.string rn, .slice q1 l1 j1, .slice q2 l2 j2, .slice q3 l3 j3, .slice q4 l4 j4, .string ety, .slice q5 l5 j5] 55))) := (Below.refl _ _).alloc (Nat.le_refl _) _
    have d0 : decide (part = 0) = false := by simpa using hp
    have d1 : (part == 0) = false := by simpa using hp
    clear h1 h2 h3 h4 h5 hk hcp hl1 e
    go_enter Tryd.func16, Tryd.ntmps16
    go_wp2_with fail
    go_ret
    exact ⟨_, rfl, fun W' h => h, HB.out⟩
/-- The patterns of a part. -/
def prt (part : Int) (r : Rl) : List Pt := if part = 0 then r.w else if part = 1 then r.t else if part = 2 then r.m.map Mn.p else []
section
variable {ops : Array Oper} {rest : List Oper} {o : Oper} {a : Act} {w : World} {Q : Exit → Act → World → Prop}
theorem wp_mkP (hgd : o.guard = none) (x : Operand) (ho : o.op = .makeSlice 48 x x) (n : Nat) (hn : n ≤ 1000) (hx : a.eval x = .int .i64 (n : Nat))
    (h : ∀ (zs : List Value), zs.length = n * 18 → wpList Tryd.prog ops Q rest (a.put o.dst (.slice (some ⟨w.heap.size, 0, none⟩) n n)) (w.alloc (.cells zs.toArray 47))) : wpList Tryd.prog ops Q (o :: rest) a w := by
  refine wpList_plain hgd fun K hK => ?_
  obtain ⟨i0, b1, b2, b3, b4⟩ := info_parts infoP
  have hr := run_make (P := Tryd.prog) w 48 47 i0 zP Tryd.underlying48 b1 b2 .i64 .i64 n n (by omega) (Int.le_refl _) (by rw [b4]; omega) (by omega)
  simp only [Int.toNat_natCast] at hr
  rw [b3] at hr
  have h2 := h (madeCells zP.cells (n * 18)).toList (by rw [Array.length_toList, size_madeCells])
  rw [Array.toArray_toList] at h2
  unfold Oper.wp
  simp [execOp, ho, hx, hr, Result.andThen]
  exact hK _ _ h2
end
/-- A row of patterns that is filled. -/
def Mks (w wr : World) (nb n k : Nat) (L : List Pt) : Prop := ∃ xs zs : List Value, wr.heap[nb]? = some (.cells (xs ++ zs).toArray 47 (0, 0)) ∧ xs.length = k * 18 ∧ zs.length = (n - k) * 18 ∧ RdL w (L.map encP).flatten xs
theorem Mks.store {w wr W : World} {nb n k : Nat} {L : List Pt} {B : List Value} {p : Pt} {o : Nat} (h : Mks w wr nb n k L) (hk : k < n) (ho : o = k * 18) (cs : List Value) (hcs : wr.heap[nb]? = some (.cells cs.toArray 47 (0, 0))) (hB : RdL w (encP p) B) (hb : W.heap[nb]? = some (.cells (ovr cs o B).toArray 47 (0, 0))) : Mks w W nb n (k + 1) (L ++ [p]) := by
  obtain ⟨xs, zs, e1, e2, e3, e4⟩ := h
  have hBl : B.length = 18 := hB.1.symm
  rw [e1] at hcs
  have e : xs ++ zs = cs := by
    have := Option.some.inj hcs
    simp at this
    exact this
  have hkn : n - k = (n - (k + 1)) + 1 := by omega
  have h18 : 18 ≤ zs.length := by rw [e3, hkn]; omega
  have h19 : zs.length - 18 = (n - (k + 1)) * 18 := by rw [e3, hkn]; omega
  refine ⟨xs ++ B, zs.drop 18, ?_, by rw [List.length_append, e2, hBl]; omega, by rw [List.length_drop]; exact h19, ?_⟩
  · rw [hb, ← e, ho]
    unfold ovr
    rw [List.take_append_of_le_length (by omega), List.take_of_length_le (by omega), List.drop_append, List.drop_of_length_le (by omega), hBl]
    simp [e2, List.append_assoc]
  · rw [List.map_append, List.flatten_append]
    exact rdl_app e4 (by simpa using hB)
theorem Mks.rd {w wr : World} {nb n : Nat} {L : List Pt} (h : Mks w wr nb n n L) (hL : L.length = n) (hn : n ≤ maxLen) (hb : Below w.heap.size w wr) : Rd wr (.row 47 18 (L.map encP)) (.slice (some ⟨nb, 0, none⟩) n n) := by
  obtain ⟨xs, zs, e1, e2, e3, e4⟩ := h
  obtain rfl : zs = [] := List.eq_nil_of_length_eq_zero (by simpa using e3)
  rw [List.append_nil] at e1
  by_cases h0 : n = 0
  · subst h0
    obtain rfl : L = [] := List.eq_nil_of_length_eq_zero hL
    exact .nil _ _ _ _ hn
  · have h4 := e4.below hb
    have := Rd.row (w := wr) 47 18 (L.map encP) nb 0 n xs (by simp; omega) (by simp; omega) hn (range_blk e1) h4.1 h4.2
    rw [List.length_map, hL] at this
    exact this
set_option maxHeartbeats 16000000 in
theorem patS_two (r : Rl) (u1 u2 u3 u4 u5 : Value) (w : World) (h1 : Rd w (.row 47 18 (r.w.map encP)) u1) (h2 : Rd w (.row 47 18 (r.t.map encP)) u2) (h3 : Rd w (.row 87 20 (r.m.map encM)) u3) (h4 : Rd w (.row 126 3 (r.k.map encK)) u4) (h5 : Rd w (.row 31 6 (r.e.v.map encO)) u5) (hz3 : r.m.length ≤ 100) :
    Calls Tryd.prog 14 #[.agg #[.string r.n, u1, u2, u3, u4, .string r.e.ty, u5], .int .i64 2] w fun e w' => ∃ v, e = .returned v ∧ Rd w' (.row 47 18 ((r.m.map Mn.p).map encP)) v ∧ Below w.heap.size w w' := by
  obtain ⟨q1, j1, e1, _, _⟩ := rd_row lenP h1
  obtain ⟨q2, j2, e2, _, _⟩ := rd_row lenP h2
  obtain ⟨q3, j3, e3, _, _⟩ := rd_row lenM h3
  obtain ⟨q4, l4, j4, e4⟩ := rd_shape h4
  obtain ⟨q5, l5, j5, e5⟩ := rd_shape h5
  subst e1 e2 e3 e4 e5
  obtain ⟨rn, ws, ns, ms, ks, ⟨ety, vs⟩⟩ := r
  simp only at h3 hz3 ⊢
  generalize ws.length = l1
  generalize ns.length = l2
  obtain ⟨l3, hl3⟩ : ∃ l, ms.length = l := ⟨_, rfl⟩
  rw [hl3] at h3 hz3 ⊢
  have HN := hid hl3
  have HM := hid h3
  have HZ := hid hz3
  have HB0 : Hid (Below w.heap.size w (w.alloc (.cells #[.string rn, .slice q1 l1 j1, .slice q2 l2 j2, .slice q3 l3 j3, .slice q4 l4 j4, .string ety, .slice q5 l5 j5] 55))) := (Below.refl _ _).alloc (Nat.le_refl _) _
  have hc3 : ∀ o, ((w.alloc (.cells #[.string rn, .slice q1 l1 j1, .slice q2 l2 j2, .slice q3 l3 j3, .slice q4 l4 j4, .string ety, .slice q5 l5 j5] 55)).alloc o).cell? ⟨w.heap.size, 3, none⟩ = some (.slice q3 l3 j3) := fun o => by
    refine cell_of_blk (cs := #[.string rn, .slice q1 l1 j1, .slice q2 l2 j2, .slice q3 l3 j3, .slice q4 l4 j4, .string ety, .slice q5 l5 j5]) (T := 55) ?_ 3
    rw [Below.heap_alloc _ _ _ (by simp)]
    exact heap_alloc_new _ _
  clear h1 h2 h3 h4 h5 hz3 hl3
  go_enter Tryd.func14, Tryd.ntmps14
  go_wp2_with ((with_reducible show wpList _ _ _ (Oper.mk (some 22) _ _ _ _ _ :: _) _ _); refine wp_mkP (by rfl) (.tmp 21) (by rfl) l3 (by have := HZ.out; omega) (by rfl) ?_; intro zs hzs; have HZS := hid hzs; have c3 := hc3 (.cells zs.toArray 47); clear hzs)
  go_loopg [26] (l3 + 1) (fun gg i wr => ∃ k : Nat, k ≤ l3 ∧ gg = l3 + 1 - k ∧ i = .int .i64 (k : Nat) ∧ Mks w wr (w.heap.size + 1) l3 k ((ms.take k).map Mn.p) ∧ Below w.heap.size w wr)
  case atStart => exact ⟨0, by omega, by omega, rfl, ⟨[], zs, by simpa using heap_2 _ _ _, by simp, by simpa using HZS.out, RdL.nil _⟩, HB0.out.alloc HB0.out.size _⟩
  case round =>
    obtain ⟨k, hk, rfl, rfl, hMk, hB⟩ := hrel
    have HMK := hid hMk
    have HB := hid hB
    by_cases hlt : k < l3
    · have hkc : k < ms.length := by have := HN.out; omega
      obtain ⟨p', cap', e0, m0, hat⟩ := rd_row lenM HM.out
      simp only [Value.slice.injEq] at e0
      obtain ⟨e01, hx0, e02⟩ := e0
      obtain ⟨g, off, e03, hrd⟩ := hat (by omega)
      obtain ⟨A, r1, o1⟩ := hrd w (Below.refl _ _) k hkc
      obtain ⟨B, z0, o0⟩ := rdM o1
      obtain ⟨vc, z1, o2⟩ := rdP o0
      obtain ⟨up, un, uc, hu⟩ := rd_shape o2
      obtain rfl : q3 = some ⟨g, off, none⟩ := e01.trans e03
      obtain ⟨CS, hCS, hCl⟩ : ∃ CS : List Value, wr.heap[w.heap.size + 1]? = some (.cells CS.toArray 47 (0, 0)) ∧ CS.length = l3 * 18 := by
        obtain ⟨xs, zs, b1, b2, b3, _⟩ := hMk
        refine ⟨xs ++ zs, b1, ?_⟩
        rw [List.length_append, b2, b3, ← Nat.add_mul]
        congr 1
        omega
      have hAz : A.length = 20 := o1.1.symm
      have hBz : B.length = 18 := o0.1.symm
      have HAO : Hid (A.all (·.oneCell') = true) := by show _ = _; rw [z0, z1, hu]; rfl
      have HBO : Hid (B.all (·.oneCell') = true) := by show _ = _; rw [z1, hu]; rfl
      have ZA : Hid ((Tryd.prog.info? 87).map (·.size) = some A.length) := by show _ = _; rw [hAz]; kernel_rfl
      have ZB : Hid ((Tryd.prog.info? 47).map (·.size) = some B.length) := by show _ = _; rw [hBz]; kernel_rfl
      have HRB : Hid (RdL w (encP ms[k].p) B) := o0
      have HAL := hid hAz
      have HBL := hid hBz
      have HCS := hid hCS
      have HCL : Hid (k * 18 + 18 ≤ CS.length) := by show _ ≤ _; rw [hCl]; omega
      have HKN := hid hlt
      have HZ0 := hid z0
      have X1_ := hid (range_below r1 hB)
      have HTK : Hid ((ms.take k).map Mn.p ++ [ms[k].p] = (ms.take (k + 1)).map Mn.p) := by show _ = _; rw [List.take_succ_eq_append_getElem hkc, List.map_append]; rfl
      have i1 : (0 : Int) ≤ (k : Int) := by omega
      have i2 : (k : Int) < (l3 : Int) := by omega
      clear hB hat hrd r1 o1 hAz hBz hx0 z0 z1 hu o2 o0 e01 e02 e03 hMk hCS hCl m0
      go_wp2_with (first
        | ((with_reducible show wpList _ _ _ (Oper.mk _ (.load _ _) _ _ _ _ :: _) _ _); refine wpList_load_mid (by rfl) 87 _ (by rfl) g (off + k * 20) (by rfl) A _ X1_.out Tryd.underlying87 rfl ZA.out ?_)
        | ((with_reducible show wpList _ _ _ (Oper.mk _ (.store 87 _ _) _ _ _ _ :: _) _ _); refine wp_st (by rfl) 87 _ _ (by rfl) wr.heap.size 0 _ 87 (.agg A.toArray) A (by rfl) (by rfl) (by rfl) (heap_alloc_new _ _) (by have := HAL.out; simp; omega) ZA.out HAO.out ?_; intro w2 hblk hfr; rw [ovr_all (by rw [HAL.out]; rfl)] at hblk; have XB : Hid (w2.rangeAt wr.heap.size 2 B) := range_tail hblk HZ0.out; have HBW : Hid (Below wr.heap.size wr w2) := new_store hfr; clear hblk hfr)
        | ((with_reducible show wpList _ _ _ (Oper.mk _ (.load _ _) _ _ _ _ :: _) _ _); refine wpList_load_mid (by rfl) 47 _ (by rfl) wr.heap.size 2 (by rfl) B _ XB.out Tryd.underlying47 rfl ZB.out ?_)
        | ((with_reducible show wpList _ _ _ (Oper.mk _ (.store 47 _ _) _ _ _ _ :: _) _ _); refine wp_st (by rfl) 47 _ _ (by rfl) (w.heap.size + 1) (k * 18) CS 47 (.agg B.toArray) B (by rfl) (by rfl) (by rfl) ((HBW.out.block _ (blk_lt HCS.out)).trans HCS.out) (by have := HCL.out; have := HBL.out; omega) ZB.out HBO.out ?_; intro w3 hb3 hf3; have HM3 := hid (HMK.out.store HKN.out rfl CS HCS.out HRB.out hb3); have HB3 : Hid (Below w.heap.size w w3) := below_fr (below_trans HB.out HBW.out HB.out.size) hf3 (by omega); clear hb3 hf3))
      go_roundg (l3 + 1 - (k + 1))
      case rel => exact ⟨k + 1, by omega, rfl, by go_num, by rw [← HTK.out]; exact HM3.out, HB3.out⟩
      case measure => omega
    · obtain rfl : k = l3 := by omega
      have hw : ms.take k = ms := List.take_of_length_le (by have := HN.out; omega)
      rw [hw] at hMk
      have HRD := hid (hMk.rd (by simpa using HN.out) (by have := HZ.out; unfold maxLen; omega) hB)
      clear hMk hB hw
      go_wp2_with fail
      go_ret
      exact ⟨_, rfl, HRD.out, HB.out⟩
set_option maxHeartbeats 8000000 in
theorem patS_any (r : Rl) (u1 u2 u3 u4 u5 : Value) (w : World) (h1 : Rd w (.row 47 18 (r.w.map encP)) u1) (h2 : Rd w (.row 47 18 (r.t.map encP)) u2) (h3 : Rd w (.row 87 20 (r.m.map encM)) u3) (h4 : Rd w (.row 126 3 (r.k.map encK)) u4) (h5 : Rd w (.row 31 6 (r.e.v.map encO)) u5) (hz3 : r.m.length ≤ 100) (part : Int) :
    Calls Tryd.prog 14 #[.agg #[.string r.n, u1, u2, u3, u4, .string r.e.ty, u5], .int .i64 part] w fun e w' => ∃ v, e = .returned v ∧ Rd w' (.row 47 18 ((prt part r).map encP)) v ∧ Below w.heap.size w w' := by
  unfold prt
  by_cases p2 : part = 2
  · subst p2
    rw [if_neg (by decide), if_neg (by decide), if_pos rfl]
    exact patS_two r u1 u2 u3 u4 u5 w h1 h2 h3 h4 h5 hz3
  · have H1 := hid (fun W (hW : Below w.heap.size w W) => h1.later hW)
    have H2 := hid (fun W (hW : Below w.heap.size w W) => h2.later hW)
    obtain ⟨q1, j1, e1, _, _⟩ := rd_row lenP h1
    obtain ⟨q2, j2, e2, _, _⟩ := rd_row lenP h2
    obtain ⟨q3, j3, e3, _, _⟩ := rd_row lenM h3
    obtain ⟨q4, l4, j4, e4⟩ := rd_shape h4
    obtain ⟨q5, l5, j5, e5⟩ := rd_shape h5
    subst e1 e2 e3 e4 e5
    obtain ⟨rn, ws, ns, ms, ks, ⟨ety, vs⟩⟩ := r
    simp only at H1 H2 ⊢
    obtain ⟨l1, hl1⟩ : ∃ l, ws.length = l := ⟨_, rfl⟩
    obtain ⟨l2, hl2⟩ : ∃ l, ns.length = l := ⟨_, rfl⟩
    rw [hl1] at H1 ⊢
    rw [hl2] at H2 ⊢
    generalize ms.length = l3
    have HB : Hid (Below w.heap.size w (w.alloc (.cells #[.string rn, .slice q1 l1 j1, .slice q2 l2 j2, .slice q3 l3 j3, .slice q4 l4 j4, .string ety, .slice q5 l5 j5] 55))) := (Below.refl _ _).alloc (Nat.le_refl _) _
    clear h1 h2 h3 h4 h5 hl1 hl2 hz3
    by_cases p0 : part = 0
    · subst p0
      rw [if_pos rfl]
      go_enter Tryd.func14, Tryd.ntmps14
      go_wp2_with fail
      go_ret
      exact ⟨_, rfl, H1.out _ HB.out, HB.out⟩
    · rw [if_neg p0]
      by_cases p1 : part = 1
      · subst p1
        rw [if_pos rfl]
        go_enter Tryd.func14, Tryd.ntmps14
        go_wp2_with fail
        go_ret
        exact ⟨_, rfl, H2.out _ HB.out, HB.out⟩
      · rw [if_neg p1, if_neg p2]
        have d0 : (part == 0) = false := by simpa using p0
        have d1 : (part == 1) = false := by simpa using p1
        have d2 : (part == 2) = false := by simpa using p2
        have f0 : decide (part = 0) = false := by simpa using p0
        have f1 : decide (part = 1) = false := by simpa using p1
        have f2 : decide (part = 2) = false := by simpa using p2
        go_enter Tryd.func14, Tryd.ntmps14
        go_wp2_with fail
        go_ret
        exact ⟨_, rfl, .nil _ _ none 0 (Nat.zero_le _), HB.out⟩
end Go.Proofs.YtnajcoikcoegoaaDoor.Chk
