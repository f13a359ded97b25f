/-
  The patterns of a part, and the whens that are asked, by the program. Takes, by the program. The value that a side stands for, by the document's answer.
-/
import Derived.Test.YthndlfdbmljkhaaGreatDoorDt
namespace Go.Proofs.YthndlfdbmljkhaaGreatDoor.Chk
open Go.ChangeShapes Go.WideShapes Go.ChangeAt Go.RowKit Go.Maps
set_option linter.unusedVariables false
set_option linter.unusedSimpArgs false
set_option maxRecDepth 20000
/-- The whens whose events a pattern is given. -/
def asq (part : Int) (k : Nat) (ws : List Pt) : List Pt := if part = 0 then ws.take k else ws
set_option maxHeartbeats 8000000 in
theorem asked_s (r : Rl) (u1 u2 u3 u4 u5 : Value) (w : World) (h1 : Rd w (.row 65 18 (r.w.map encP)) u1) (h2 : Rd w (.row 65 18 (r.t.map encP)) u2) (h3 : Rd w (.row 68 20 (r.m.map encM)) u3) (h4 : Rd w (.row 103 3 (r.k.map encK)) u4) (h5 : Rd w (.row 61 6 (r.e.v.map encO)) u5) (part at_ : Int) (k : Nat) (hk : part = 0 → at_ = (k : Int) ∧ k ≤ r.w.length) :
    Calls Tryz.prog 13 #[.agg #[.string r.n, u1, u2, u3, u4, .string r.e.ty, u5], .int .i64 part, .int .i64 at_] w fun e w' => ∃ v, e = .returned v ∧ (∀ W', Rd W' (.row 65 18 (r.w.map encP)) u1 → Rd W' (.row 65 18 ((asq part k r.w).map encP)) v) ∧ Below w.heap.size w w' := by
  obtain ⟨q1, j1, e1, _, _⟩ := rd_row lenP h1
  obtain ⟨q2, j2, e2, _, _⟩ := rd_row lenP h2
  obtain ⟨q3, j3, e3, _, _⟩ := rd_row lenM h3
  obtain ⟨q4, l4, j4, e4⟩ := rd_shape h4
  obtain ⟨q5, l5, j5, e5⟩ := rd_shape h5
  subst e1 e2 e3 e4 e5
  have hcp := rd_cap h1
  by_cases hp : part = 0
  · obtain ⟨rfl, hkl⟩ := hk hp
    have htk := fun W' (h : Rd W' (.row 65 18 (r.w.map encP)) (.slice q1 r.w.length j1)) => rd_take h k hkl
    have e : asq part k r.w = r.w.take k := by unfold asq; rw [if_pos hp]
    rw [e]
    subst hp
    obtain ⟨rn, ws, ns, ms, ks, ⟨ety, vs⟩⟩ := r
    simp only at htk hkl hcp ⊢
    have HTK := hid htk
    obtain ⟨LD, hLD⟩ : ∃ LD, (ws.take k).map encP = LD := ⟨_, rfl⟩
    obtain ⟨LE, hLE⟩ : ∃ LE, ws.map encP = LE := ⟨_, rfl⟩
    rw [hLD, hLE] at HTK ⊢
    clear hLD hLE
    generalize ws.length = l1 at *
    generalize ns.length = l2
    generalize ms.length = l3
    have HB : Hid (Below w.heap.size w (w.alloc (.cells #[.string rn, .slice q1 l1 j1, .slice q2 l2 j2, .slice q3 l3 j3, .slice q4 l4 j4, .string ety, .slice q5 l5 j5] 49))) := (Below.refl _ _).alloc (Nat.le_refl _) _
    have i1 : (0 : Int) ≤ (k : Int) := by omega
    have i2 : (k : Int) ≤ (j1 : Int) := by omega
    have i3 : (j1 < k) = False := by simp; omega
    clear h1 h2 h3 h4 h5 hk htk
    go_enter Tryz.func13, Tryz.ntmps13
    go_wp2_with fail
    all_goals
      go_ret
      exact ⟨_, rfl, HTK.out, HB.out⟩
  · have e : asq part k r.w = r.w := by unfold asq; rw [if_neg hp]
    rw [e]
    obtain ⟨rn, ws, ns, ms, ks, ⟨ety, vs⟩⟩ := r
    simp only
    obtain ⟨l1, hl1⟩ : ∃ l, ws.length = l := ⟨_, rfl⟩
    rw [hl1]
    generalize ns.length = l2
    generalize ms.length = l3
    have HB : Hid (Below w.heap.size w (w.alloc (.cells #[.string rn, .slice q1 l1 j1, .slice q2 l2 j2, .slice q3 l3 j3, .slice q4 l4 j4, .string ety, .slice q5 l5 j5] 49))) := (Below.refl _ _).alloc (Nat.le_refl _) _
    have d0 : decide (part = 0) = false := by simpa using hp
    have d1 : (part == 0) = false := by simpa using hp
    clear h1 h2 h3 h4 h5 hk hcp hl1 e
    go_enter Tryz.func13, Tryz.ntmps13
    go_wp2_with fail
    go_ret
    exact ⟨_, rfl, fun W' h => h, HB.out⟩
/-- The patterns of a part. -/
def prt (part : Int) (r : Rl) : List Pt := if part = 0 then r.w else if part = 1 then r.t else if part = 2 then r.m.map Mn.p else []
section
variable {ops : Array Oper} {rest : List Oper} {o : Oper} {a : Act} {w : World} {Q : Exit → Act → World → Prop}
theorem wp_mkP (hgd : o.guard = none) (x : Operand) (ho : o.op = .makeSlice 42 x x) (n : Nat) (hn : n ≤ 1000) (hx : a.eval x = .int .i64 (n : Nat))
    (h : ∀ (zs : List Value), zs.length = n * 18 → wpList Tryz.prog ops Q rest (a.put o.dst (.slice (some ⟨w.heap.size, 0, none⟩) n n)) (w.alloc (.cells zs.toArray 65))) : wpList Tryz.prog ops Q (o :: rest) a w := by
  refine wpList_plain hgd fun K hK => ?_
  obtain ⟨i0, b1, b2, b3, b4⟩ := info_parts infoP
  have hr := run_make (P := Tryz.prog) w 42 65 i0 zP Tryz.underlying42 b1 b2 .i64 .i64 n n (by omega) (Int.le_refl _) (by rw [b4]; omega) (by omega)
  simp only [Int.toNat_natCast] at hr
  rw [b3] at hr
  have h2 := h (madeCells zP.cells (n * 18)).toList (by rw [Array.length_toList, size_madeCells])
  rw [Array.toArray_toList] at h2
  unfold Oper.wp
  simp [execOp, ho, hx, hr, Result.andThen]
  exact hK _ _ h2
end
/-- A row of patterns that is filled. -/
def Mks (w wr : World) (nb n k : Nat) (L : List Pt) : Prop := ∃ xs zs : List Value, wr.heap[nb]? = some (.cells (xs ++ zs).toArray 65 (0, 0)) ∧ xs.length = k * 18 ∧ zs.length = (n - k) * 18 ∧ RdL w (L.map encP).flatten xs
theorem Mks.store {w wr W : World} {nb n k : Nat} {L : List Pt} {B : List Value} {p : Pt} {o : Nat} (h : Mks w wr nb n k L) (hk : k < n) (ho : o = k * 18) (cs : List Value) (hcs : wr.heap[nb]? = some (.cells cs.toArray 65 (0, 0))) (hB : RdL w (encP p) B) (hb : W.heap[nb]? = some (.cells (ovr cs o B).toArray 65 (0, 0))) : Mks w W nb n (k + 1) (L ++ [p]) := by
  obtain ⟨xs, zs, e1, e2, e3, e4⟩ := h
  have hBl : B.length = 18 := hB.1.symm
  rw [e1] at hcs
  have e : xs ++ zs = cs := by
    have := Option.some.inj hcs
    simp at this
    exact this
  have hkn : n - k = (n - (k + 1)) + 1 := by omega
  have h18 : 18 ≤ zs.length := by rw [e3, hkn]; omega
  have h19 : zs.length - 18 = (n - (k + 1)) * 18 := by rw [e3, hkn]; omega
  refine ⟨xs ++ B, zs.drop 18, ?_, by rw [List.length_append, e2, hBl]; omega, by rw [List.length_drop]; exact h19, ?_⟩
  · rw [hb, ← e, ho]
    unfold ovr
    rw [List.take_append_of_le_length (by omega), List.take_of_length_le (by omega), List.drop_append, List.drop_of_length_le (by omega), hBl]
    simp [e2, List.append_assoc]
  · rw [List.map_append, List.flatten_append]
    exact rdl_app e4 (by simpa using hB)
theorem Mks.rd {w wr : World} {nb n : Nat} {L : List Pt} (h : Mks w wr nb n n L) (hL : L.length = n) (hn : n ≤ maxLen) (hb : Below w.heap.size w wr) : Rd wr (.row 65 18 (L.map encP)) (.slice (some ⟨nb, 0, none⟩) n n) := by
  obtain ⟨xs, zs, e1, e2, e3, e4⟩ := h
  obtain rfl : zs = [] := List.eq_nil_of_length_eq_zero (by simpa using e3)
  rw [List.append_nil] at e1
  by_cases h0 : n = 0
  · subst h0
    obtain rfl : L = [] := List.eq_nil_of_length_eq_zero hL
    exact .nil _ _ _ _ hn
  · have h4 := e4.below hb
    have := Rd.row (w := wr) 65 18 (L.map encP) nb 0 n xs (by simp; omega) (by simp; omega) hn (range_blk e1) h4.1 h4.2
    rw [List.length_map, hL] at this
    exact this
set_option maxHeartbeats 16000000 in
theorem patS_two (r : Rl) (u1 u2 u3 u4 u5 : Value) (w : World) (h1 : Rd w (.row 65 18 (r.w.map encP)) u1) (h2 : Rd w (.row 65 18 (r.t.map encP)) u2) (h3 : Rd w (.row 68 20 (r.m.map encM)) u3) (h4 : Rd w (.row 103 3 (r.k.map encK)) u4) (h5 : Rd w (.row 61 6 (r.e.v.map encO)) u5) (hz3 : r.m.length ≤ 100) :
    Calls Tryz.prog 11 #[.agg #[.string r.n, u1, u2, u3, u4, .string r.e.ty, u5], .int .i64 2] w fun e w' => ∃ v, e = .returned v ∧ Rd w' (.row 65 18 ((r.m.map Mn.p).map encP)) v ∧ Below w.heap.size w w' := by
  obtain ⟨q1, j1, e1, _, _⟩ := rd_row lenP h1
  obtain ⟨q2, j2, e2, _, _⟩ := rd_row lenP h2
  obtain ⟨q3, j3, e3, _, _⟩ := rd_row lenM h3
  obtain ⟨q4, l4, j4, e4⟩ := rd_shape h4
  obtain ⟨q5, l5, j5, e5⟩ := rd_shape h5
  subst e1 e2 e3 e4 e5
  obtain ⟨rn, ws, ns, ms, ks, ⟨ety, vs⟩⟩ := r
  simp only at h3 hz3 ⊢
  generalize ws.length = l1
  generalize ns.length = l2
  obtain ⟨l3, hl3⟩ : ∃ l, ms.length = l := ⟨_, rfl⟩
  rw [hl3] at h3 hz3 ⊢
  have HN := hid hl3
  have HM := hid h3
  have HZ := hid hz3
  have HB0 : Hid (Below w.heap.size w (w.alloc (.cells #[.string rn, .slice q1 l1 j1, .slice q2 l2 j2, .slice q3 l3 j3, .slice q4 l4 j4, .string ety, .slice q5 l5 j5] 49))) := (Below.refl _ _).alloc (Nat.le_refl _) _
  have hc3 : ∀ o, ((w.alloc (.cells #[.string rn, .slice q1 l1 j1, .slice q2 l2 j2, .slice q3 l3 j3, .slice q4 l4 j4, .string ety, .slice q5 l5 j5] 49)).alloc o).cell? ⟨w.heap.size, 3, none⟩ = some (.slice q3 l3 j3) := fun o => by
    refine cell_of_blk (cs := #[.string rn, .slice q1 l1 j1, .slice q2 l2 j2, .slice q3 l3 j3, .slice q4 l4 j4, .string ety, .slice q5 l5 j5]) (T := 49) ?_ 3
    rw [Below.heap_alloc _ _ _ (by simp)]
    exact heap_alloc_new _ _
  clear h1 h2 h3 h4 h5 hz3 hl3
  go_enter Tryz.func11, Tryz.ntmps11
  go_wp2_with ((with_reducible show wpList _ _ _ (Oper.mk (some 22) _ _ _ _ _ :: _) _ _); refine wp_mkP (by rfl) (.tmp 21) (by rfl) l3 (by have := HZ.out; omega) (by rfl) ?_; intro zs hzs; have HZS := hid hzs; have c3 := hc3 (.cells zs.toArray 65); clear hzs)
  go_loopg [26] (l3 + 1) (fun gg i wr => ∃ k : Nat, k ≤ l3 ∧ gg = l3 + 1 - k ∧ i = .int .i64 (k : Nat) ∧ Mks w wr (w.heap.size + 1) l3 k ((ms.take k).map Mn.p) ∧ Below w.heap.size w wr)
  case atStart => exact ⟨0, by omega, by omega, rfl, ⟨[], zs, by simpa using heap_2 _ _ _, by simp, by simpa using HZS.out, RdL.nil _⟩, HB0.out.alloc HB0.out.size _⟩
  case round =>
    obtain ⟨k, hk, rfl, rfl, hMk, hB⟩ := hrel
    have HMK := hid hMk
    have HB := hid hB
    by_cases hlt : k < l3
    · have hkc : k < ms.length := by have := HN.out; omega
      obtain ⟨p', cap', e0, m0, hat⟩ := rd_row lenM HM.out
      simp only [Value.slice.injEq] at e0
      obtain ⟨e01, hx0, e02⟩ := e0
      obtain ⟨g, off, e03, hrd⟩ := hat (by omega)
      obtain ⟨A, r1, o1⟩ := hrd w (Below.refl _ _) k hkc
      obtain ⟨B, z0, o0⟩ := rdM o1
      obtain ⟨vc, z1, o2⟩ := rdP o0
      obtain ⟨up, un, uc, hu⟩ := rd_shape o2
      obtain rfl : q3 = some ⟨g, off, none⟩ := e01.trans e03
      obtain ⟨CS, hCS, hCl⟩ : ∃ CS : List Value, wr.heap[w.heap.size + 1]? = some (.cells CS.toArray 65 (0, 0)) ∧ CS.length = l3 * 18 := by
        obtain ⟨xs, zs, b1, b2, b3, _⟩ := hMk
        refine ⟨xs ++ zs, b1, ?_⟩
        rw [List.length_append, b2, b3, ← Nat.add_mul]
        congr 1
        omega
      have hAz : A.length = 20 := o1.1.symm
      have hBz : B.length = 18 := o0.1.symm
      have HAO : Hid (A.all (·.oneCell') = true) := by show _ = _; rw [z0, z1, hu]; rfl
      have HBO : Hid (B.all (·.oneCell') = true) := by show _ = _; rw [z1, hu]; rfl
      have ZA : Hid ((Tryz.prog.info? 68).map (·.size) = some A.length) := by show _ = _; rw [hAz]; kernel_rfl
      have ZB : Hid ((Tryz.prog.info? 65).map (·.size) = some B.length) := by show _ = _; rw [hBz]; kernel_rfl
      have HRB : Hid (RdL w (encP ms[k].p) B) := o0
      have HAL := hid hAz
      have HBL := hid hBz
      have HCS := hid hCS
      have HCL : Hid (k * 18 + 18 ≤ CS.length) := by show _ ≤ _; rw [hCl]; omega
      have HKN := hid hlt
      have HZ0 := hid z0
      have X1_ := hid (range_below r1 hB)
      have HTK : Hid ((ms.take k).map Mn.p ++ [ms[k].p] = (ms.take (k + 1)).map Mn.p) := by show _ = _; rw [List.take_succ_eq_append_getElem hkc, List.map_append]; rfl
      have i1 : (0 : Int) ≤ (k : Int) := by omega
      have i2 : (k : Int) < (l3 : Int) := by omega
      clear hB hat hrd r1 o1 hAz hBz hx0 z0 z1 hu o2 o0 e01 e02 e03 hMk hCS hCl m0
      go_wp2_with (first
        | ((with_reducible show wpList _ _ _ (Oper.mk _ (.load _ _) _ _ _ _ :: _) _ _); refine wpList_load_mid (by rfl) 68 _ (by rfl) g (off + k * 20) (by rfl) A _ X1_.out Tryz.underlying68 rfl ZA.out ?_)
        | ((with_reducible show wpList _ _ _ (Oper.mk _ (.store 68 _ _) _ _ _ _ :: _) _ _); refine wp_st (by rfl) 68 _ _ (by rfl) wr.heap.size 0 _ 68 (.agg A.toArray) A (by rfl) (by rfl) (by rfl) (heap_alloc_new _ _) (by have := HAL.out; simp; omega) ZA.out HAO.out ?_; intro w2 hblk hfr; rw [ovr_all (by rw [HAL.out]; rfl)] at hblk; have XB : Hid (w2.rangeAt wr.heap.size 2 B) := range_tail hblk HZ0.out; have HBW : Hid (Below wr.heap.size wr w2) := new_store hfr; clear hblk hfr)
        | ((with_reducible show wpList _ _ _ (Oper.mk _ (.load _ _) _ _ _ _ :: _) _ _); refine wpList_load_mid (by rfl) 65 _ (by rfl) wr.heap.size 2 (by rfl) B _ XB.out Tryz.underlying65 rfl ZB.out ?_)
        | ((with_reducible show wpList _ _ _ (Oper.mk _ (.store 65 _ _) _ _ _ _ :: _) _ _); refine wp_st (by rfl) 65 _ _ (by rfl) (w.heap.size + 1) (k * 18) CS 65 (.agg B.toArray) B (by rfl) (by rfl) (by rfl) ((HBW.out.block _ (blk_lt HCS.out)).trans HCS.out) (by have := HCL.out; have := HBL.out; omega) ZB.out HBO.out ?_; intro w3 hb3 hf3; have HM3 := hid (HMK.out.store HKN.out rfl CS HCS.out HRB.out hb3); have HB3 : Hid (Below w.heap.size w w3) := below_fr (below_trans HB.out HBW.out HB.out.size) hf3 (by omega); clear hb3 hf3))
      go_roundg (l3 + 1 - (k + 1))
      case rel => exact ⟨k + 1, by omega, rfl, by go_num, by rw [← HTK.out]; exact HM3.out, HB3.out⟩
      case measure => omega
    · obtain rfl : k = l3 := by omega
      have hw : ms.take k = ms := List.take_of_length_le (by have := HN.out; omega)
      rw [hw] at hMk
      have HRD := hid (hMk.rd (by simpa using HN.out) (by have := HZ.out; unfold maxLen; omega) hB)
      clear hMk hB hw
      go_wp2_with fail
      go_ret
      exact ⟨_, rfl, HRD.out, HB.out⟩
set_option maxHeartbeats 8000000 in
theorem patS_any (r : Rl) (u1 u2 u3 u4 u5 : Value) (w : World) (h1 : Rd w (.row 65 18 (r.w.map encP)) u1) (h2 : Rd w (.row 65 18 (r.t.map encP)) u2) (h3 : Rd w (.row 68 20 (r.m.map encM)) u3) (h4 : Rd w (.row 103 3 (r.k.map encK)) u4) (h5 : Rd w (.row 61 6 (r.e.v.map encO)) u5) (hz3 : r.m.length ≤ 100) (part : Int) :
    Calls Tryz.prog 11 #[.agg #[.string r.n, u1, u2, u3, u4, .string r.e.ty, u5], .int .i64 part] w fun e w' => ∃ v, e = .returned v ∧ Rd w' (.row 65 18 ((prt part r).map encP)) v ∧ Below w.heap.size w w' := by
  unfold prt
  by_cases p2 : part = 2
  · subst p2
    rw [if_neg (by decide), if_neg (by decide), if_pos rfl]
    exact patS_two r u1 u2 u3 u4 u5 w h1 h2 h3 h4 h5 hz3
  · have H1 := hid (fun W (hW : Below w.heap.size w W) => h1.later hW)
    have H2 := hid (fun W (hW : Below w.heap.size w W) => h2.later hW)
    obtain ⟨q1, j1, e1, _, _⟩ := rd_row lenP h1
    obtain ⟨q2, j2, e2, _, _⟩ := rd_row lenP h2
    obtain ⟨q3, j3, e3, _, _⟩ := rd_row lenM h3
    obtain ⟨q4, l4, j4, e4⟩ := rd_shape h4
    obtain ⟨q5, l5, j5, e5⟩ := rd_shape h5
    subst e1 e2 e3 e4 e5
    obtain ⟨rn, ws, ns, ms, ks, ⟨ety, vs⟩⟩ := r
    simp only at H1 H2 ⊢
    obtain ⟨l1, hl1⟩ : ∃ l, ws.length = l := ⟨_, rfl⟩
    obtain ⟨l2, hl2⟩ : ∃ l, ns.length = l := ⟨_, rfl⟩
    rw [hl1] at H1 ⊢
    rw [hl2] at H2 ⊢
    generalize ms.length = l3
    have HB : Hid (Below w.heap.size w (w.alloc (.cells #[.string rn, .slice q1 l1 j1, .slice q2 l2 j2, .slice q3 l3 j3, .slice q4 l4 j4, .string ety, .slice q5 l5 j5] 49))) := (Below.refl _ _).alloc (Nat.le_refl _) _
    clear h1 h2 h3 h4 h5 hl1 hl2 hz3
    by_cases p0 : part = 0
    · subst p0
      rw [if_pos rfl]
      go_enter Tryz.func11, Tryz.ntmps11
      go_wp2_with fail
      go_ret
      exact ⟨_, rfl, H1.out _ HB.out, HB.out⟩
    · rw [if_neg p0]
      by_cases p1 : part = 1
      · subst p1
        rw [if_pos rfl]
        go_enter Tryz.func11, Tryz.ntmps11
        go_wp2_with fail
        go_ret
        exact ⟨_, rfl, H2.out _ HB.out, HB.out⟩
      · rw [if_neg p1, if_neg p2]
        have d0 : (part == 0) = false := by simpa using p0
        have d1 : (part == 1) = false := by simpa using p1
        have d2 : (part == 2) = false := by simpa using p2
        have f0 : decide (part = 0) = false := by simpa using p0
        have f1 : decide (part = 1) = false := by simpa using p1
        have f2 : decide (part = 2) = false := by simpa using p2
        go_enter Tryz.func11, Tryz.ntmps11
        go_wp2_with fail
        go_ret
        exact ⟨_, rfl, .nil _ _ none 0 (Nat.zero_le _), HB.out⟩
end Go.Proofs.YthndlfdbmljkhaaGreatDoor.Chk
namespace Go.Proofs.YthndlfdbmljkhaaGreatDoor.Chk
open Go.ChangeShapes Go.WideShapes Go.ChangeAt Go.RowKit Go.Maps
set_option linter.unusedVariables false
set_option linter.unusedSimpArgs false
set_option maxRecDepth 20000
def r0 : Rl := ⟨txt [], [], [], [], [], ⟨txt [], []⟩⟩
def p0 : Pt := ⟨txt [], txt [], cn0, 0, 0⟩
/-- What Takes tells. -/
def tkr (ts : List Tp) (rs : List Rl) (rule part at_ : Int) (x : Ev) (kn : List Ev) : Bool × Int :=
  if bok ts rs ≠ 0 then (false, bok ts rs)
  else if ¬ (0 ≤ rule ∧ rule < (rs.length : Int)) then (false, 2)
  else if ¬ (0 ≤ at_ ∧ at_ < ((prt part (rs.getD rule.toNat r0)).length : Int)) then (false, 2)
  else if evk ts x ≠ 0 then (false, evk ts x)
  else if efs ts kn ≠ 0 then (false, efs ts kn)
  else if knk ts (asq part at_.toNat (rs.getD rule.toNat r0).w) kn ≠ 0 then (false, knk ts (asq part at_.toNat (rs.getD rule.toNat r0).w) kn)
  else (tkb ts (asq part at_.toNat (rs.getD rule.toNat r0).w) x kn ((prt part (rs.getD rule.toNat r0)).getD at_.toNat p0), 0)
theorem wfs_pok {ts : List Tp} : ∀ (l done : List Pt), wfs 0 ts done l = 0 → ∀ k (hk : k < l.length), Pok ts (done ++ l.take k) l[k]
  | [], _, _, k, hk => by simp at hk
  | y :: r, done, h, k, hk => by
    rw [wfs] at h
    split at h
    · rename_i c; exact absurd h c
    · rename_i c
      cases k with
      | zero => simpa using pck_pok (Classical.byContradiction c)
      | succ k =>
        have := wfs_pok r (done ++ [y]) h k (by simpa using hk)
        simpa using this
theorem nfs_pok {ts : List Tp} {ws : List Pt} : ∀ (l : List Pt) (ah : List ByteArray), nfs 0 ts ws ah l = 0 → ∀ p, p ∈ l → Pok ts ws p
  | [], ah, _, p, hp => by cases hp
  | y :: r, ah, h, p, hp => by
    rw [nfs] at h
    split at h
    · rename_i c; exact absurd h c
    · rename_i c
      rcases List.mem_cons.1 hp with rfl | hp
      · exact pck_pok (Classical.byContradiction c)
      · exact nfs_pok r _ h p hp
theorem mfs_pok {ts : List Tp} {ws : List Pt} : ∀ (l : List Mn) (ah : List ByteArray), mfs 0 ts ws ah l = 0 → ∀ m, m ∈ l → Pok ts ws m.p
  | [], ah, _, p, hp => by cases hp
  | y :: r, ah, h, p, hp => by
    rw [mfs] at h
    split at h
    · rename_i c; exact absurd h c
    · rename_i c
      rcases List.mem_cons.1 hp with rfl | hp
      · have h0 : mck ts ws ah p = 0 := Classical.byContradiction c
        unfold mck at h0
        split at h0
        · omega
        · split at h0
          · rename_i d; exact absurd h0 d
          · rename_i d; exact pck_pok (Classical.byContradiction d)
      · exact mfs_pok r _ h p hp
/-- A pattern of a rule that may be, may be among the whens that it is given. -/
theorem rck_pok {ts : List Tp} {r : Rl} (h : rck ts r = 0) {part : Int} {k : Nat} (hk : k < (prt part r).length) : Pok ts (asq part k r.w) (prt part r)[k] := by
  obtain ⟨_, hsz⟩ := rck_ok h
  have hf : frn r.n = 0 := by
    refine Classical.byContradiction fun c => ?_
    unfold rck at h
    rw [if_pos c] at h
    exact c h
  rw [rck_parts ts r hf hsz] at h
  split at h
  · rename_i c; exact absurd h c
  · rename_i c1
    split at h
    · rename_i c; exact absurd h c
    · rename_i c2
      split at h
      · rename_i c; exact absurd h c
      · rename_i c3
        have a1 := wfs_pok r.w [] (Classical.byContradiction c1)
        have a2 := nfs_pok r.t (r.w.map Pt.va) (Classical.byContradiction c2)
        have a3 := mfs_pok r.m (r.w.map Pt.va ++ r.t.map Pt.va) (Classical.byContradiction c3)
        unfold asq
        by_cases p0 : part = 0
        · have e : prt part r = r.w := by unfold prt; rw [if_pos p0]
          rw [if_pos p0]
          simp only [e] at hk ⊢
          simpa using a1 k hk
        · rw [if_neg p0]
          by_cases p1 : part = 1
          · have e : prt part r = r.t := by unfold prt; rw [if_neg p0, if_pos p1]
            simp only [e] at hk ⊢
            exact a2 _ (List.getElem_mem hk)
          · by_cases p2 : part = 2
            · have e : prt part r = r.m.map Mn.p := by unfold prt; rw [if_neg p0, if_neg p1, if_pos p2]
              simp only [e] at hk ⊢
              rw [List.getElem_map]
              exact a3 _ (List.getElem_mem (by simpa using hk))
            · have e : prt part r = [] := by unfold prt; rw [if_neg p0, if_neg p1, if_neg p2]
              rw [e] at hk
              simp at hk
theorem szr_prt {r : Rl} (h : Szr r) {part : Int} {k : Nat} (hk : k < (prt part r).length) : Wsz (prt part r)[k].c := by
  by_cases p0 : part = 0
  · have e : prt part r = r.w := by unfold prt; rw [if_pos p0]
    simp only [e] at hk ⊢
    exact h.w _ (List.getElem_mem hk)
  · by_cases p1 : part = 1
    · have e : prt part r = r.t := by unfold prt; rw [if_neg p0, if_pos p1]
      simp only [e] at hk ⊢
      exact h.t _ (List.getElem_mem hk)
    · by_cases p2 : part = 2
      · have e : prt part r = r.m.map Mn.p := by unfold prt; rw [if_neg p0, if_neg p1, if_pos p2]
        simp only [e] at hk ⊢
        rw [List.getElem_map]
        exact h.m _ (List.getElem_mem (by simpa using hk))
      · have e : prt part r = [] := by unfold prt; rw [if_neg p0, if_neg p1, if_neg p2]
        rw [e] at hk
        simp at hk
theorem wp_bd {P : Program} {ops : Array Oper} {rest : List Oper} {op : Oper} {a : Act} {w : World} {Q : Exit → Act → World → Prop} (hgd : op.guard = none) (t : TypeId) (parts : Array (Nat × Operand)) (ho : op.op = .build t parts) (vals : Array (Nat × Value)) (hp : (parts.map fun x => (x.1, a.eval x.2)) = vals) (v : Value) (hv : ∀ w, (Instr.build t vals).run P w = .ok v w)
    (h : wpList P ops Q rest (a.put op.dst v) w) : wpList P ops Q (op :: rest) a w :=
  wpList_plain hgd fun K hK => by
    unfold Oper.wp execOp
    simp only [ho, Sem.run_bind, hp, hv, Result.andThen_ok, Sem.run_pure]
    exact hK _ _ h
abbrev zSN : List Value := [.slice none 0 0, .int .i64 0, .int .i64 0, .int .i64 0, .int .i64 0, .slice none 0 0, .slice none 0 0, .slice none 0 0]
theorem bd_sn (tp up ap kp : Option Addr) (tn tc un uc an ac kn2 kc : Nat) (xn xt xs xe : Int) (w : World) : (Instr.build 55 #[(0, .slice tp tn tc), (1, .agg #[.int .i64 xn, .int .i64 xt, .int .i64 xs, .int .i64 xe, .slice up un uc]), (2, .slice ap an ac), (3, .slice kp kn2 kc)]).run Tryz.prog w = .ok (.agg #[.slice tp tn tc, .int .i64 xn, .int .i64 xt, .int .i64 xs, .int .i64 xe, .slice up un uc, .slice ap an ac, .slice kp kn2 kc]) w := by kernel_rfl
theorem ent_takes : ∀ args w, (callFunc 15 args).run Tryz.prog w = .ok (.enter 15 args) w := enters_of Tryz.func15 (by kernel_rfl) rfl
/-- The boxes of Takes. -/
structure Tkx (w W : World) (bk ev : List Value) (rb : Nat) (A : List Value) : Prop where
  bx : Bxs w W [(bk, 25), (ev, 30)]
  r : W.heap[rb]? = some (.cells A.toArray 49 (0, 0))
theorem Tkx.next {w W W' : World} {bk ev A : List Value} {rb : Nat} (h : Tkx w W bk ev rb A) (hb : Below W.heap.size W W') : Tkx w W' bk ev rb A := ⟨h.bx.next hb, (hb.block _ (blk_lt h.r)).trans h.r⟩
theorem bok_zero {ts : List Tp} {rs : List Rl} (h : bok ts rs = 0) : tks [] ts = 0 ∧ rks (rck ts) [] rs = 0 := by
  unfold bok bkf at h
  split at h
  · omega
  · split at h
    · rename_i c; exact absurd h c
    · rename_i c1
      split at h
      · rename_i c; exact absurd h c
      · rename_i c2
        exact ⟨Classical.byContradiction c1, Classical.byContradiction c2⟩
set_option maxHeartbeats 16000000 in
theorem takes_bad (ts : List Tp) (rs : List Rl) (hzz : ∀ r, r ∈ rs → Szr r) (tv rv : Value) (rule part at_ : Int) (x : Ev) (u : Value) (kn : List Ev) (kv : Value) (w : World) (hT : Rd w (.row 72 2 (ts.map encY)) tv) (hR : Rd w (.row 49 7 (rs.map encR)) rv) (htk : Tab w 0 kpl) (htr : Tab w 1 rll) (hu : Rd w (.row 59 3 (x.v.map encV)) u) (hK : Rd w (.row 30 5 (kn.map encX)) kv) (hb : bok ts rs ≠ 0) : Calls Tryz.prog 5 #[.agg #[tv, rv], .int .i64 rule, .int .i64 part, .int .i64 at_, evV x u, kv] w fun e w' => e = .returned (.tuple #[.bool (false), .int .i64 (bok ts rs)]) ∧ Below w.heap.size w w' := by
  have HCH := hid (fun W (hW : Below w.heap.size w W) => check_any ts rs hzz tv rv W (hT.later hW) (hR.later hW) (tab_later htk hW) (tab_later htr hW))
  obtain ⟨tp, tc, htv, _, _⟩ := rd_row lenY hT
  obtain ⟨rp, rc, hrv, hmr, _⟩ := rd_row lenR hR
  obtain ⟨up, un, uc, huv⟩ := rd_shape hu
  obtain ⟨kp, kn2, kc, hkv⟩ := rd_shape hK
  obtain ⟨E0, hE0⟩ : ∃ E, bok ts rs = E := ⟨_, rfl⟩
  rw [hE0] at HCH hb ⊢
  subst htv hrv huv hkv
  obtain ⟨xn, xt, xs, xe, xv⟩ := x
  simp only [evV] at *
  generalize ts.length = tn at *
  generalize rs.length = rn at *
  have hB : Bxs w ((w.alloc (.cells #[.slice tp tn tc, .slice rp rn rc] 25)).alloc (.cells #[.int .i64 xn, .int .i64 xt, .int .i64 xs, .int .i64 xe, .slice up un uc] 30)) [([.slice tp tn tc, .slice rp rn rc], 25), ([.int .i64 xn, .int .i64 xt, .int .i64 xs, .int .i64 xe, .slice up un uc], 30)] := bxs2 w _ _ _ _
  have HB := hid hB
  have d9 : (E0 != 0) = true := by simpa using hb
  clear hT hR htk htr hu hK hzz hE0 hb hB hmr
  go_enter Tryz.func5, Tryz.ntmps5
  go_wp2_with fail
  refine (HCH.out _ HB.out.bel).mono ?_
  rintro e w1 ⟨rfl, hb1⟩
  have HB1 := hid (HB.out.next hb1)
  clear hb1
  go_wp2_with fail
  go_ret2
  exact ⟨rfl, HB1.out.bel⟩
set_option maxHeartbeats 16000000 in
theorem takes_off (ts : List Tp) (rs : List Rl) (hzz : ∀ r, r ∈ rs → Szr r) (tv rv : Value) (rule part at_ : Int) (x : Ev) (u : Value) (kn : List Ev) (kv : Value) (w : World) (hT : Rd w (.row 72 2 (ts.map encY)) tv) (hR : Rd w (.row 49 7 (rs.map encR)) rv) (htk : Tab w 0 kpl) (htr : Tab w 1 rll) (hu : Rd w (.row 59 3 (x.v.map encV)) u) (hK : Rd w (.row 30 5 (kn.map encX)) kv) (hb : bok ts rs = 0) (hr : ¬ (0 ≤ rule ∧ rule < (rs.length : Int))) : Calls Tryz.prog 5 #[.agg #[tv, rv], .int .i64 rule, .int .i64 part, .int .i64 at_, evV x u, kv] w fun e w' => e = .returned (.tuple #[.bool (false), .int .i64 (2)]) ∧ Below w.heap.size w w' := by
  have HCH := hid (fun W (hW : Below w.heap.size w W) => check_any ts rs hzz tv rv W (hT.later hW) (hR.later hW) (tab_later htk hW) (tab_later htr hW))
  obtain ⟨tp, tc, htv, _, _⟩ := rd_row lenY hT
  obtain ⟨rp, rc, hrv, hmr, _⟩ := rd_row lenR hR
  obtain ⟨up, un, uc, huv⟩ := rd_shape hu
  obtain ⟨kp, kn2, kc, hkv⟩ := rd_shape hK
  rw [hb] at HCH
  subst htv hrv huv hkv
  obtain ⟨xn, xt, xs, xe, xv⟩ := x
  simp only [evV] at *
  generalize ts.length = tn at *
  generalize rs.length = rn at *
  have hB : Bxs w ((w.alloc (.cells #[.slice tp tn tc, .slice rp rn rc] 25)).alloc (.cells #[.int .i64 xn, .int .i64 xt, .int .i64 xs, .int .i64 xe, .slice up un uc] 30)) [([.slice tp tn tc, .slice rp rn rc], 25), ([.int .i64 xn, .int .i64 xt, .int .i64 xs, .int .i64 xe, .slice up un uc], 30)] := bxs2 w _ _ _ _
  have HB := hid hB
  clear hT hR htk htr hu hK hzz hb hB hmr
  by_cases h0 : rule < 0
  · have d1 : decide (rule < 0) = true := by simpa using h0
    clear hr
    go_enter Tryz.func5, Tryz.ntmps5
    go_wp2_with fail
    refine (HCH.out _ HB.out.bel).mono ?_
    rintro e w1 ⟨rfl, hb1⟩
    have HB1 := hid (HB.out.next hb1)
    clear hb1
    go_wp2_with fail
    go_ret2
    exact ⟨rfl, HB1.out.bel⟩
  · have d1 : decide (rule < 0) = false := by simpa using h0
    have h1 : (rn : Int) ≤ rule := by omega
    have d2 : decide (rule ≥ (rn : Int)) = true := by simpa using h1
    clear hr
    go_enter Tryz.func5, Tryz.ntmps5
    go_wp2_with fail
    refine (HCH.out _ HB.out.bel).mono ?_
    rintro e w1 ⟨rfl, hb1⟩
    have HB1 := hid (HB.out.next hb1)
    have c1 : w1.cell? ⟨w.heap.size, 1, none⟩ = some (.slice rp rn rc) := HB1.out.c 0 (by simp) 1
    clear hb1
    go_wp2_with fail
    go_ret2
    exact ⟨rfl, HB1.out.bel⟩
set_option maxHeartbeats 64000000 in
theorem takes_main (ts : List Tp) (rs : List Rl) (hzz : ∀ r, r ∈ rs → Szr r) (tv rv : Value) (rule part at_ : Int) (x : Ev) (u : Value) (kn : List Ev) (kv : Value) (w : World) (hT : Rd w (.row 72 2 (ts.map encY)) tv) (hR : Rd w (.row 49 7 (rs.map encR)) rv) (htk : Tab w 0 kpl) (htr : Tab w 1 rll) (hu : Rd w (.row 59 3 (x.v.map encV)) u) (hK : Rd w (.row 30 5 (kn.map encX)) kv) (hb : bok ts rs = 0) (k : Nat) (hk : k < rs.length) (hr : rule = (k : Int)) (R : Bool × Int) (hRR : tkr ts rs rule part at_ x kn = R) : Calls Tryz.prog 5 #[.agg #[tv, rv], .int .i64 rule, .int .i64 part, .int .i64 at_, evV x u, kv] w fun e w' => e = .returned (.tuple #[.bool (R.1), .int .i64 (R.2)]) ∧ Below w.heap.size w w' := by
  obtain ⟨hts, hrs⟩ := bok_zero hb
  have hty : ∀ i (hi : i < ts.length), tyk ts[i].n ts[i].f = 0 := fun i hi => tks_all ts [] hts _ (List.getElem_mem hi)
  have hrk := rks_all rs [] hrs _ (List.getElem_mem hk)
  have hds := dst_of hts
  have hszr := hzz _ (List.getElem_mem hk)
  have hgd : rs.getD rule.toNat r0 = rs[k] := by rw [hr, Int.toNat_natCast]; exact getD_lt hk _
  unfold tkr at hRR
  rw [if_neg (fun c => c hb), if_neg (fun c => c (by omega)), hgd] at hRR
  subst hr
  have HCH := hid (fun W (hW : Below w.heap.size w W) => check_any ts rs hzz tv rv W (hT.later hW) (hR.later hW) (tab_later htk hW) (tab_later htr hW))
  obtain ⟨tp, tc, htv, _, _⟩ := rd_row lenY hT
  obtain ⟨rp, rc, hrv, hmr, _⟩ := rd_row lenR hR
  obtain ⟨up, un, uc, huv⟩ := rd_shape hu
  obtain ⟨kp, kn2, kc, hkv⟩ := rd_shape hK
  rw [hb] at HCH
  obtain ⟨g, off, A, hrg, hA⟩ : ∃ g off A, rp = some ⟨g, off, none⟩ ∧ (∀ W, Below w.heap.size w W → W.rangeAt g (off + k * 7) A) ∧ RdL w (encR rs[k]) A := by
    obtain ⟨p, cap, e0, _, hat⟩ := rd_row lenR hR
    obtain ⟨g, off, rfl, hrd⟩ := hat (by omega)
    obtain ⟨A, r1, o1⟩ := hrd w (Below.refl _ _) k hk
    rw [hrv] at e0
    simp only [Value.slice.injEq] at e0
    exact ⟨g, off, A, e0.1, fun W hW => range_below r1 hW, o1⟩
  obtain ⟨v1, v2, v3, v4, v5, z1, o1, o2, o3, o4, o5⟩ := rdR hA.2
  obtain ⟨a1, a2, a3, hu1⟩ := rd_shape o1
  obtain ⟨b1, b2, b3, hu2⟩ := rd_shape o2
  obtain ⟨d1, d2, d3, hu3⟩ := rd_shape o3
  obtain ⟨f1, f2, f3, hu4⟩ := rd_shape o4
  obtain ⟨g1, g2, g3, hu5⟩ := rd_shape o5
  have hAz : A.length = 7 := hA.2.1.symm
  have HAO : Hid (A.all (·.oneCell') = true) := by show _ = _; rw [z1, hu1, hu2, hu3, hu4, hu5]; rfl
  have ZA : Hid ((Tryz.prog.info? 49).map (·.size) = some A.length) := by show _ = _; rw [hAz]; kernel_rfl
  have HAL := hid hAz
  have hm100 : rs[k].m.length ≤ 100 := by have h := (rck_ok hrk).2; unfold szs at h; omega
  have HPT : Hid (∀ W, Below w.heap.size w W → Calls Tryz.prog 11 #[.agg A.toArray, .int .i64 part] W fun e w' => ∃ v, e = .returned v ∧ Rd w' (.row 65 18 ((prt part rs[k]).map encP)) v ∧ Below W.heap.size W w') := fun W hW => by
    rw [z1]
    exact patS_any rs[k] v1 v2 v3 v4 v5 W (o1.later hW) (o2.later hW) (o3.later hW) (o4.later hW) (o5.later hW) hm100 part
  have HAS0 : Hid (∀ (j : Nat), (part = 0 → j ≤ rs[k].w.length) → ∀ W, Below w.heap.size w W → Calls Tryz.prog 13 #[.agg A.toArray, .int .i64 part, .int .i64 (j : Nat)] W fun e w' => ∃ v, e = .returned v ∧ Rd w (.row 65 18 ((asq part j rs[k].w).map encP)) v ∧ Below W.heap.size W w') := fun j hj W hW => by
    rw [z1]
    exact (asked_s rs[k] v1 v2 v3 v4 v5 W (o1.later hW) (o2.later hW) (o3.later hW) (o4.later hW) (o5.later hW) part j j (fun h => ⟨rfl, hj h⟩)).mono fun e w' ⟨v, e1, e2, e3⟩ => ⟨v, e1, e2 w o1, e3⟩
  have HCE := hid (fun W (hW : Below w.heap.size w W) => checkEvents_s ts x kn tv u kv W (hT.later hW) (hu.later hW) (hK.later hW))
  have HCK0 := hid (fun (j : Nat) (av : Value) (hev : ∀ y, y ∈ kn → evk ts y = 0) (ha : Rd w (.row 65 18 ((asq part j rs[k].w).map encP)) av) W (hW : Below w.heap.size w W) => checkKnown_s ts (asq part j rs[k].w) kn tv av kv hev W (hT.later hW) (ha.later hW) (hK.later hW))
  have HTA0 := hid (fun (j : Nat) (hj : j < (prt part rs[k]).length) (av : Value) (hx : evk ts x = 0) (hkn : Kok ts (asq part j rs[k].w) kn) (ha : Rd w (.row 65 18 ((asq part j rs[k].w).map encP)) av) W (hW : Below w.heap.size w W) (PA : List Value) (hPA : RdL W (encP (prt part rs[k])[j]) PA) => takes_s ts (asq part j rs[k].w) x kn tv u av kv ⟨hty, hx, hkn⟩ hds (prt part rs[k])[j] (rck_pok hrk hj) (szr_prt hszr hj) PA W ⟨hT.later hW, hu.later hW, ha.later hW, hK.later hW⟩ hPA)
  obtain ⟨E1, hE1⟩ : ∃ E, (if evk ts x ≠ 0 then evk ts x else efs ts kn) = E := ⟨_, rfl⟩
  have hz1 : E1 = 0 → evk ts x = 0 ∧ efs ts kn = 0 := fun h => by
    rw [h] at hE1
    split at hE1
    · rename_i c; exact absurd hE1 c
    · rename_i c; exact ⟨Classical.byContradiction c, hE1⟩
  have hz2 : ∀ c : Bool × Int, (if evk ts x ≠ 0 then (false, evk ts x) else if efs ts kn ≠ 0 then (false, efs ts kn) else c) = if E1 ≠ 0 then (false, E1) else c := fun c => by
    by_cases h1 : evk ts x = 0
    · rw [if_neg (fun d => d h1)] at hE1 ⊢
      rw [hE1]
    · rw [if_pos h1] at hE1 ⊢
      rw [← hE1, if_pos h1]
  rw [hE1] at HCE
  rw [hz2] at hRR
  have HZ1 := hid (fun h => And.intro (hz1 h).1 (efs_all kn (hz1 h).2))
  have HDS := hid hds
  have HRR := hid hRR
  clear hE1 hz1 hz2
  have HXR := hid hA.1
  clear o1 o2 o3 o4 o5 hu1 hu2 hu3 hu4 hu5 z1 hAz hm100 hA hgd hszr hrk hty hts hrs hb hds hRR
  subst htv huv hkv
  rw [hrg] at hrv
  subst hrv
  obtain ⟨xn, xt, xs, xe, xv⟩ := x
  simp only [evV, snV] at HCE HCK0 HTA0 HCH HZ1 ⊢
  obtain ⟨tn, htn⟩ : ∃ n, ts.length = n := ⟨_, rfl⟩
  obtain ⟨rn, hrn⟩ : ∃ n, rs.length = n := ⟨_, rfl⟩
  rw [htn] at HCH HCE HCK0 HTA0 ⊢
  rw [hrn] at HCH hk ⊢
  have hB : Bxs w ((w.alloc (.cells #[.slice tp tn tc, .slice (some ⟨g, off, none⟩) rn rc] 25)).alloc (.cells #[.int .i64 xn, .int .i64 xt, .int .i64 xs, .int .i64 xe, .slice up un uc] 30)) [([.slice tp tn tc, .slice (some ⟨g, off, none⟩) rn rc], 25), ([.int .i64 xn, .int .i64 xt, .int .i64 xs, .int .i64 xe, .slice up un uc], 30)] := bxs2 w _ _ _ _
  have HB := hid hB
  have i1 : (0 : Int) ≤ (k : Int) := by omega
  have i2 : (k : Int) < (rn : Int) := by omega
  have y1 : decide ((k : Int) < 0) = false := by simp
  have y2 : decide ((k : Int) ≥ (rn : Int)) = false := by simp; omega
  clear hT hR htk htr hu hK hzz hB hmr htn hrn hrg
  go_enter Tryz.func5, Tryz.ntmps5
  go_wp2_with fail
  refine (HCH.out _ HB.out.bel).mono ?_
  rintro e w1 ⟨rfl, hb1⟩
  have HB1 := hid (HB.out.next hb1)
  have c0 : w1.cell? ⟨w.heap.size, 0, none⟩ = some (.slice tp tn tc) := HB1.out.c 0 (by simp) 0
  have c1 : w1.cell? ⟨w.heap.size, 1, none⟩ = some (.slice (some ⟨g, off, none⟩) rn rc) := HB1.out.c 0 (by simp) 1
  have X1_ := hid (HXR.out w1 HB1.out.bel)
  clear hb1 HCH HB
  go_wp2_with (first
    | ((with_reducible show wpList _ _ _ (Oper.mk _ (.load _ _) _ _ _ _ :: _) _ _); refine wpList_load_mid (by rfl) 49 _ (by rfl) g (off + k * 7) (by rfl) A _ X1_.out Tryz.underlying49 rfl ZA.out ?_)
    | ((with_reducible show wpList _ _ _ (Oper.mk _ (.store _ _ _) _ _ _ _ :: _) _ _); refine wp_st (by rfl) 49 _ _ (by rfl) w1.heap.size 0 _ 49 (.agg A.toArray) A (by rfl) (by rfl) (by rfl) (heap_alloc_new _ _) (by have := HAL.out; simp; omega) ZA.out HAO.out ?_; intro w2 hblk hfr; rw [ovr_all (by rw [HAL.out]; rfl)] at hblk; have XB : Hid (w2.rangeAt w1.heap.size 0 A) := range_blk hblk; have HBW : Hid (Below w1.heap.size w1 w2) := new_store hfr; have HX2 : Hid (Tkx w w2 [.slice tp tn tc, .slice (some ⟨g, off, none⟩) rn rc] [.int .i64 xn, .int .i64 xt, .int .i64 xs, .int .i64 xe, .slice up un uc] w1.heap.size A) := ⟨HB1.out.next HBW.out, hblk⟩; clear hblk hfr)
    | ((with_reducible show wpList _ _ _ (Oper.mk _ (.load _ _) _ _ _ _ :: _) _ _); refine wpList_load_mid (by rfl) 49 _ (by rfl) w1.heap.size 0 (by rfl) A _ XB.out Tryz.underlying49 rfl ZA.out ?_))
  refine (HPT.out _ HX2.out.bx.bel).mono ?_
  rintro e w3 ⟨pv, rfl, hrd3, hb3⟩
  obtain ⟨pp, pc, rfl, hpx, hat3⟩ := rd_row lenP hrd3
  have HX3 := hid (HX2.out.next hb3)
  obtain ⟨rb, hrb⟩ : ∃ rb, w1.heap.size = rb := ⟨_, rfl⟩
  rw [hrb] at HX3
  have HAT3 := hid hat3
  obtain ⟨np, hnp⟩ : ∃ np, (prt part rs[k]).length = np := ⟨_, rfl⟩
  have HNP := hid hnp
  rw [hnp] at hpx HRR ⊢
  rw [hrb]
  clear hrd3 hb3 hat3 hnp hrb c0 c1 X1_ HPT XB HBW HX2 HB1
  by_cases hat : 0 ≤ at_ ∧ at_ < (np : Int)
  · obtain ⟨j, rfl⟩ : ∃ j : Nat, at_ = (j : Int) := ⟨at_.toNat, by omega⟩
    have hjn : j < np := by omega
    have hjl : j < (prt part rs[k]).length := by rw [HNP.out]; exact hjn
    have HR1 := HRR.out
    rw [if_neg (fun c => c hat)] at HR1
    have HR2 := hid HR1
    have z1 : decide ((j : Int) < 0) = false := by simp
    have z2 : decide ((j : Int) ≥ (np : Int)) = false := by simp; omega
    have i3 : (0 : Int) ≤ (j : Int) := by omega
    have i4 : (j : Int) < (np : Int) := by omega
    have c0 : w3.cell? ⟨w.heap.size, 0, none⟩ = some (.slice tp tn tc) := HX3.out.bx.c 0 (by simp) 0
    have XX := hid (HX3.out.bx.r 1 (by simp))
    clear HR1 hat HRR
    go_wp2_with ((with_reducible show wpList _ _ _ (Oper.mk _ (.load _ _) _ _ _ _ :: _) _ _); refine wpList_load_mid (by rfl) 30 _ (by rfl) (w.heap.size + 1) 0 (by rfl) [.int .i64 xn, .int .i64 xt, .int .i64 xs, .int .i64 xe, .slice up un uc] _ XX.out Tryz.underlying30 rfl (by kernel_rfl) ?_)
    refine (HCE.out _ HX3.out.bx.bel).mono ?_
    rintro e w4 ⟨rfl, hb4⟩
    have HX4 := hid (HX3.out.next hb4)
    have HB34 := hid hb4
    clear hb4 c0 XX HCE
    obtain ⟨K2, hK2⟩ : ∃ K, knk ts (asq part j rs[k].w) kn = K := ⟨_, rfl⟩
    obtain ⟨t2, ht2⟩ : ∃ t, tkb ts (asq part j rs[k].w) ⟨xn, xt, xs, xe, xv⟩ kn (prt part rs[k])[j] = t := ⟨_, rfl⟩
    have hR5 := HR2.out
    rw [Int.toNat_natCast, getD_lt hjl, hK2, ht2] at hR5
    have HR5 := hid hR5
    clear HR2 hR5
    by_cases hz : E1 = 0
    · obtain ⟨hx0, hkn0⟩ := HZ1.out hz
      have HR6 := HR5.out
      rw [if_neg (fun c => c hz)] at HR6
      have HR7 := hid HR6
      subst hz
      have HAS := hid (HAS0.out j (fun h => by
        have e : prt part rs[k] = rs[k].w := by unfold prt; rw [if_pos h]
        rw [e] at hjl
        omega))
      have HCK1 := hid (fun av => HCK0.out j av hkn0)
      have HTA1 := hid (fun av (h : K2 = 0) => HTA0.out j hjl av hx0 (knk_ok HDS.out (hK2.trans h) hkn0))
      rw [hK2] at HCK1
      rw [ht2] at HTA1
      have XR4 := hid (range_blk HX4.out.r)
      clear HR6 HR5 HAS0 HCK0 HTA0 HZ1 hK2 ht2 hx0 hkn0
      go_wp2_with ((with_reducible show wpList _ _ _ (Oper.mk _ (.load _ _) _ _ _ _ :: _) _ _); refine wpList_load_mid (by rfl) 49 _ (by rfl) rb 0 (by rfl) A _ XR4.out Tryz.underlying49 rfl ZA.out ?_)
      refine (HAS.out _ HX4.out.bx.bel).mono ?_
      rintro e w5 ⟨av, rfl, hrd5, hb5⟩
      obtain ⟨ap, an, ac, rfl⟩ := rd_shape hrd5
      have HRD5 := hid hrd5
      have HX5 := hid (HX4.out.next hb5)
      have HB35 := hid (below_trans HB34.out hb5 HB34.out.size)
      have c0 : w5.cell? ⟨w.heap.size, 0, none⟩ = some (.slice tp tn tc) := HX5.out.bx.c 0 (by simp) 0
      have HCK := hid (HCK1.out _ hrd5)
      have HTA2 := hid (fun h => HTA1.out _ h hrd5)
      clear hrd5 hb5 XR4 HAS HCK1 HTA1
      go_wp2_with fail
      refine (HCK.out _ HX5.out.bx.bel).mono ?_
      rintro e w6 ⟨rfl, hb6⟩
      have HX6 := hid (HX5.out.next hb6)
      have HB36 := hid (below_trans HB35.out hb6 HB35.out.size)
      clear hb6 c0 HCK
      by_cases hz2 : K2 = 0
      · have HRT : Hid (R = (t2, 0)) := by have h := HR7.out; rw [if_neg (fun c => c hz2)] at h; exact h.symm
        have hTA3 := HTA2.out hz2
        subst hz2
        obtain ⟨UL, hUL⟩ : ∃ UL : List Value, [.slice tp tn tc, .int .i64 xn, .int .i64 xt, .int .i64 xs, .int .i64 xe, .slice up un uc, .slice ap an ac, .slice kp kn2 kc] = UL := ⟨_, rfl⟩
        have hsv : (Value.agg #[.slice tp tn tc, .int .i64 xn, .int .i64 xt, .int .i64 xs, .int .i64 xe, .slice up un uc, .slice ap an ac, .slice kp kn2 kc]) = .agg UL.toArray := by rw [← hUL]
        rw [hsv] at hTA3
        have ZU : Hid ((Tryz.prog.info? 55).map (·.size) = some UL.length) := by show _ = _; rw [← hUL]; kernel_rfl
        have hUO : UL.all (·.oneCell') = true := by rw [← hUL]; rfl
        have HUO := hid hUO
        have HUZ : Hid (UL.length = 8) := by show _ = _; rw [← hUL]; rfl
        have HBD : Hid (∀ w, (Instr.build 55 #[(0, .slice tp tn tc), (1, .agg #[.int .i64 xn, .int .i64 xt, .int .i64 xs, .int .i64 xe, .slice up un uc]), (2, .slice ap an ac), (3, .slice kp kn2 kc)]).run Tryz.prog w = .ok (.agg UL.toArray) w) := fun w => by rw [← hsv]; exact bd_sn _ _ _ _ _ _ _ _ _ _ _ _ _ _ _ _ w
        have c0 : w6.cell? ⟨w.heap.size, 0, none⟩ = some (.slice tp tn tc) := HX6.out.bx.c 0 (by simp) 0
        have XX := hid (HX6.out.bx.r 1 (by simp))
        obtain ⟨g3, off3, e13, hrd3⟩ := HAT3.out (by omega)
        have HRD3 := hid hrd3
        subst e13
        have HTA3 := hid hTA3
        clear hUL hsv hUO hTA3 hrd3 HTA2 HR7
        go_wp2_with (first
          | ((with_reducible show wpList _ _ _ (Oper.mk _ (.load _ _) _ _ _ _ :: _) _ _); refine wpList_load_mid (by rfl) 30 _ (by rfl) (w.heap.size + 1) 0 (by rfl) [.int .i64 xn, .int .i64 xt, .int .i64 xs, .int .i64 xe, .slice up un uc] _ XX.out Tryz.underlying30 rfl (by kernel_rfl) ?_)
          | ((with_reducible show wpList _ _ _ (Oper.mk _ (.build _ _) _ _ _ _ :: _) _ _); refine wp_bd (by rfl) 55 _ (by rfl) #[(0, .slice tp tn tc), (1, .agg #[.int .i64 xn, .int .i64 xt, .int .i64 xs, .int .i64 xe, .slice up un uc]), (2, .slice ap an ac), (3, .slice kp kn2 kc)] (by simp [Act.eval, Act.put]) _ HBD.out ?_)
          | ((with_reducible show wpList _ _ _ (Oper.mk _ (.store _ _ _) _ _ _ _ :: _) _ _); refine wp_st (by rfl) 55 _ _ (by rfl) w6.heap.size 0 zSN 55 (.agg UL.toArray) UL (by rfl) (by rfl) (by rfl) (heap_alloc_new _ _) (by have := HUZ.out; simp; omega) ZU.out HUO.out ?_; intro w7 hblk hfr; rw [ovr_all (by rw [HUZ.out]; rfl)] at hblk; have XU7 : Hid (w7.rangeAt w6.heap.size 0 UL) := range_blk hblk; have HB67 : Hid (Below w6.heap.size w6 w7) := new_store hfr; clear hblk hfr))
        have HX7 := hid (HX6.out.next HB67.out)
        obtain ⟨PA, r3, o3⟩ := HRD3.out w7 (below_trans HB36.out HB67.out HB36.out.size) j hjl
        have hPz : PA.length = 18 := o3.1.symm
        have ZP : Hid ((Tryz.prog.info? 65).map (·.size) = some PA.length) := by show _ = _; rw [hPz]; kernel_rfl
        have XP7 := hid r3
        have HTA := hid (fun W (hW : Below w7.heap.size w7 W) => HTA3.out W (below_trans HX7.out.bx.bel hW HX7.out.bx.bel.size) PA (o3.below hW))
        obtain ⟨sb, hsb⟩ : ∃ sb, w6.heap.size = sb := ⟨_, rfl⟩
        rw [hsb] at XU7 ⊢
        clear r3 o3 hPz HTA3 HRD3 c0 XX hsb
        go_wp2_with fail
        refine start_n (S := (fun w' => w'.rangeAt sb 0 UL ∧ w'.rangeAt g3 (off3 + j * 18) PA)) 8 #[false, false, false, false, false, false, false, false] rfl rfl (by kernel_rfl) (⟨range_below XU7.out (Below.drew (Below.refl _ _)), range_below XP7.out (Below.drew (Below.refl _ _))⟩) (fun hHeld => ?_)
        refine take_mk (i := 1) (v := ?v1) rfl (by kernel_rfl) (by kernel_rfl) (by kernel_rfl) (fun _ _ _ h => h) (Or.inl ⟨by rfl, ?hy1⟩) (by assumption) ?rest1
        case hy1 => (intro w0 hSw; (try dsimp only at hSw); go_simp <;> (try (with_reducible rfl)))
        (try simp only [Act.put, List.setIfInBounds_toArray, List.set_cons_zero, List.set_cons_succ])
        refine take_mk (i := 2) (v := ?v2) rfl (by kernel_rfl) (by kernel_rfl) (by kernel_rfl) (fun _ _ _ h => h) (Or.inl ⟨by rfl, ?hy2⟩) (by assumption) ?rest2
        case hy2 => (intro w0 hSw; (try dsimp only at hSw); go_simp <;> (try (with_reducible rfl)))
        (try simp only [Act.put, List.setIfInBounds_toArray, List.set_cons_zero, List.set_cons_succ])
        refine take_mk (i := 3) (v := ?v3) rfl (by kernel_rfl) (by kernel_rfl) (by kernel_rfl) (fun _ _ _ h => h) (Or.inl ⟨by rfl, ?hy3⟩) (by assumption) ?rest3
        case hy3 => (intro w0 hSw; (try dsimp only at hSw); go_simp <;> (try (with_reducible rfl)))
        (try simp only [Act.put, List.setIfInBounds_toArray, List.set_cons_zero, List.set_cons_succ])
        refine take_mk (i := 0) rfl (by kernel_rfl) (by kernel_rfl) (by kernel_rfl) (fun _ _ _ h => h) (yieldsIf_load_mid (by rfl) 55 _ rfl sb (0) (by rfl) UL _ (fun _ h => h.1) Tryz.underlying55 rfl ZU.out) (by assumption) ?_
        (try simp only [Act.put, List.setIfInBounds_toArray, List.set_cons_zero, List.set_cons_succ])
        refine take_mk (i := 4) rfl (by kernel_rfl) (by kernel_rfl) (by kernel_rfl) (fun _ _ _ h => h) (yieldsIf_load_mid (by rfl) 65 _ rfl g3 (off3 + j * 18) (by rfl) PA _ (fun _ h => h.2) Tryz.underlying65 rfl ZP.out) (by assumption) ?_
        (try simp only [Act.put, List.setIfInBounds_toArray, List.set_cons_zero, List.set_cons_succ])
        refine wpAnyH_ready (rs := [5]) (by kernel_rfl) (by simp) ?_
        refine cons_mk rfl (fun K hK => ?_) AllReadyH.nil
        refine step_call2 15 ent_takes (by rfl) _ _ _ (by rfl) (.agg UL.toArray) (.agg PA.toArray) (by rfl) (by rfl) _ (HTA.out _ (Below.drew (Below.refl _ _))) ?_
        rintro e w8 ⟨rfl, hb8⟩
        refine ⟨_, rfl, ?_⟩
        have HB8 : Hid (Below w7.heap.size w7 w8) := below_trans (Below.drew (Below.refl _ _)) hb8 (Nat.le_refl _)
        clear hb8
        refine hK.out _ _ (⟨range_below XU7.out HB8.out, range_below XP7.out HB8.out⟩) (fun hHeld => ?_)
        clear hK K
        (try simp only [Act.put, List.setIfInBounds_toArray, List.set_cons_zero, List.set_cons_succ])
        refine take_mk (i := 6) (v := ?v4) rfl (by kernel_rfl) (by kernel_rfl) (by kernel_rfl) (fun _ _ _ h => h) (Or.inl ⟨by rfl, ?hy4⟩) (by assumption) ?rest4
        case hy4 => (intro w0 hSw; (try dsimp only at hSw); go_simp <;> (try (with_reducible rfl)))
        (try simp only [Act.put, List.setIfInBounds_toArray, List.set_cons_zero, List.set_cons_succ])
        refine take_mk (i := 7) (v := ?v5) rfl (by kernel_rfl) (by kernel_rfl) (by kernel_rfl) (fun _ _ _ h => h) (Or.inl ⟨by rfl, ?hy5⟩) (by assumption) ?rest5
        case hy5 => (intro w0 hSw; (try dsimp only at hSw); go_simp <;> (try (with_reducible rfl)))
        (try simp only [Act.put, List.setIfInBounds_toArray, List.set_cons_zero, List.set_cons_succ])
        refine wpAnyH_done (by kernel_rfl) ?_ _
        go_wp2_with fail
        go_ret2
        exact ⟨by rw [HRT.out]; rfl, below_trans HX7.out.bx.bel HB8.out HX7.out.bx.bel.size⟩
      · have HRT : Hid (R = (false, K2)) := by have h := HR7.out; rw [if_pos hz2] at h; exact h.symm
        have d9 : (K2 != 0) = true := by simpa using hz2
        go_wp2_with fail
        go_ret2
        exact ⟨by rw [HRT.out]; rfl, HX6.out.bx.bel⟩
    · have HRT : Hid (R = (false, E1)) := by have h := HR5.out; rw [if_pos hz] at h; exact h.symm
      have d9 : (E1 != 0) = true := by simpa using hz
      clear HR5
      go_wp2_with fail
      go_ret2
      exact ⟨by rw [HRT.out]; rfl, HX4.out.bx.bel⟩
  · have z0 : Hid (R = (false, 2)) := by have h := HRR.out; rw [if_pos hat] at h; exact h.symm
    by_cases h0 : at_ < 0
    · have d1 : decide (at_ < 0) = true := by simpa using h0
      go_wp2_with fail
      go_ret2
      exact ⟨by rw [z0.out]; rfl, HX3.out.bx.bel⟩
    · have d1 : decide (at_ < 0) = false := by simpa using h0
      have h1 : (np : Int) ≤ at_ := by omega
      have d2 : decide (at_ ≥ (np : Int)) = true := by simpa using h1
      go_wp2_with fail
      go_ret2
      exact ⟨by rw [z0.out]; rfl, HX3.out.bx.bel⟩
/-- Takes, for every book whose names are sized, every event and all known ones. -/
theorem takesP_any (ts : List Tp) (rs : List Rl) (hzz : ∀ r, r ∈ rs → Szr r) (tv rv : Value) (rule part at_ : Int) (x : Ev) (u : Value) (kn : List Ev) (kv : Value) (w : World) (hT : Rd w (.row 72 2 (ts.map encY)) tv) (hR : Rd w (.row 49 7 (rs.map encR)) rv) (htk : Tab w 0 kpl) (htr : Tab w 1 rll) (hu : Rd w (.row 59 3 (x.v.map encV)) u) (hK : Rd w (.row 30 5 (kn.map encX)) kv) : Calls Tryz.prog 5 #[.agg #[tv, rv], .int .i64 rule, .int .i64 part, .int .i64 at_, evV x u, kv] w fun e w' => e = .returned (.tuple #[.bool ((tkr ts rs rule part at_ x kn).1), .int .i64 ((tkr ts rs rule part at_ x kn).2)]) ∧ Below w.heap.size w w' := by
  by_cases hb : bok ts rs = 0
  · by_cases hr : 0 ≤ rule ∧ rule < (rs.length : Int)
    · obtain ⟨k, rfl⟩ : ∃ k : Nat, rule = (k : Int) := ⟨rule.toNat, by omega⟩
      exact takes_main ts rs hzz tv rv k part at_ x u kn kv w hT hR htk htr hu hK hb k (by omega) rfl _ rfl
    · have e : tkr ts rs rule part at_ x kn = (false, 2) := by unfold tkr; rw [if_neg (fun c => c hb), if_pos hr]
      rw [e]
      exact takes_off ts rs hzz tv rv rule part at_ x u kn kv w hT hR htk htr hu hK hb hr
  · have e : tkr ts rs rule part at_ x kn = (false, bok ts rs) := by unfold tkr; rw [if_pos hb]
    rw [e]
    exact takes_bad ts rs hzz tv rv rule part at_ x u kn kv w hT hR htk htr hu hK hb
end Go.Proofs.YthndlfdbmljkhaaGreatDoor.Chk
namespace Go.Proofs.YthndlfdbmljkhaaGreatDoor.Chk
open Go.ChangeShapes Go.WideShapes Go.ChangeAt Go.RowKit Go.Maps
set_option linter.unusedVariables false
set_option linter.unusedSimpArgs false
set_option maxRecDepth 20000
theorem ent_fat : ∀ args w, (callFunc 123 args).run Tryz.prog w = .ok (.enter 123 args) w := enters_of Tryz.func123 (by kernel_rfl) rfl
theorem heap_5 (w : World) (a b c d e : Obj) : (((((w.alloc a).alloc b).alloc c).alloc d).alloc e).heap[w.heap.size + 4]? = some e := by
  have := heap_alloc_new ((((w.alloc a).alloc b).alloc c).alloc d) e
  simpa using this
/-- Boxes of a call, and one more behind them. -/
structure Svx (w W : World) (l : List (List Value × TypeId)) (b : Nat) (el : List Value) (t : TypeId) : Prop where
  bx : Bxs w W l
  e : W.heap[b]? = some (.cells el.toArray t (0, 0))
theorem Svx.next {w W W' : World} {l : List (List Value × TypeId)} {b : Nat} {el : List Value} {t : TypeId} (h : Svx w W l b el t) (hb : Below W.heap.size W W') : Svx w W' l b el t := ⟨h.bx.next hb, (hb.block _ (blk_lt h.e)).trans h.e⟩
theorem Bxs.fr {w0 W W' : World} {l : List (List Value × TypeId)} {b : Nat} (h : Bxs w0 W l) (hf : Fr (fun i => i = b) W W') (hb : w0.heap.size + l.length ≤ b) : Bxs w0 W' l :=
  ⟨below_fr h.bel hf (by omega), fun i hi => (hf.block _ (blk_lt (h.b i hi)) (by omega)).trans (h.b i hi)⟩
set_option maxHeartbeats 32000000 in
theorem sv_own (ts : List Tp) (own : Ev) (kn : List Ev) (tv ov kv : Value) (o : Opd) (w : World) (r : Rl) (u1 u2 u3 u4 u5 : Value) (h1 : Rd w (.row 65 18 (r.w.map encP)) u1) (hs2 : ∃ p n c, u2 = .slice p n c) (hs3 : ∃ p n c, u3 = .slice p n c) (hs4 : ∃ p n c, u4 = .slice p n c) (hs5 : ∃ p n c, u5 = .slice p n c) (hT : Rd w (.row 72 2 (ts.map encY)) tv) (ho : Rd w (.row 59 3 (own.v.map encV)) ov) (hK : Rd w (.row 30 5 (kn.map encX)) kv) (hok : o.k = 2) (hx : evk ts own = 0) (hf : 0 ≤ fdq (ts.getD own.t.toNat dT).f o.fd) : Calls Tryz.prog 81 #[tv, .agg #[.string r.n, u1, u2, u3, u4, .string r.e.ty, u5], evV own ov, kv, opV o] w fun e w' => e = .returned (V4.vV (fvl ts own o.fd)) ∧ Below w.heap.size w w' := by
  have hxu := ho
  obtain ⟨i, hi, e1, m1, m2⟩ := evk_ok hx
  obtain ⟨k, hk, e4, e5, m3, m4⟩ := fvl_ok hx hf
  clear m1 m2 m3 m4
  have et : ts.getD own.t.toNat dT = ts[i] := by rw [e1, Int.toNat_natCast]; exact getD_lt hi _
  rw [et] at e4
  rw [e5]
  obtain ⟨gt, oft, tn, tc, T2, htv, hin, hT2, fv, zT, oT⟩ : ∃ gt oft tn tc T2, tv = .slice (some ⟨gt, oft, none⟩) tn tc ∧ (i : Int) < (tn : Int) ∧ (∀ W, Below w.heap.size w W → W.rangeAt gt (oft + i * 2) T2) ∧ ∃ fv, T2 = [.string ts[i].n, fv] ∧ Rd w (.row 93 2 (ts[i].f.map encF)) fv := by
    obtain ⟨p, cap, rfl, _, hat⟩ := rd_row lenY hT
    obtain ⟨g, off, rfl, hrd⟩ := hat (by omega)
    obtain ⟨A, r1, o1⟩ := hrd w (Below.refl _ _) i hi
    obtain ⟨fv, z1, o2⟩ := rdY o1
    exact ⟨g, off, _, _, A, rfl, by omega, fun W hW => range_below r1 hW, fv, z1, o2⟩
  obtain ⟨g2, off2, un, uc, VC, huv, hkn, hVC, zV⟩ : ∃ g2 off2 un uc VC, ov = .slice (some ⟨g2, off2, none⟩) un uc ∧ (k : Int) < (un : Int) ∧ (∀ W, Below w.heap.size w W → W.rangeAt g2 (off2 + k * 3) VC) ∧ VC = [.int .i64 own.v[k].k, .int .i64 own.v[k].n, .string own.v[k].s] := by
    obtain ⟨p, cap, rfl, _, hat⟩ := rd_row lenV hxu
    obtain ⟨g, off, rfl, hrd⟩ := hat (by omega)
    obtain ⟨A, r1, o1⟩ := hrd w (Below.refl _ _) k hk
    exact ⟨g, off, _, _, A, rfl, by omega, fun W hW => range_below r1 hW, rdV o1⟩
  have hFA := fun W (hW : Below w.heap.size w W) => fieldAt_any ts[i].n ts[i].f fv o.fd W (oT.later hW)
  rw [e4] at hFA
  have HFA : Hid (∀ W, Below w.heap.size w W → Calls Tryz.prog 123 #[.agg T2.toArray, .string o.fd] W fun e w' => e = .returned (.int .i64 (k : Nat)) ∧ Below W.heap.size W w') := fun W hW => by rw [zT]; exact hFA W hW
  have hTz : T2.length = 2 := by rw [zT]; rfl
  have hVz : VC.length = 3 := by rw [zV]; rfl
  have ZT : Hid ((Tryz.prog.info? 72).map (·.size) = some T2.length) := by show _ = _; rw [hTz]; kernel_rfl
  have ZV : Hid ((Tryz.prog.info? 59).map (·.size) = some VC.length) := by show _ = _; rw [hVz]; kernel_rfl
  have HVL := hid hVz
  have HVO : Hid (VC.all (·.oneCell') = true) := by show _ = _; rw [zV]; rfl
  have HVC : Hid (V4.vV own.v[k] = .agg VC.toArray) := by show _ = _; rw [zV]
  obtain ⟨q1, l1, j1, hq1⟩ := rd_shape h1
  obtain ⟨q2, l2, j2, hq2⟩ := hs2
  obtain ⟨q3, l3, j3, hq3⟩ := hs3
  obtain ⟨q4, l4, j4, hq4⟩ := hs4
  obtain ⟨q5, l5, j5, hq5⟩ := hs5
  obtain ⟨kp, kn2, kc, hkv⟩ := rd_shape hK
  subst htv huv hkv hq1 hq2 hq3 hq4 hq5
  obtain ⟨on, ot, ost, oen, ovl⟩ := own
  obtain ⟨ok, ovk, ovi, ovt, ova, ofd⟩ := o
  obtain ⟨rn, ws, ns, ms, ks, ⟨ety, vs⟩⟩ := r
  simp only at e1 hok HFA HVC ⊢
  subst e1 hok
  
  have HS : Hid (∀ W, Svx w W [([.string rn, .slice q1 l1 j1, .slice q2 l2 j2, .slice q3 l3 j3, .slice q4 l4 j4, .string ety, .slice q5 l5 j5], 49), ([.int .i64 on, .int .i64 (i : Nat), .int .i64 ost, .int .i64 oen, .slice (some ⟨g2, off2, none⟩) un uc], 30), ([.int .i64 2, .int .i64 ovk, .int .i64 ovi, .string ovt, .string ova, .string ofd], 61), ([.int .i64 0, .int .i64 0, .string ⟨#[]⟩], 59)] (w.heap.size + 4) [.int .i64 on, .int .i64 (i : Nat), .int .i64 ost, .int .i64 oen, .slice (some ⟨g2, off2, none⟩) un uc] 30 → (W.cell? ⟨w.heap.size + 4, 4, none⟩ = some (.slice (some ⟨g2, off2, none⟩) un uc) ∧ W.cell? ⟨w.heap.size + 4, 1, none⟩ = some (.int .i64 (i : Nat)) ∧ W.cell? ⟨w.heap.size + 1 + 1, 5, none⟩ = some (.string ofd) ∧ W.rangeAt gt (oft + i * 2) T2 ∧ W.rangeAt g2 (off2 + k * 3) VC)) := fun W h => ⟨cell_of_blk h.e 4, cell_of_blk h.e 1, h.bx.c 2 (by simp) 5, hT2 W h.bx.bel, hVC W h.bx.bel⟩
  have HSF : Hid (∀ W W', Svx w W [([.string rn, .slice q1 l1 j1, .slice q2 l2 j2, .slice q3 l3 j3, .slice q4 l4 j4, .string ety, .slice q5 l5 j5], 49), ([.int .i64 on, .int .i64 (i : Nat), .int .i64 ost, .int .i64 oen, .slice (some ⟨g2, off2, none⟩) un uc], 30), ([.int .i64 2, .int .i64 ovk, .int .i64 ovi, .string ovt, .string ova, .string ofd], 61), ([.int .i64 0, .int .i64 0, .string ⟨#[]⟩], 59)] (w.heap.size + 4) [.int .i64 on, .int .i64 (i : Nat), .int .i64 ost, .int .i64 oen, .slice (some ⟨g2, off2, none⟩) un uc] 30 → Fr (fun i => i = w.heap.size + 1 + 1 + 1) W W' → (W'.cell? ⟨w.heap.size + 4, 4, none⟩ = some (.slice (some ⟨g2, off2, none⟩) un uc) ∧ W'.cell? ⟨w.heap.size + 4, 1, none⟩ = some (.int .i64 (i : Nat)) ∧ W'.cell? ⟨w.heap.size + 1 + 1, 5, none⟩ = some (.string ofd) ∧ W'.rangeAt gt (oft + i * 2) T2 ∧ W'.rangeAt g2 (off2 + k * 3) VC)) := fun W W' h hf => by
    have hb : Below w.heap.size w W' := below_fr h.bx.bel hf (by omega)
    have e2 : W'.heap[w.heap.size + 4]? = some (.cells [.int .i64 on, .int .i64 (i : Nat), .int .i64 ost, .int .i64 oen, .slice (some ⟨g2, off2, none⟩) un uc].toArray 30 (0, 0)) := (hf.block _ (blk_lt h.e) (by omega)).trans h.e
    have e3 : W'.heap[w.heap.size + 2]? = some (.cells [.int .i64 2, .int .i64 ovk, .int .i64 ovi, .string ovt, .string ova, .string ofd].toArray 61 (0, 0)) := (hf.block _ (blk_lt (h.bx.b 2 (by simp))) (by omega)).trans (h.bx.b 2 (by simp))
    exact ⟨cell_of_blk e2 4, cell_of_blk e2 1, cell_of_blk e3 5, hT2 W' hb, hVC W' hb⟩
  have hB : Bxs w ((((w.alloc (.cells #[.string rn, .slice q1 l1 j1, .slice q2 l2 j2, .slice q3 l3 j3, .slice q4 l4 j4, .string ety, .slice q5 l5 j5] 49)).alloc (.cells #[.int .i64 on, .int .i64 (i : Nat), .int .i64 ost, .int .i64 oen, .slice (some ⟨g2, off2, none⟩) un uc] 30)).alloc (.cells #[.int .i64 2, .int .i64 ovk, .int .i64 ovi, .string ovt, .string ova, .string ofd] 61)).alloc (.cells #[.int .i64 0, .int .i64 0, .string ⟨#[]⟩] 59)) [([.string rn, .slice q1 l1 j1, .slice q2 l2 j2, .slice q3 l3 j3, .slice q4 l4 j4, .string ety, .slice q5 l5 j5], 49), ([.int .i64 on, .int .i64 (i : Nat), .int .i64 ost, .int .i64 oen, .slice (some ⟨g2, off2, none⟩) un uc], 30), ([.int .i64 2, .int .i64 ovk, .int .i64 ovi, .string ovt, .string ova, .string ofd], 61), ([.int .i64 0, .int .i64 0, .string ⟨#[]⟩], 59)] := bxs4 w _ _ _ _ _ _ _ _
  have HB := hid hB
  have XO := hid (hB.r 1 (by simp))
  have HBA := hid (fun o => hB.next ((Below.refl _ _).alloc (Nat.le_refl _) o))
  have HNB := hid (fun a b c d o => heap_5 w a b c d o)
  have y1 : (0 : Int) ≤ (i : Int) := by omega
  have y3 : (0 : Int) ≤ (k : Int) := by omega
  rw [HVC.out]
  clear HVC
  clear hB h1 hT ho hK hxu hx hf e4 e5 et hT2 hVC zT zV hFA oT hTz hVz hi hk
  go_enter Tryz.func81, Tryz.ntmps81
  go_wp2_with (first
    | ((with_reducible show wpList _ _ _ (Oper.mk _ (.load _ _) _ _ _ _ :: _) _ _); refine wpList_load_mid (by rfl) 30 _ (by rfl) (w.heap.size + 1) 0 (by rfl) [.int .i64 on, .int .i64 (i : Nat), .int .i64 ost, .int .i64 oen, .slice (some ⟨g2, off2, none⟩) un uc] _ XO.out Tryz.underlying30 rfl (by kernel_rfl) ?_)
    | ((with_reducible show wpList _ _ _ (Oper.mk _ (.store 30 _ _) _ _ _ _ :: _) _ _); refine wp_st (by rfl) 30 _ _ (by rfl) (w.heap.size + 4) 0 _ 30 (.agg #[.int .i64 on, .int .i64 (i : Nat), .int .i64 ost, .int .i64 oen, .slice (some ⟨g2, off2, none⟩) un uc]) [.int .i64 on, .int .i64 (i : Nat), .int .i64 ost, .int .i64 oen, .slice (some ⟨g2, off2, none⟩) un uc] (by rfl) (by rfl) (by rfl) (HNB.out _ _ _ _ _) (by simp) (by kernel_rfl) (by rfl) ?_; intro w4 hblk hfr; have HX4 : Hid (Svx w w4 [([.string rn, .slice q1 l1 j1, .slice q2 l2 j2, .slice q3 l3 j3, .slice q4 l4 j4, .string ety, .slice q5 l5 j5], 49), ([.int .i64 on, .int .i64 (i : Nat), .int .i64 ost, .int .i64 oen, .slice (some ⟨g2, off2, none⟩) un uc], 30), ([.int .i64 2, .int .i64 ovk, .int .i64 ovi, .string ovt, .string ova, .string ofd], 61), ([.int .i64 0, .int .i64 0, .string ⟨#[]⟩], 59)] (w.heap.size + 4) [.int .i64 on, .int .i64 (i : Nat), .int .i64 ost, .int .i64 oen, .slice (some ⟨g2, off2, none⟩) un uc] 30) := ⟨(HBA.out _).fr hfr (by simp), hblk⟩; have cK : w4.cell? ⟨w.heap.size + 1 + 1, 0, none⟩ = some (.int .i64 2) := HX4.out.bx.c 2 (by simp) 0; clear hblk hfr))
  have HXD := hid (HX4.out.next (Below.drew (Below.refl _ _)))
  go_wp2_with fail
  refine start_n (S := (fun w' => w'.cell? ⟨w.heap.size + 4, 4, none⟩ = some (.slice (some ⟨g2, off2, none⟩) un uc) ∧ w'.cell? ⟨w.heap.size + 4, 1, none⟩ = some (.int .i64 (i : Nat)) ∧ w'.cell? ⟨w.heap.size + 1 + 1, 5, none⟩ = some (.string ofd) ∧ w'.rangeAt gt (oft + i * 2) T2 ∧ w'.rangeAt g2 (off2 + k * 3) VC)) 13 #[false, false, false, false, false, false, false, false, false, false, false, false, false] rfl rfl (by kernel_rfl) (HS.out _ HXD.out) (fun hHeld => ?_)
  refine take_mk (i := 0) (v := ?v1) rfl (by kernel_rfl) (by kernel_rfl) (by kernel_rfl) (fun _ _ _ h => h) (Or.inl ⟨by rfl, ?hy1⟩) (by assumption) ?rest1
  case hy1 => (intro w0 hSw; (try dsimp only at hSw); go_simp <;> (try (with_reducible rfl)))
  (try simp only [Act.put, List.setIfInBounds_toArray, List.set_cons_zero, List.set_cons_succ])
  refine take_mk (i := 1) (v := ?v2) rfl (by kernel_rfl) (by kernel_rfl) (by kernel_rfl) (fun _ _ _ h => h) (Or.inl ⟨by rfl, ?hy2⟩) (by assumption) ?rest2
  case hy2 => (intro w0 hSw; (try dsimp only at hSw); go_simp <;> (try (with_reducible rfl)))
  (try simp only [Act.put, List.setIfInBounds_toArray, List.set_cons_zero, List.set_cons_succ])
  refine take_mk (i := 2) (v := ?v3) rfl (by kernel_rfl) (by kernel_rfl) (by kernel_rfl) (fun _ _ _ h => h) (Or.inl ⟨by rfl, ?hy3⟩) (by assumption) ?rest3
  case hy3 => (intro w0 hSw; (try dsimp only at hSw); go_simp <;> (try (with_reducible rfl)))
  (try simp only [Act.put, List.setIfInBounds_toArray, List.set_cons_zero, List.set_cons_succ])
  refine take_mk (i := 3) (v := ?v4) rfl (by kernel_rfl) (by kernel_rfl) (by kernel_rfl) (fun _ _ _ h => h) (Or.inl ⟨by rfl, ?hy4⟩) (by assumption) ?rest4
  case hy4 => (intro w0 hSw; (try dsimp only at hSw); go_simp <;> (try (with_reducible rfl)))
  (try simp only [Act.put, List.setIfInBounds_toArray, List.set_cons_zero, List.set_cons_succ])
  refine take_mk (i := 4) (v := ?v5) rfl (by kernel_rfl) (by kernel_rfl) (by kernel_rfl) (fun _ _ _ h => h) (Or.inl ⟨by rfl, ?hy5⟩) (by assumption) ?rest5
  case hy5 => (intro w0 hSw; (try dsimp only at hSw); go_simp <;> (try (with_reducible rfl)))
  (try simp only [Act.put, List.setIfInBounds_toArray, List.set_cons_zero, List.set_cons_succ])
  refine take_mk (i := 5) (v := ?v6) rfl (by kernel_rfl) (by kernel_rfl) (by kernel_rfl) (fun _ _ _ h => h) (Or.inl ⟨by rfl, ?hy6⟩) (by assumption) ?rest6
  case hy6 => (intro w0 hSw; (try dsimp only at hSw); go_simp <;> (try (with_reducible rfl)))
  (try simp only [Act.put, List.setIfInBounds_toArray, List.set_cons_zero, List.set_cons_succ])
  refine take_mk (i := 7) (v := ?v7) rfl (by kernel_rfl) (by kernel_rfl) (by kernel_rfl) (fun _ _ _ h => h) (Or.inl ⟨by rfl, ?hy7⟩) (by assumption) ?rest7
  case hy7 => (intro w0 hSw; (try dsimp only at hSw); go_simp <;> (try (with_reducible rfl)))
  (try simp only [Act.put, List.setIfInBounds_toArray, List.set_cons_zero, List.set_cons_succ])
  refine take_mk (i := 8) (v := ?v8) rfl (by kernel_rfl) (by kernel_rfl) (by kernel_rfl) (fun _ _ _ h => h) (Or.inl ⟨by rfl, ?hy8⟩) (by assumption) ?rest8
  case hy8 => (intro w0 hSw; (try dsimp only at hSw); go_simp <;> (try (with_reducible rfl)))
  (try simp only [Act.put, List.setIfInBounds_toArray, List.set_cons_zero, List.set_cons_succ])
  refine take_mk (i := 6) rfl (by kernel_rfl) (by kernel_rfl) (by kernel_rfl) (fun _ _ _ h => h) (yieldsIf_load_mid (by rfl) 72 _ rfl gt (oft + i * 2) (by rfl) T2 _ (fun _ h => h.2.2.2.1) Tryz.underlying72 rfl ZT.out) (by assumption) ?_
  (try simp only [Act.put, List.setIfInBounds_toArray, List.set_cons_zero, List.set_cons_succ])
  refine wpAnyH_ready (rs := [9]) (by kernel_rfl) (by simp) ?_
  refine cons_mk rfl (fun K hK => ?_) AllReadyH.nil
  refine step_call2 123 ent_fat (by rfl) _ _ _ (by rfl) (.agg T2.toArray) (.string ofd) (by rfl) (by rfl) _ (HFA.out _ HXD.out.bx.bel) ?_
  rintro e w5 ⟨rfl, hb5⟩
  refine ⟨_, rfl, ?_⟩
  have HX5 := hid (HXD.out.next hb5)
  clear hb5
  refine hK.out _ _ (HS.out _ HX5.out) (fun hHeld => ?_)
  clear hK K
  (try simp only [Act.put, List.setIfInBounds_toArray, List.set_cons_zero, List.set_cons_succ])
  refine take_mk (i := 10) (v := ?v9) rfl (by kernel_rfl) (by kernel_rfl) (by kernel_rfl) (fun _ _ _ h => h) (Or.inl ⟨by rfl, ?hy9⟩) (by assumption) ?rest9
  case hy9 => (intro w0 hSw; (try dsimp only at hSw); go_simp <;> (try (with_reducible rfl)))
  (try simp only [Act.put, List.setIfInBounds_toArray, List.set_cons_zero, List.set_cons_succ])
  refine take_mk (i := 11) rfl (by kernel_rfl) (by kernel_rfl) (by kernel_rfl) (fun _ _ _ h => h) (yieldsIf_load_mid (by rfl) 59 _ rfl g2 (off2 + k * 3) (by rfl) VC _ (fun _ h => h.2.2.2.2) Tryz.underlying59 rfl ZV.out) (by assumption) ?_
  (try simp only [Act.put, List.setIfInBounds_toArray, List.set_cons_zero, List.set_cons_succ])
  refine wpAnyH_ready (rs := [12]) (by kernel_rfl) (by simp) ?_
  refine cons_mk rfl (fun K hK => ?_) AllReadyH.nil
  refine step_sto (by rfl) 59 _ _ (by rfl) (w.heap.size + 1 + 1 + 1) 0 _ 59 (.agg VC.toArray) VC (by rfl) (by rfl) (by rfl) (HX5.out.bx.b 3 (by simp)) (by have := HVL.out; simp; omega) ZV.out HVO.out ?_
  intro w6 hm6 hf6
  rw [ovr_all (by rw [HVL.out]; rfl)] at hm6
  have HM6 := hid hm6
  have HB6 : Hid (Below w.heap.size w w6) := below_fr HX5.out.bx.bel hf6 (by omega)
  have HS6 := hid (HSF.out _ _ HX5.out hf6)
  clear hm6 hf6
  refine hK.out _ _ (HS6.out) (fun hHeld => ?_)
  clear hK K
  (try simp only [Act.put, List.setIfInBounds_toArray, List.set_cons_zero, List.set_cons_succ])
  refine wpAnyH_done (by kernel_rfl) ?_ _
  go_wp2_with fail
  exact ret_loc (w.heap.size + 1 + 1 + 1) VC 59 _ HM6.out rfl rfl (by rfl) Tryz.underlying59 rfl ZV.out ⟨rfl, HB6.out⟩
set_option maxHeartbeats 16000000 in
theorem sv_con (ts : List Tp) (own : Ev) (kn : List Ev) (tv ov kv : Value) (o : Opd) (w : World) (r : Rl) (u1 u2 u3 u4 u5 : Value) (h1 : Rd w (.row 65 18 (r.w.map encP)) u1) (hs2 : ∃ p n c, u2 = .slice p n c) (hs3 : ∃ p n c, u3 = .slice p n c) (hs4 : ∃ p n c, u4 = .slice p n c) (hs5 : ∃ p n c, u5 = .slice p n c) (hT : Rd w (.row 72 2 (ts.map encY)) tv) (ho : Rd w (.row 59 3 (own.v.map encV)) ov) (hK : Rd w (.row 30 5 (kn.map encX)) kv) (hok : o.k = 1) : Calls Tryz.prog 81 #[tv, .agg #[.string r.n, u1, u2, u3, u4, .string r.e.ty, u5], evV own ov, kv, opV o] w fun e w' => e = .returned (V4.vV (⟨o.vk, o.vi, o.vt⟩)) ∧ Below w.heap.size w w' := by
  obtain ⟨q1, l1, j1, hq1⟩ := rd_shape h1
  obtain ⟨q2, l2, j2, hq2⟩ := hs2
  obtain ⟨q3, l3, j3, hq3⟩ := hs3
  obtain ⟨q4, l4, j4, hq4⟩ := hs4
  obtain ⟨q5, l5, j5, hq5⟩ := hs5
  obtain ⟨tp, tn, tc, htv⟩ := rd_shape hT
  obtain ⟨op, on2, oc, hov⟩ := rd_shape ho
  obtain ⟨kp, kn2, kc, hkv⟩ := rd_shape hK
  subst htv hov hkv hq1 hq2 hq3 hq4 hq5
  obtain ⟨on, ot, ost, oen, ovl⟩ := own
  obtain ⟨ok, ovk, ovi, ovt, ova, ofd⟩ := o
  obtain ⟨rn, ws, ns, ms, ks, ⟨ety, vs⟩⟩ := r
  simp only at hok ⊢
  subst hok
  have hB : Bxs w ((((w.alloc (.cells #[.string rn, .slice q1 l1 j1, .slice q2 l2 j2, .slice q3 l3 j3, .slice q4 l4 j4, .string ety, .slice q5 l5 j5] 49)).alloc (.cells #[.int .i64 on, .int .i64 ot, .int .i64 ost, .int .i64 oen, .slice op on2 oc] 30)).alloc (.cells #[.int .i64 1, .int .i64 ovk, .int .i64 ovi, .string ovt, .string ova, .string ofd] 61)).alloc (.cells #[.int .i64 0, .int .i64 0, .string ⟨#[]⟩] 59)) [([.string rn, .slice q1 l1 j1, .slice q2 l2 j2, .slice q3 l3 j3, .slice q4 l4 j4, .string ety, .slice q5 l5 j5], 49), ([.int .i64 on, .int .i64 ot, .int .i64 ost, .int .i64 oen, .slice op on2 oc], 30), ([.int .i64 1, .int .i64 ovk, .int .i64 ovi, .string ovt, .string ova, .string ofd], 61), ([.int .i64 0, .int .i64 0, .string ⟨#[]⟩], 59)] := bxs4 w _ _ _ _ _ _ _ _
  have HB := hid hB
  have HZ := hid (hB.b 3 (by simp))
  clear hB h1 hT ho hK
  go_enter Tryz.func81, Tryz.ntmps81
  go_wp2_with ((with_reducible show wpList _ _ _ (Oper.mk _ (.store 59 _ _) _ _ _ _ :: _) _ _); refine wp_st (by rfl) 59 _ _ (by rfl) (w.heap.size + 1 + 1 + 1) 0 _ 59 (.agg #[.int .i64 ovk, .int .i64 ovi, .string ovt]) [.int .i64 ovk, .int .i64 ovi, .string ovt] (by rfl) (by rfl) (by rfl) HZ.out (by simp) (by kernel_rfl) (by rfl) ?_; intro w2 hblk hfr; have HW2 := hid hblk; have HBE : Hid (Below w.heap.size w w2) := below_fr HB.out.bel hfr (by omega); clear hblk hfr)
  exact ret_loc (w.heap.size + 1 + 1 + 1) [.int .i64 ovk, .int .i64 ovi, .string ovt] 59 _ HW2.out rfl rfl (by rfl) Tryz.underlying59 rfl (by kernel_rfl) ⟨rfl, HBE.out⟩
set_option maxHeartbeats 32000000 in
theorem sv_other (ts : List Tp) (own : Ev) (kn : List Ev) (tv ov kv : Value) (o : Opd) (w : World) (r : Rl) (u1 u2 u3 u4 u5 : Value) (h1 : Rd w (.row 65 18 (r.w.map encP)) u1) (hs2 : ∃ p n c, u2 = .slice p n c) (hs3 : ∃ p n c, u3 = .slice p n c) (hs4 : ∃ p n c, u4 = .slice p n c) (hs5 : ∃ p n c, u5 = .slice p n c) (hT : Rd w (.row 72 2 (ts.map encY)) tv) (ho : Rd w (.row 59 3 (own.v.map encV)) ov) (hK : Rd w (.row 30 5 (kn.map encX)) kv) (hok : o.k = 3) (j : Nat) (hj : j < kn.length) (hp : ptq r.w o.va = (j : Int)) (hx : evk ts kn[j] = 0) (hf : 0 ≤ fdq (ts.getD kn[j].t.toNat dT).f o.fd) : Calls Tryz.prog 81 #[tv, .agg #[.string r.n, u1, u2, u3, u4, .string r.e.ty, u5], evV own ov, kv, opV o] w fun e w' => e = .returned (V4.vV (fvl ts kn[j] o.fd)) ∧ Below w.heap.size w w' := by
  obtain ⟨gk, ofk, kn2, kc, KL, hkv, hjn, hKL, uv, zK, hxu⟩ : ∃ gk ofk kn2 kc KL, kv = .slice (some ⟨gk, ofk, none⟩) kn2 kc ∧ (j : Int) < (kn2 : Int) ∧ (∀ W, Below w.heap.size w W → W.rangeAt gk (ofk + j * 5) KL) ∧ ∃ uv, KL = [.int .i64 kn[j].n, .int .i64 kn[j].t, .int .i64 kn[j].st, .int .i64 kn[j].en, uv] ∧ Rd w (.row 59 3 (kn[j].v.map encV)) uv := by
    obtain ⟨p, cap, rfl, _, hat⟩ := rd_row lenX hK
    obtain ⟨g, off, rfl, hrd⟩ := hat (by omega)
    obtain ⟨A, r1, o1⟩ := hrd w (Below.refl _ _) j hj
    obtain ⟨uv, z1, o2⟩ := rdX o1
    exact ⟨g, off, _, _, A, rfl, by omega, fun W hW => range_below r1 hW, uv, z1, o2⟩
  obtain ⟨i, hi, e1, m1, m2⟩ := evk_ok hx
  obtain ⟨k, hk, e4, e5, m3, m4⟩ := fvl_ok hx hf
  clear m1 m2 m3 m4
  have et : ts.getD kn[j].t.toNat dT = ts[i] := by rw [e1, Int.toNat_natCast]; exact getD_lt hi _
  rw [et] at e4
  rw [e5]
  obtain ⟨gt, oft, tn, tc, T2, htv, hin, hT2, fv, zT, oT⟩ : ∃ gt oft tn tc T2, tv = .slice (some ⟨gt, oft, none⟩) tn tc ∧ (i : Int) < (tn : Int) ∧ (∀ W, Below w.heap.size w W → W.rangeAt gt (oft + i * 2) T2) ∧ ∃ fv, T2 = [.string ts[i].n, fv] ∧ Rd w (.row 93 2 (ts[i].f.map encF)) fv := by
    obtain ⟨p, cap, rfl, _, hat⟩ := rd_row lenY hT
    obtain ⟨g, off, rfl, hrd⟩ := hat (by omega)
    obtain ⟨A, r1, o1⟩ := hrd w (Below.refl _ _) i hi
    obtain ⟨fv, z1, o2⟩ := rdY o1
    exact ⟨g, off, _, _, A, rfl, by omega, fun W hW => range_below r1 hW, fv, z1, o2⟩
  obtain ⟨g2, off2, un, uc, VC, huv, hkn, hVC, zV⟩ : ∃ g2 off2 un uc VC, uv = .slice (some ⟨g2, off2, none⟩) un uc ∧ (k : Int) < (un : Int) ∧ (∀ W, Below w.heap.size w W → W.rangeAt g2 (off2 + k * 3) VC) ∧ VC = [.int .i64 kn[j].v[k].k, .int .i64 kn[j].v[k].n, .string kn[j].v[k].s] := by
    obtain ⟨p, cap, rfl, _, hat⟩ := rd_row lenV hxu
    obtain ⟨g, off, rfl, hrd⟩ := hat (by omega)
    obtain ⟨A, r1, o1⟩ := hrd w (Below.refl _ _) k hk
    exact ⟨g, off, _, _, A, rfl, by omega, fun W hW => range_below r1 hW, rdV o1⟩
  have hFA := fun W (hW : Below w.heap.size w W) => fieldAt_any ts[i].n ts[i].f fv o.fd W (oT.later hW)
  rw [e4] at hFA
  have HFA : Hid (∀ W, Below w.heap.size w W → Calls Tryz.prog 123 #[.agg T2.toArray, .string o.fd] W fun e w' => e = .returned (.int .i64 (k : Nat)) ∧ Below W.heap.size W w') := fun W hW => by rw [zT]; exact hFA W hW
  have hTz : T2.length = 2 := by rw [zT]; rfl
  have hVz : VC.length = 3 := by rw [zV]; rfl
  have ZT : Hid ((Tryz.prog.info? 72).map (·.size) = some T2.length) := by show _ = _; rw [hTz]; kernel_rfl
  have ZV : Hid ((Tryz.prog.info? 59).map (·.size) = some VC.length) := by show _ = _; rw [hVz]; kernel_rfl
  have HVL := hid hVz
  have HVO : Hid (VC.all (·.oneCell') = true) := by show _ = _; rw [zV]; rfl
  have HVC : Hid (V4.vV kn[j].v[k] = .agg VC.toArray) := by show _ = _; rw [zV]
  have hPN := fun W (hW : Below w.heap.size w W) => patternNamed_any r.w u1 o.va W (h1.later hW)
  rw [hp] at hPN
  obtain ⟨q1, l1, j1, hq1⟩ := rd_shape h1
  obtain ⟨q2, l2, j2, hq2⟩ := hs2
  obtain ⟨q3, l3, j3, hq3⟩ := hs3
  obtain ⟨q4, l4, j4, hq4⟩ := hs4
  obtain ⟨q5, l5, j5, hq5⟩ := hs5
  obtain ⟨op, on2, oc, hov⟩ := rd_shape ho
  rw [e1, huv] at zK
  obtain ⟨en, hen⟩ : ∃ x, kn[j].n = x := ⟨_, rfl⟩
  obtain ⟨es, hes⟩ : ∃ x, kn[j].st = x := ⟨_, rfl⟩
  obtain ⟨ee, hee⟩ : ∃ x, kn[j].en = x := ⟨_, rfl⟩
  rw [hen, hes, hee] at zK
  rw [HVC.out]
  subst htv hov hkv hq1 hq2 hq3 hq4 hq5
  obtain ⟨on, ot, ost, oen, ovl⟩ := own
  obtain ⟨ok, ovk, ovi, ovt, ova, ofd⟩ := o
  obtain ⟨rn, ws, ns, ms, ks, ⟨ety, vs⟩⟩ := r
  simp only at hok HFA hPN ⊢
  subst hok zK
  have HPN := hid hPN
  have HKL := hid hKL
  have HS : Hid (∀ W, Svx w W [([.string rn, .slice q1 l1 j1, .slice q2 l2 j2, .slice q3 l3 j3, .slice q4 l4 j4, .string ety, .slice q5 l5 j5], 49), ([.int .i64 on, .int .i64 ot, .int .i64 ost, .int .i64 oen, .slice op on2 oc], 30), ([.int .i64 3, .int .i64 ovk, .int .i64 ovi, .string ovt, .string ova, .string ofd], 61), ([.int .i64 0, .int .i64 0, .string ⟨#[]⟩], 59)] (w.heap.size + 4) [.int .i64 en, .int .i64 (i : Nat), .int .i64 es, .int .i64 ee, .slice (some ⟨g2, off2, none⟩) un uc] 30 → (W.cell? ⟨w.heap.size + 4, 4, none⟩ = some (.slice (some ⟨g2, off2, none⟩) un uc) ∧ W.cell? ⟨w.heap.size + 4, 1, none⟩ = some (.int .i64 (i : Nat)) ∧ W.cell? ⟨w.heap.size + 1 + 1, 5, none⟩ = some (.string ofd) ∧ W.rangeAt gt (oft + i * 2) T2 ∧ W.rangeAt g2 (off2 + k * 3) VC)) := fun W h => ⟨cell_of_blk h.e 4, cell_of_blk h.e 1, h.bx.c 2 (by simp) 5, hT2 W h.bx.bel, hVC W h.bx.bel⟩
  have HSF : Hid (∀ W W', Svx w W [([.string rn, .slice q1 l1 j1, .slice q2 l2 j2, .slice q3 l3 j3, .slice q4 l4 j4, .string ety, .slice q5 l5 j5], 49), ([.int .i64 on, .int .i64 ot, .int .i64 ost, .int .i64 oen, .slice op on2 oc], 30), ([.int .i64 3, .int .i64 ovk, .int .i64 ovi, .string ovt, .string ova, .string ofd], 61), ([.int .i64 0, .int .i64 0, .string ⟨#[]⟩], 59)] (w.heap.size + 4) [.int .i64 en, .int .i64 (i : Nat), .int .i64 es, .int .i64 ee, .slice (some ⟨g2, off2, none⟩) un uc] 30 → Fr (fun i => i = w.heap.size + 1 + 1 + 1) W W' → (W'.cell? ⟨w.heap.size + 4, 4, none⟩ = some (.slice (some ⟨g2, off2, none⟩) un uc) ∧ W'.cell? ⟨w.heap.size + 4, 1, none⟩ = some (.int .i64 (i : Nat)) ∧ W'.cell? ⟨w.heap.size + 1 + 1, 5, none⟩ = some (.string ofd) ∧ W'.rangeAt gt (oft + i * 2) T2 ∧ W'.rangeAt g2 (off2 + k * 3) VC)) := fun W W' h hf => by
    have hb : Below w.heap.size w W' := below_fr h.bx.bel hf (by omega)
    have e2 : W'.heap[w.heap.size + 4]? = some (.cells [.int .i64 en, .int .i64 (i : Nat), .int .i64 es, .int .i64 ee, .slice (some ⟨g2, off2, none⟩) un uc].toArray 30 (0, 0)) := (hf.block _ (blk_lt h.e) (by omega)).trans h.e
    have e3 : W'.heap[w.heap.size + 2]? = some (.cells [.int .i64 3, .int .i64 ovk, .int .i64 ovi, .string ovt, .string ova, .string ofd].toArray 61 (0, 0)) := (hf.block _ (blk_lt (h.bx.b 2 (by simp))) (by omega)).trans (h.bx.b 2 (by simp))
    exact ⟨cell_of_blk e2 4, cell_of_blk e2 1, cell_of_blk e3 5, hT2 W' hb, hVC W' hb⟩
  have hB : Bxs w ((((w.alloc (.cells #[.string rn, .slice q1 l1 j1, .slice q2 l2 j2, .slice q3 l3 j3, .slice q4 l4 j4, .string ety, .slice q5 l5 j5] 49)).alloc (.cells #[.int .i64 on, .int .i64 ot, .int .i64 ost, .int .i64 oen, .slice op on2 oc] 30)).alloc (.cells #[.int .i64 3, .int .i64 ovk, .int .i64 ovi, .string ovt, .string ova, .string ofd] 61)).alloc (.cells #[.int .i64 0, .int .i64 0, .string ⟨#[]⟩] 59)) [([.string rn, .slice q1 l1 j1, .slice q2 l2 j2, .slice q3 l3 j3, .slice q4 l4 j4, .string ety, .slice q5 l5 j5], 49), ([.int .i64 on, .int .i64 ot, .int .i64 ost, .int .i64 oen, .slice op on2 oc], 30), ([.int .i64 3, .int .i64 ovk, .int .i64 ovi, .string ovt, .string ova, .string ofd], 61), ([.int .i64 0, .int .i64 0, .string ⟨#[]⟩], 59)] := bxs4 w _ _ _ _ _ _ _ _
  have HB := hid hB
  have XO := hid (hB.r 1 (by simp))
  have HBA := hid (fun o => hB.next ((Below.refl _ _).alloc (Nat.le_refl _) o))
  have HNB := hid (fun a b c d o => heap_5 w a b c d o)
  have y1 : (0 : Int) ≤ (i : Int) := by omega
  have y3 : (0 : Int) ≤ (k : Int) := by omega
  have y5 : (0 : Int) ≤ (j : Int) := by omega
  clear HVC
  clear hB h1 hT ho hK hxu hx hf e4 e5 et hT2 hVC zT zV hFA oT hTz hVz hi hk e1 huv hen hes hee hPN hKL hp hj
  go_enter Tryz.func81, Tryz.ntmps81
  go_wp2_with (first
    | ((with_reducible show wpList _ _ _ (Oper.mk _ (.load _ _) _ _ _ _ :: _) _ _); refine wpList_load_mid (by rfl) 30 _ (by rfl) (w.heap.size + 1) 0 (by rfl) [.int .i64 on, .int .i64 ot, .int .i64 ost, .int .i64 oen, .slice op on2 oc] _ XO.out Tryz.underlying30 rfl (by kernel_rfl) ?_)
    | ((with_reducible show wpList _ _ _ (Oper.mk _ (.store 30 _ _) _ _ _ _ :: _) _ _); refine wp_st (by rfl) 30 _ _ (by rfl) (w.heap.size + 4) 0 _ 30 (.agg #[.int .i64 on, .int .i64 ot, .int .i64 ost, .int .i64 oen, .slice op on2 oc]) [.int .i64 on, .int .i64 ot, .int .i64 ost, .int .i64 oen, .slice op on2 oc] (by rfl) (by rfl) (by rfl) (HNB.out _ _ _ _ _) (by simp) (by kernel_rfl) (by rfl) ?_; intro w3 hblk hfr; have HX3 : Hid (Svx w w3 [([.string rn, .slice q1 l1 j1, .slice q2 l2 j2, .slice q3 l3 j3, .slice q4 l4 j4, .string ety, .slice q5 l5 j5], 49), ([.int .i64 on, .int .i64 ot, .int .i64 ost, .int .i64 oen, .slice op on2 oc], 30), ([.int .i64 3, .int .i64 ovk, .int .i64 ovi, .string ovt, .string ova, .string ofd], 61), ([.int .i64 0, .int .i64 0, .string ⟨#[]⟩], 59)] (w.heap.size + 4) [.int .i64 on, .int .i64 ot, .int .i64 ost, .int .i64 oen, .slice op on2 oc] 30) := ⟨(HBA.out _).fr hfr (by simp), hblk⟩; have cK : w3.cell? ⟨w.heap.size + 1 + 1, 0, none⟩ = some (.int .i64 3) := HX3.out.bx.c 2 (by simp) 0; have cW : w3.cell? ⟨w.heap.size, 1, none⟩ = some (.slice q1 l1 j1) := HX3.out.bx.c 0 (by simp) 1; have cV : w3.cell? ⟨w.heap.size + 1 + 1, 4, none⟩ = some (.string ova) := HX3.out.bx.c 2 (by simp) 4; clear hblk hfr))
  refine (HPN.out _ HX3.out.bx.bel).mono ?_
  rintro e w5a ⟨rfl, hb5⟩
  have HX5a := hid (HX3.out.next hb5)
  have XK := hid (HKL.out w5a HX5a.out.bx.bel)
  clear hb5 cK cW cV XO HPN HKL
  go_wp2_with (first
    | ((with_reducible show wpList _ _ _ (Oper.mk _ (.load 30 _) _ _ _ _ :: _) _ _); refine wpList_load_mid (by rfl) 30 _ (by rfl) gk (ofk + j * 5) (by rfl) [.int .i64 en, .int .i64 (i : Nat), .int .i64 es, .int .i64 ee, .slice (some ⟨g2, off2, none⟩) un uc] _ XK.out Tryz.underlying30 rfl (by kernel_rfl) ?_)
    | ((with_reducible show wpList _ _ _ (Oper.mk _ (.store 30 _ _) _ _ _ _ :: _) _ _); refine wp_st (by rfl) 30 _ _ (by rfl) (w.heap.size + 4) 0 _ 30 (.agg #[.int .i64 en, .int .i64 (i : Nat), .int .i64 es, .int .i64 ee, .slice (some ⟨g2, off2, none⟩) un uc]) [.int .i64 en, .int .i64 (i : Nat), .int .i64 es, .int .i64 ee, .slice (some ⟨g2, off2, none⟩) un uc] (by rfl) (by rfl) (by rfl) HX5a.out.e (by simp) (by kernel_rfl) (by rfl) ?_; intro w4 hblk hfr; have HX4 : Hid (Svx w w4 [([.string rn, .slice q1 l1 j1, .slice q2 l2 j2, .slice q3 l3 j3, .slice q4 l4 j4, .string ety, .slice q5 l5 j5], 49), ([.int .i64 on, .int .i64 ot, .int .i64 ost, .int .i64 oen, .slice op on2 oc], 30), ([.int .i64 3, .int .i64 ovk, .int .i64 ovi, .string ovt, .string ova, .string ofd], 61), ([.int .i64 0, .int .i64 0, .string ⟨#[]⟩], 59)] (w.heap.size + 4) [.int .i64 en, .int .i64 (i : Nat), .int .i64 es, .int .i64 ee, .slice (some ⟨g2, off2, none⟩) un uc] 30) := ⟨HX5a.out.bx.fr hfr (by simp), hblk⟩; clear hblk hfr))
  have HXD := hid (HX4.out.next (Below.drew (Below.refl _ _)))
  go_wp2_with fail
  refine start_n (S := (fun w' => w'.cell? ⟨w.heap.size + 4, 4, none⟩ = some (.slice (some ⟨g2, off2, none⟩) un uc) ∧ w'.cell? ⟨w.heap.size + 4, 1, none⟩ = some (.int .i64 (i : Nat)) ∧ w'.cell? ⟨w.heap.size + 1 + 1, 5, none⟩ = some (.string ofd) ∧ w'.rangeAt gt (oft + i * 2) T2 ∧ w'.rangeAt g2 (off2 + k * 3) VC)) 13 #[false, false, false, false, false, false, false, false, false, false, false, false, false] rfl rfl (by kernel_rfl) (HS.out _ HXD.out) (fun hHeld => ?_)
  refine take_mk (i := 0) (v := ?v1) rfl (by kernel_rfl) (by kernel_rfl) (by kernel_rfl) (fun _ _ _ h => h) (Or.inl ⟨by rfl, ?hy1⟩) (by assumption) ?rest1
  case hy1 => (intro w0 hSw; (try dsimp only at hSw); go_simp <;> (try (with_reducible rfl)))
  (try simp only [Act.put, List.setIfInBounds_toArray, List.set_cons_zero, List.set_cons_succ])
  refine take_mk (i := 1) (v := ?v2) rfl (by kernel_rfl) (by kernel_rfl) (by kernel_rfl) (fun _ _ _ h => h) (Or.inl ⟨by rfl, ?hy2⟩) (by assumption) ?rest2
  case hy2 => (intro w0 hSw; (try dsimp only at hSw); go_simp <;> (try (with_reducible rfl)))
  (try simp only [Act.put, List.setIfInBounds_toArray, List.set_cons_zero, List.set_cons_succ])
  refine take_mk (i := 2) (v := ?v3) rfl (by kernel_rfl) (by kernel_rfl) (by kernel_rfl) (fun _ _ _ h => h) (Or.inl ⟨by rfl, ?hy3⟩) (by assumption) ?rest3
  case hy3 => (intro w0 hSw; (try dsimp only at hSw); go_simp <;> (try (with_reducible rfl)))
  (try simp only [Act.put, List.setIfInBounds_toArray, List.set_cons_zero, List.set_cons_succ])
  refine take_mk (i := 3) (v := ?v4) rfl (by kernel_rfl) (by kernel_rfl) (by kernel_rfl) (fun _ _ _ h => h) (Or.inl ⟨by rfl, ?hy4⟩) (by assumption) ?rest4
  case hy4 => (intro w0 hSw; (try dsimp only at hSw); go_simp <;> (try (with_reducible rfl)))
  (try simp only [Act.put, List.setIfInBounds_toArray, List.set_cons_zero, List.set_cons_succ])
  refine take_mk (i := 4) (v := ?v5) rfl (by kernel_rfl) (by kernel_rfl) (by kernel_rfl) (fun _ _ _ h => h) (Or.inl ⟨by rfl, ?hy5⟩) (by assumption) ?rest5
  case hy5 => (intro w0 hSw; (try dsimp only at hSw); go_simp <;> (try (with_reducible rfl)))
  (try simp only [Act.put, List.setIfInBounds_toArray, List.set_cons_zero, List.set_cons_succ])
  refine take_mk (i := 5) (v := ?v6) rfl (by kernel_rfl) (by kernel_rfl) (by kernel_rfl) (fun _ _ _ h => h) (Or.inl ⟨by rfl, ?hy6⟩) (by assumption) ?rest6
  case hy6 => (intro w0 hSw; (try dsimp only at hSw); go_simp <;> (try (with_reducible rfl)))
  (try simp only [Act.put, List.setIfInBounds_toArray, List.set_cons_zero, List.set_cons_succ])
  refine take_mk (i := 7) (v := ?v7) rfl (by kernel_rfl) (by kernel_rfl) (by kernel_rfl) (fun _ _ _ h => h) (Or.inl ⟨by rfl, ?hy7⟩) (by assumption) ?rest7
  case hy7 => (intro w0 hSw; (try dsimp only at hSw); go_simp <;> (try (with_reducible rfl)))
  (try simp only [Act.put, List.setIfInBounds_toArray, List.set_cons_zero, List.set_cons_succ])
  refine take_mk (i := 8) (v := ?v8) rfl (by kernel_rfl) (by kernel_rfl) (by kernel_rfl) (fun _ _ _ h => h) (Or.inl ⟨by rfl, ?hy8⟩) (by assumption) ?rest8
  case hy8 => (intro w0 hSw; (try dsimp only at hSw); go_simp <;> (try (with_reducible rfl)))
  (try simp only [Act.put, List.setIfInBounds_toArray, List.set_cons_zero, List.set_cons_succ])
  refine take_mk (i := 6) rfl (by kernel_rfl) (by kernel_rfl) (by kernel_rfl) (fun _ _ _ h => h) (yieldsIf_load_mid (by rfl) 72 _ rfl gt (oft + i * 2) (by rfl) T2 _ (fun _ h => h.2.2.2.1) Tryz.underlying72 rfl ZT.out) (by assumption) ?_
  (try simp only [Act.put, List.setIfInBounds_toArray, List.set_cons_zero, List.set_cons_succ])
  refine wpAnyH_ready (rs := [9]) (by kernel_rfl) (by simp) ?_
  refine cons_mk rfl (fun K hK => ?_) AllReadyH.nil
  refine step_call2 123 ent_fat (by rfl) _ _ _ (by rfl) (.agg T2.toArray) (.string ofd) (by rfl) (by rfl) _ (HFA.out _ HXD.out.bx.bel) ?_
  rintro e w5 ⟨rfl, hb5⟩
  refine ⟨_, rfl, ?_⟩
  have HX5 := hid (HXD.out.next hb5)
  clear hb5
  refine hK.out _ _ (HS.out _ HX5.out) (fun hHeld => ?_)
  clear hK K
  (try simp only [Act.put, List.setIfInBounds_toArray, List.set_cons_zero, List.set_cons_succ])
  refine take_mk (i := 10) (v := ?v9) rfl (by kernel_rfl) (by kernel_rfl) (by kernel_rfl) (fun _ _ _ h => h) (Or.inl ⟨by rfl, ?hy9⟩) (by assumption) ?rest9
  case hy9 => (intro w0 hSw; (try dsimp only at hSw); go_simp <;> (try (with_reducible rfl)))
  (try simp only [Act.put, List.setIfInBounds_toArray, List.set_cons_zero, List.set_cons_succ])
  refine take_mk (i := 11) rfl (by kernel_rfl) (by kernel_rfl) (by kernel_rfl) (fun _ _ _ h => h) (yieldsIf_load_mid (by rfl) 59 _ rfl g2 (off2 + k * 3) (by rfl) VC _ (fun _ h => h.2.2.2.2) Tryz.underlying59 rfl ZV.out) (by assumption) ?_
  (try simp only [Act.put, List.setIfInBounds_toArray, List.set_cons_zero, List.set_cons_succ])
  refine wpAnyH_ready (rs := [12]) (by kernel_rfl) (by simp) ?_
  refine cons_mk rfl (fun K hK => ?_) AllReadyH.nil
  refine step_sto (by rfl) 59 _ _ (by rfl) (w.heap.size + 1 + 1 + 1) 0 _ 59 (.agg VC.toArray) VC (by rfl) (by rfl) (by rfl) (HX5.out.bx.b 3 (by simp)) (by have := HVL.out; simp; omega) ZV.out HVO.out ?_
  intro w6 hm6 hf6
  rw [ovr_all (by rw [HVL.out]; rfl)] at hm6
  have HM6 := hid hm6
  have HB6 : Hid (Below w.heap.size w w6) := below_fr HX5.out.bx.bel hf6 (by omega)
  have HS6 := hid (HSF.out _ _ HX5.out hf6)
  clear hm6 hf6
  refine hK.out _ _ (HS6.out) (fun hHeld => ?_)
  clear hK K
  (try simp only [Act.put, List.setIfInBounds_toArray, List.set_cons_zero, List.set_cons_succ])
  refine wpAnyH_done (by kernel_rfl) ?_ _
  go_wp2_with fail
  exact ret_loc (w.heap.size + 1 + 1 + 1) VC 59 _ HM6.out rfl rfl (by rfl) Tryz.underlying59 rfl ZV.out ⟨rfl, HB6.out⟩
theorem ptq_asq {part : Int} {k : Nat} {ws : List Pt} {va : ByteArray} {j : Nat} (h : ptq (asq part k ws) va = (j : Int)) : ptq ws va = (j : Int) := by
  unfold asq at h
  split at h
  · have e : ws = ws.take k ++ ws.drop k := (List.take_append_drop k ws).symm
    have h2 : ∀ (l r : List Pt) (n : Nat) (j : Nat), ixq (fun p : Pt => seq p.va va) l n = (j : Int) → ixq (fun p : Pt => seq p.va va) (l ++ r) n = (j : Int) := by
      intro l
      induction l with
      | nil => intro r n j h; rw [ixq] at h; omega
      | cons y l ih =>
        intro r n j h
        rw [ixq] at h
        rw [List.cons_append, ixq]
        by_cases c : seq y.va va = true
        · rw [if_pos c] at h ⊢; exact h
        · rw [if_neg c] at h ⊢; exact ih r (n + 1) j h
    rw [e]
    exact h2 (ws.take k) (ws.drop k) 0 j h
  · exact h
theorem sv_any (ts : List Tp) (own : Ev) (kn : List Ev) (tv ov kv : Value) (o : Opd) (w : World) (r : Rl) (u1 u2 u3 u4 u5 : Value) (h1 : Rd w (.row 65 18 (r.w.map encP)) u1) (hs2 : ∃ p n c, u2 = .slice p n c) (hs3 : ∃ p n c, u3 = .slice p n c) (hs4 : ∃ p n c, u4 = .slice p n c) (hs5 : ∃ p n c, u5 = .slice p n c) (hT : Rd w (.row 72 2 (ts.map encY)) tv) (ho : Rd w (.row 59 3 (own.v.map encV)) ov) (hK : Rd w (.row 30 5 (kn.map encX)) kv) (part : Int) (at_ : Nat) (hk : Sok ts (asq part at_ r.w) own kn) (hsd : (sdk ts (asq part at_ r.w) (ts.getD own.t.toNat dT) o).2 = 0) : Calls Tryz.prog 81 #[tv, .agg #[.string r.n, u1, u2, u3, u4, .string r.e.ty, u5], evV own ov, kv, opV o] w fun e w' => e = .returned (V4.vV (svl ts (asq part at_ r.w) own kn o)) ∧ Below w.heap.size w w' := by
  have hsd' := hsd
  unfold sdk at hsd
  by_cases h0 : 1 ≤ o.k ∧ o.k ≤ 3
  · rw [if_neg (fun c => c h0)] at hsd
    by_cases k1 : o.k = 1
    · have e : svl ts (asq part at_ r.w) own kn o = ⟨o.vk, o.vi, o.vt⟩ := by unfold svl; rw [if_neg (by omega), if_neg (by omega)]
      rw [e]
      exact sv_con ts own kn tv ov kv o w r u1 u2 u3 u4 u5 h1 hs2 hs3 hs4 hs5 hT ho hK k1
    · rw [if_neg k1] at hsd
      by_cases k2 : o.k = 2
      · rw [if_pos k2] at hsd
        have e : svl ts (asq part at_ r.w) own kn o = fvl ts own o.fd := by unfold svl; rw [if_pos k2]
        rw [e]
        split at hsd
        · simp at hsd
        · refine sv_own ts own kn tv ov kv o w r u1 u2 u3 u4 u5 h1 hs2 hs3 hs4 hs5 hT ho hK k2 hk.ev ?_
          unfold fck at hsd
          split at hsd
          · simp at hsd
          · omega
      · rw [if_neg k2] at hsd
        split at hsd
        · simp at hsd
        · rename_i c1
          split at hsd
          · simp at hsd
          · obtain ⟨j, hj, e1, _⟩ := ixq_ex (q := fun p : Pt => seq p.va o.va) (l := asq part at_ r.w) (by show 0 ≤ ptq (asq part at_ r.w) o.va; omega)
            have e1' : ptq (asq part at_ r.w) o.va = (j : Int) := e1
            have hjk : j < kn.length := by rw [hk.kn.1]; exact hj
            obtain ⟨g1, g2⟩ := hk.kn.2 j hjk hj
            have et : tyOf ts (asq part at_ r.w) o.va = ts.getD kn[j].t.toNat dT := by
              unfold tyOf
              rw [e1', Int.toNat_natCast, getD_lt hj, g2]
              rfl
            have es : svl ts (asq part at_ r.w) own kn o = fvl ts kn[j] o.fd := by
              unfold svl
              rw [if_neg k2, if_pos (by omega), e1', Int.toNat_natCast, getD_lt hjk]
            rw [es]
            rw [et] at hsd
            refine sv_other ts own kn tv ov kv o w r u1 u2 u3 u4 u5 h1 hs2 hs3 hs4 hs5 hT ho hK (by omega) j hjk (ptq_asq e1') g1 ?_
            unfold fck at hsd
            split at hsd
            · simp at hsd
            · omega
  · rw [if_pos h0] at hsd; simp at hsd
end Go.Proofs.YthndlfdbmljkhaaGreatDoor.Chk
