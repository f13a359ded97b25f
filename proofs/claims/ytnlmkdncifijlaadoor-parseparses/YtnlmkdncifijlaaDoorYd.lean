/-
  Two conditions that are the same.
-/
import Derived.Test.YtnlmkdncifijlaaDoorYc
namespace Go.Proofs.YtnlmkdncifijlaaDoor.Ref
open Go.ChangeShapes Go.WideShapes Go.ChangeAt Go.RowKit Go.Maps
set_option linter.unusedVariables false
set_option linter.unusedSimpArgs false
set_option maxRecDepth 20000
theorem encC_len (c : Cn) : (encC c).length = 14 := rfl
theorem encP_len (c : Pt) : (encP c).length = 18 := rfl
theorem encO_len (c : Opd) : (encO c).length = 6 := rfl
theorem encM_len (c : Mn) : (encM c).length = 20 := rfl
theorem encK_len (c : Lk) : (encK c).length = 3 := rfl
theorem encQ_len (c : Op3) : (encQ c).length = 3 := rfl
theorem encR_len (c : Rl) : (encR c).length = 7 := rfl
theorem encY_len (c : Tp) : (encY c).length = 2 := rfl
theorem encF_len (c : Fd) : (encF c).length = 2 := rfl
theorem cells14 {w : World} {g o : Nat} {k : Int} {v : Value} {l r : Opd} (h : w.rangeAt g o (cnC k v l r)) : w.cell? ⟨g, o, none⟩ = some (.int .i64 k) ∧ w.cell? ⟨g, o + 1, none⟩ = some v ∧ w.cell? ⟨g, o + 2, none⟩ = some (.int .i64 l.k) ∧ w.cell? ⟨g, o + 3, none⟩ = some (.int .i64 l.vk) ∧ w.cell? ⟨g, o + 4, none⟩ = some (.int .i64 l.vi) ∧ w.cell? ⟨g, o + 5, none⟩ = some (.string l.vt) ∧ w.cell? ⟨g, o + 6, none⟩ = some (.string l.va) ∧ w.cell? ⟨g, o + 7, none⟩ = some (.string l.fd) ∧ w.cell? ⟨g, o + 8, none⟩ = some (.int .i64 r.k) ∧ w.cell? ⟨g, o + 9, none⟩ = some (.int .i64 r.vk) ∧ w.cell? ⟨g, o + 10, none⟩ = some (.int .i64 r.vi) ∧ w.cell? ⟨g, o + 11, none⟩ = some (.string r.vt) ∧ w.cell? ⟨g, o + 12, none⟩ = some (.string r.va) ∧ w.cell? ⟨g, o + 13, none⟩ = some (.string r.fd) :=
  ⟨h 0 _ rfl, h 1 _ rfl, h 2 _ rfl, h 3 _ rfl, h 4 _ rfl, h 5 _ rfl, h 6 _ rfl, h 7 _ rfl, h 8 _ rfl, h 9 _ rfl, h 10 _ rfl, h 11 _ rfl, h 12 _ rfl, h 13 _ rfl⟩
theorem step_call2 {ops : Array Oper} {o : Oper} {a : Act} {w : World} {K : Act → World → Prop} {Q : Exit → Act → World → Prop} {E : Prop} (f : FuncId) (he : ∀ args w, (callFunc f args).run Tryd.prog w = .ok (.enter f args) w) (hgd : o.guard = none) (s x : Operand) (ts : Array TypeId) (ho : o.op = .call { callee := .value (.func f), args := #[s, x], argTypes := ts }) (u1 u2 : Value) (h1 : a.eval s = u1) (h2 : a.eval x = u2)
    (R : Ending → World → Prop) (hc : Calls Tryd.prog f #[u1, u2] w R) (h : ∀ e w', R e w' → ∃ v, e = .returned v ∧ K (a.put o.dst v) w') :
    if Region.wanted o (yielded ops a.tmps) = true then Oper.wp Tryd.prog o a w K Q else E := by
  have hw : Region.wanted o (yielded ops a.tmps) = true := by simp [Region.wanted, hgd]
  rw [if_pos hw]
  unfold Oper.wp execOp
  have hf : a.eval (.func f) = Value.func (Fn.func f) #[] #[] := rfl
  simp [ho, resolve, invoke, Deferred.ofValue, hf, h1, h2, he]
  refine hc.mono ?_
  intro e w' hr
  obtain ⟨v, rfl, hk⟩ := h e w' hr
  exact hk
theorem ent_same : ∀ args w, (callFunc 88 args).run Tryd.prog w = .ok (.enter 88 args) w := enters_of Tryd.func88 (by kernel_rfl) rfl
/-- What is said of two conditions that are the same. -/
def SameC (c : Cn) : Prop := ∀ (w : World) (S T : Nat → Prop) (pa pb : Option Addr) (ca cb : Nat), Holds w S (.row 52 14 c.sb) (.slice pa c.sb.length ca) → Holds w T (.row 52 14 c.sb) (.slice pb c.sb.length cb) →
    Calls Tryd.prog 88 #[cnV c.k (.slice pa c.sb.length ca) c.l c.r, cnV c.k (.slice pb c.sb.length cb) c.l c.r] w fun e w' => e = .returned (.bool true) ∧ Below w.heap.size w w'
set_option maxHeartbeats 8000000 in
theorem same_step (c : Cn) (cs : List Cn) (hsb : c.sb = cs.map encC) (IH : ∀ x, x ∈ cs → SameC x): SameC c := by
  intro w S T pa pb ca cb ha hb
  obtain ⟨ck, csb, ⟨lk, lvk, lvi, lvt, lva, lfd⟩, ⟨rk, rvk, rvi, rvt, rva, rfd⟩⟩ := c
  simp only at hsb ha hb ⊢
  subst hsb
  rw [List.length_map] at ha hb ⊢
  obtain ⟨n, hn⟩ : ∃ n, cs.length = n := ⟨_, rfl⟩
  have HN : Hid (cs.length = n) := hn
  have hmx : n ≤ 9223372036854775807 := by
    obtain ⟨p9, c9, e9, l9, m9, _⟩ := row_of encC_len ha
    unfold maxLen at m9
    omega
  rw [hn] at ha hb ⊢
  have HA : Hid (Holds w S (.row 52 14 (cs.map encC)) (.slice pa n ca)) := ha
  have HB : Hid (Holds w T (.row 52 14 (cs.map encC)) (.slice pb n cb)) := hb
  have HIH : Hid (∀ x ∈ cs, SameC x) := IH
  have hn7 : (n : Int) ≤ 9223372036854775807 := by omega
  clear ha hb IH hn hmx
  go_enter Tryd.func88, Tryd.ntmps88
  go_wp2_with fail
  obtain ⟨W0, hW0⟩ : ∃ W0, (w.alloc (.cells (cnC ck (.slice pa n ca) ⟨lk, lvk, lvi, lvt, lva, lfd⟩ ⟨rk, rvk, rvi, rvt, rva, rfd⟩).toArray 52)).alloc (.cells (cnC ck (.slice pb n cb) ⟨lk, lvk, lvi, lvt, lva, lfd⟩ ⟨rk, rvk, rvi, rvt, rva, rfd⟩).toArray 52) = W0 := ⟨_, rfl⟩
  have h1 : W0.heap[w.heap.size + 1]? = some (.cells (cnC ck (.slice pb n cb) ⟨lk, lvk, lvi, lvt, lva, lfd⟩ ⟨rk, rvk, rvi, rvt, rva, rfd⟩).toArray 52 (0, 0)) := by rw [← hW0]; exact heap_2 _ _ _
  have h2 : W0.heap[w.heap.size]? = some (.cells (cnC ck (.slice pa n ca) ⟨lk, lvk, lvi, lvt, lva, lfd⟩ ⟨rk, rvk, rvi, rvt, rva, rfd⟩).toArray 52 (0, 0)) := by rw [← hW0]; exact (Below.heap_alloc _ _ _ (by simp)).trans (heap_alloc_new _ _)
  have h3 : Below w.heap.size w W0 := by rw [← hW0]; exact ((Below.refl _ _).alloc (Nat.le_refl _) _).alloc (by simp) _
  have h4 : W0.heap.size = w.heap.size + 2 := by rw [← hW0]; simp
  change Go.Code.wp _ _ _ _ ((w.alloc (.cells (cnC ck (.slice pa n ca) ⟨lk, lvk, lvi, lvt, lva, lfd⟩ ⟨rk, rvk, rvi, rvt, rva, rfd⟩).toArray 52)).alloc (.cells (cnC ck (.slice pb n cb) ⟨lk, lvk, lvi, lvt, lva, lfd⟩ ⟨rk, rvk, rvi, rvt, rva, rfd⟩).toArray 52))
  rw [hW0]
  have H3 : Hid (Below w.heap.size w W0 ∧ W0.heap.size = w.heap.size + 2) := ⟨h3, h4⟩
  have H12 : Hid (W0.heap[w.heap.size + 1]? = some (.cells (cnC ck (.slice pb n cb) ⟨lk, lvk, lvi, lvt, lva, lfd⟩ ⟨rk, rvk, rvi, rvt, rva, rfd⟩).toArray 52 (0, 0)) ∧ W0.heap[w.heap.size]? = some (.cells (cnC ck (.slice pa n ca) ⟨lk, lvk, lvi, lvt, lva, lfd⟩ ⟨rk, rvk, rvi, rvt, rva, rfd⟩).toArray 52 (0, 0))) := ⟨h1, h2⟩
  clear h1 h2 h3 h4 hW0
  go_loopw [5] (fun i wr => ∃ k : Nat, k ≤ n ∧ i = .int .i64 (k : Nat) ∧ Below W0.heap.size W0 wr) (fun i _ => n + 1 - (intOf i).toNat)
  case atStart => exact ⟨0, by omega, rfl, Below.refl _ _⟩
  case round =>
    obtain ⟨k, hk, rfl, hBr⟩ := hrel
    have HBR : Hid (Below W0.heap.size W0 wr) := hBr
    have cA : wr.cell? ⟨w.heap.size, 1, none⟩ = some (.slice pa n ca) := by rw [cell_of_blk ((hBr.block _ (by have := H3.out.2; omega)).trans H12.out.2)]; rfl
    have cB : wr.cell? ⟨w.heap.size + 1, 1, none⟩ = some (.slice pb n cb) := by rw [cell_of_blk ((hBr.block _ (by have := H3.out.2; omega)).trans H12.out.1)]; rfl
    by_cases hlt : k < n
    · have hkc : k < cs.length := by have := HN.out; omega
      obtain ⟨pa', cap1, e1, u1, u2, u5⟩ := row_of encC_len HA.out
      obtain ⟨pb', cap2, e2, v1, v2, v5⟩ := row_of encC_len HB.out
      obtain ⟨ga, rfl, u3, u4⟩ := u5 (by omega)
      obtain ⟨gb, rfl, v3, v4⟩ := v5 (by omega)
      simp only [Value.slice.injEq] at e1 e2
      obtain ⟨rfl, z1, rfl⟩ := e1
      obtain ⟨rfl, z2, rfl⟩ := e2
      clear z1 z2 u5 v5
      obtain ⟨us1, r1, o1⟩ := u4 k hkc
      obtain ⟨us2, r2, o2⟩ := v4 k hkc
      obtain ⟨p1, c1, z1, d1⟩ := encC_cells o1
      obtain ⟨p2, c2, z2, d2⟩ := encC_cells o2
      subst z1 z2
      clear o1 o2
      have hwr : Below w.heap.size w wr := below_trans H3.out.1 hBr (by have := H3.out.2; omega)
      have hr1 : wr.rangeAt ga (k * 14) (cnC cs[k].k (.slice p1 cs[k].sb.length c1) cs[k].l cs[k].r) := fun j u hu => (hwr.cell (p := ⟨ga, k * 14 + j, none⟩) u3).trans (r1 j u hu)
      have hr2 : wr.rangeAt gb (k * 14) (cnC cs[k].k (.slice p2 cs[k].sb.length c2) cs[k].l cs[k].r) := fun j u hu => (hwr.cell (p := ⟨gb, k * 14 + j, none⟩) v3).trans (r2 j u hu)
      have hcall := HIH.out cs[k] (List.getElem_mem hkc) wr.drew S T p1 p2 c1 c2 (d1.mono fun i hi hl => ⟨hi, hwr.block i hl⟩) (d2.mono fun i hi hl => ⟨hi, hwr.block i hl⟩)
      obtain ⟨d, hd⟩ : ∃ d, cs[k] = d := ⟨_, rfl⟩
      rw [hd] at hr1 hr2 hcall
      obtain ⟨dk, dsb, ⟨xk, xvk, xvi, xvt, xva, xfd⟩, ⟨yk, yvk, yvi, yvt, yva, yfd⟩⟩ := d
      obtain ⟨m, hm⟩ : ∃ m, dsb.length = m := ⟨_, rfl⟩
      simp only [hm] at hr1 hr2 hcall
      have HCL : Hid (Calls Tryd.prog 88 #[cnV dk (.slice p1 m c1) ⟨xk, xvk, xvi, xvt, xva, xfd⟩ ⟨yk, yvk, yvi, yvt, yva, yfd⟩, cnV dk (.slice p2 m c2) ⟨xk, xvk, xvi, xvt, xva, xfd⟩ ⟨yk, yvk, yvi, yvt, yva, yfd⟩] wr.drew fun e w' => e = .returned (.bool true) ∧ Below wr.drew.heap.size wr.drew w') := hcall
      obtain ⟨a0, a1, a2, a3, a4, a5, a6, a7, a8, a9, a10, a11, a12, a13⟩ := cells14 hr1
      obtain ⟨b0, b1, b2, b3, b4, b5, b6, b7, b8, b9, b10, b11, b12, b13⟩ := cells14 hr2
      have i1 : (0 : Int) ≤ (k : Int) := by omega
      have i2 : (k : Int) < (n : Int) := by omega
      clear hcall hr1 hr2 hd hm r1 r2 d1 d2 u1 u2 u3 u4 v1 v2 v3 v4 hwr hBr hkc
      go_wp2_with fail
      go_region_law (refine step_call2 88 ent_same (by rfl) _ _ _ (by rfl) (cnV dk (.slice p1 m c1) ⟨xk, xvk, xvi, xvt, xva, xfd⟩ ⟨yk, yvk, yvi, yvt, yva, yfd⟩) (cnV dk (.slice p2 m c2) ⟨xk, xvk, xvi, xvt, xva, xfd⟩ ⟨yk, yvk, yvi, yvt, yva, yfd⟩) (by rfl) (by rfl) _ HCL.out ?_; rintro e w5 ⟨rfl, hb5⟩; refine ⟨_, rfl, ?_⟩; have HB5 : Hid (Below W0.heap.size W0 w5) := below_trans HBR.out.drew hb5 HBR.out.drew.size; clear hb5)
      all_goals
        go_wp2_with fail
        go_roundw
        case rel => exact ⟨k + 1, by omega, by go_num, HB5.out⟩
        case measure => simp [intOf]; omega
    · obtain rfl : k = n := by omega
      go_wp2_with fail
      go_ret
      exact ⟨rfl, below_trans H3.out.1 HBR.out (by have := H3.out.2; omega)⟩
theorem same_cond {c : Cn} (h : Wfc c) : SameC c := by
  induction h with
  | mk c cs e _ ih => exact same_step c cs e ih
end Go.Proofs.YtnlmkdncifijlaaDoor.Ref
