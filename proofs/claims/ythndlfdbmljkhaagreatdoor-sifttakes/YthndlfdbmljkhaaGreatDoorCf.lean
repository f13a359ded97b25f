/-
  Conditions within conditions, by the reference.
-/
import Derived.Test.YthndlfdbmljkhaaGreatDoorCe
namespace Go.Proofs.YthndlfdbmljkhaaGreatDoor.Chk
open Go.ChangeShapes Go.WideShapes Go.ChangeAt Go.RowKit Go.Maps
set_option linter.unusedVariables false
set_option linter.unusedSimpArgs false
set_option maxRecDepth 20000
theorem step_call5 {ops : Array Oper} {o : Oper} {a : Act} {w : World} {K : Act → World → Prop} {Q : Exit → Act → World → Prop} {E : Prop} (f : FuncId) (he : ∀ args w, (callFunc f args).run Tryz.prog w = .ok (.enter f args) w) (hw : Region.wanted o (yielded ops a.tmps) = true) (x1 x2 x3 x4 x5 : Operand) (ts : Array TypeId) (ho : o.op = .call { callee := .value (.func f), args := #[x1, x2, x3, x4, x5], argTypes := ts }) (u1 u2 u3 u4 u5 : Value) (h1 : a.eval x1 = u1) (h2 : a.eval x2 = u2) (h3 : a.eval x3 = u3) (h4 : a.eval x4 = u4) (h5 : a.eval x5 = u5)
    (R : Ending → World → Prop) (hc : Calls Tryz.prog f #[u1, u2, u3, u4, u5] w R) (h : ∀ e w', R e w' → ∃ v, e = .returned v ∧ K (a.put o.dst v) w') :
    if Region.wanted o (yielded ops a.tmps) = true then Oper.wp Tryz.prog o a w K Q else E := by
  rw [if_pos hw]
  unfold Oper.wp execOp
  have hf : a.eval (.func f) = Value.func (Fn.func f) #[] #[] := rfl
  simp [ho, resolve, invoke, Deferred.ofValue, hf, h1, h2, h3, h4, h5, he]
  refine hc.mono ?_
  intro e w' hr
  obtain ⟨v, rfl, hk⟩ := h e w' hr
  exact hk
theorem range_bel {w w' : World} {g o : Nat} {l : List Value} (h : w.rangeAt g o l) (hb : Below w.drew.heap.size w.drew w') : w'.rangeAt g o l := fun j x hx => (hb.cell (p := ⟨g, o + j, none⟩) (World.block_lt_of_cell? _ _ (h j x hx))).trans (h j x hx)
theorem ent_cf : ∀ args w, (callFunc 122 args).run Tryz.prog w = .ok (.enter 122 args) w := enters_of Tryz.func122 (by kernel_rfl) rfl
theorem cgo_range (f : Cn → Int × Int) (hf : ∀ x, 0 ≤ (f x).1 ∧ (f x).1 ≤ 12) : ∀ l m, 0 ≤ m ∧ m ≤ 12 → 0 ≤ (cgo f l m).1 ∧ (cgo f l m).1 ≤ 12
  | [], m, h => h
  | x :: r, m, h => by
    unfold cgo
    split
    · exact ⟨by simp, by simp⟩
    · split
      · exact ⟨by simp, by simp⟩
      · rename_i c
        exact cgo_range f hf r _ ⟨by have := (hf x).1; omega, by omega⟩
theorem cdk_range (ts : List Tp) (kn : List Pt) (own : Tp) : ∀ n c, 0 ≤ (cdk ts kn own n c).1 ∧ (cdk ts kn own n c).1 ≤ 12
  | 0, c => by unfold cdk; split <;> exact ⟨by simp, by simp⟩
  | n + 1, c => by
    unfold cdk
    repeat' split
    all_goals first
      | exact cgo_range _ (cdk_range ts kn own n) _ _ ⟨by decide, by decide⟩
      | exact ⟨by simp, by simp⟩
theorem encC_rd {w : World} {c : Cn} {vs : List Value} (h : RdL w (encC c) vs) : ∃ v, vs = cnC c.k v c.l c.r ∧ Rd w (.row 63 14 c.sb) v := by
  obtain ⟨v2, r2, rfl, h2, h⟩ := RdL.one h
  obtain ⟨v3, r3, rfl, h3, h⟩ := RdL.one h
  obtain ⟨a0, r4, rfl, g0, h⟩ := RdL.one h
  obtain ⟨a1, r4, rfl, g1, h⟩ := RdL.one h
  obtain ⟨a2, r4, rfl, g2, h⟩ := RdL.one h
  obtain ⟨a3, r4, rfl, g3, h⟩ := RdL.one h
  obtain ⟨a4, r4, rfl, g4, h⟩ := RdL.one h
  obtain ⟨a5, r4, rfl, g5, h⟩ := RdL.one h
  obtain ⟨b0, r4, rfl, k0, h⟩ := RdL.one h
  obtain ⟨b1, r4, rfl, k1, h⟩ := RdL.one h
  obtain ⟨b2, r4, rfl, k2, h⟩ := RdL.one h
  obtain ⟨b3, r4, rfl, k3, h⟩ := RdL.one h
  obtain ⟨b4, r4, rfl, k4, h⟩ := RdL.one h
  obtain ⟨b5, r4, rfl, k5, h⟩ := RdL.one h
  rw [rd_lit h2, rd_lit g0, rd_lit g1, rd_lit g2, rd_lit g3, rd_lit g4, rd_lit g5, rd_lit k0, rd_lit k1, rd_lit k2, rd_lit k3, rd_lit k4, rd_lit k5, RdL.none h]
  exact ⟨v3, rfl, h3⟩
set_option maxHeartbeats 16000000 in
theorem cond_group (f : Cn → Int × Int) (hfr : ∀ x, 0 ≤ (f x).1 ∧ (f x).1 ≤ 12) (cs : List Cn) (on : ByteArray) (ck : Int) (lk lvk lvi rk rvk rvi : Int) (lvt lva lfd rvt rva rfd : ByteArray) (tp kp fp : Option Addr) (v : Value) (tl tc kl kc fl fc : Nat) (dp : Int) (w : World) (hk : 1 ≤ ck ∧ ck ≤ 7) (hd : ¬ 8 < dp) (hd0 : 0 ≤ dp) (h3 : ¬ 3 < ck) (hl : eqz ⟨lk, lvk, lvi, lvt, lva, lfd⟩ = true) (hr : eqz ⟨rk, rvk, rvi, rvt, rva, rfd⟩ = true) (hcn : ¬ ((ck = 3 ∧ cs.length ≠ 1) ∨ (ck ≠ 3 ∧ cs.length < 2))) (hS : Rd w (.row 63 14 (cs.map encC)) v)
    (hIH : ∀ x, x ∈ cs → ∀ W, Below w.heap.size w W → ∀ u, Rd W (.row 63 14 x.sb) u → Calls Tryz.prog 122 #[.slice tp tl tc, .slice kp kl kc, .agg #[.string on, .slice fp fl fc], .agg (cnC x.k u x.l x.r).toArray, .int .i64 (dp + 1)] W (CR W (f x))) :
    Calls Tryz.prog 122 #[.slice tp tl tc, .slice kp kl kc, .agg #[.string on, .slice fp fl fc], cnV ck v ⟨lk, lvk, lvi, lvt, lva, lfd⟩ ⟨rk, rvk, rvi, rvt, rva, rfd⟩, .int .i64 dp] w (CR w (cgo f cs 0)) := by
  obtain ⟨z1, z2, z3, z4, z5, z6⟩ := eqz_of hl
  obtain ⟨z7, z8, z9, y1, y2, y3⟩ := eqz_of hr
  simp only at z1 z2 z3 z4 z5 z6 z7 z8 z9 y1 y2 y3
  subst z1 z2 z3 z7 z8 z9
  obtain ⟨p, cap, rfl, hmx, hat⟩ := rd_row lenC hS
  have HAT : Hid (At encC 14 w p cs) := hat
  have HIH := hid hIH
  have HFR := hid hfr
  obtain ⟨n, hn⟩ : ∃ n, cs.length = n := ⟨_, rfl⟩
  have HN : Hid (cs.length = n) := hn
  rw [hn] at hmx hcn ⊢
  obtain ⟨F, hF⟩ : ∃ F, cgo f cs 0 = F := ⟨_, rfl⟩
  rw [hF]
  have HF : Hid (cgo f cs 0 = F) := hF
  have HI : Hid (∀ W, Calls Tryz.prog 17 #[.int .i64 ck, .int .i64 1, .int .i64 7] W fun e w' => e = .returned (.bool true) ∧ w' = W) := fun W => in_any ck _ _ true (say_true hk) W
  have HB3 : Hid (Blk2 w (((w.alloc (.cells [.string on, .slice fp fl fc].toArray 72)).alloc (.cells (cnC ck (.slice p n cap) ⟨0, 0, 0, lvt, lva, lfd⟩ ⟨0, 0, 0, rvt, rva, rfd⟩).toArray 63)).alloc (.cells #[.int .i64 0, .int .i64 0, .int .i64 0, .string ⟨#[]⟩, .string ⟨#[]⟩, .string ⟨#[]⟩] 61)) [.string on, .slice fp fl fc] (cnC ck (.slice p n cap) ⟨0, 0, 0, lvt, lva, lfd⟩ ⟨0, 0, 0, rvt, rva, rfd⟩) 72 63) := (Blk2.start w _ _ _ _).alloc _
  have hwd : IntKind.i64.wrap (dp + 1) = dp + 1 := by rw [IntKind.wrap_i64]; omega
  have HC : Hid ((ck = 3 ∧ n = 1) ∨ (ck ≠ 3 ∧ ¬ n < 2)) := by
    show _ ∨ _
    by_cases c : ck = 3
    · exact .inl ⟨c, by by_cases d : n = 1; exact d; exact absurd (.inl ⟨c, d⟩) hcn⟩
    · exact .inr ⟨c, fun d => hcn (.inr ⟨c, d⟩)⟩
  clear hl hr hS hat hIH hfr hn hF hcn
  have main : ∀ ck : Int, True := fun _ => trivial
  clear main
  go_enter Tryz.func122, Tryz.ntmps122
  rcases HC.out with ⟨hc1, hc2⟩ | ⟨hc1, hc2⟩
  · have q0 : (ck == 3) = true := by simpa using hc1
    have q9 : (ck != 3) = false := by simpa using hc1
    have q1 : ((n : Int) != 1) = false := by simp; omega
    have q2 : ((n : Int) == 1) = true := by simp; omega
    clear hc1 hc2 HC
    go_wp2_with (go_at_call 17; refine (HI.out _).mono ?_; rintro e w' ⟨rfl, rfl⟩)
    clear q0 q9 q1 q2
    obtain ⟨W3, hW3⟩ : ∃ W3, (((w.alloc (.cells [.string on, .slice fp fl fc].toArray 72)).alloc (.cells (cnC ck (.slice p n cap) ⟨0, 0, 0, lvt, lva, lfd⟩ ⟨0, 0, 0, rvt, rva, rfd⟩).toArray 63)).alloc (.cells #[.int .i64 0, .int .i64 0, .int .i64 0, .string ⟨#[]⟩, .string ⟨#[]⟩, .string ⟨#[]⟩] 61)) = W3 := ⟨_, rfl⟩
    change Go.Code.wp _ _ _ _ (((w.alloc (.cells [.string on, .slice fp fl fc].toArray 72)).alloc (.cells (cnC ck (.slice p n cap) ⟨0, 0, 0, lvt, lva, lfd⟩ ⟨0, 0, 0, rvt, rva, rfd⟩).toArray 63)).alloc (.cells #[.int .i64 0, .int .i64 0, .int .i64 0, .string ⟨#[]⟩, .string ⟨#[]⟩, .string ⟨#[]⟩] 61))
    rw [hW3] at HB3 ⊢
    clear hW3 HI
    go_loopw [17, 18, 19, 20] (fun s i _ _ wr => ∃ (k : Nat) (m : Int), k ≤ n ∧ i = .int .i64 (k : Nat) ∧ s = .int .i64 m ∧ 0 ≤ m ∧ m ≤ 12 ∧ cgo f (cs.drop k) m = F ∧ Blk2 w wr [.string on, .slice fp fl fc] (cnC ck (.slice p n cap) ⟨0, 0, 0, lvt, lva, lfd⟩ ⟨0, 0, 0, rvt, rva, rfd⟩) 72 63) (fun _ i _ _ _ => n + 1 - (intOf i).toNat)
    case atStart => exact ⟨0, 0, by omega, rfl, rfl, by decide, by decide, HF.out, HB3.out⟩
    case round =>
      obtain ⟨k, m, hk2, rfl, rfl, hm0, hm1, hcg, hTr⟩ := hrel
      have HT : Hid (Blk2 w wr [.string on, .slice fp fl fc] (cnC ck (.slice p n cap) ⟨0, 0, 0, lvt, lva, lfd⟩ ⟨0, 0, 0, rvt, rva, rfd⟩) 72 63) := hTr
      have a1 : wr.cell? ⟨w.heap.size + 1, 1, none⟩ = some (.slice p n cap) := hTr.c2 1
      by_cases hlt : k < n
      · have hkc : k < cs.length := by have := HN.out; omega
        obtain ⟨g, off, hp, hrd⟩ := HAT.out (by omega)
        have HQ : Hid (p = some ⟨g, off, none⟩) := hp
        obtain ⟨A, r1, o1⟩ := hrd wr hTr.bel k hkc
        obtain ⟨u, z1, o2⟩ := encC_rd o1
        have hcall := HIH.out cs[k] (List.getElem_mem hkc) wr.drew hTr.bel.drew u (o2.later (Below.drew (Below.refl _ _)))
        rw [← z1] at hcall
        have hA14 : A.length = 14 := o1.1.symm
        rw [List.drop_eq_getElem_cons hkc, cgo] at hcg
        have hrg := HFR.out cs[k]
        obtain ⟨⟨rm, re⟩, hre⟩ : ∃ q, f cs[k] = q := ⟨_, rfl⟩
        rw [hre] at hcall hcg hrg
        simp only at hcg hrg
        have HCM : Hid (Calls Tryz.prog 122 #[.slice tp tl tc, .slice kp kl kc, .agg #[.string on, .slice fp fl fc], .agg A.toArray, .int .i64 (dp + 1)] wr.drew (fun e w' => ∃ m : Int, e = .returned (.tuple #[.int .i64 m, .int .i64 re]) ∧ (re = 0 → m = rm) ∧ Below wr.drew.heap.size wr.drew w')) := hcall
        have ZA : Hid ((Tryz.prog.info? 63).map (·.size) = some A.length) := by show _ = _; rw [hA14]; kernel_rfl
        have X1 : Hid (wr.rangeAt g (off + k * 14) A) := r1
        have HCG : Hid ((if re ≠ 0 then (0, re) else if 12 < m + rm then (0, 1) else cgo f (cs.drop (k + 1)) (m + rm)) = F) := hcg
        have i1 : (0 : Int) ≤ (k : Int) := by omega
        have i2 : (k : Int) < (n : Int) := by omega
        have hwm : IntKind.i64.wrap (m + rm) = m + rm := by rw [IntKind.wrap_i64]; omega
        clear hcall r1 o1 o2 hrd hTr hkc hA14 hcg hre z1
        rw [hp] at a1
        clear hp
        go_wp2_with fail
        refine start_n (S := (fun w' => w'.cell? ⟨w.heap.size, 0, none⟩ = some (.string on) ∧ w'.cell? ⟨w.heap.size, 1, none⟩ = some (.slice fp fl fc) ∧ w'.cell? ⟨w.heap.size + 1, 1, none⟩ = some (.slice (some ⟨g, off, none⟩) n cap) ∧ w'.rangeAt g (off + k * 14) A)) 16 #[false, false, false, false, false, false, false, false, false, false, false, false, false, false, false, false] rfl rfl (by kernel_rfl) (by { exact ⟨HT.out.c1 0, HT.out.c1 1, by { have h := HT.out.c2 1; rw [HQ.out] at h; exact h }, X1.out⟩ }) (fun hHeld => ?_)
        refine take_mk (i := 0) (v := ?v1) rfl (by kernel_rfl) (by kernel_rfl) (by kernel_rfl) (fun _ _ _ h => h) (Or.inl ⟨by rfl, ?hy1⟩) (by assumption) ?rest1
        case hy1 => (intro w0 hSw; (try dsimp only at hSw); go_simp <;> (try (with_reducible rfl)))
        (try simp only [Act.put, List.setIfInBounds_toArray, List.set_cons_zero, List.set_cons_succ])
        refine take_mk (i := 1) (v := ?v2) rfl (by kernel_rfl) (by kernel_rfl) (by kernel_rfl) (fun _ _ _ h => h) (Or.inl ⟨by rfl, ?hy2⟩) (by assumption) ?rest2
        case hy2 => (intro w0 hSw; (try dsimp only at hSw); go_simp <;> (try (with_reducible rfl)))
        (try simp only [Act.put, List.setIfInBounds_toArray, List.set_cons_zero, List.set_cons_succ])
        refine take_mk (i := 2) (v := ?v3) rfl (by kernel_rfl) (by kernel_rfl) (by kernel_rfl) (fun _ _ _ h => h) (Or.inl ⟨by rfl, ?hy3⟩) (by assumption) ?rest3
        case hy3 => (intro w0 hSw; (try dsimp only at hSw); go_simp <;> (try (with_reducible rfl)))
        (try simp only [Act.put, List.setIfInBounds_toArray, List.set_cons_zero, List.set_cons_succ])
        refine take_mk (i := 3) (v := ?v4) rfl (by kernel_rfl) (by kernel_rfl) (by kernel_rfl) (fun _ _ _ h => h) (Or.inl ⟨by rfl, ?hy4⟩) (by assumption) ?rest4
        case hy4 => (intro w0 hSw; (try dsimp only at hSw); go_simp <;> (try (with_reducible rfl)))
        (try simp only [Act.put, List.setIfInBounds_toArray, List.set_cons_zero, List.set_cons_succ])
        refine take_mk (i := 4) (v := ?v5) rfl (by kernel_rfl) (by kernel_rfl) (by kernel_rfl) (fun _ _ _ h => h) (Or.inl ⟨by rfl, ?hy5⟩) (by assumption) ?rest5
        case hy5 => (intro w0 hSw; (try dsimp only at hSw); go_simp <;> (try (with_reducible rfl)))
        (try simp only [Act.put, List.setIfInBounds_toArray, List.set_cons_zero, List.set_cons_succ])
        refine take_mk (i := 5) (v := ?v6) rfl (by kernel_rfl) (by kernel_rfl) (by kernel_rfl) (fun _ _ _ h => h) (Or.inl ⟨by rfl, ?hy6⟩) (by assumption) ?rest6
        case hy6 => (intro w0 hSw; (try dsimp only at hSw); go_simp <;> (try (with_reducible rfl)))
        (try simp only [Act.put, List.setIfInBounds_toArray, List.set_cons_zero, List.set_cons_succ])
        refine take_mk (i := 6) (v := ?v7) rfl (by kernel_rfl) (by kernel_rfl) (by kernel_rfl) (fun _ _ _ h => h) (Or.inl ⟨by rfl, ?hy7⟩) (by assumption) ?rest7
        case hy7 => (intro w0 hSw; (try dsimp only at hSw); go_simp <;> (try (with_reducible rfl)))
        (try simp only [Act.put, List.setIfInBounds_toArray, List.set_cons_zero, List.set_cons_succ])
        refine take_mk (i := 7) rfl (by kernel_rfl) (by kernel_rfl) (by kernel_rfl) (fun _ _ _ h => h) (yieldsIf_load_mid (by rfl) 63 _ rfl g (off + k * 14) (by rfl) A _ (fun _ h => h.2.2.2) Tryz.underlying63 rfl ZA.out) (by assumption) ?_
        (try simp only [Act.put, List.setIfInBounds_toArray, List.set_cons_zero, List.set_cons_succ])
        refine take_mk (i := 8) (v := ?v8) rfl (by kernel_rfl) (by kernel_rfl) (by kernel_rfl) (fun _ _ _ h => h) (Or.inl ⟨by rfl, ?hy8⟩) (by assumption) ?rest8
        case hy8 => (intro w0 hSw; (try dsimp only at hSw); go_simp <;> (try (with_reducible rfl)))
        (try simp only [Act.put, List.setIfInBounds_toArray, List.set_cons_zero, List.set_cons_succ])
        refine take_mk (i := 9) (v := ?v9) rfl (by kernel_rfl) (by kernel_rfl) (by kernel_rfl) (fun _ _ _ h => h) (Or.inl ⟨by rfl, ?hy9⟩) (by assumption) ?rest9
        case hy9 => (intro w0 hSw; (try dsimp only at hSw); go_simp <;> (try (with_reducible rfl)))
        (try simp only [Act.put, List.setIfInBounds_toArray, List.set_cons_zero, List.set_cons_succ])
        refine wpAnyH_ready (rs := [10]) (by kernel_rfl) (by simp) ?_
        refine cons_mk rfl (fun K hK => ?_) AllReadyH.nil
        refine step_call5 122 ent_cf (by rfl) _ _ _ _ _ _ (by rfl) (.slice tp tl tc) (.slice kp kl kc) (.agg #[.string on, .slice fp fl fc]) (.agg A.toArray) (.int .i64 (dp + 1)) (by rfl) (by rfl) (by rfl) (by rfl) (by rfl) _ (HCM.out) ?_
        rintro e w5 ⟨m5, rfl, hm5, hb5⟩
        refine ⟨_, rfl, ?_⟩
        have HM5 : Hid (re = 0 → m5 = rm) := hm5
        have HT5 : Hid (Blk2 w w5 [.string on, .slice fp fl fc] (cnC ck (.slice p n cap) ⟨0, 0, 0, lvt, lva, lfd⟩ ⟨0, 0, 0, rvt, rva, rfd⟩) 72 63) := HT.out.drew.next hb5
        have X5 : Hid (w5.rangeAt g (off + k * 14) A) := range_bel X1.out hb5
        clear hb5 hm5
        refine hK.out _ _ (by { exact ⟨HT5.out.c1 0, HT5.out.c1 1, by { have h := HT5.out.c2 1; rw [HQ.out] at h; exact h }, X5.out⟩ }) (fun hHeld => ?_)
        clear hK K
        (try simp only [Act.put, List.setIfInBounds_toArray, List.set_cons_zero, List.set_cons_succ])
        refine take_mk (i := 11) (v := ?v10) rfl (by kernel_rfl) (by kernel_rfl) (by kernel_rfl) (fun _ _ _ h => h) (Or.inl ⟨by rfl, ?hy10⟩) (by assumption) ?rest10
        case hy10 => (intro w0 hSw; (try dsimp only at hSw); go_simp <;> (try (with_reducible rfl)))
        (try simp only [Act.put, List.setIfInBounds_toArray, List.set_cons_zero, List.set_cons_succ])
        refine take_mk (i := 12) (v := ?v11) rfl (by kernel_rfl) (by kernel_rfl) (by kernel_rfl) (fun _ _ _ h => h) (Or.inl ⟨by rfl, ?hy11⟩) (by assumption) ?rest11
        case hy11 => (intro w0 hSw; (try dsimp only at hSw); go_simp <;> (try (with_reducible rfl)))
        (try simp only [Act.put, List.setIfInBounds_toArray, List.set_cons_zero, List.set_cons_succ])
        refine take_mk (i := 13) (v := ?v12) rfl (by kernel_rfl) (by kernel_rfl) (by kernel_rfl) (fun _ _ _ h => h) (Or.inl ⟨by rfl, ?hy12⟩) (by assumption) ?rest12
        case hy12 => (intro w0 hSw; (try dsimp only at hSw); go_simp <;> (try (with_reducible rfl)))
        (try simp only [Act.put, List.setIfInBounds_toArray, List.set_cons_zero, List.set_cons_succ])
        refine take_mk (i := 14) (v := ?v13) rfl (by kernel_rfl) (by kernel_rfl) (by kernel_rfl) (fun _ _ _ h => h) (Or.inl ⟨by rfl, ?hy13⟩) (by assumption) ?rest13
        case hy13 => (intro w0 hSw; (try dsimp only at hSw); go_simp <;> (try (with_reducible rfl)))
        (try simp only [Act.put, List.setIfInBounds_toArray, List.set_cons_zero, List.set_cons_succ])
        refine take_mk (i := 15) (v := ?v14) rfl (by kernel_rfl) (by kernel_rfl) (by kernel_rfl) (fun _ _ _ h => h) (Or.inl ⟨by rfl, ?hy14⟩) (by assumption) ?rest14
        case hy14 => (intro w0 hSw; (try dsimp only at hSw); go_simp <;> (try (with_reducible rfl)))
        (try simp only [Act.put, List.setIfInBounds_toArray, List.set_cons_zero, List.set_cons_succ])
        refine wpAnyH_done (by kernel_rfl) ?_ _
        clear hHeld a1
        by_cases hr0 : re = 0
        · have hm9 := HM5.out hr0
          have hcg := HCG.out
          rw [if_neg (by simpa using hr0)] at hcg
          have HCG2 := hid hcg
          clear hcg HCG HM5
          subst hr0 hm9
          by_cases h12 : 12 < m + m5
          · have HR : Hid ((0, 1) = F) := by have h := HCG2.out; rw [if_pos h12] at h; exact h
            go_wp2_with fail
            go_ret2
            rw [← HR.out]
            exact ⟨0, rfl, fun _ => rfl, HT5.out.bel⟩
          · have HR : Hid (cgo f (cs.drop (k + 1)) (m + m5) = F) := by have h := HCG2.out; rw [if_neg h12] at h; exact h
            go_wp2_with fail
            go_roundw
            case rel => exact ⟨k + 1, m + m5, by omega, by go_num, rfl, by omega, by omega, HR.out, HT5.out⟩
            case measure => simp [intOf]; omega
        · have b1 : (re != 0) = true := by simpa using hr0
          have b2 : (re == 0) = false := by simpa using hr0
          have HR : Hid ((0, re) = F) := by have h := HCG.out; rw [if_pos hr0] at h; exact h
          go_wp2_with fail
          go_ret2
          rw [← HR.out]
          exact ⟨0, rfl, fun _ => rfl, HT5.out.bel⟩
      · obtain rfl : n = k := by omega
        have hcg2 := hcg
        rw [List.drop_eq_nil_of_le (by have := HN.out; omega), cgo] at hcg2
        have HR := hid hcg2
        clear hTr hcg hcg2
        go_wp2_with fail
        go_ret2
        rw [← HR.out]
        exact ⟨m, rfl, fun _ => rfl, HT.out.bel⟩
  · have q1 : (ck == 3) = false := by simpa using hc1
    have q2 : (ck != 3) = true := by simpa using hc1
    have q3 : ¬ (n : Int) < 2 := by omega
    go_wp2_with (go_at_call 17; refine (HI.out _).mono ?_; rintro e w' ⟨rfl, rfl⟩)
    clear q1 q2 q3
    obtain ⟨W3, hW3⟩ : ∃ W3, (((w.alloc (.cells [.string on, .slice fp fl fc].toArray 72)).alloc (.cells (cnC ck (.slice p n cap) ⟨0, 0, 0, lvt, lva, lfd⟩ ⟨0, 0, 0, rvt, rva, rfd⟩).toArray 63)).alloc (.cells #[.int .i64 0, .int .i64 0, .int .i64 0, .string ⟨#[]⟩, .string ⟨#[]⟩, .string ⟨#[]⟩] 61)) = W3 := ⟨_, rfl⟩
    change Go.Code.wp _ _ _ _ (((w.alloc (.cells [.string on, .slice fp fl fc].toArray 72)).alloc (.cells (cnC ck (.slice p n cap) ⟨0, 0, 0, lvt, lva, lfd⟩ ⟨0, 0, 0, rvt, rva, rfd⟩).toArray 63)).alloc (.cells #[.int .i64 0, .int .i64 0, .int .i64 0, .string ⟨#[]⟩, .string ⟨#[]⟩, .string ⟨#[]⟩] 61))
    rw [hW3] at HB3 ⊢
    clear hW3 HI
    go_loopw [17, 18, 19, 20] (fun s i _ _ wr => ∃ (k : Nat) (m : Int), k ≤ n ∧ i = .int .i64 (k : Nat) ∧ s = .int .i64 m ∧ 0 ≤ m ∧ m ≤ 12 ∧ cgo f (cs.drop k) m = F ∧ Blk2 w wr [.string on, .slice fp fl fc] (cnC ck (.slice p n cap) ⟨0, 0, 0, lvt, lva, lfd⟩ ⟨0, 0, 0, rvt, rva, rfd⟩) 72 63) (fun _ i _ _ _ => n + 1 - (intOf i).toNat)
    case atStart => exact ⟨0, 0, by omega, rfl, rfl, by decide, by decide, HF.out, HB3.out⟩
    case round =>
      obtain ⟨k, m, hk2, rfl, rfl, hm0, hm1, hcg, hTr⟩ := hrel
      have HT : Hid (Blk2 w wr [.string on, .slice fp fl fc] (cnC ck (.slice p n cap) ⟨0, 0, 0, lvt, lva, lfd⟩ ⟨0, 0, 0, rvt, rva, rfd⟩) 72 63) := hTr
      have a1 : wr.cell? ⟨w.heap.size + 1, 1, none⟩ = some (.slice p n cap) := hTr.c2 1
      by_cases hlt : k < n
      · have hkc : k < cs.length := by have := HN.out; omega
        obtain ⟨g, off, hp, hrd⟩ := HAT.out (by omega)
        have HQ : Hid (p = some ⟨g, off, none⟩) := hp
        obtain ⟨A, r1, o1⟩ := hrd wr hTr.bel k hkc
        obtain ⟨u, z1, o2⟩ := encC_rd o1
        have hcall := HIH.out cs[k] (List.getElem_mem hkc) wr.drew hTr.bel.drew u (o2.later (Below.drew (Below.refl _ _)))
        rw [← z1] at hcall
        have hA14 : A.length = 14 := o1.1.symm
        rw [List.drop_eq_getElem_cons hkc, cgo] at hcg
        have hrg := HFR.out cs[k]
        obtain ⟨⟨rm, re⟩, hre⟩ : ∃ q, f cs[k] = q := ⟨_, rfl⟩
        rw [hre] at hcall hcg hrg
        simp only at hcg hrg
        have HCM : Hid (Calls Tryz.prog 122 #[.slice tp tl tc, .slice kp kl kc, .agg #[.string on, .slice fp fl fc], .agg A.toArray, .int .i64 (dp + 1)] wr.drew (fun e w' => ∃ m : Int, e = .returned (.tuple #[.int .i64 m, .int .i64 re]) ∧ (re = 0 → m = rm) ∧ Below wr.drew.heap.size wr.drew w')) := hcall
        have ZA : Hid ((Tryz.prog.info? 63).map (·.size) = some A.length) := by show _ = _; rw [hA14]; kernel_rfl
        have X1 : Hid (wr.rangeAt g (off + k * 14) A) := r1
        have HCG : Hid ((if re ≠ 0 then (0, re) else if 12 < m + rm then (0, 1) else cgo f (cs.drop (k + 1)) (m + rm)) = F) := hcg
        have i1 : (0 : Int) ≤ (k : Int) := by omega
        have i2 : (k : Int) < (n : Int) := by omega
        have hwm : IntKind.i64.wrap (m + rm) = m + rm := by rw [IntKind.wrap_i64]; omega
        clear hcall r1 o1 o2 hrd hTr hkc hA14 hcg hre z1
        rw [hp] at a1
        clear hp
        go_wp2_with fail
        refine start_n (S := (fun w' => w'.cell? ⟨w.heap.size, 0, none⟩ = some (.string on) ∧ w'.cell? ⟨w.heap.size, 1, none⟩ = some (.slice fp fl fc) ∧ w'.cell? ⟨w.heap.size + 1, 1, none⟩ = some (.slice (some ⟨g, off, none⟩) n cap) ∧ w'.rangeAt g (off + k * 14) A)) 16 #[false, false, false, false, false, false, false, false, false, false, false, false, false, false, false, false] rfl rfl (by kernel_rfl) (by { exact ⟨HT.out.c1 0, HT.out.c1 1, by { have h := HT.out.c2 1; rw [HQ.out] at h; exact h }, X1.out⟩ }) (fun hHeld => ?_)
        refine take_mk (i := 0) (v := ?v1b) rfl (by kernel_rfl) (by kernel_rfl) (by kernel_rfl) (fun _ _ _ h => h) (Or.inl ⟨by rfl, ?hy1b⟩) (by assumption) ?rest1b
        case hy1b => (intro w0 hSw; (try dsimp only at hSw); go_simp <;> (try (with_reducible rfl)))
        (try simp only [Act.put, List.setIfInBounds_toArray, List.set_cons_zero, List.set_cons_succ])
        refine take_mk (i := 1) (v := ?v2b) rfl (by kernel_rfl) (by kernel_rfl) (by kernel_rfl) (fun _ _ _ h => h) (Or.inl ⟨by rfl, ?hy2b⟩) (by assumption) ?rest2b
        case hy2b => (intro w0 hSw; (try dsimp only at hSw); go_simp <;> (try (with_reducible rfl)))
        (try simp only [Act.put, List.setIfInBounds_toArray, List.set_cons_zero, List.set_cons_succ])
        refine take_mk (i := 2) (v := ?v3b) rfl (by kernel_rfl) (by kernel_rfl) (by kernel_rfl) (fun _ _ _ h => h) (Or.inl ⟨by rfl, ?hy3b⟩) (by assumption) ?rest3b
        case hy3b => (intro w0 hSw; (try dsimp only at hSw); go_simp <;> (try (with_reducible rfl)))
        (try simp only [Act.put, List.setIfInBounds_toArray, List.set_cons_zero, List.set_cons_succ])
        refine take_mk (i := 3) (v := ?v4b) rfl (by kernel_rfl) (by kernel_rfl) (by kernel_rfl) (fun _ _ _ h => h) (Or.inl ⟨by rfl, ?hy4b⟩) (by assumption) ?rest4b
        case hy4b => (intro w0 hSw; (try dsimp only at hSw); go_simp <;> (try (with_reducible rfl)))
        (try simp only [Act.put, List.setIfInBounds_toArray, List.set_cons_zero, List.set_cons_succ])
        refine take_mk (i := 4) (v := ?v5b) rfl (by kernel_rfl) (by kernel_rfl) (by kernel_rfl) (fun _ _ _ h => h) (Or.inl ⟨by rfl, ?hy5b⟩) (by assumption) ?rest5b
        case hy5b => (intro w0 hSw; (try dsimp only at hSw); go_simp <;> (try (with_reducible rfl)))
        (try simp only [Act.put, List.setIfInBounds_toArray, List.set_cons_zero, List.set_cons_succ])
        refine take_mk (i := 5) (v := ?v6b) rfl (by kernel_rfl) (by kernel_rfl) (by kernel_rfl) (fun _ _ _ h => h) (Or.inl ⟨by rfl, ?hy6b⟩) (by assumption) ?rest6b
        case hy6b => (intro w0 hSw; (try dsimp only at hSw); go_simp <;> (try (with_reducible rfl)))
        (try simp only [Act.put, List.setIfInBounds_toArray, List.set_cons_zero, List.set_cons_succ])
        refine take_mk (i := 6) (v := ?v7b) rfl (by kernel_rfl) (by kernel_rfl) (by kernel_rfl) (fun _ _ _ h => h) (Or.inl ⟨by rfl, ?hy7b⟩) (by assumption) ?rest7b
        case hy7b => (intro w0 hSw; (try dsimp only at hSw); go_simp <;> (try (with_reducible rfl)))
        (try simp only [Act.put, List.setIfInBounds_toArray, List.set_cons_zero, List.set_cons_succ])
        refine take_mk (i := 7) rfl (by kernel_rfl) (by kernel_rfl) (by kernel_rfl) (fun _ _ _ h => h) (yieldsIf_load_mid (by rfl) 63 _ rfl g (off + k * 14) (by rfl) A _ (fun _ h => h.2.2.2) Tryz.underlying63 rfl ZA.out) (by assumption) ?_
        (try simp only [Act.put, List.setIfInBounds_toArray, List.set_cons_zero, List.set_cons_succ])
        refine take_mk (i := 8) (v := ?v8b) rfl (by kernel_rfl) (by kernel_rfl) (by kernel_rfl) (fun _ _ _ h => h) (Or.inl ⟨by rfl, ?hy8b⟩) (by assumption) ?rest8b
        case hy8b => (intro w0 hSw; (try dsimp only at hSw); go_simp <;> (try (with_reducible rfl)))
        (try simp only [Act.put, List.setIfInBounds_toArray, List.set_cons_zero, List.set_cons_succ])
        refine take_mk (i := 9) (v := ?v9b) rfl (by kernel_rfl) (by kernel_rfl) (by kernel_rfl) (fun _ _ _ h => h) (Or.inl ⟨by rfl, ?hy9b⟩) (by assumption) ?rest9b
        case hy9b => (intro w0 hSw; (try dsimp only at hSw); go_simp <;> (try (with_reducible rfl)))
        (try simp only [Act.put, List.setIfInBounds_toArray, List.set_cons_zero, List.set_cons_succ])
        refine wpAnyH_ready (rs := [10]) (by kernel_rfl) (by simp) ?_
        refine cons_mk rfl (fun K hK => ?_) AllReadyH.nil
        refine step_call5 122 ent_cf (by rfl) _ _ _ _ _ _ (by rfl) (.slice tp tl tc) (.slice kp kl kc) (.agg #[.string on, .slice fp fl fc]) (.agg A.toArray) (.int .i64 (dp + 1)) (by rfl) (by rfl) (by rfl) (by rfl) (by rfl) _ (HCM.out) ?_
        rintro e w5 ⟨m5, rfl, hm5, hb5⟩
        refine ⟨_, rfl, ?_⟩
        have HM5 : Hid (re = 0 → m5 = rm) := hm5
        have HT5 : Hid (Blk2 w w5 [.string on, .slice fp fl fc] (cnC ck (.slice p n cap) ⟨0, 0, 0, lvt, lva, lfd⟩ ⟨0, 0, 0, rvt, rva, rfd⟩) 72 63) := HT.out.drew.next hb5
        have X5 : Hid (w5.rangeAt g (off + k * 14) A) := range_bel X1.out hb5
        clear hb5 hm5
        refine hK.out _ _ (by { exact ⟨HT5.out.c1 0, HT5.out.c1 1, by { have h := HT5.out.c2 1; rw [HQ.out] at h; exact h }, X5.out⟩ }) (fun hHeld => ?_)
        clear hK K
        (try simp only [Act.put, List.setIfInBounds_toArray, List.set_cons_zero, List.set_cons_succ])
        refine take_mk (i := 11) (v := ?v10b) rfl (by kernel_rfl) (by kernel_rfl) (by kernel_rfl) (fun _ _ _ h => h) (Or.inl ⟨by rfl, ?hy10b⟩) (by assumption) ?rest10b
        case hy10b => (intro w0 hSw; (try dsimp only at hSw); go_simp <;> (try (with_reducible rfl)))
        (try simp only [Act.put, List.setIfInBounds_toArray, List.set_cons_zero, List.set_cons_succ])
        refine take_mk (i := 12) (v := ?v11b) rfl (by kernel_rfl) (by kernel_rfl) (by kernel_rfl) (fun _ _ _ h => h) (Or.inl ⟨by rfl, ?hy11b⟩) (by assumption) ?rest11b
        case hy11b => (intro w0 hSw; (try dsimp only at hSw); go_simp <;> (try (with_reducible rfl)))
        (try simp only [Act.put, List.setIfInBounds_toArray, List.set_cons_zero, List.set_cons_succ])
        refine take_mk (i := 13) (v := ?v12b) rfl (by kernel_rfl) (by kernel_rfl) (by kernel_rfl) (fun _ _ _ h => h) (Or.inl ⟨by rfl, ?hy12b⟩) (by assumption) ?rest12b
        case hy12b => (intro w0 hSw; (try dsimp only at hSw); go_simp <;> (try (with_reducible rfl)))
        (try simp only [Act.put, List.setIfInBounds_toArray, List.set_cons_zero, List.set_cons_succ])
        refine take_mk (i := 14) (v := ?v13b) rfl (by kernel_rfl) (by kernel_rfl) (by kernel_rfl) (fun _ _ _ h => h) (Or.inl ⟨by rfl, ?hy13b⟩) (by assumption) ?rest13b
        case hy13b => (intro w0 hSw; (try dsimp only at hSw); go_simp <;> (try (with_reducible rfl)))
        (try simp only [Act.put, List.setIfInBounds_toArray, List.set_cons_zero, List.set_cons_succ])
        refine take_mk (i := 15) (v := ?v14b) rfl (by kernel_rfl) (by kernel_rfl) (by kernel_rfl) (fun _ _ _ h => h) (Or.inl ⟨by rfl, ?hy14b⟩) (by assumption) ?rest14b
        case hy14b => (intro w0 hSw; (try dsimp only at hSw); go_simp <;> (try (with_reducible rfl)))
        (try simp only [Act.put, List.setIfInBounds_toArray, List.set_cons_zero, List.set_cons_succ])
        refine wpAnyH_done (by kernel_rfl) ?_ _
        clear hHeld a1
        by_cases hr0 : re = 0
        · have hm9 := HM5.out hr0
          have hcg := HCG.out
          rw [if_neg (by simpa using hr0)] at hcg
          have HCG2 := hid hcg
          clear hcg HCG HM5
          subst hr0 hm9
          by_cases h12 : 12 < m + m5
          · have HR : Hid ((0, 1) = F) := by have h := HCG2.out; rw [if_pos h12] at h; exact h
            go_wp2_with fail
            go_ret2
            rw [← HR.out]
            exact ⟨0, rfl, fun _ => rfl, HT5.out.bel⟩
          · have HR : Hid (cgo f (cs.drop (k + 1)) (m + m5) = F) := by have h := HCG2.out; rw [if_neg h12] at h; exact h
            go_wp2_with fail
            go_roundw
            case rel => exact ⟨k + 1, m + m5, by omega, by go_num, rfl, by omega, by omega, HR.out, HT5.out⟩
            case measure => simp [intOf]; omega
        · have b1 : (re != 0) = true := by simpa using hr0
          have b2 : (re == 0) = false := by simpa using hr0
          have HR : Hid ((0, re) = F) := by have h := HCG.out; rw [if_pos hr0] at h; exact h
          go_wp2_with fail
          go_ret2
          rw [← HR.out]
          exact ⟨0, rfl, fun _ => rfl, HT5.out.bel⟩
      · obtain rfl : n = k := by omega
        have hcg2 := hcg
        rw [List.drop_eq_nil_of_le (by have := HN.out; omega), cgo] at hcg2
        have HR := hid hcg2
        clear hTr hcg hcg2
        go_wp2_with fail
        go_ret2
        rw [← HR.out]
        exact ⟨m, rfl, fun _ => rfl, HT.out.bel⟩
end Go.Proofs.YthndlfdbmljkhaaGreatDoor.Chk
