/-
  What a rule emits, by the reference.
-/
import Derived.Test.YthndlfdbmljkhaaGreatDoorCm
import Derived.Test.YthndlfdbmljkhaaGreatDoorCd
namespace Go.Proofs.YthndlfdbmljkhaaGreatDoor.Chk
open Go.ChangeShapes Go.WideShapes Go.ChangeAt Go.RowKit Go.Maps
set_option linter.unusedVariables false
set_option linter.unusedSimpArgs false
set_option maxRecDepth 20000
theorem step_call4 {ops : Array Oper} {o : Oper} {a : Act} {w : World} {K : Act → World → Prop} {Q : Exit → Act → World → Prop} {E : Prop} (f : FuncId) (he : ∀ args w, (callFunc f args).run Tryz.prog w = .ok (.enter f args) w) (hw : Region.wanted o (yielded ops a.tmps) = true) (x1 x2 x3 x4 : Operand) (ts : Array TypeId) (ho : o.op = .call { callee := .value (.func f), args := #[x1, x2, x3, x4], argTypes := ts }) (u1 u2 u3 u4 : Value) (h1 : a.eval x1 = u1) (h2 : a.eval x2 = u2) (h3 : a.eval x3 = u3) (h4 : a.eval x4 = u4)
  (R : Ending → World → Prop) (hc : Calls Tryz.prog f #[u1, u2, u3, u4] w R) (h : ∀ e w', R e w' → ∃ v, e = .returned v ∧ K (a.put o.dst v) w') :
  if Region.wanted o (yielded ops a.tmps) = true then Oper.wp Tryz.prog o a w K Q else E := by
 rw [if_pos hw]
 unfold Oper.wp execOp
 have hf : a.eval (.func f) = Value.func (Fn.func f) #[] #[] := rfl
 simp [ho, resolve, invoke, Deferred.ofValue, hf, h1, h2, h3, h4, he]
 refine hc.mono ?_
 intro e w' hr
 obtain ⟨v, rfl, hk⟩ := h e w' hr
 exact hk
theorem ent_sk : ∀ args w, (callFunc 125 args).run Tryz.prog w = .ok (.enter 125 args) w := enters_of Tryz.func125 (by kernel_rfl) rfl
theorem rdO {w : World} {o : Opd} {vs : List Value} (h : RdL w (encO o) vs) : vs = [.int .i64 o.k, .int .i64 o.vk, .int .i64 o.vi, .string o.vt, .string o.va, .string o.fd] := by
  obtain ⟨v0, r0, rfl, h0, h⟩ := RdL.one h
  obtain ⟨v1, r1, rfl, h1, h⟩ := RdL.one h
  obtain ⟨v2, r2, rfl, h2, h⟩ := RdL.one h
  obtain ⟨v3, r3, rfl, h3, h⟩ := RdL.one h
  obtain ⟨v4, r4, rfl, h4, h⟩ := RdL.one h
  obtain ⟨v5, r5, rfl, h5, h⟩ := RdL.one h
  rw [rd_lit h0, rd_lit h1, rd_lit h2, rd_lit h3, rd_lit h4, rd_lit h5, RdL.none h]
def evs (ts : List Tp) (ws : List Pt) (t : Tp) : List Opd → List Fd → Int
  | o :: r, f :: g => if o.k = 2 then 4 else if (sdk ts ws t o).2 ≠ 0 then (sdk ts ws t o).2 else if (sdk ts ws t o).1 ≠ f.k then 13 else evs ts ws t r g
  | _, _ => 0
def eck (ts : List Tp) (ws : List Pt) (ety : ByteArray) (vs : List Opd) : Int :=
  if emp ety = true then (if 0 < vs.length then 4 else 0)
  else if tyq ts ety < 0 then 6
  else if vs.length ≠ (ts.getD (tyq ts ety).toNat ⟨txt [], []⟩).f.length then 13
  else evs ts ws (ts.getD (tyq ts ety).toNat ⟨txt [], []⟩) vs (ts.getD (tyq ts ety).toNat ⟨txt [], []⟩).f
set_option maxHeartbeats 32000000 in
theorem emitFault_any (ts : List Tp) (ws : List Pt) (rn ety : ByteArray) (vs : List Opd) (tv u1 u5 : Value) (q2 q3 q4 : Option Addr) (l2 l3 l4 j2 j3 j4 : Nat) (w : World) (hkn : Known ts ws) (hT : Rd w (.row 72 2 (ts.map encY)) tv) (hW : Rd w (.row 65 18 (ws.map encP)) u1) (hV : Rd w (.row 61 6 (vs.map encO)) u5) :
   Calls Tryz.prog 76 #[tv, .agg #[.string rn, u1, (.slice q2 l2 j2), (.slice q3 l3 j3), (.slice q4 l4 j4), .string ety, u5]] w fun e w' => e = .returned (.int .i64 (eck ts ws ety vs)) ∧ Below w.heap.size w w' := by
 have hsk := fun (own : Tp) (o : Opd) (fv : Value) W (hW' : Below w.heap.size w W) (hF : Rd W (.row 93 2 (own.f.map encF)) fv) => sideKind_any ts ws own o tv u1 fv W (hT.later hW') (hW.later hW') hF hkn
 have htn := fun W (hW' : Below w.heap.size w W) => typeNamed_any ts tv ety W (hT.later hW')
 obtain ⟨tp, tc, e1, hmt, hatt⟩ := rd_row lenY hT
 obtain ⟨q1, j1, e2, _, _⟩ := rd_row lenP hW
 obtain ⟨q5, j5, e3, hmv, hatv⟩ := rd_row lenO hV
 subst e1 e2 e3
 obtain ⟨nt, hnt⟩ : ∃ l, ts.length = l := ⟨_, rfl⟩
 obtain ⟨l1, hl1⟩ : ∃ l, ws.length = l := ⟨_, rfl⟩
 obtain ⟨l5, hl5⟩ : ∃ l, vs.length = l := ⟨_, rfl⟩
 rw [hnt] at hmt
 rw [hl5] at hmv
 rw [hnt, hl1] at hsk
 rw [hnt] at htn
 unfold eck
 rw [hnt, hl1, hl5]
 have HNT := hid hnt
 have HL5 := hid hl5
 have HSQ := hid hsk
 have HATT : Hid (At encY 2 w tp ts) := hatt
 have HATV : Hid (At encO 6 w q5 vs) := hatv
 have HB0 : Hid (Blk2 w ((w.alloc (.cells [.string rn, (.slice q1 l1 j1), (.slice q2 l2 j2), (.slice q3 l3 j3), (.slice q4 l4 j4), .string ety, (.slice q5 l5 j5)].toArray 49)).alloc (.cells [.string ety, (.slice q5 l5 j5)].toArray 47)) [.string rn, (.slice q1 l1 j1), (.slice q2 l2 j2), (.slice q3 l3 j3), (.slice q4 l4 j4), .string ety, (.slice q5 l5 j5)] [.string ety, (.slice q5 l5 j5)] 49 47) := Blk2.start w _ _ _ _
 clear hT hW hV hkn hnt hl1 hl5 hsk hatt hatv
 cases hem : emp ety
 . obtain ⟨f1, f2⟩ := emp_f hem
   simp only [Bool.false_eq_true, if_false]
   rcases ixq_lt (q := fun t : Tp => seq t.n ety) ts 0 with c | ⟨i, hi, c, hqq⟩
   . have c0 : tyq ts ety = -1 := c
     rw [c0] at htn
     rw [if_pos (by rw [c0]; decide)]
     have HTN := hid htn
     clear c c0 htn hem
     go_enter Tryz.func76, Tryz.ntmps76
     go_wp2_with (first
       | (go_at_call 35; refine (HTN.out _ HB0.out.bel).mono ?_; rintro e w5 ⟨rfl, hb_⟩; have HB5 : Hid _ := HB0.out.next hb_; have y1 : w5.cell? ⟨w.heap.size + 1, 1, none⟩ = some (.slice q5 l5 j5) := HB5.out.c2 1; clear hb_))
     go_ret
     exact ⟨rfl, HB5.out.bel⟩
   . have c0 : tyq ts ety = (i : Int) := by show ixq _ _ _ = _; rw [c]; simp
     rw [c0] at htn
     rw [if_neg (by rw [c0]; omega), c0]
     have hgd : ts.getD (i : Int).toNat ⟨txt [], []⟩ = ts[i] := by simp [hi]
     rw [hgd]
     have HTN := hid htn
     obtain ⟨gt, oft, rfl, hrd⟩ := HATT.out (by omega)
     obtain ⟨us, r1, o1⟩ := hrd w (Below.refl _ _) i hi
     obtain ⟨vf, z1, o2⟩ := rdY o1
     clear o1
     subst z1
     obtain ⟨⟨tn2, tf2⟩, ht2⟩ : ∃ t, ts[i] = t := ⟨_, rfl⟩
     rw [ht2] at r1 o2
     rw [ht2]
     simp only at r1 o2 ⊢
     have hF2 := o2
     obtain ⟨fp2, fc2, rfl, hmf, hat2⟩ := rd_row lenF o2
     obtain ⟨fl2, hfl2⟩ : ∃ l, tf2.length = l := ⟨_, rfl⟩
     rw [hfl2] at r1 hF2 hmf
     rw [hfl2]
     have HF2 := hid hF2
     have HAF : Hid (At encF 2 w fp2 tf2) := hat2
     have HFL := hid hfl2
     have HCT : Hid (∀ W, Below w.heap.size w W → W.cell? ⟨gt, oft + i * 2, none⟩ = some (.string tn2) ∧ W.cell? ⟨gt, oft + i * 2 + 1, none⟩ = some (.slice fp2 fl2 fc2)) := fun W hW => by
       have r2 := range_below r1 hW
       have a0 := r2 0 _ rfl
       have a1 := r2 1 _ rfl
       simp only [Nat.add_zero] at a0
       exact ⟨a0, a1⟩
     have i1 : (0 : Int) ≤ (i : Int) := by omega
     have i2 : (i : Int) < (nt : Int) := by have := HNT.out; omega
     clear hqq hgd hrd r1 o2 hF2 hat2 hfl2 c c0 hi ht2 htn hem
     by_cases hne : l5 = fl2
     . rw [if_neg (fun c => c hne)]
       subst hne
       obtain ⟨R, hR⟩ : ∃ R, evs ts ws ⟨tn2, tf2⟩ vs tf2 = R := ⟨_, rfl⟩
       rw [hR]
       have HR := hid hR
       clear hR
       go_enter Tryz.func76, Tryz.ntmps76
       go_wp2_with (first
        | (go_at_call 35; refine (HTN.out _ HB0.out.bel).mono ?_; rintro e w5 ⟨rfl, hb_⟩; have HB5 : Hid _ := HB0.out.next hb_; have y1 : w5.cell? ⟨w.heap.size + 1, 1, none⟩ = some (.slice q5 l5 j5) := HB5.out.c2 1; have t1 := (HCT.out _ HB5.out.bel).2; clear hb_))
       go_quiet (fail)
       have HB6 : Hid (Blk2 w (w5.drewN nq) [.string rn, (.slice q1 l1 j1), (.slice q2 l2 j2), (.slice q3 l3 j3), (.slice q4 l4 j4), .string ety, (.slice q5 l5 j5)] [.string ety, (.slice q5 l5 j5)] 49 47) := HB5.out.next (below_drawn (Below.refl _ _) _)
       clear t1 y1
       go_wp2_with fail
       go_loopw [7, 8, 9] (fun ix _ _ wr => ∃ k : Nat, k ≤ l5 ∧ ix = .int .i64 (k : Nat) ∧ evs ts ws ⟨tn2, tf2⟩ (vs.drop k) (tf2.drop k) = R ∧ Blk2 w wr [.string rn, (.slice q1 l1 j1), (.slice q2 l2 j2), (.slice q3 l3 j3), (.slice q4 l4 j4), .string ety, (.slice q5 l5 j5)] [.string ety, (.slice q5 l5 j5)] 49 47) (fun ix _ _ _ => l5 + 1 - (intOf ix).toNat)
       case atStart => exact ⟨0, by omega, rfl, HR.out, HB6.out⟩
       case round =>
        obtain ⟨k, hk, rfl, hev, hTr⟩ := hrel
        have HT : Hid (Blk2 w wr [.string rn, (.slice q1 l1 j1), (.slice q2 l2 j2), (.slice q3 l3 j3), (.slice q4 l4 j4), .string ety, (.slice q5 l5 j5)] [.string ety, (.slice q5 l5 j5)] 49 47) := hTr
        have y1 : wr.cell? ⟨w.heap.size + 1, 1, none⟩ = some (.slice q5 l5 j5) := hTr.c2 1
        clear HB6 HB5
        by_cases hlt : k < l5
        . have hkc : k < vs.length := by have := HL5.out; omega
          have hkf : k < tf2.length := by have := HFL.out; omega
          obtain ⟨g, off, hp, hrd⟩ := HATV.out (by omega)
          have HQ : Hid (q5 = some ⟨g, off, none⟩) := hp
          rw [hp] at y1
          obtain ⟨A, r1, o1⟩ := hrd wr hTr.bel k hkc
          have z1 := rdO o1
          clear o1
          rw [List.drop_eq_getElem_cons hkc, List.drop_eq_getElem_cons hkf, evs] at hev
          obtain ⟨gf, off2, hpf, hrf⟩ := HAF.out (by omega)
          obtain ⟨⟨fnm, fk⟩, hfd⟩ : ∃ f, tf2[k] = f := ⟨_, rfl⟩
          have HCF : Hid (∀ W, Below w.heap.size w W → W.cell? ⟨gf, off2 + k * 2 + 1, none⟩ = some (.int .i64 fk)) := fun W hW => by
            obtain ⟨us, r2, o2⟩ := hrf W hW k hkf
            have z2 := rdF o2
            clear o2
            subst z2
            rw [hfd] at r2
            exact r2 1 _ rfl
          have HPF : Hid (fp2 = some ⟨gf, off2, none⟩) := hpf
          rw [hfd] at hev
          have hs9 := HSQ.out ⟨tn2, tf2⟩ vs[k] (.slice fp2 l5 fc2) wr.drew hTr.bel.drew (HF2.out.later hTr.bel.drew)
          obtain ⟨o, ho⟩ : ∃ o, vs[k] = o := ⟨_, rfl⟩
          rw [ho] at z1 hev hs9
          obtain ⟨⟨sm, se⟩, hsd⟩ : ∃ q, sdk ts ws ⟨tn2, tf2⟩ o = q := ⟨_, rfl⟩
          rw [hsd] at hev hs9
          simp only at hev hs9
          have HSK : Hid (Calls Tryz.prog 125 #[.slice (some ⟨gt, oft, none⟩) nt tc, .slice q1 l1 j1, .agg #[.string tn2, .slice fp2 l5 fc2], .agg A.toArray] wr.drew fun e w' => e = .returned (.tuple #[.int .i64 sm, .int .i64 se]) ∧ Below wr.drew.heap.size wr.drew w') := by rw [z1]; exact hs9
          have ZA : Hid ((Tryz.prog.info? 61).map (·.size) = some A.length) := by show _ = _; rw [z1]; kernel_rfl
          have X1 : Hid (wr.rangeAt g (off + k * 6) A) := r1
          have n0 : wr.cell? ⟨g, off + k * 6, none⟩ = some (.int .i64 o.k) := by
            have h := r1
            rw [z1] at h
            have h0 := h 0 _ rfl
            simpa using h0
          obtain ⟨okk, hokk⟩ : ∃ okk, o.k = okk := ⟨_, rfl⟩
          rw [hokk] at n0 hev
          have HEV : Hid ((if okk = 2 then (4 : Int) else if se ≠ 0 then se else if sm ≠ fk then 13 else evs ts ws ⟨tn2, tf2⟩ (vs.drop (k + 1)) (tf2.drop (k + 1))) = R) := hev
          have i3 : (0 : Int) ≤ (k : Int) := by omega
          have i4 : (k : Int) < (l5 : Int) := by omega
          clear hev hs9 hsd ho hokk z1 r1 hrd hrf hpf hfd hkc hkf hp hTr
          by_cases h2 : okk = 2
          . have HR0 : Hid (4 = R) := by have h := HEV.out; rw [if_pos h2] at h; exact h
            subst h2
            go_wp2_with fail
            go_ret
            exact ⟨ret_int HR0.out, HT.out.bel⟩
          . have b1 : (okk == 2) = false := by simpa using h2
            have hev2 := HEV.out
            rw [if_neg h2] at hev2
            have HEW := hid hev2
            clear hev2 HEV
            go_wp2_with fail
            refine start_n (S := (fun w' => w'.cell? ⟨w.heap.size, 1, none⟩ = some (.slice q1 l1 j1) ∧ w'.cell? ⟨gt, oft + i * 2, none⟩ = some (.string tn2) ∧ w'.cell? ⟨gt, oft + i * 2 + 1, none⟩ = some (.slice fp2 l5 fc2) ∧ w'.cell? ⟨w.heap.size + 1, 1, none⟩ = some (.slice (some ⟨g, off, none⟩) l5 j5) ∧ w'.rangeAt g (off + k * 6) A)) 18 #[false, false, false, false, false, false, false, false, false, false, false, false, false, false, false, false, false, false] rfl rfl (by kernel_rfl) (by { exact ⟨HT.out.drew.c1 1, (HCT.out _ HT.out.drew.bel).1, (HCT.out _ HT.out.drew.bel).2, by { have h := HT.out.drew.c2 1; rw [HQ.out] at h; exact h }, X1.out⟩ }) (fun hHeld => ?_)
            refine tkq (i := 0) (v := ?v1) rfl ?hy1 ?rest1; (case hy1 => intro w0 hSw; (try dsimp only at hSw); go_simp <;> (try (with_reducible rfl))); (try simp only [puts])
            refine tkq (i := 1) (v := ?v2) rfl ?hy2 ?rest2; (case hy2 => intro w0 hSw; (try dsimp only at hSw); go_simp <;> (try (with_reducible rfl))); (try simp only [puts])
            refine tkq (i := 2) (v := ?v3) rfl ?hy3 ?rest3; (case hy3 => intro w0 hSw; (try dsimp only at hSw); go_simp <;> (try (with_reducible rfl))); (try simp only [puts])
            refine tkq (i := 3) (v := ?v4) rfl ?hy4 ?rest4; (case hy4 => intro w0 hSw; (try dsimp only at hSw); go_simp <;> (try (with_reducible rfl))); (try simp only [puts])
            refine tkq (i := 4) (v := ?v5) rfl ?hy5 ?rest5; (case hy5 => intro w0 hSw; (try dsimp only at hSw); go_simp <;> (try (with_reducible rfl))); (try simp only [puts])
            refine tkq (i := 5) (v := ?v6) rfl ?hy6 ?rest6; (case hy6 => intro w0 hSw; (try dsimp only at hSw); go_simp <;> (try (with_reducible rfl))); (try simp only [puts])
            refine tkq (i := 6) (v := ?v7) rfl ?hy7 ?rest7; (case hy7 => intro w0 hSw; (try dsimp only at hSw); go_simp <;> (try (with_reducible rfl))); (try simp only [puts])
            refine tkq (i := 7) (v := ?v8) rfl ?hy8 ?rest8; (case hy8 => intro w0 hSw; (try dsimp only at hSw); go_simp <;> (try (with_reducible rfl))); (try simp only [puts])
            refine tkq (i := 8) (v := ?v9) rfl ?hy9 ?rest9; (case hy9 => intro w0 hSw; (try dsimp only at hSw); go_simp <;> (try (with_reducible rfl))); (try simp only [puts])
            refine tkq (i := 9) (v := ?v10) rfl ?hy10 ?rest10; (case hy10 => intro w0 hSw; (try dsimp only at hSw); go_simp <;> (try (with_reducible rfl))); (try simp only [puts])
            refine tkq (i := 10) (v := ?v11) rfl ?hy11 ?rest11; (case hy11 => intro w0 hSw; (try dsimp only at hSw); go_simp <;> (try (with_reducible rfl))); (try simp only [puts])
            refine tlq (i := 11) rfl (yieldsIf_load_mid (by rfl) 61 _ rfl g (off + k * 6) (by rfl) A _ (fun _ h => h.2.2.2.2) Tryz.underlying61 rfl ZA.out) ?_
            (try simp only [puts])
            refine wpAnyH_ready (rs := [12]) (by kernel_rfl) (by simp) ?_
            refine cons_mk rfl (fun K hK => ?_) AllReadyH.nil
            refine step_call4 125 ent_sk (by rfl) _ _ _ _ _ (by rfl) (.slice (some ⟨gt, oft, none⟩) nt tc) (.slice q1 l1 j1) (.agg #[.string tn2, .slice fp2 l5 fc2]) (.agg A.toArray) (by rfl) (by rfl) (by rfl) (by rfl) _ HSK.out ?_
            rintro e w9 ⟨rfl, hb9⟩
            refine ⟨_, rfl, ?_⟩
            have HT9 : Hid (Blk2 w w9 [.string rn, (.slice q1 l1 j1), (.slice q2 l2 j2), (.slice q3 l3 j3), (.slice q4 l4 j4), .string ety, (.slice q5 l5 j5)] [.string ety, (.slice q5 l5 j5)] 49 47) := HT.out.drew.next hb9
            have X9 : Hid (w9.rangeAt g (off + k * 6) A) := range_bel X1.out hb9
            clear hb9
            refine hK.out _ _ (by { exact ⟨HT9.out.c1 1, (HCT.out _ HT9.out.bel).1, (HCT.out _ HT9.out.bel).2, by { have h := HT9.out.c2 1; rw [HQ.out] at h; exact h }, X9.out⟩ }) (fun hHeld => ?_)
            clear hK K
            (try simp only [puts])
            refine tkq (i := 13) (v := ?v12) rfl ?hy12 ?rest12; (case hy12 => intro w0 hSw; (try dsimp only at hSw); go_simp <;> (try (with_reducible rfl))); (try simp only [puts])
            refine tkq (i := 14) (v := ?v13) rfl ?hy13 ?rest13; (case hy13 => intro w0 hSw; (try dsimp only at hSw); go_simp <;> (try (with_reducible rfl))); (try simp only [puts])
            refine tkq (i := 15) (v := ?v14) rfl ?hy14 ?rest14; (case hy14 => intro w0 hSw; (try dsimp only at hSw); go_simp <;> (try (with_reducible rfl))); (try simp only [puts])
            refine tkq (i := 16) (v := ?v15) rfl ?hy15 ?rest15; (case hy15 => intro w0 hSw; (try dsimp only at hSw); go_simp <;> (try (with_reducible rfl))); (try simp only [puts])
            refine tkq (i := 17) (v := ?v16) rfl ?hy16 ?rest16; (case hy16 => intro w0 hSw; (try dsimp only at hSw); go_simp <;> (try (with_reducible rfl))); (try simp only [puts])
            refine wpAnyH_done (by kernel_rfl) ?_ _
            clear hHeld y1 n0
            by_cases hs0 : se = 0
            . have hev3 := HEW.out
              rw [if_neg (fun c => c hs0)] at hev3
              have HEX := hid hev3
              clear hev3 HEW
              subst hs0
              have y2 := (HCT.out _ HT9.out.bel).2
              have y3 := HCF.out _ HT9.out.bel
              rw [HPF.out] at y2
              by_cases hsm : sm = fk
              . have HR0 : Hid (evs ts ws ⟨tn2, tf2⟩ (vs.drop (k + 1)) (tf2.drop (k + 1)) = R) := by have h := HEX.out; rw [if_neg (fun c => c hsm)] at h; exact h
                subst hsm
                go_wp2_with fail
                go_roundw
                case rel => exact ⟨k + 1, by omega, by go_num, HR0.out, HT9.out⟩
                case measure => simp [intOf]; omega
              . have HR0 : Hid (13 = R) := by have h := HEX.out; rw [if_pos hsm] at h; exact h
                have b3 : (sm != fk) = true := by simpa using hsm
                have b4 : (sm == fk) = false := by simpa using hsm
                go_wp2_with fail
                go_ret
                exact ⟨ret_int HR0.out, HT9.out.bel⟩
            . have HR0 : Hid (se = R) := by have h := HEW.out; rw [if_pos hs0] at h; exact h
              have b3 : (se != 0) = true := by simpa using hs0
              have b4 : (se == 0) = false := by simpa using hs0
              go_wp2_with fail
              go_ret
              exact ⟨ret_int HR0.out, HT9.out.bel⟩
        . obtain rfl : l5 = k := by omega
          rw [List.drop_eq_nil_of_le (by have := HL5.out; omega), evs] at hev
          . have HR0 := hid hev
            clear hTr hev
            go_wp2_with fail
            go_ret
            exact ⟨ret_int HR0.out, HT.out.bel⟩
          . intro o r f g h1
            cases h1
     . rw [if_pos hne]
       have b1 : ((l5 : Int) != (fl2 : Int)) = true := by simp; omega
       have b2 : ((l5 : Int) == (fl2 : Int)) = false := by simp; omega
       have b3 : ¬ (l5 : Int) = (fl2 : Int) := by omega
       go_enter Tryz.func76, Tryz.ntmps76
       go_wp2_with (first
        | (go_at_call 35; refine (HTN.out _ HB0.out.bel).mono ?_; rintro e w5 ⟨rfl, hb_⟩; have HB5 : Hid _ := HB0.out.next hb_; have y1 : w5.cell? ⟨w.heap.size + 1, 1, none⟩ = some (.slice q5 l5 j5) := HB5.out.c2 1; have t1 := (HCT.out _ HB5.out.bel).2; clear hb_))
       go_quiet (fail)
       go_wp2_with fail
       go_ret
       exact ⟨rfl, below_drawn HB5.out.bel _⟩
 . have f1 := emp_t hem
   simp only [if_true]
   clear hem htn
   by_cases h0 : 0 < l5
   . rw [if_pos h0]
     have b1 : (0 : Int) < (l5 : Int) := by omega
     go_enter Tryz.func76, Tryz.ntmps76
     go_wp2_with fail
     go_ret
     exact ⟨rfl, HB0.out.bel⟩
   . rw [if_neg h0]
     have b1 : ¬ (0 : Int) < (l5 : Int) := by omega
     go_enter Tryz.func76, Tryz.ntmps76
     go_wp2_with fail
     go_ret
     exact ⟨rfl, HB0.out.bel⟩
end Go.Proofs.YthndlfdbmljkhaaGreatDoor.Chk
