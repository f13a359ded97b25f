/-
  A book, by the reference. A condition, by the reference.
-/
import Derived.Test.YthndlfdbmljkhaaGreatDoorCm
import Derived.Test.YthndlfdbmljkhaaGreatDoorCk
namespace Go.Proofs.YthndlfdbmljkhaaGreatDoor.Chk
open Go.ChangeShapes Go.WideShapes Go.ChangeAt Go.RowKit Go.Maps
set_option linter.unusedVariables false
set_option linter.unusedSimpArgs false
set_option maxRecDepth 20000
def tks (done : List Tp) : List Tp → Int
  | [] => 0
  | t :: r => if tyk t.n t.f ≠ 0 then tyk t.n t.f else if kpt t.n = true then 4 else if t.f.any (fun f => kpt f.n) = true then 4 else if 0 ≤ tyq done t.n then 7 else tks (done ++ [t]) r
def rks (rk : Rl → Int) (done : List Rl) : List Rl → Int
  | [] => 0
  | x :: r => if rk x ≠ 0 then rk x else if done.any (fun d => seq d.n x.n) = true then 7 else rks rk (done ++ [x]) r
theorem rd_cap {α : Type} {enc : α → List Dat} {e z : Nat} {w : World} {p : Option Addr} {n cap : Nat} {cs : List α} (h : Rd w (.row e z (cs.map enc)) (.slice p n cap)) : cs.length ≤ cap := by
 generalize hd : Dat.row e z (cs.map enc) = d at h
 generalize hv : Value.slice p n cap = v at h
 cases h with
 | lit v => cases hd
 | nil e' z' p' cap' h1 =>
  simp only [Dat.row.injEq] at hd
  have h0 : cs.length = 0 := by have := congrArg List.length hd.2.2; simpa using this
  omega
 | row e' z' l g off cap' xs h1 h2 h3 h4 h5 h6 =>
  simp only [Dat.row.injEq] at hd
  simp only [Value.slice.injEq] at hv
  obtain ⟨rfl, rfl, rfl⟩ := hd
  obtain ⟨_, _, rfl⟩ := hv
  rw [List.length_map] at h2
  exact h2
def bkf (rk : Rl → Int) (ts : List Tp) (rs : List Rl) : Int :=
  if 6 < ts.length ∨ 5 < rs.length then 1
  else if tks [] ts ≠ 0 then tks [] ts
  else if rks rk [] rs ≠ 0 then rks rk [] rs
  else if ts.any (fun t => cmo rs t.n rs.length t.n) = true then 15 else 0
theorem ent_tn : ∀ args w, (callFunc 35 args).run Tryz.prog w = .ok (.enter 35 args) w := enters_of Tryz.func35 (by kernel_rfl) rfl
theorem ent_rf : ∀ args w, (callFunc 36 args).run Tryz.prog w = .ok (.enter 36 args) w := enters_of Tryz.func36 (by kernel_rfl) rfl
theorem ent_co : ∀ args w, (callFunc 37 args).run Tryz.prog w = .ok (.enter 37 args) w := enters_of Tryz.func37 (by kernel_rfl) rfl
theorem step_call2 {ops : Array Oper} {o : Oper} {a : Act} {w : World} {K : Act → World → Prop} {Q : Exit → Act → World → Prop} {E : Prop} (f : FuncId) (he : ∀ args w, (callFunc f args).run Tryz.prog w = .ok (.enter f args) w) (hw : Region.wanted o (yielded ops a.tmps) = true) (x1 x2 : Operand) (ts : Array TypeId) (ho : o.op = .call { callee := .value (.func f), args := #[x1, x2], argTypes := ts }) (u1 u2 : Value) (h1 : a.eval x1 = u1) (h2 : a.eval x2 = u2)
  (R : Ending → World → Prop) (hc : Calls Tryz.prog f #[u1, u2] w R) (h : ∀ e w', R e w' → ∃ v, e = .returned v ∧ K (a.put o.dst v) w') :
  if Region.wanted o (yielded ops a.tmps) = true then Oper.wp Tryz.prog o a w K Q else E := by
 rw [if_pos hw]
 unfold Oper.wp execOp
 have hf : a.eval (.func f) = Value.func (Fn.func f) #[] #[] := rfl
 simp [ho, resolve, invoke, Deferred.ofValue, hf, h1, h2, he]
 refine hc.mono ?_
 intro e w' hr
 obtain ⟨v, rfl, hk⟩ := h e w' hr
 exact hk
theorem BlkT.drew {w0 w : World} {us : List Value} {t : TypeId} (h : BlkT w0 w us t) : BlkT w0 w.drew us t := ⟨h.bel.drew, h.b1⟩
theorem cell_bel {w w' : World} {p : Addr} {v : Value} (h : w.cell? p = some v) (hb : Below w.drew.heap.size w.drew w') : w'.cell? p = some v := (hb.cell (World.block_lt_of_cell? _ _ h)).trans h
set_option maxHeartbeats 64000000 in
theorem bookFault_of (rk : Rl → Int) (ts : List Tp) (rs : List Rl) (tv rv : Value) (w : World) (hT : Rd w (.row 72 2 (ts.map encY)) tv) (hR : Rd w (.row 49 7 (rs.map encR)) rv)
   (hRF : ∀ x, x ∈ rs → ∀ W us, Below w.heap.size w W → RdL W (encR x) us → Calls Tryz.prog 36 #[tv, .agg us.toArray] W fun e w' => e = .returned (.int .i64 (rk x)) ∧ Below W.heap.size W w') :
   Calls Tryz.prog 16 #[.agg #[tv, rv]] w fun e w' => e = .returned (.int .i64 (bkf rk ts rs)) ∧ Below w.heap.size w w' := by
 have hT0 := hT
 have hR0 := hR
 obtain ⟨tp, tc, e1, hm1, ha1⟩ := rd_row lenY hT
 obtain ⟨rp, rc, e2, hm2, ha2⟩ := rd_row lenR hR
 subst e1 e2
 have htc : ts.length ≤ tc := rd_cap hT
 obtain ⟨nt, hnt⟩ : ∃ l, ts.length = l := ⟨_, rfl⟩
 obtain ⟨nr, hnr⟩ : ∃ l, rs.length = l := ⟨_, rfl⟩
 unfold bkf
 rw [hnt] at hm1 hT0 hRF htc
 rw [hnr] at hm2 hR0
 rw [hnt, hnr]
 have HRT := hid hT0
 have HRF := hid hRF
 have HTC := hid htc
 have HN1 := hid hnt
 have HN2 := hid hnr
 have HA1 : Hid (At encY 2 w tp ts) := ha1
 have HA2 : Hid (At encR 7 w rp rs) := ha2
 have HT : Hid (BlkT w (w.alloc (.cells [.slice tp nt tc, .slice rp nr rc].toArray 25)) [.slice tp nt tc, .slice rp nr rc] 25) := BlkT.start w _ _
 by_cases h6 : 6 < nt ∨ 5 < nr
 . rw [if_pos h6]
   clear hT hR hT0 hR0 hRF hnt hnr ha1 ha2
   by_cases h7 : 6 < nt
   . have b1 : (6 : Int) < (nt : Int) := by omega
     go_enter Tryz.func16, Tryz.ntmps16
     go_wp2_with fail
     go_ret
     exact ⟨rfl, HT.out.bel⟩
   . have b1 : ¬ (6 : Int) < (nt : Int) := by omega
     have b2 : (5 : Int) < (nr : Int) := by omega
     go_enter Tryz.func16, Tryz.ntmps16
     go_wp2_with fail
     go_ret
     exact ⟨rfl, HT.out.bel⟩
 . rw [if_neg h6]
   have b1 : ¬ (6 : Int) < (nt : Int) := by omega
   have b2 : ¬ (5 : Int) < (nr : Int) := by omega
   have HCO : Hid (∀ x W, Below w.heap.size w W → Calls Tryz.prog 37 #[.agg #[.slice tp nt tc, .slice rp nr rc], .string x, .string x, .int .i64 (nr : Int)] W fun e w' => e = .returned (.bool (cmo rs x nr x)) ∧ Below W.heap.size W w') := fun x W hW => comesOf_any rs x tp nt tc (.slice rp nr rc) nr x W (by omega) (hR0.later hW)
   obtain ⟨A1, hA1⟩ : ∃ A1, tks [] ts = A1 := ⟨_, rfl⟩
   obtain ⟨B, hB⟩ : ∃ B, rks rk [] rs = B := ⟨_, rfl⟩
   rw [hA1, hB]
   obtain ⟨R, hRR⟩ : ∃ R, (if A1 ≠ 0 then A1 else if B ≠ 0 then B else if ts.any (fun t => cmo rs t.n nr t.n) = true then (15 : Int) else 0) = R := ⟨_, rfl⟩
   rw [hRR]
   have HRA := hid hRR
   have HAA := hid hA1
   have HBB := hid hB
   clear hT hR hT0 hR0 hRF hnt hnr ha1 ha2 hA1 hB hRR h6
   go_enter Tryz.func16, Tryz.ntmps16
   go_wp2_with fail
   go_loopw [3, 4, 5, 6] (fun i _ _ _ wr => ∃ k : Nat, k ≤ nt ∧ i = .int .i64 (k : Nat) ∧ tks (ts.take k) (ts.drop k) = A1 ∧ BlkT w wr [.slice tp nt tc, .slice rp nr rc] 25) (fun i _ _ _ _ => nt + 1 - (intOf i).toNat)
   case atStart => exact ⟨0, by omega, rfl, HAA.out, HT.out⟩
   case round =>
     obtain ⟨k, hk, rfl, hev, hTr⟩ := hrel
     clear HT
     have HT : Hid (BlkT w wr [.slice tp nt tc, .slice rp nr rc] 25) := hTr
     have a1 : wr.cell? ⟨w.heap.size, 0, none⟩ = some (.slice tp nt tc) := hTr.c 0
     by_cases hlt : k < nt
     . have hkc : k < ts.length := by have := HN1.out; omega
       obtain ⟨g, off, hp, hrd⟩ := HA1.out (by omega)
       have HQ := hid hp
       rw [hp] at a1
       obtain ⟨us, r1, o1⟩ := hrd wr hTr.bel k hkc
       obtain ⟨vf, z1, o2⟩ := rdY o1
       clear o1
       subst z1
       rw [List.drop_eq_getElem_cons hkc, tks] at hev
       have htk : ts.take (k + 1) = ts.take k ++ [ts[k]] := by rw [List.take_succ_eq_append_getElem hkc]
       have htq : ∀ x W, Below w.heap.size w W → Calls Tryz.prog 35 #[.slice (some ⟨g, off, none⟩) k tc, .string x] W fun e w' => e = .returned (.int .i64 (tyq (ts.take k) x)) ∧ Below W.heap.size W w' := fun x W hW => by
         have h9 := rd_take (HRT.out.later hW) k (by have := HN1.out; omega)
         rw [hp] at h9
         exact typeNamed_any (ts.take k) _ x W h9
       obtain ⟨t, ht⟩ : ∃ t, ts[k] = t := ⟨_, rfl⟩
       rw [ht] at r1 o2 hev htk
       obtain ⟨tn, tf⟩ := t
       simp only at r1 o2 hev
       have HTK := hid htk
       have hro := o2
       have htf := fun W (hW : Below wr.heap.size wr W) => typeFault_any tn tf vf W (hro.later hW)
       obtain ⟨fp, fc, e1, hmf, haf⟩ := rd_row lenF o2
       obtain ⟨nf, hnf⟩ : ∃ l, tf.length = l := ⟨_, rfl⟩
       rw [hnf] at e1 hmf
       subst e1
       have HNF := hid hnf
       have n0 := r1 0 _ rfl
       have n1 := r1 1 _ rfl
       simp only [Nat.add_zero] at n0
       obtain ⟨e9, he9⟩ : ∃ e9, tyk tn tf = e9 := ⟨_, rfl⟩
       rw [he9] at htf hev
       have HTQ : Hid (∀ W, Below w.heap.size w W → Calls Tryz.prog 35 #[.slice (some ⟨g, off, none⟩) k tc, .string tn] W fun e w' => e = .returned (.int .i64 (tyq (ts.take k) tn)) ∧ Below W.heap.size W w') := htq tn
       have i1 : (0 : Int) ≤ (k : Int) := by omega
       have i2 : (k : Int) < (nt : Int) := by omega
       obtain ⟨w0, hw0⟩ : ∃ w0, wr = w0 := ⟨_, rfl⟩
       rw [hw0] at htf haf HT n0 n1 a1 ⊢
       have HAF0 : Hid (At encF 2 w0 fp tf) := haf
       have HBW : Hid (Below w.heap.size w w0) := HT.out.bel
       have HTF := hid htf
       have HX : Hid (BlkT w0 (w0.alloc (.cells [.string tn, .slice fp nf fc].toArray 72)) [.string tn, .slice fp nf fc] 72) := BlkT.start w0 _ _
       clear htq htf haf r1 o2 hro hrd hTr hp htk ht hnf he9 hw0 hkc
       by_cases hz : e9 = 0
       . rw [if_neg (fun c => c hz)] at hev
         subst hz
         have hkw := fun W => keptWord_any tn W
         cases hkq : kpt tn
         . rw [hkq] at hkw hev
           simp only [Bool.false_eq_true, if_false] at hev
           have HEV := hid hev
           have HKW := hid hkw
           clear hev hkw hkq
           go_wp2_with (first
             | (go_at_call 34; refine (HKW.out _).mono ?_; rintro e w5 ⟨rfl, hb_⟩; have HX5 : Hid _ := HX4.out.next hb_; clear hb_)
             | (go_at_call 33; refine (HTF.out _ HX.out.bel).mono ?_; rintro e w4 ⟨rfl, hb_⟩; have HX4 : Hid _ := HX.out.next hb_; have x0 : w4.cell? ⟨w0.heap.size, 0, none⟩ = some (.string tn) := HX4.out.c 0; clear hb_))
           clear a1 n0 n1 x0 HX HX4
           go_loopw [6] (fun i wq => ∃ j : Nat, j ≤ nf ∧ i = .int .i64 (j : Nat) ∧ (∀ (q : Nat) (hq : q < tf.length), q < j → kpt tf[q].n = false) ∧ BlkT w0 wq [.string tn, .slice fp nf fc] 72) (fun i _ => nf + 1 - (intOf i).toNat)
           case atStart => exact ⟨0, by omega, rfl, fun q hq h => by omega, HX5.out⟩
           case round =>
             obtain ⟨j, hj, rfl, hno, hXr⟩ := hrel
             have HNO := hid hno
             have HX6 : Hid (BlkT w0 wr [.string tn, .slice fp nf fc] 72) := hXr
             have HT6 : Hid (BlkT w wr [.slice tp nt tc, .slice rp nr rc] 25) := HT.out.next hXr.bel
             have x1 : wr.cell? ⟨w0.heap.size, 1, none⟩ = some (.slice fp nf fc) := hXr.c 1
             clear hno HX5
             by_cases hjf : j < nf
             . have hjc : j < tf.length := by have := HNF.out; omega
               obtain ⟨gf, off2, hpf, hrf⟩ := HAF0.out (by omega)
               rw [hpf] at x1
               obtain ⟨us, r1, o1⟩ := hrf wr hXr.bel j hjc
               have z1 := rdF o1
               clear o1
               subst z1
               have n0 := r1 0 _ rfl
               simp only [Nat.add_zero] at n0
               have HNX : kpt tf[j].n = false → Hid (∀ (q : Nat) (hq : q < tf.length), q < j + 1 → kpt tf[q].n = false) := fun h9 q hq h => by
                 by_cases c : q = j
                 . subst c; exact h9
                 . exact HNO.out q hq (by omega)
               have HHT : kpt tf[j].n = true → Hid (4 = R) := fun h9 => by
                 have h := HRA.out
                 have h7 := HEV.out
                 rw [if_pos (any_some (l := tf) (q := fun f : Fd => kpt f.n) hjc h9)] at h7
                 rw [← h7, if_pos (by decide)] at h
                 exact h
               obtain ⟨d, hd⟩ : ∃ d, tf[j].n = d := ⟨_, rfl⟩
               rw [hd] at n0 HNX HHT
               have hkw := fun W => keptWord_any d W
               have i3 : (0 : Int) ≤ (j : Int) := by omega
               have i4 : (j : Int) < (nf : Int) := by omega
               cases hq : kpt d
               . have HNY := HNX hq
                 rw [hq] at hkw
                 have HKF := hid hkw
                 clear HNX HHT hq hd r1 hjc hkw hpf hrf hXr
                 go_wp2_with (go_at_call 34; refine (HKF.out _).mono ?_; rintro e w8 ⟨rfl, hb_⟩; have HX8 : Hid _ := HX6.out.next hb_; clear hb_)
                 go_roundw
                 case rel => exact ⟨j + 1, by omega, by go_num, HNY.out, HX8.out⟩
                 case measure => simp [intOf]; omega
               . have HNY := HHT hq
                 rw [hq] at hkw
                 have HKF := hid hkw
                 clear HNX HHT hq hd r1 hjc hkw hpf hrf hXr
                 go_wp2_with (go_at_call 34; refine (HKF.out _).mono ?_; rintro e w8 ⟨rfl, hb_⟩; have HX8 : Hid _ := HX6.out.next hb_; clear hb_)
                 go_ret
                 exact ⟨ret_int HNY.out, (HT.out.next HX8.out.bel).bel⟩
             . obtain rfl : nf = j := by omega
               have hev2 := HEV.out
               rw [if_neg (by rw [any_none (l := tf) (q := fun f : Fd => kpt f.n) fun q hq => HNO.out q hq (by have := HNF.out; omega)]; decide)] at hev2
               have HEX := hid hev2
               have hc9 := HTQ.out wr.drew HT6.out.bel.drew
               obtain ⟨a9, ha9⟩ : ∃ a9, tyq (ts.take k) tn = a9 := ⟨_, rfl⟩
               rw [ha9] at hc9 HEX
               have HCM := hid hc9
               have i6 : (0 : Int) ≤ (k : Int) := by omega
               have i7 : (k : Int) ≤ (nt : Int) := by omega
               have i8 : (k : Int) ≤ (tc : Int) := by have := HTC.out; omega
               clear hev2 HEV HNO hXr hc9 ha9
               by_cases h9 : 0 ≤ a9
               . have HR0 : Hid (7 = R) := by
                   have h := HRA.out
                   have h7 := HEX.out
                   rw [if_pos h9] at h7
                   rw [← h7, if_pos (by decide)] at h
                   exact h
                 clear HEX
                 go_wp2_with fail
                 refine start_n (S := (fun w' => w'.cell? ⟨w.heap.size, 0, none⟩ = some (.slice (some ⟨g, off, none⟩) nt tc) ∧ w'.cell? ⟨w0.heap.size, 0, none⟩ = some (.string tn))) 8 #[false, false, false, false, false, false, false, false] rfl rfl (by kernel_rfl) (by { exact ⟨by { have h := HT6.out.drew.c 0; rw [HQ.out] at h; exact h }, HX6.out.drew.c 0⟩ }) (fun hHeld => ?_)
                 refine tkq (i := 0) (v := ?v24) rfl ?hy24 ?rest24; (case hy24 => intro w0 hSw; (try dsimp only at hSw); go_simp <;> (try (with_reducible rfl))); (try simp only [puts])
                 refine tkq (i := 1) (v := ?v25) rfl ?hy25 ?rest25; (case hy25 => intro w0 hSw; (try dsimp only at hSw); go_simp <;> (try (with_reducible rfl))); (try simp only [puts])
                 refine tkq (i := 2) (v := ?v26) rfl ?hy26 ?rest26; (case hy26 => intro w0 hSw; (try dsimp only at hSw); go_simp <;> (try (with_reducible rfl))); (try simp only [puts])
                 refine tkq (i := 3) (v := ?v27) rfl ?hy27 ?rest27; (case hy27 => intro w0 hSw; (try dsimp only at hSw); go_simp <;> (try (with_reducible rfl))); (try simp only [puts])
                 refine tkq (i := 4) (v := ?v28) rfl ?hy28 ?rest28; (case hy28 => intro w0 hSw; (try dsimp only at hSw); go_simp <;> (try (with_reducible rfl))); (try simp only [puts])
                 refine tkq (i := 5) (v := ?v29) rfl ?hy29 ?rest29; (case hy29 => intro w0 hSw; (try dsimp only at hSw); go_simp <;> (try (with_reducible rfl))); (try simp only [puts])
                 refine wpAnyH_ready (rs := [6]) (by kernel_rfl) (by simp) ?_
                 refine cons_mk rfl (fun K hK => ?_) AllReadyH.nil
                 refine step_call2 35 ent_tn (by rfl) _ _ _ (by rfl) (.slice (some ⟨g, off, none⟩) k tc) (.string tn) (by rfl) (by rfl) _ HCM.out ?_
                 rintro e w9 ⟨rfl, hb9⟩
                 refine ⟨_, rfl, ?_⟩
                 have HX9 : Hid (BlkT w0 w9 [.string tn, .slice fp nf fc] 72) := HX6.out.drew.next hb9
                 have HT9 : Hid (BlkT w w9 [.slice tp nt tc, .slice rp nr rc] 25) := HT6.out.drew.next hb9
                 clear hb9
                 refine hK.out _ _ (by { exact ⟨by { have h := HT9.out.c 0; rw [HQ.out] at h; exact h }, HX9.out.c 0⟩ }) (fun hHeld => ?_)
                 clear hK K
                 (try simp only [puts])
                 refine tkq (i := 7) (v := ?v30) rfl ?hy30 ?rest30; (case hy30 => intro w0 hSw; (try dsimp only at hSw); go_simp <;> (try (with_reducible rfl))); (try simp only [puts])
                 refine wpAnyH_done (by kernel_rfl) ?_ _
                 clear hHeld
                 go_wp2_with fail
                 go_ret
                 exact ⟨ret_int HR0.out, HT9.out.bel⟩
               . have HR0 : Hid (tks (ts.take (k + 1)) (ts.drop (k + 1)) = A1) := by
                   have h7 := HEX.out
                   rw [if_neg h9] at h7
                   rw [HTK.out]
                   exact h7
                 clear HEX
                 go_wp2_with fail
                 refine start_n (S := (fun w' => w'.cell? ⟨w.heap.size, 0, none⟩ = some (.slice (some ⟨g, off, none⟩) nt tc) ∧ w'.cell? ⟨w0.heap.size, 0, none⟩ = some (.string tn))) 8 #[false, false, false, false, false, false, false, false] rfl rfl (by kernel_rfl) (by { exact ⟨by { have h := HT6.out.drew.c 0; rw [HQ.out] at h; exact h }, HX6.out.drew.c 0⟩ }) (fun hHeld => ?_)
                 refine tkq (i := 0) (v := ?v24c) rfl ?hy24c ?rest24c; (case hy24c => intro w0 hSw; (try dsimp only at hSw); go_simp <;> (try (with_reducible rfl))); (try simp only [puts])
                 refine tkq (i := 1) (v := ?v25c) rfl ?hy25c ?rest25c; (case hy25c => intro w0 hSw; (try dsimp only at hSw); go_simp <;> (try (with_reducible rfl))); (try simp only [puts])
                 refine tkq (i := 2) (v := ?v26c) rfl ?hy26c ?rest26c; (case hy26c => intro w0 hSw; (try dsimp only at hSw); go_simp <;> (try (with_reducible rfl))); (try simp only [puts])
                 refine tkq (i := 3) (v := ?v27c) rfl ?hy27c ?rest27c; (case hy27c => intro w0 hSw; (try dsimp only at hSw); go_simp <;> (try (with_reducible rfl))); (try simp only [puts])
                 refine tkq (i := 4) (v := ?v28c) rfl ?hy28c ?rest28c; (case hy28c => intro w0 hSw; (try dsimp only at hSw); go_simp <;> (try (with_reducible rfl))); (try simp only [puts])
                 refine tkq (i := 5) (v := ?v29c) rfl ?hy29c ?rest29c; (case hy29c => intro w0 hSw; (try dsimp only at hSw); go_simp <;> (try (with_reducible rfl))); (try simp only [puts])
                 refine wpAnyH_ready (rs := [6]) (by kernel_rfl) (by simp) ?_
                 refine cons_mk rfl (fun K hK => ?_) AllReadyH.nil
                 refine step_call2 35 ent_tn (by rfl) _ _ _ (by rfl) (.slice (some ⟨g, off, none⟩) k tc) (.string tn) (by rfl) (by rfl) _ HCM.out ?_
                 rintro e w9 ⟨rfl, hb9⟩
                 refine ⟨_, rfl, ?_⟩
                 have HX9 : Hid (BlkT w0 w9 [.string tn, .slice fp nf fc] 72) := HX6.out.drew.next hb9
                 have HT9 : Hid (BlkT w w9 [.slice tp nt tc, .slice rp nr rc] 25) := HT6.out.drew.next hb9
                 clear hb9
                 refine hK.out _ _ (by { exact ⟨by { have h := HT9.out.c 0; rw [HQ.out] at h; exact h }, HX9.out.c 0⟩ }) (fun hHeld => ?_)
                 clear hK K
                 (try simp only [puts])
                 refine tkq (i := 7) (v := ?v30c) rfl ?hy30c ?rest30c; (case hy30c => intro w0 hSw; (try dsimp only at hSw); go_simp <;> (try (with_reducible rfl))); (try simp only [puts])
                 refine wpAnyH_done (by kernel_rfl) ?_ _
                 clear hHeld
                 go_wp2_with fail
                 go_roundw
                 case rel => exact ⟨k + 1, by omega, by go_num, HR0.out, HT9.out⟩
                 case measure => simp [intOf]; omega
         . rw [hkq] at hkw hev
           simp only [if_true] at hev
           have HKW := hid hkw
           have HR0 : Hid (4 = R) := by
             have h := HRA.out
             rw [← hev, if_pos (by decide)] at h
             exact h
           clear hev hkw hkq
           go_wp2_with (first
             | (go_at_call 34; refine (HKW.out _).mono ?_; rintro e w5 ⟨rfl, hb_⟩; have HX5 : Hid _ := HX4.out.next hb_; clear hb_)
             | (go_at_call 33; refine (HTF.out _ HX.out.bel).mono ?_; rintro e w4 ⟨rfl, hb_⟩; have HX4 : Hid _ := HX.out.next hb_; have x0 : w4.cell? ⟨w0.heap.size, 0, none⟩ = some (.string tn) := HX4.out.c 0; clear hb_))
           go_ret
           exact ⟨ret_int HR0.out, (HT.out.next HX5.out.bel).bel⟩
       . rw [if_pos hz] at hev
         have HR0 : Hid (e9 = R) := by
           have h := HRA.out
           rw [← hev, if_pos hz] at h
           exact h
         have b1 : (e9 != 0) = true := by simpa using hz
         have b2 : (e9 == 0) = false := by simpa using hz
         clear hev
         go_wp2_with (first
           | (go_at_call 33; refine (HTF.out _ HX.out.bel).mono ?_; rintro e w4 ⟨rfl, hb_⟩; have HX4 : Hid _ := HX.out.next hb_; have x0 : w4.cell? ⟨w0.heap.size, 0, none⟩ = some (.string tn) := HX4.out.c 0; clear hb_))
         go_ret
         exact ⟨ret_int HR0.out, (HT.out.next HX4.out.bel).bel⟩
     . obtain rfl : nt = k := by omega
       rw [List.drop_eq_nil_of_le (by have := HN1.out; omega), tks] at hev
       have h := HRA.out
       rw [← hev, if_neg (fun c => c rfl)] at h
       have HRR : Hid ((if B ≠ 0 then B else if ts.any (fun t => cmo rs t.n nr t.n) = true then (15 : Int) else 0) = R) := h
       have a2 : wr.cell? ⟨w.heap.size, 1, none⟩ = some (.slice rp nr rc) := hTr.c 1
       clear h hTr hev HRA HAA
       go_wp2_with fail
       clear a1 a2
       go_loopw [7, 8, 9] (fun i _ _ wr => ∃ k : Nat, k ≤ nr ∧ i = .int .i64 (k : Nat) ∧ rks rk (rs.take k) (rs.drop k) = B ∧ BlkT w wr [.slice tp nt tc, .slice rp nr rc] 25) (fun i _ _ _ => nr + 1 - (intOf i).toNat)
       case atStart => exact ⟨0, by omega, rfl, HBB.out, HT.out⟩
       case round =>
         obtain ⟨k, hk, rfl, hev, hTr⟩ := hrel
         clear HT
         have HT : Hid (BlkT w wr [.slice tp nt tc, .slice rp nr rc] 25) := hTr
         have a1 : wr.cell? ⟨w.heap.size, 1, none⟩ = some (.slice rp nr rc) := hTr.c 1
         by_cases hlt : k < nr
         . have hkc : k < rs.length := by have := HN2.out; omega
           obtain ⟨g, off, hp, hrd⟩ := HA2.out (by omega)
           have HQ := hid hp
           have HRD := hid hrd
           rw [hp] at a1
           obtain ⟨A, r1, o1⟩ := hrd wr hTr.bel k hkc
           have hA7 : A.length = 7 := o1.1.symm
           have hc9 := HRF.out rs[k] (List.getElem_mem hkc) wr.drew A hTr.bel.drew (o1.below (below_drawn (Below.refl _ _) 1))
           rw [List.drop_eq_getElem_cons hkc, rks] at hev
           have htk : rs.take (k + 1) = rs.take k ++ [rs[k]] := List.take_succ_eq_append_getElem hkc
           have HTK := hid htk
           obtain ⟨xn, hxn⟩ : ∃ x, rs[k].n = x := ⟨_, rfl⟩
           have HXN := hid hxn
           obtain ⟨e9, he9⟩ : ∃ e9, rk rs[k] = e9 := ⟨_, rfl⟩
           rw [he9] at hc9 hev
           rw [hxn] at hev
           have HCM := hid hc9
           have ZA : Hid ((Tryz.prog.info? 49).map (·.size) = some A.length) := by show _ = _; rw [hA7]; kernel_rfl
           have X1 := hid r1
           have i1 : (0 : Int) ≤ (k : Int) := by omega
           have i2 : (k : Int) < (nr : Int) := by omega
           have HEW := hid hev
           have HKC : Hid (k < rs.length) := hkc
           clear hc9 r1 o1 hrd hTr hp hA7 htk hxn he9 hev
           go_wp2_with fail
           refine start_n (S := (fun w' => w'.cell? ⟨w.heap.size, 0, none⟩ = some (.slice tp nt tc) ∧ w'.cell? ⟨w.heap.size, 1, none⟩ = some (.slice (some ⟨g, off, none⟩) nr rc) ∧ w'.rangeAt g (off + k * 7) A)) 9 #[false, false, false, false, false, false, false, false, false] rfl rfl (by kernel_rfl) (by { exact ⟨HT.out.drew.c 0, by { have h := HT.out.drew.c 1; rw [HQ.out] at h; exact h }, X1.out⟩ }) (fun hHeld => ?_)
           refine tkq (i := 0) (v := ?v17) rfl ?hy17 ?rest17; (case hy17 => intro w0 hSw; (try dsimp only at hSw); go_simp <;> (try (with_reducible rfl))); (try simp only [puts])
           refine tkq (i := 1) (v := ?v18) rfl ?hy18 ?rest18; (case hy18 => intro w0 hSw; (try dsimp only at hSw); go_simp <;> (try (with_reducible rfl))); (try simp only [puts])
           refine tkq (i := 2) (v := ?v19) rfl ?hy19 ?rest19; (case hy19 => intro w0 hSw; (try dsimp only at hSw); go_simp <;> (try (with_reducible rfl))); (try simp only [puts])
           refine tkq (i := 3) (v := ?v20) rfl ?hy20 ?rest20; (case hy20 => intro w0 hSw; (try dsimp only at hSw); go_simp <;> (try (with_reducible rfl))); (try simp only [puts])
           refine tkq (i := 4) (v := ?v21) rfl ?hy21 ?rest21; (case hy21 => intro w0 hSw; (try dsimp only at hSw); go_simp <;> (try (with_reducible rfl))); (try simp only [puts])
           refine tkq (i := 5) (v := ?v22) rfl ?hy22 ?rest22; (case hy22 => intro w0 hSw; (try dsimp only at hSw); go_simp <;> (try (with_reducible rfl))); (try simp only [puts])
           refine tlq (i := 6) rfl (yieldsIf_load_mid (by rfl) 49 _ rfl g (off + k * 7) (by rfl) A _ (fun _ h => h.2.2) Tryz.underlying49 rfl ZA.out) ?_
           (try simp only [puts])
           refine wpAnyH_ready (rs := [7]) (by kernel_rfl) (by simp) ?_
           refine cons_mk rfl (fun K hK => ?_) AllReadyH.nil
           refine step_call2 36 ent_rf (by rfl) _ _ _ (by rfl) (.slice tp nt tc) (.agg A.toArray) (by rfl) (by rfl) _ HCM.out ?_
           rintro e w9 ⟨rfl, hb9⟩
           refine ⟨_, rfl, ?_⟩
           have HT9 : Hid (BlkT w w9 [.slice tp nt tc, .slice rp nr rc] 25) := HT.out.drew.next hb9
           have X9 : Hid (w9.rangeAt g (off + k * 7) A) := range_bel X1.out hb9
           clear hb9
           refine hK.out _ _ (by { exact ⟨HT9.out.c 0, by { have h := HT9.out.c 1; rw [HQ.out] at h; exact h }, X9.out⟩ }) (fun hHeld => ?_)
           clear hK K
           (try simp only [puts])
           refine tkq (i := 8) (v := ?v23) rfl ?hy23 ?rest23; (case hy23 => intro w0 hSw; (try dsimp only at hSw); go_simp <;> (try (with_reducible rfl))); (try simp only [puts])
           refine wpAnyH_done (by kernel_rfl) ?_ _
           clear hHeld a1
           by_cases hz : e9 = 0
           . have hev := HEW.out
             rw [if_neg (fun c => c hz)] at hev
             have HEV := hid hev
             clear hev HEW
             subst hz
             go_wp2_with fail
             go_loopw [9] (fun i wq => ∃ j : Nat, j ≤ k ∧ i = .int .i64 (j : Nat) ∧ (∀ (q : Nat) (hq : q < rs.length), q < j → seq rs[q].n xn = false) ∧ BlkT w wq [.slice tp nt tc, .slice rp nr rc] 25) (fun i _ => k + 1 - (intOf i).toNat)
             case atStart => exact ⟨0, by omega, rfl, fun q hq h => by omega, HT9.out⟩
             case round =>
               obtain ⟨j, hj, rfl, hno, hTq⟩ := hrel
               have HNO := hid hno
               have HTQ : Hid (BlkT w wr [.slice tp nt tc, .slice rp nr rc] 25) := hTq
               have a2 : wr.cell? ⟨w.heap.size, 1, none⟩ = some (.slice rp nr rc) := hTq.c 1
               rw [HQ.out] at a2
               clear hno HT9
               by_cases hjk : j < k
               . have hjc : j < rs.length := by have := HN2.out; omega
                 obtain ⟨us, r1, o1⟩ := HRD.out wr hTq.bel j hjc
                 obtain ⟨y1, y2, y3, y4, y5, z1, _⟩ := rdR o1
                 clear o1
                 subst z1
                 obtain ⟨us2, r2, o2⟩ := HRD.out wr hTq.bel k HKC.out
                 obtain ⟨x1, x2, x3, x4, x5, z2, _⟩ := rdR o2
                 clear o2
                 subst z2
                 have n0 := r1 0 _ rfl
                 have n1 := r2 0 _ rfl
                 simp only [Nat.add_zero] at n0 n1
                 rw [HXN.out] at n1
                 have HNX : seq rs[j].n xn = false → Hid (∀ (q : Nat) (hq : q < rs.length), q < j + 1 → seq rs[q].n xn = false) := fun h9 q hq h => by
                   by_cases c : q = j
                   . subst c; exact h9
                   . exact HNO.out q hq (by omega)
                 have HHT : seq rs[j].n xn = true → Hid (7 = R) := fun h9 => by
                   have h := HRR.out
                   have h8 : (rs.take k).any (fun d => seq d.n xn) = true := List.any_eq_true.2 ⟨rs[j], by rw [List.mem_take_iff_getElem]; exact ⟨j, by omega, rfl⟩, h9⟩
                   have h7 := HEV.out
                   rw [if_pos h8] at h7
                   rw [← h7, if_pos (by decide)] at h
                   exact h
                 obtain ⟨d, hd⟩ : ∃ d, rs[j].n = d := ⟨_, rfl⟩
                 rw [hd] at n0 HNX HHT
                 have i3 : (0 : Int) ≤ (j : Int) := by omega
                 have i4 : (j : Int) < (nr : Int) := by have := HN2.out; omega
                 have i5 : (j : Int) < (k : Int) := by omega
                 cases hq : seq d xn
                 . have HNY := HNX hq
                   have hq2 : (d.toList == xn.toList) = false := hq
                   clear HNX HHT hq hd r1 r2 hTq
                   go_wp2_with fail
                   go_quiet (fail)
                   go_wp2_with fail
                   go_roundw
                   case rel => exact ⟨j + 1, by omega, by go_num, HNY.out, HTQ.out.next (below_drawn (Below.refl _ _) _)⟩
                   case measure => simp [intOf]; omega
                 . have HNY := HHT hq
                   have hq2 : (d.toList == xn.toList) = true := hq
                   clear HNX HHT hq hd r1 r2 hTq
                   go_wp2_with fail
                   go_quiet (fail)
                   go_wp2_with fail
                   go_ret
                   exact ⟨ret_int HNY.out, below_drawn HTQ.out.bel _⟩
               . obtain rfl : j = k := by omega
                 have HR0 : Hid (rks rk (rs.take (j + 1)) (rs.drop (j + 1)) = B) := by
                   have h := HEV.out
                   have hn9 : (rs.take j).any (fun d => seq d.n xn) = false := by
                     rw [List.any_eq_false]
                     intro x hx
                     rw [List.mem_take_iff_getElem] at hx
                     obtain ⟨q, hq, rfl⟩ := hx
                     rw [HNO.out q (by omega) (by omega)]
                     decide
                   rw [if_neg (by rw [hn9]; decide)] at h
                   rw [HTK.out]
                   exact h
                 clear HNO a2 hTq
                 go_wp2_with fail
                 go_roundw
                 case rel => exact ⟨j + 1, by omega, by go_num, HR0.out, HTQ.out⟩
                 case measure => simp [intOf]; omega
           . have HR0 : Hid (e9 = R) := by
               have h := HRR.out
               have h7 := HEW.out
               rw [if_pos hz] at h7
               rw [← h7, if_pos hz] at h
               exact h
             have b1 : (e9 != 0) = true := by simpa using hz
             have b2 : (e9 == 0) = false := by simpa using hz
             go_wp2_with fail
             go_ret
             exact ⟨ret_int HR0.out, HT9.out.bel⟩
         . obtain rfl : nr = k := by omega
           rw [List.drop_eq_nil_of_le (by have := HN2.out; omega), rks] at hev
           have h := HRR.out
           rw [← hev, if_neg (fun c => c rfl)] at h
           have HR3 : Hid ((if ts.any (fun t => cmo rs t.n nr t.n) = true then (15 : Int) else 0) = R) := h
           have a0 : wr.cell? ⟨w.heap.size, 0, none⟩ = some (.slice tp nt tc) := hTr.c 0
           clear h hTr hev HRR HBB
           go_wp2_with fail
           clear a0 a1
           go_loopw [10] (fun i wr => ∃ k : Nat, k ≤ nt ∧ i = .int .i64 (k : Nat) ∧ (∀ (j : Nat) (hj : j < ts.length), j < k → cmo rs ts[j].n nr ts[j].n = false) ∧ BlkT w wr [.slice tp nt tc, .slice rp nr rc] 25) (fun i _ => nt + 1 - (intOf i).toNat)
           case atStart => exact ⟨0, by omega, rfl, fun j hj h => by omega, HT.out⟩
           case round =>
             obtain ⟨k, hk, rfl, hf, hTr⟩ := hrel
             clear HT
             have HF := hid hf
             have HT : Hid (BlkT w wr [.slice tp nt tc, .slice rp nr rc] 25) := hTr
             have a1 : wr.cell? ⟨w.heap.size, 0, none⟩ = some (.slice tp nt tc) := hTr.c 0
             clear hf
             by_cases hlt : k < nt
             . have hkc : k < ts.length := by have := HN1.out; omega
               obtain ⟨g, off, hp, hrd⟩ := HA1.out (by omega)
               have HQ := hid hp
               rw [hp] at a1
               obtain ⟨us, r1, o1⟩ := hrd wr hTr.bel k hkc
               obtain ⟨vf, z1, o2⟩ := rdY o1
               clear o1 o2
               subst z1
               have n0 := r1 0 _ rfl
               simp only [Nat.add_zero] at n0
               have HNX : cmo rs ts[k].n nr ts[k].n = false → Hid (∀ (j : Nat) (hj : j < ts.length), j < k + 1 → cmo rs ts[j].n nr ts[j].n = false) := fun h9 j hj h => by
                 by_cases c : j = k
                 . subst c; exact h9
                 . exact HF.out j hj (by omega)
               have HHT : cmo rs ts[k].n nr ts[k].n = true → Hid (15 = R) := fun h9 => by
                 have h := HR3.out
                 rw [if_pos (any_some (l := ts) (q := fun t : Tp => cmo rs t.n nr t.n) hkc h9)] at h
                 exact h
               have hcm := fun W (hW : Below w.heap.size w W) => HCO.out ts[k].n W hW
               obtain ⟨tn, htn⟩ : ∃ x, ts[k].n = x := ⟨_, rfl⟩
               rw [htn] at n0 HNX HHT hcm
               have N0 := hid n0
               have hc9 := hcm wr.drew hTr.bel.drew
               rw [hp] at hc9
               have i1 : (0 : Int) ≤ (k : Int) := by omega
               have i2 : (k : Int) < (nt : Int) := by omega
               cases hb : cmo rs tn nr tn
               . have HNY := HNX hb
                 rw [hb] at hc9
                 have HCM := hid hc9
                 clear hb HNX HHT hcm hc9 htn r1 hrd hTr hkc hp n0 HF
                 go_wp2_with fail
                 refine start_n (S := (fun w' => w'.cell? ⟨w.heap.size, 0, none⟩ = some (.slice (some ⟨g, off, none⟩) nt tc) ∧ w'.cell? ⟨w.heap.size, 1, none⟩ = some (.slice rp nr rc) ∧ w'.cell? ⟨g, off + k * 2, none⟩ = some (.string tn))) 17 #[false, false, false, false, false, false, false, false, false, false, false, false, false, false, false, false, false] rfl rfl (by kernel_rfl) (by { exact ⟨by { have h := HT.out.drew.c 0; rw [HQ.out] at h; exact h }, HT.out.drew.c 1, N0.out⟩ }) (fun hHeld => ?_)
                 refine tkq (i := 0) (v := ?v1) rfl ?hy1 ?rest1; (case hy1 => intro w0 hSw; (try dsimp only at hSw); go_simp <;> (try (with_reducible rfl))); (try simp only [puts])
                 refine tkq (i := 1) (v := ?v2) rfl ?hy2 ?rest2; (case hy2 => intro w0 hSw; (try dsimp only at hSw); go_simp <;> (try (with_reducible rfl))); (try simp only [puts])
                 refine tkq (i := 2) (v := ?v3) rfl ?hy3 ?rest3; (case hy3 => intro w0 hSw; (try dsimp only at hSw); go_simp <;> (try (with_reducible rfl))); (try simp only [puts])
                 refine tkq (i := 3) (v := ?v4) rfl ?hy4 ?rest4; (case hy4 => intro w0 hSw; (try dsimp only at hSw); go_simp <;> (try (with_reducible rfl))); (try simp only [puts])
                 refine tkq (i := 4) (v := ?v5) rfl ?hy5 ?rest5; (case hy5 => intro w0 hSw; (try dsimp only at hSw); go_simp <;> (try (with_reducible rfl))); (try simp only [puts])
                 refine tkq (i := 5) (v := ?v6) rfl ?hy6 ?rest6; (case hy6 => intro w0 hSw; (try dsimp only at hSw); go_simp <;> (try (with_reducible rfl))); (try simp only [puts])
                 refine tkq (i := 6) (v := ?v7) rfl ?hy7 ?rest7; (case hy7 => intro w0 hSw; (try dsimp only at hSw); go_simp <;> (try (with_reducible rfl))); (try simp only [puts])
                 refine tkq (i := 7) (v := ?v8) rfl ?hy8 ?rest8; (case hy8 => intro w0 hSw; (try dsimp only at hSw); go_simp <;> (try (with_reducible rfl))); (try simp only [puts])
                 refine tkq (i := 8) (v := ?v9) rfl ?hy9 ?rest9; (case hy9 => intro w0 hSw; (try dsimp only at hSw); go_simp <;> (try (with_reducible rfl))); (try simp only [puts])
                 refine tkq (i := 9) (v := ?v10) rfl ?hy10 ?rest10; (case hy10 => intro w0 hSw; (try dsimp only at hSw); go_simp <;> (try (with_reducible rfl))); (try simp only [puts])
                 refine tkq (i := 10) (v := ?v11) rfl ?hy11 ?rest11; (case hy11 => intro w0 hSw; (try dsimp only at hSw); go_simp <;> (try (with_reducible rfl))); (try simp only [puts])
                 refine tkq (i := 11) (v := ?v12) rfl ?hy12 ?rest12; (case hy12 => intro w0 hSw; (try dsimp only at hSw); go_simp <;> (try (with_reducible rfl))); (try simp only [puts])
                 refine tkq (i := 12) (v := ?v13) rfl ?hy13 ?rest13; (case hy13 => intro w0 hSw; (try dsimp only at hSw); go_simp <;> (try (with_reducible rfl))); (try simp only [puts])
                 refine tkq (i := 13) (v := ?v14) rfl ?hy14 ?rest14; (case hy14 => intro w0 hSw; (try dsimp only at hSw); go_simp <;> (try (with_reducible rfl))); (try simp only [puts])
                 refine tkq (i := 14) (v := ?v15) rfl ?hy15 ?rest15; (case hy15 => intro w0 hSw; (try dsimp only at hSw); go_simp <;> (try (with_reducible rfl))); (try simp only [puts])
                 refine tkq (i := 15) (v := ?v16) rfl ?hy16 ?rest16; (case hy16 => intro w0 hSw; (try dsimp only at hSw); go_simp <;> (try (with_reducible rfl))); (try simp only [puts])
                 refine wpAnyH_ready (rs := [16]) (by kernel_rfl) (by simp) ?_
                 refine cons_mk rfl (fun K hK => ?_) AllReadyH.nil
                 refine step_call4 37 ent_co (by rfl) _ _ _ _ _ (by rfl) (.agg #[.slice (some ⟨g, off, none⟩) nt tc, .slice rp nr rc]) (.string tn) (.string tn) (.int .i64 (nr : Int)) (by rfl) (by rfl) (by rfl) (by rfl) _ HCM.out ?_
                 rintro e w9 ⟨rfl, hb9⟩
                 refine ⟨_, rfl, ?_⟩
                 have HT9 : Hid (BlkT w w9 [.slice tp nt tc, .slice rp nr rc] 25) := HT.out.drew.next hb9
                 have N9 : Hid (w9.cell? ⟨g, off + k * 2, none⟩ = some (.string tn)) := cell_bel N0.out hb9
                 clear hb9
                 refine hK.out _ _ (by { exact ⟨by { have h := HT9.out.c 0; rw [HQ.out] at h; exact h }, HT9.out.c 1, N9.out⟩ }) (fun hHeld => ?_)
                 clear hK K
                 (try simp only [puts])
                 refine wpAnyH_done (by kernel_rfl) ?_ _
                 clear hHeld a1
                 go_wp2_with fail
                 go_roundw
                 case rel => exact ⟨k + 1, by omega, by go_num, HNY.out, HT9.out⟩
                 case measure => simp [intOf]; omega
               . have HR0 := HHT hb
                 rw [hb] at hc9
                 have HCM := hid hc9
                 clear hb HNX HHT hcm hc9 htn r1 hrd hTr hkc hp n0 HF
                 go_wp2_with fail
                 refine start_n (S := (fun w' => w'.cell? ⟨w.heap.size, 0, none⟩ = some (.slice (some ⟨g, off, none⟩) nt tc) ∧ w'.cell? ⟨w.heap.size, 1, none⟩ = some (.slice rp nr rc) ∧ w'.cell? ⟨g, off + k * 2, none⟩ = some (.string tn))) 17 #[false, false, false, false, false, false, false, false, false, false, false, false, false, false, false, false, false] rfl rfl (by kernel_rfl) (by { exact ⟨by { have h := HT.out.drew.c 0; rw [HQ.out] at h; exact h }, HT.out.drew.c 1, N0.out⟩ }) (fun hHeld => ?_)
                 refine tkq (i := 0) (v := ?v1b) rfl ?hy1b ?rest1b; (case hy1b => intro w0 hSw; (try dsimp only at hSw); go_simp <;> (try (with_reducible rfl))); (try simp only [puts])
                 refine tkq (i := 1) (v := ?v2b) rfl ?hy2b ?rest2b; (case hy2b => intro w0 hSw; (try dsimp only at hSw); go_simp <;> (try (with_reducible rfl))); (try simp only [puts])
                 refine tkq (i := 2) (v := ?v3b) rfl ?hy3b ?rest3b; (case hy3b => intro w0 hSw; (try dsimp only at hSw); go_simp <;> (try (with_reducible rfl))); (try simp only [puts])
                 refine tkq (i := 3) (v := ?v4b) rfl ?hy4b ?rest4b; (case hy4b => intro w0 hSw; (try dsimp only at hSw); go_simp <;> (try (with_reducible rfl))); (try simp only [puts])
                 refine tkq (i := 4) (v := ?v5b) rfl ?hy5b ?rest5b; (case hy5b => intro w0 hSw; (try dsimp only at hSw); go_simp <;> (try (with_reducible rfl))); (try simp only [puts])
                 refine tkq (i := 5) (v := ?v6b) rfl ?hy6b ?rest6b; (case hy6b => intro w0 hSw; (try dsimp only at hSw); go_simp <;> (try (with_reducible rfl))); (try simp only [puts])
                 refine tkq (i := 6) (v := ?v7b) rfl ?hy7b ?rest7b; (case hy7b => intro w0 hSw; (try dsimp only at hSw); go_simp <;> (try (with_reducible rfl))); (try simp only [puts])
                 refine tkq (i := 7) (v := ?v8b) rfl ?hy8b ?rest8b; (case hy8b => intro w0 hSw; (try dsimp only at hSw); go_simp <;> (try (with_reducible rfl))); (try simp only [puts])
                 refine tkq (i := 8) (v := ?v9b) rfl ?hy9b ?rest9b; (case hy9b => intro w0 hSw; (try dsimp only at hSw); go_simp <;> (try (with_reducible rfl))); (try simp only [puts])
                 refine tkq (i := 9) (v := ?v10b) rfl ?hy10b ?rest10b; (case hy10b => intro w0 hSw; (try dsimp only at hSw); go_simp <;> (try (with_reducible rfl))); (try simp only [puts])
                 refine tkq (i := 10) (v := ?v11b) rfl ?hy11b ?rest11b; (case hy11b => intro w0 hSw; (try dsimp only at hSw); go_simp <;> (try (with_reducible rfl))); (try simp only [puts])
                 refine tkq (i := 11) (v := ?v12b) rfl ?hy12b ?rest12b; (case hy12b => intro w0 hSw; (try dsimp only at hSw); go_simp <;> (try (with_reducible rfl))); (try simp only [puts])
                 refine tkq (i := 12) (v := ?v13b) rfl ?hy13b ?rest13b; (case hy13b => intro w0 hSw; (try dsimp only at hSw); go_simp <;> (try (with_reducible rfl))); (try simp only [puts])
                 refine tkq (i := 13) (v := ?v14b) rfl ?hy14b ?rest14b; (case hy14b => intro w0 hSw; (try dsimp only at hSw); go_simp <;> (try (with_reducible rfl))); (try simp only [puts])
                 refine tkq (i := 14) (v := ?v15b) rfl ?hy15b ?rest15b; (case hy15b => intro w0 hSw; (try dsimp only at hSw); go_simp <;> (try (with_reducible rfl))); (try simp only [puts])
                 refine tkq (i := 15) (v := ?v16b) rfl ?hy16b ?rest16b; (case hy16b => intro w0 hSw; (try dsimp only at hSw); go_simp <;> (try (with_reducible rfl))); (try simp only [puts])
                 refine wpAnyH_ready (rs := [16]) (by kernel_rfl) (by simp) ?_
                 refine cons_mk rfl (fun K hK => ?_) AllReadyH.nil
                 refine step_call4 37 ent_co (by rfl) _ _ _ _ _ (by rfl) (.agg #[.slice (some ⟨g, off, none⟩) nt tc, .slice rp nr rc]) (.string tn) (.string tn) (.int .i64 (nr : Int)) (by rfl) (by rfl) (by rfl) (by rfl) _ HCM.out ?_
                 rintro e w9 ⟨rfl, hb9⟩
                 refine ⟨_, rfl, ?_⟩
                 have HT9 : Hid (BlkT w w9 [.slice tp nt tc, .slice rp nr rc] 25) := HT.out.drew.next hb9
                 have N9 : Hid (w9.cell? ⟨g, off + k * 2, none⟩ = some (.string tn)) := cell_bel N0.out hb9
                 clear hb9
                 refine hK.out _ _ (by { exact ⟨by { have h := HT9.out.c 0; rw [HQ.out] at h; exact h }, HT9.out.c 1, N9.out⟩ }) (fun hHeld => ?_)
                 clear hK K
                 (try simp only [puts])
                 refine wpAnyH_done (by kernel_rfl) ?_ _
                 clear hHeld a1
                 go_wp2_with fail
                 go_ret
                 exact ⟨ret_int HR0.out, HT9.out.bel⟩
             . obtain rfl : nt = k := by omega
               have HR0 : Hid (0 = R) := by
                 have h := HR3.out
                 rw [if_neg (by rw [any_none (l := ts) (q := fun t : Tp => cmo rs t.n nr t.n) fun j hj => HF.out j hj (by have := HN1.out; omega)]; decide)] at h
                 exact h
               clear hTr HF
               go_wp2_with fail
               go_ret
               exact ⟨ret_int HR0.out, HT.out.bel⟩
theorem cr_of {w : World} {m : Int} {r : Int × Int} {P : Ending → World → Prop} (h : ∀ e w', P e w' → e = .returned (.tuple #[.int .i64 m, .int .i64 r.2]) ∧ Below w.heap.size w w') (hm : r.2 = 0 → m = r.1) : ∀ e w', P e w' → CR w r e w' := fun e w' hp => ⟨m, (h e w' hp).1, hm, (h e w' hp).2⟩
theorem conditionFault_any (ts : List Tp) (kn : List Pt) (own : Tp) (hkn : Known ts kn) : ∀ (n : Nat) (c : Cn) (tv kv fv v : Value) (w : World) (dp : Int), dp = 9 - (n : Int) → n ≤ 8 → Wfc c → Rd w (.row 72 2 (ts.map encY)) tv → Rd w (.row 65 18 (kn.map encP)) kv → Rd w (.row 93 2 (own.f.map encF)) fv → Rd w (.row 63 14 c.sb) v →
  Calls Tryz.prog 122 #[tv, kv, .agg #[.string own.n, fv], cnV c.k v c.l c.r, .int .i64 dp] w (CR w (cdk ts kn own n c)) := by
 intro n
 induction n with
 | zero =>
  intro c tv kv fv v w dp hdp hn8 hw hT hK hF hS
  obtain ⟨c, cs, hcs, hsub⟩ := hw
  rw [hcs] at hS
  obtain ⟨tp, tc, e1, _, _⟩ := rd_row lenY hT
  obtain ⟨kp, kc, e2, _, _⟩ := rd_row lenP hK
  obtain ⟨fp, fc, e3, _, _⟩ := rd_row lenF hF
  obtain ⟨p, cap, e4, _, _⟩ := rd_row lenC hS
  subst e1 e2 e3 e4
  obtain ⟨ck, csb, ⟨lk, lvk, lvi, lvt, lva, lfd⟩, ⟨rk, rvk, rvi, rvt, rva, rfd⟩⟩ := c
  obtain ⟨on, tf⟩ := own
  unfold cdk
  simp only
  by_cases hk : 1 ≤ ck ∧ ck ≤ 7
  . rw [if_pos hk]
    exact (cond_deep on ck cs.length lk lvk lvi rk rvk rvi lvt lva lfd rvt rva rfd tp kp fp p _ tc _ kc _ fc cap dp w hk (by omega)).mono (cr_of (r := (0, 14)) (fun e w' h => h) (fun h => absurd h (by decide)))
  . rw [if_neg hk]
    exact (cond_kind on ck cs.length lk lvk lvi rk rvk rvi lvt lva lfd rvt rva rfd tp kp fp p _ tc _ kc _ fc cap dp w hk).mono (cr_of (r := (0, 3)) (fun e w' h => h) (fun h => absurd h (by decide)))
 | succ n ih =>
  intro c tv kv fv v w dp hdp hn8 hw hT hK hF hS
  obtain ⟨c, cs, hcs, hsub⟩ := hw
  have hlen : c.sb.length = cs.length := by rw [hcs, List.length_map]
  have hss := subs_of hcs
  rw [hcs] at hS
  have hSL : ∀ o W, Below w.heap.size w W → Calls Tryz.prog 125 #[tv, kv, .agg #[.string own.n, fv], opV o] W fun e w' => e = .returned (.tuple #[.int .i64 (sdk ts kn own o).1, .int .i64 (sdk ts kn own o).2]) ∧ Below W.heap.size W w' := fun o W hW => sideKind_any ts kn own o tv kv fv W (hT.later hW) (hK.later hW) (hF.later hW) hkn
  have hIH : ∀ x, x ∈ cs → ∀ W, Below w.heap.size w W → ∀ u, Rd W (.row 63 14 x.sb) u → Calls Tryz.prog 122 #[tv, kv, .agg #[.string own.n, fv], .agg (cnC x.k u x.l x.r).toArray, .int .i64 (dp + 1)] W (CR W (cdk ts kn own n x)) := fun x hx W hW u hu =>
    ih x tv kv fv u W (dp + 1) (by omega) (by omega) (hsub x hx) (hT.later hW) (hK.later hW) (hF.later hW) hu
  obtain ⟨tp, tc, e1, _, _⟩ := rd_row lenY hT
  obtain ⟨kp, kc, e2, _, _⟩ := rd_row lenP hK
  obtain ⟨fp, fc, e3, _, _⟩ := rd_row lenF hF
  obtain ⟨p, cap, e4, _, _⟩ := rd_row lenC hS
  subst e1 e2 e3
  have hS2 := hS
  unfold cdk
  rw [hss, hlen]
  obtain ⟨ck, csb, ⟨lk, lvk, lvi, lvt, lva, lfd⟩, ⟨rk, rvk, rvi, rvt, rva, rfd⟩⟩ := c
  simp only
  have hd : ¬ 8 < dp := by omega
  by_cases hk : 1 ≤ ck ∧ ck ≤ 7
  . rw [if_neg (fun c => c hk)]
    by_cases h3 : 3 < ck
    . rw [if_pos h3]
      subst e4
      by_cases h0 : cs.length = 0
      . rw [if_neg (fun c => c h0)]
        have h1 := hSL ⟨lk, lvk, lvi, lvt, lva, lfd⟩
        have h2 := hSL ⟨rk, rvk, rvi, rvt, rva, rfd⟩
        obtain ⟨⟨am, ae⟩, ha⟩ : ∃ q, sdk ts kn own ⟨lk, lvk, lvi, lvt, lva, lfd⟩ = q := ⟨_, rfl⟩
        obtain ⟨⟨bm, be⟩, hb⟩ : ∃ q, sdk ts kn own ⟨rk, rvk, rvi, rvt, rva, rfd⟩ = q := ⟨_, rfl⟩
        rw [ha] at h1
        rw [hb] at h2
        rw [ha, hb]
        simp only at h1 h2 ⊢
        by_cases c1 : ae = 0
        . rw [if_neg (fun c => c c1)]
          subst c1
          by_cases c2 : be = 0
          . rw [if_neg (fun c => c c2)]
            by_cases c3 : am = bm
            . rw [if_neg (fun c => c c3)]
              exact (cond_good am bm be own.n ck cs.length lk lvk lvi rk rvk rvi lvt lva lfd rvt rva rfd tp kp fp p _ tc _ kc _ fc cap dp w hk hd h3 h0 h1 h2 c2 c3).mono (cr_of (r := (1, 0)) (fun e w' h => h) (fun _ => rfl))
            . rw [if_pos c3]
              exact (cond_type am bm be own.n ck cs.length lk lvk lvi rk rvk rvi lvt lva lfd rvt rva rfd tp kp fp p _ tc _ kc _ fc cap dp w hk hd h3 h0 h1 h2 c2 c3).mono (cr_of (r := (0, 13)) (fun e w' h => h) (fun h => absurd h (by decide)))
          . rw [if_pos c2]
            exact (cond_right am bm be own.n ck cs.length lk lvk lvi rk rvk rvi lvt lva lfd rvt rva rfd tp kp fp p _ tc _ kc _ fc cap dp w hk hd h3 h0 h1 h2 c2).mono (cr_of (r := (0, be)) (fun e w' h => h) (fun h => absurd h c2))
        . rw [if_pos c1]
          exact (cond_left am ae own.n ck cs.length lk lvk lvi rk rvk rvi lvt lva lfd rvt rva rfd tp kp fp p _ tc _ kc _ fc cap dp w hk hd h3 h0 h1 c1).mono (cr_of (r := (0, ae)) (fun e w' h => h) (fun h => absurd h c1))
      . rw [if_pos h0]
        exact (cond_subs own.n ck cs.length lk lvk lvi rk rvk rvi lvt lva lfd rvt rva rfd tp kp fp p _ tc _ kc _ fc cap dp w hk hd h3 h0).mono (cr_of (r := (0, 4)) (fun e w' h => h) (fun h => absurd h (by decide)))
    . rw [if_neg h3]
      by_cases hz : eqz ⟨lk, lvk, lvi, lvt, lva, lfd⟩ = false ∨ eqz ⟨rk, rvk, rvi, rvt, rva, rfd⟩ = false
      . rw [if_pos hz]
        subst e4
        exact (cond_sides own.n ck cs.length lk lvk lvi rk rvk rvi lvt lva lfd rvt rva rfd tp kp fp p _ tc _ kc _ fc cap dp w hk hd h3 hz).mono (cr_of (r := (0, 4)) (fun e w' h => h) (fun h => absurd h (by decide)))
      . rw [if_neg hz]
        have hl : eqz ⟨lk, lvk, lvi, lvt, lva, lfd⟩ = true := by
          cases h9 : eqz ⟨lk, lvk, lvi, lvt, lva, lfd⟩
          . exact absurd (.inl h9) hz
          . rfl
        have hr : eqz ⟨rk, rvk, rvi, rvt, rva, rfd⟩ = true := by
          cases h9 : eqz ⟨rk, rvk, rvi, rvt, rva, rfd⟩
          . exact absurd (.inr h9) hz
          . rfl
        by_cases hc : (ck = 3 ∧ cs.length ≠ 1) ∨ (ck ≠ 3 ∧ cs.length < 2)
        . rw [if_pos hc]
          subst e4
          rcases hc with ⟨d1, d2⟩ | ⟨d1, d2⟩
          . exact (cond_count3 own.n ck cs.length lk lvk lvi rk rvk rvi lvt lva lfd rvt rva rfd tp kp fp p _ tc _ kc _ fc cap dp w hk hd h3 hl hr d1 d2).mono (cr_of (r := (0, 4)) (fun e w' h => h) (fun h => absurd h (by decide)))
          . exact (cond_count2 own.n ck cs.length lk lvk lvi rk rvk rvi lvt lva lfd rvt rva rfd tp kp fp p _ tc _ kc _ fc cap dp w hk hd h3 hl hr d1 d2).mono (cr_of (r := (0, 4)) (fun e w' h => h) (fun h => absurd h (by decide)))
        . rw [if_neg hc]
          exact cond_group (cdk ts kn own n) (cdk_range ts kn own n) cs own.n ck lk lvk lvi rk rvk rvi lvt lva lfd rvt rva rfd tp kp fp v _ tc _ kc _ fc dp w hk hd (by omega) h3 hl hr hc hS2 hIH
  . rw [if_pos hk]
    subst e4
    exact (cond_kind own.n ck cs.length lk lvk lvi rk rvk rvi lvt lva lfd rvt rva rfd tp kp fp p _ tc _ kc _ fc cap dp w hk).mono (cr_of (r := (0, 3)) (fun e w' h => h) (fun h => absurd h (by decide)))
end Go.Proofs.YthndlfdbmljkhaaGreatDoor.Chk
