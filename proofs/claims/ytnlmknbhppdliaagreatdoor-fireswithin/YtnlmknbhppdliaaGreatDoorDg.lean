/-
  A pattern, by the program. What is known; a when, a not and a many, by the program. Names that are taken; types, one by one, by the program.
-/
import Derived.Test.YtnlmknbhppdliaaGreatDoorDd
set_option maxHeartbeats 64000000
namespace Go.Proofs.YtnlmknbhppdliaaGreatDoor.Chk
open Go.ChangeShapes Go.WideShapes Go.ChangeAt Go.RowKit Go.Maps
set_option linter.unusedVariables false
set_option linter.unusedSimpArgs false
set_option maxRecDepth 20000
def Kna (ah : List ByteArray) (Ks : Kns) : Prop := ∀ va : ByteArray, (∀ q, lkp Ks va.data.toList = some q → q.1 ≠ 0) ∧ (lkp Ks va.data.toList = none ↔ ah.any (fun a => seq a va) = false)
theorem Kna.part {ah : List ByteArray} {Ks : Kns} (h : Kna ah Ks) (va : ByteArray) : ((lkp Ks va.data.toList).getD (0, 0)).1 ≠ 0 ↔ ah.any (fun a => seq a va) = true := by
 obtain ⟨h1, h2⟩ := h va
 cases hl : lkp Ks va.data.toList with
 | none => rw [h2.1 hl]; simp
 | some q =>
  have h3 := h1 q hl
  have h4 : ah.any (fun a => seq a va) = true := by
   cases h5 : ah.any (fun a => seq a va) with
   | true => rfl
   | false => rw [h2.2 h5] at hl; cases hl
  rw [h4]
  simpa using h3
theorem zFD {s : ByteArray} (h : frn s = 0) : s.size ≤ maxLen := by
 unfold frn at h
 have h1 : nchk s = 0 := by
   by_cases c : nchk s = 0 ∧ kpt s = true
   . exact c.1
   . rw [if_neg c] at h; exact h
 unfold nchk at h1
 by_cases c : s.size < 1 ∨ 10 < s.size
 . rw [if_pos c] at h1; cases h1
 . unfold maxLen; omega
theorem wck_eq {part w n : Int} {xs : List Int} (h : (part = 1 ∧ xs = [0, 1, 2]) ∨ (part = 2 ∧ xs = [0]) ∨ (part = 3 ∧ xs = [1])) : wck xs w n = if wbad (part - 1) w n then 4 else if rbad w n then 2 else 0 := by
 unfold wck
 have e : (¬ w ∈ xs ∨ (w = 0 ∧ n ≠ 0)) ↔ wbad (part - 1) w n := by
   unfold wbad
   rcases h with ⟨rfl, rfl⟩ | ⟨rfl, rfl⟩ | ⟨rfl, rfl⟩ <;> simp <;> omega
 by_cases c : wbad (part - 1) w n
 . rw [if_pos (e.2 c), if_pos c]
 . rw [if_neg (fun d => c (e.1 d)), if_neg c]
def PR (w : World) (mb : Nat) (Ks : Kns) (n : Nat) (va : ByteArray) (q : Int × Int) (E : Int) (e : Ending) (w' : World) : Prop :=
  e = .returned (.int .i64 E) ∧ (E ≠ 0 → Below w.heap.size w w') ∧ (E = 0 → Fr (fun i => i = mb) w w' ∧ Km w' mb (Ks ++ [(va, q)]) (n + 1))
theorem zD9 {w w' : World} {mb : Nat} {Ks : Kns} {n : Nat} {va : ByteArray} {q : Int × Int} {E R : Int} (h : E = R) (hr : R ≠ 0) (hb : Below w.heap.size w w') : PR w mb Ks n va q E (.returned (.int .i64 R)) w' := by
  subst h; exact ⟨rfl, fun _ => hb, fun c => absurd c hr⟩
theorem zFE (x y : Int) (w : World) : (Instr.field 212 (.agg #[.int .i64 x, .int .i64 y]) 0).run Tryz.prog w = .ok (.int .i64 x) w := by kernel_rfl
theorem zGZ : ∀ args w, (callFunc 153 args).run Tryz.prog w = .ok (.enter 153 args) w := enters_of Tryz.func153 (by kernel_rfl) rfl
theorem zBU {ops : Array Oper} {o : Oper} {a : Act} {w : World} {Ks : Act → World → Prop} {Q : Exit → Act → World → Prop} {E : Prop} (f : FuncId) (he : ∀ args w, (callFunc f args).run Tryz.prog w = .ok (.enter f args) w) (hw : Region.wanted o (yielded ops a.tmps) = true) (x1 x2 x3 : Operand) (ts : Array TypeId) (ho : o.op = .call { callee := .value (.func f), args := #[x1, x2, x3], argTypes := ts }) (u1 u2 u3 : Value) (h1 : a.eval x1 = u1) (h2 : a.eval x2 = u2) (h3 : a.eval x3 = u3)
  (R : Ending → World → Prop) (hc : Calls Tryz.prog f #[u1, u2, u3] w R) (h : ∀ e w', R e w' → ∃ v, e = .returned v ∧ Ks (a.put o.dst v) w') :
  if Region.wanted o (yielded ops a.tmps) = true then Oper.wp Tryz.prog o a w Ks Q else E := by
 rw [if_pos hw]
 unfold Oper.wp execOp
 have hf : a.eval (.func f) = Value.func (Fn.func f) #[] #[] := rfl
 simp [ho, resolve, invoke, Deferred.ofValue, hf, h1, h2, h3, he]
 refine hc.mono ?_
 intro e w' hr
 obtain ⟨v, rfl, hk⟩ := h e w' hr
 exact hk
theorem zBP {w : World} {bk : Nat} {A B C : List Value} {t : TypeId} {o : Nat} (h : w.heap[bk]? = some (.cells A.toArray t (0, 0))) (hA : A = C ++ B) (ho : C.length = o) (n : Nat) : w.rangeAt bk o (B.take n) := fun j v hv => by
  rw [zAC h, List.getElem?_toArray, hA, List.getElem?_append_right (by omega), show o + j - C.length = j by omega]
  rw [List.getElem?_take] at hv
  split at hv
  . exact hv
  . cases hv
theorem zBO (ts : List Tp) (ws : List Pt) (ah : List ByteArray) (b mb : Nat) (Ks : Kns) (n : Nat) (hkn : zA9 ts ws) (hk : Knw ts ws Ks) (hka : Kna ah Ks) (hty : ∀ i (hi : i < ts.length), tyk ts[i].n ts[i].f = 0) (pt : Pt) (part : Int) (xs : List Int) (hpx : (part = 1 ∧ xs = [0, 1, 2]) ∨ (part = 2 ∧ xs = [0]) ∨ (part = 3 ∧ xs = [1])) (tv sv wv : Value) (w : World) (hs : Scp w ts tv b mb Ks n) (hS : Rd w (.row 46 14 pt.c.sb) sv) (hwz : Wsz pt.c) (hI : Ints w wv xs) (hn : n ≤ 100) :
   Calls Tryz.prog 128 #[scV tv b mb, .int .i64 part, ptV pt.va pt.ty pt.c.k sv pt.c.l pt.c.r pt.w pt.n, wv] w (PR w mb Ks n pt.va (part, tyq ts pt.ty) (pck ts ws ah pt (part - 1))) := by
 have HWA := hid (fun i (hi : i < ts.length) (fv : Value) W (hW : Below w.heap.size w W) (hF : Rd W (.row 103 2 (ts[i].f.map encF)) fv) => zG7 ts ws ts[i] b mb Ks n hkn hk hty (hty i hi) pt.c sv tv fv W hwz (hs.later hW) hF (hS.later hW))
 have HTY := hid (fun W (hW : Below w.heap.size w W) => zA4 ts tv pt.ty b W (hs.rt.later hW) (hs.later hW).fd)
 have HCN := hid (fun W (hW : Below w.heap.size w W) => zAW pt.va W (hs.later hW).tk (hs.later hW).tr)
 have HS := hid hs
 have HKA := hid (hka.part pt.va)
 have HKB := hid (hka pt.va).1
 have hwk := wck_eq (w := pt.w) (n := pt.n) hpx
 obtain ⟨p, m, cap, rfl⟩ := zAB hS
 have HWN := hid (fun W (hW : Below w.heap.size w W) => zCC xs pt.va pt.ty pt.c.k p m cap pt.c.l pt.c.r pt.w pt.n wv W (hI.later hW))
 obtain ⟨wg, wc, hwv, _⟩ := hI
 obtain ⟨tp, tn, tc, rfl⟩ := zAB hs.rt
 obtain ⟨va, ty, ⟨ck, csb, l, r⟩, pw, pn⟩ := pt
 subst hwv
 simp only at HWA HTY HCN HWN HKA HKB hwk ⊢
 obtain ⟨E, hE⟩ : ∃ E, pck ts ws ah ⟨va, ty, ⟨ck, csb, l, r⟩, pw, pn⟩ (part - 1) = E := ⟨_, rfl⟩
 rw [hE]
 unfold pck at hE
 simp only at hE
 rw [hwk] at HWN
 obtain ⟨f0, hf0⟩ : ∃ f, frn va = f := ⟨_, rfl⟩
 obtain ⟨t0, ht0⟩ : ∃ t, tyq ts ty = t := ⟨_, rfl⟩
 have HF0 := hid hf0
 have HT0 := hid ht0
 rw [hf0] at hE HCN
 rw [ht0] at hE HTY ⊢
 obtain ⟨xl, hxl⟩ : ∃ l, xs.length = l := ⟨_, rfl⟩
 rw [hxl] at HWN ⊢
 have HE := hid hE
 have HT : Hid (Blk2 w ((w.alloc (.cells [.slice tp tn tc, .func (.func 95) #[] #[.pointer (some ⟨b, 0, none⟩)], .map (some mb)].toArray 174)).alloc (.cells (ptC va ty ck (.slice p m cap) l r pw pn).toArray 48)) [.slice tp tn tc, .func (.func 95) #[] #[.pointer (some ⟨b, 0, none⟩)], .map (some mb)] (ptC va ty ck (.slice p m cap) l r pw pn) 174 48) := Blk2.start w _ _ _ _
 have HS0 := hid (HS.out.later HT.out.bel)
 have hfl := zFE
 clear hE hwk hf0 ht0 hxl hS hs hka hkn hk hty hpx hwz
 by_cases h0 : f0 = 0
 . subst h0
   have HZ := hid (zFD HF0.out)
   obtain ⟨p1, p2, hp⟩ : ∃ p1 p2, (lkp Ks va.data.toList).getD (0, 0) = (p1, p2) := ⟨_, _, rfl⟩
   have HP := hid hp
   have hka2 := HKA.out
   rw [hp] at hka2
   have HK2 : Hid (p1 ≠ 0 ↔ ah.any (fun a => seq a va) = true) := hka2
   have HE1 := HE.out
   rw [if_neg (by decide)] at HE1
   have HE2 := hid HE1
   clear HE HE1 hp hka2 HKA
   by_cases h1 : p1 = 0
   . have HE3 := HE2.out
     rw [if_neg (fun c => HK2.out.2 c h1)] at HE3
     have HE4 := hid HE3
     have HLN : Hid (lkp Ks va.data.toList = none) := by
       have h := HP.out
       cases hl : lkp Ks va.data.toList with
       | none => rfl
       | some q => exact absurd (by rw [hl, Option.getD_some] at h; rw [h]; exact h1) (HKB.out q hl)
     subst h1
     clear HE3 HE2 HK2
     go_enter Tryz.func128, Tryz.ntmps128
     go_wp2_with fail
     refine (HCN.out _ HT.out.bel).mono ?_
     rintro e w1 ⟨rfl, hw1⟩
     have HT1 : Hid (Blk2 w w1 [.slice tp tn tc, .func (.func 95) #[] #[.pointer (some ⟨b, 0, none⟩)], .map (some mb)] (ptC va ty ck (.slice p m cap) l r pw pn) 174 48) := by rw [hw1]; exact HT.out
     have HS1 : Hid (Scp w1 ts (.slice tp tn tc) b mb Ks n) := by rw [hw1]; exact HS0.out
     clear hw1
     have k1 : w1.cell? ⟨w.heap.size, 1, none⟩ = some (.func (.func 95) #[] #[.pointer (some ⟨b, 0, none⟩)]) := HT1.out.c1 1
     have k2 : w1.cell? ⟨w.heap.size, 2, none⟩ = some (.map (some mb)) := HT1.out.c1 2
     have k0 : w1.cell? ⟨w.heap.size, 0, none⟩ = some (.slice tp tn tc) := HT1.out.c1 0
     have y0 : w1.cell? ⟨w.heap.size + 1, 0, none⟩ = some (.string va) := HT1.out.c2 0
     have y1 : w1.cell? ⟨w.heap.size + 1, 1, none⟩ = some (.string ty) := HT1.out.c2 1
     go_wp2_with (at_lookup; refine zA3 (by rfl) _ _ (by rfl) mb Ks n (by rfl) HS1.out.km va HZ.out (by rfl) (0, p2) HP.out ?_)
     refine (HTY.out _ HT1.out.bel).mono ?_
     rintro e w2 ⟨rfl, hb2⟩
     have HT2 : Hid _ := HT1.out.next hb2
     clear hb2 k0 k1 k2 y0 y1
     by_cases h2 : t0 < 0
     . have HE5 := hid (show E = 6 by have h := HE4.out; rw [if_pos h2] at h; exact h.symm)
       go_wp2_with fail
       go_ret
       exact zD9 HE5.out (by decide) HT2.out.bel
     . have HE5 := HE4.out
       rw [if_neg h2] at HE5
       have H2 := hid h2
       have HE6 := hid HE5
       have XP : Hid (w2.rangeAt (w.heap.size + 1) 0 (ptC va ty ck (.slice p m cap) l r pw pn)) := zAE HT2.out.b2
       clear HE5 HE4
       obtain ⟨wq, hwq⟩ : ∃ wq, (if wbad (part - 1) pw pn then 4 else if rbad pw pn then 2 else 0 : Int) = wq := ⟨_, rfl⟩
       rw [hwq] at HWN
       have HWQ := hid hwq
       clear hwq
       go_wp2_with ((with_reducible refine gLq ?_); refine wpList_load_mid (by rfl) 48 _ (by rfl) (w.heap.size + 1) 0 (by rfl) (ptC va ty ck (.slice p m cap) l r pw pn) _ XP.out Tryz.underlying48 rfl (by kernel_rfl) ?_)
       refine (HWN.out _ HT2.out.bel).mono ?_
       rintro e w3 ⟨rfl, hb3⟩
       have HT3 : Hid _ := HT2.out.next hb3
       clear hb3 XP
       by_cases h3 : wq = 0
       . subst h3
         have hwb : ¬ wbad (part - 1) pw pn := fun c => by have h := HWQ.out; rw [if_pos c] at h; cases h
         have hrb : ¬ rbad pw pn := fun c => by have h := HWQ.out; rw [if_neg hwb, if_pos c] at h; cases h
         have HE7 := HE6.out
         rw [if_neg hwb, if_neg hrb] at HE7
         have HE8 := hid HE7
         obtain ⟨ix, hix, hti⟩ : ∃ i, ∃ _ : i < ts.length, t0 = (i : Int) := by
           rcases zA2 (q := fun t : Tp => seq t.n ty) ts 0 with c | ⟨i, hi, c, _⟩
           . exfalso
             have h5 : t0 < 0 := by rw [← HT0.out, show tyq ts ty = -1 from c]; decide
             have h6 := H2.out
             omega
           . exact ⟨i, hi, by rw [← HT0.out]; show ixq _ _ _ = _; rw [c]; simp⟩
         subst hti
         obtain ⟨p', cap', e0, _, hat⟩ := zAG lenY HS.out.rt
         have etn := (zBM HS.out.rt).1
         simp only [Value.slice.injEq] at e0
         obtain ⟨rfl, hx0, rfl⟩ := e0
         obtain ⟨gt, oft, rfl, hrd⟩ := hat (by omega)
         obtain ⟨T2, t1, t2⟩ := hrd w3 HT3.out.bel ix hix
         obtain ⟨fv2, zt, o3⟩ := rdY t2
         have XT3' := hid t1
         have ZT : Hid ((Tryz.prog.info? 59).map (·.size) = some T2.length) := by show _ = _; rw [zt]; kernel_rfl
         obtain ⟨UL, hUL⟩ : ∃ UL : List Value, [.slice (some ⟨gt, oft, none⟩) tn tc, .func (.func 95) #[] #[.pointer (some ⟨b, 0, none⟩)], .map (some mb)] = UL := ⟨_, rfl⟩
         obtain ⟨CL, hCL⟩ : ∃ CL : List Value, cnC ck (.slice p m cap) l r = CL := ⟨_, rfl⟩
         obtain ⟨e9, he9⟩ : ∃ e9, (if noc ⟨ck, csb, l, r⟩ = true then 0 else (cdk ts ws ts[ix] 8 ⟨ck, csb, l, r⟩).2 : Int) = e9 := ⟨_, rfl⟩
         have HE9 : Hid (E = e9) := by
           show _ = _
           rw [← HE8.out, ← he9]
           simp [hix]
         have HWH : Hid (∀ W, Below w.heap.size w W → Below w3.heap.size w3 W → Calls Tryz.prog 153 #[.agg UL.toArray, .agg CL.toArray, .agg T2.toArray] W fun e w' => e = .returned (.int .i64 e9) ∧ Below W.heap.size W w') := fun W hW hW3 => by
           have h := HWA.out ix hix fv2 W hW (o3.later hW3)
           rw [he9] at h
           rw [← hUL, ← hCL, zt]
           exact h
         have HUR : Hid (∀ W, Blk2 w W [.slice (some ⟨gt, oft, none⟩) tn tc, .func (.func 95) #[] #[.pointer (some ⟨b, 0, none⟩)], .map (some mb)] (ptC va ty ck (.slice p m cap) l r pw pn) 174 48 → W.rangeAt w.heap.size 0 UL) := fun W h => by rw [← hUL]; exact zAE h.b1
         have HCR : Hid (∀ W, Blk2 w W [.slice (some ⟨gt, oft, none⟩) tn tc, .func (.func 95) #[] #[.pointer (some ⟨b, 0, none⟩)], .map (some mb)] (ptC va ty ck (.slice p m cap) l r pw pn) 174 48 → W.rangeAt (w.heap.size + 1) 2 CL) := fun W h => by
           have h2 := zBP (B := cnC ck (.slice p m cap) l r ++ [.int .i64 pw, .int .i64 pn]) (C := [.string va, .string ty]) h.b2 rfl rfl 14
           rw [← hCL]
           exact h2
         have ZU : Hid ((Tryz.prog.info? 174).map (·.size) = some UL.length) := by show _ = _; rw [← hUL]; kernel_rfl
         have ZC : Hid ((Tryz.prog.info? 46).map (·.size) = some CL.length) := by show _ = _; rw [← hCL]; kernel_rfl
         have HT3d : Hid (Blk2 w w3.drew [.slice (some ⟨gt, oft, none⟩) tn tc, .func (.func 95) #[] #[.pointer (some ⟨b, 0, none⟩)], .map (some mb)] (ptC va ty ck (.slice p m cap) l r pw pn) 174 48) := HT3.out.drew
         have XT3 : Hid (w3.drew.rangeAt gt (oft + ix * 2) T2) := t1
         have HS3d : Hid (Scp w3.drew ts (.slice (some ⟨gt, oft, none⟩) tn tc) b mb Ks n) := (HS.out.later HT3.out.bel).later (Below.drew (Below.refl _ _))
         have HWH2 : Hid (∀ W, Below w.heap.size w W → W = w3.drew → Calls Tryz.prog 153 #[.agg UL.toArray, .agg CL.toArray, .agg T2.toArray] W fun e w' => e = .returned (.int .i64 e9) ∧ Below W.heap.size W w') := fun W hW e => HWH.out W hW (by rw [e]; exact Below.drew (Below.refl _ _))
         have i1 : (0 : Int) ≤ (ix : Int) := by omega
         have i2 : (ix : Int) < (tn : Int) := by omega
         have k0 : w3.cell? ⟨w.heap.size, 0, none⟩ = some (.slice (some ⟨gt, oft, none⟩) tn tc) := HT3.out.c1 0
         clear hUL hCL he9 hrd hat t1 t2 zt o3 HE7 HE8 HE6 hwb hrb hix etn hx0
         go_wp2_with fail
         refine zBC (S := (fun w' => w'.rangeAt w.heap.size 0 UL ∧ w'.rangeAt (w.heap.size + 1) 2 CL ∧ w'.cell? ⟨w.heap.size, 0, none⟩ = some (.slice (some ⟨gt, oft, none⟩) tn tc) ∧ w'.rangeAt gt (oft + ix * 2) T2)) 10 #[false, false, false, false, false, false, false, false, false, false] rfl rfl (by kernel_rfl) (by { exact ⟨HUR.out _ HT3d.out, HCR.out _ HT3d.out, HT3d.out.c1 0, XT3.out⟩ }) (fun hHeld => ?_)
         refine tkq (i := 1) (v := ?v1) rfl ?hy1 ?rest1; (case hy1 => intro w0 hSw; (try dsimp only at hSw); go_simp <;> (try (with_reducible rfl))); (try simp only [puts])
         refine tkq (i := 3) (v := ?v2) rfl ?hy2 ?rest2; (case hy2 => intro w0 hSw; (try dsimp only at hSw); go_simp <;> (try (with_reducible rfl))); (try simp only [puts])
         refine tkq (i := 4) (v := ?v3) rfl ?hy3 ?rest3; (case hy3 => intro w0 hSw; (try dsimp only at hSw); go_simp <;> (try (with_reducible rfl))); (try simp only [puts])
         refine tkq (i := 5) (v := ?v4) rfl ?hy4 ?rest4; (case hy4 => intro w0 hSw; (try dsimp only at hSw); go_simp <;> (try (with_reducible rfl))); (try simp only [puts])
         refine tkq (i := 6) (v := ?v5) rfl ?hy5 ?rest5; (case hy5 => intro w0 hSw; (try dsimp only at hSw); go_simp <;> (try (with_reducible rfl))); (try simp only [puts])
         refine tlq (i := 0) rfl (yieldsIf_load_mid (by rfl) 174 _ rfl w.heap.size (0) (by rfl) UL _ (fun _ h => h.1) Tryz.underlying174 rfl ZU.out) ?_
         (try simp only [puts])
         refine tlq (i := 2) rfl (yieldsIf_load_mid (by rfl) 46 _ rfl (w.heap.size + 1) (2) (by rfl) CL _ (fun _ h => h.2.1) Tryz.underlying46 rfl ZC.out) ?_
         (try simp only [puts])
         refine tlq (i := 7) rfl (yieldsIf_load_mid (by rfl) 59 _ rfl gt (oft + ix * 2) (by rfl) T2 _ (fun _ h => h.2.2.2) Tryz.underlying59 rfl ZT.out) ?_
         (try simp only [puts])
         refine wpAnyH_ready (rs := [8]) (by kernel_rfl) (by simp) ?_
         refine zAV rfl (fun K hK => ?_) AllReadyH.nil
         refine zBU 153 zGZ (by rfl) _ _ _ _ (by rfl) (.agg UL.toArray) (.agg CL.toArray) (.agg T2.toArray) (by rfl) (by rfl) (by rfl) _ (HWH2.out _ HT3d.out.bel rfl) ?_
         rintro e w9 ⟨rfl, hb9⟩
         refine ⟨_, rfl, ?_⟩
         have HT9 : Hid _ := HT3d.out.next hb9
         have XT9 : Hid (w9.rangeAt gt (oft + ix * 2) T2) := zAK XT3.out hb9
         have HS9 : Hid (Scp w9 ts (.slice (some ⟨gt, oft, none⟩) tn tc) b mb Ks n) := HS3d.out.later hb9
         clear hb9
         refine hK.out _ _ (by { exact ⟨HUR.out _ HT9.out, HCR.out _ HT9.out, HT9.out.c1 0, XT9.out⟩ }) (fun hHeld => ?_)
         clear hK K
         (try simp only [puts])
         refine tkq (i := 9) (v := ?v6) rfl ?hy6 ?rest6; (case hy6 => intro w0 hSw; (try dsimp only at hSw); go_simp <;> (try (with_reducible rfl))); (try simp only [puts])
         refine wpAnyH_done (by kernel_rfl) ?_ _
         clear hHeld k0
         by_cases h9 : e9 = 0
         . subst h9
           have k2 : w9.cell? ⟨w.heap.size, 2, none⟩ = some (.map (some mb)) := HT9.out.c1 2
           have y0 : w9.cell? ⟨w.heap.size + 1, 0, none⟩ = some (.string va) := HT9.out.c2 0
           go_wp2_with (at_mapUpdate; refine zGE (by rfl) _ _ _ (by rfl) mb Ks n (by rfl) HS9.out.km (by omega) va HZ.out (by rfl) (part, (ix : Int)) HLN.out (by rfl) ?_; intro w10 hK10 hF10; have HK10 := hid hK10; have HF10 : Hid (Fr (fun i => i = mb) w w10) := (Fr.of_below HT9.out.bel).trans hF10; clear hK10 hF10)
           go_ret
           exact ⟨by rw [HE9.out]; rfl, fun c => absurd HE9.out c, fun _ => ⟨HF10.out, HK10.out⟩⟩
         . have d1 : (e9 != 0) = true := by simpa using h9
           have H9 := hid h9
           clear h9
           go_wp2_with fail
           go_ret
           exact zD9 HE9.out H9.out HT9.out.bel
       . have d1 : (wq != 0) = true := by simpa using h3
         have H3 := hid h3
         have HE7 : Hid (E = wq) := by
           show _ = _
           rw [← HE6.out, ← HWQ.out]
           by_cases c : wbad (part - 1) pw pn
           . rw [if_pos c, if_pos c]
           . rw [if_neg c, if_neg c]
             by_cases d : rbad pw pn
             . rw [if_pos d, if_pos d]
             . exfalso
               have h := HWQ.out
               rw [if_neg c, if_neg d] at h
               exact H3.out h.symm
         clear h3
         go_wp2_with fail
         go_ret
         exact zD9 HE7.out H3.out HT3.out.bel
   . have HE3 := hid (show E = 7 by have h := HE2.out; rw [if_pos (HK2.out.1 h1)] at h; exact h.symm)
     have d1 : (p1 != 0) = true := by simpa using h1
     clear h1 HK2 HE2
     go_enter Tryz.func128, Tryz.ntmps128
     go_wp2_with fail
     refine (HCN.out _ HT.out.bel).mono ?_
     rintro e w1 ⟨rfl, hw1⟩
     have HT1 : Hid (Blk2 w w1 [.slice tp tn tc, .func (.func 95) #[] #[.pointer (some ⟨b, 0, none⟩)], .map (some mb)] (ptC va ty ck (.slice p m cap) l r pw pn) 174 48) := by rw [hw1]; exact HT.out
     have HS1 : Hid (Scp w1 ts (.slice tp tn tc) b mb Ks n) := by rw [hw1]; exact HS0.out
     clear hw1
     have k1 : w1.cell? ⟨w.heap.size, 1, none⟩ = some (.func (.func 95) #[] #[.pointer (some ⟨b, 0, none⟩)]) := HT1.out.c1 1
     have k2 : w1.cell? ⟨w.heap.size, 2, none⟩ = some (.map (some mb)) := HT1.out.c1 2
     have k0 : w1.cell? ⟨w.heap.size, 0, none⟩ = some (.slice tp tn tc) := HT1.out.c1 0
     have y0 : w1.cell? ⟨w.heap.size + 1, 0, none⟩ = some (.string va) := HT1.out.c2 0
     have y1 : w1.cell? ⟨w.heap.size + 1, 1, none⟩ = some (.string ty) := HT1.out.c2 1
     go_wp2_with (at_lookup; refine zA3 (by rfl) _ _ (by rfl) mb Ks n (by rfl) HS1.out.km va HZ.out (by rfl) (p1, p2) HP.out ?_)
     go_ret
     exact zD9 HE3.out (by decide) HT1.out.bel
 . have HE1 := hid (show E = f0 by have h := HE.out; rw [if_pos h0] at h; exact h.symm)
   have d1 : (f0 != 0) = true := by simpa using h0
   have H0 := hid h0
   clear h0 HE
   go_enter Tryz.func128, Tryz.ntmps128
   go_wp2_with fail
   refine (HCN.out _ HT.out.bel).mono ?_
   rintro e w1 ⟨rfl, hw1⟩
   have HT1 : Hid (Blk2 w w1 [.slice tp tn tc, .func (.func 95) #[] #[.pointer (some ⟨b, 0, none⟩)], .map (some mb)] (ptC va ty ck (.slice p m cap) l r pw pn) 174 48) := by rw [hw1]; exact HT.out
   clear hw1
   go_wp2_with fail
   go_ret
   exact zD9 HE1.out H0.out HT1.out.bel
def kw (ts : List Tp) (ws : List Pt) : Kns := ws.map fun p => (p.va, ((1 : Int), tyq ts p.ty))
def kn (ts : List Tp) (ns : List Pt) : Kns := ns.map fun p => (p.va, ((2 : Int), tyq ts p.ty))
def km (ts : List Tp) (ms : List Mn) : Kns := ms.map fun m => (m.p.va, ((3 : Int), tyq ts m.p.ty))
theorem zBN (a b : ByteArray) : seq a b = (a.data.toList == b.data.toList) := by
  unfold seq
  rw [Lib.toList_data, Lib.toList_data]
theorem zDS {Ks : Kns} {x : List UInt8} : lkp Ks x = none ↔ ∀ e, e ∈ Ks → (e.1.data.toList == x) = false := by
  unfold lkp
  rw [Option.map_eq_none_iff, List.find?_eq_none]
  constructor
  . intro h e he; have := h e he; simpa using this
  . intro h e he; have := h e he; simpa using this
theorem zC4 {Ks : Kns} {x : List UInt8} {q : Int × Int} (h : lkp Ks x = some q) : ∃ e, e ∈ Ks ∧ e.2 = q := by
  unfold lkp at h
  cases hf : Ks.find? (fun p => p.1.data.toList == x) with
  | none => rw [hf] at h; cases h
  | some e => rw [hf] at h; exact ⟨e, List.mem_of_find?_eq_some hf, by simpa using h⟩
theorem zGV {Ks : Kns} (h : ∀ e, e ∈ Ks → e.2.1 ≠ 0) : Kna (Ks.map (·.1)) Ks := fun va => by
 refine ⟨fun q hq => ?_, ?_⟩
 . obtain ⟨e, he, rfl⟩ := zC4 hq
   exact h e he
 . rw [zDS, List.any_map, List.any_eq_false]
   constructor
   . intro h1 e he
     have := h1 e he
     simp only [Function.comp, zBN, this]
     decide
   . intro h1 e he
     have := h1 e he
     simp only [Function.comp, zBN] at this
     simpa using this
theorem zBI (A B : Kns) (x : List UInt8) : lkp (A ++ B) x = match lkp A x with | some q => some q | none => lkp B x := by
  unfold lkp
  rw [List.find?_append]
  cases A.find? (fun p => p.1.data.toList == x) with
  | some q => rfl
  | none => rfl
theorem zC6 {α : Type} {q : α → Bool} : ∀ (l : List α) (n k : Nat) (hk : k < l.length), ixq q l n = ((n + k : Nat) : Int) → l.find? q = some l[k]
 | x :: r, n, k, hk, h => by
  rw [ixq] at h
  by_cases c : q x = true
  . rw [if_pos c] at h
    have : k = 0 := by omega
    subst this
    simp [c]
  . rw [if_neg c] at h
    have c' : q x = false := by simpa using c
    rcases k with _ | k
    . exfalso
      rcases zA2 (q := q) r (n + 1) with d | ⟨j, hj, d, _⟩
      . rw [d] at h; omega
      . rw [d] at h; omega
    . rw [List.find?_cons, c']
      simp only [List.getElem_cons_succ]
      exact zC6 r (n + 1) k (by simpa using hk) (by rw [h]; omega)
theorem zE7 {ts : List Tp} {ws : List Pt} {B : Kns} (h : ∀ e, e ∈ B → e.2.1 ≠ 1) : Knw ts ws (kw ts ws ++ B) := by
 constructor
 . intro va hlt
   have hn : lkp (kw ts ws) va.data.toList = none := by
    rw [zDS]
    intro e he
    obtain ⟨p, hp, rfl⟩ := List.mem_map.1 he
    rcases zA2 (q := fun p : Pt => seq p.va va) ws 0 with c | ⟨j, hj, c, _⟩
    . cases hq : (p.va.data.toList == va.data.toList) with
      | false => rfl
      | true =>
       exfalso
       obtain ⟨j, hj, rfl⟩ := List.getElem_of_mem hp
       have : ∀ (l : List Pt) (n : Nat), ixq (fun p : Pt => seq p.va va) l n = -1 → ∀ x, x ∈ l → seq x.va va = false := by
        intro l
        induction l with
        | nil => intro n _ x hx; cases hx
        | cons y r ih =>
         intro n h0 x hx
         rw [ixq] at h0
         by_cases c : seq y.va va = true
         . rw [if_pos c] at h0; omega
         . rw [if_neg c] at h0
           rcases List.mem_cons.1 hx with rfl | hx
           . simpa using c
           . exact ih (n + 1) h0 x hx
       have h2 := this ws 0 c _ hp
       rw [zBN, hq] at h2
       cases h2
    . exfalso
      have : ptq ws va = (j : Int) := by show ixq _ _ _ = _; rw [c]; simp
      omega
   rw [zBI, hn]
   cases hb : lkp B va.data.toList with
   | none => decide
   | some q =>
    obtain ⟨e, he, rfl⟩ := zC4 hb
    exact h e he
 . intro va j hj hp
   have hf := zC6 (q := fun p : Pt => seq p.va va) ws 0 j hj (by rw [show ixq (fun p : Pt => seq p.va va) ws 0 = (j : Int) from hp]; simp)
   rw [zBI]
   have : lkp (kw ts ws) va.data.toList = some (1, tyq ts ws[j].ty) := by
    unfold lkp kw
    rw [List.find?_map]
    have e : ((fun p : ByteArray × (Int × Int) => p.1.data.toList == va.data.toList) ∘ fun p : Pt => (p.va, ((1 : Int), tyq ts p.ty))) = fun p : Pt => seq p.va va := by funext p; simp [zBN]
    rw [e, hf]
    rfl
   rw [this]
def PQ (w : World) (mb : Nat) (Ks : Kns) (n : Nat) (E : Int) (e : Ending) (w' : World) : Prop :=
  e = .returned (.int .i64 E) ∧ Fr (fun i => i = mb) w w' ∧ (E = 0 → Km w' mb Ks n)
theorem PR.pq {w W w' : World} {mb : Nat} {Ks : Kns} {n : Nat} {va : ByteArray} {q : Int × Int} {E : Int} {e : Ending} (h : PR W mb Ks n va q E e w') (hb : Below w.heap.size w W) : PQ w mb (Ks ++ [(va, q)]) (n + 1) E e w' := by
  obtain ⟨h1, h2, h3⟩ := h
  refine ⟨h1, ?_, fun c => (h3 c).2⟩
  by_cases c : E = 0
  . exact (Fr.of_below hb).trans (h3 c).1
  . exact (Fr.of_below hb).trans (Fr.of_below (h2 c))
theorem when_any (ts : List Tp) (ws : List Pt) (ah : List ByteArray) (b mb : Nat) (Ks : Kns) (n : Nat) (hkn : zA9 ts ws) (hk : Knw ts ws Ks) (hka : Kna ah Ks) (hty : ∀ i (hi : i < ts.length), tyk ts[i].n ts[i].f = 0) (pt : Pt) (tv sv : Value) (w : World) (hs : Scp w ts tv b mb Ks n) (hS : Rd w (.row 46 14 pt.c.sb) sv) (hwz : Wsz pt.c) (hn : n ≤ 100) :
  Calls Tryz.prog 88 #[scV tv b mb, ptV pt.va pt.ty pt.c.k sv pt.c.l pt.c.r pt.w pt.n] w (PQ w mb (Ks ++ [(pt.va, (1, tyq ts pt.ty))]) (n + 1) (pck ts ws ah pt 0)) := by
 have HP := hid (fun (wv : Value) W (hW : Below w.heap.size w W) (hI : Ints W wv [0, 1, 2]) => zBO ts ws ah b mb Ks n hkn hk hka hty pt 1 [0, 1, 2] (.inl ⟨rfl, rfl⟩) tv sv wv W (hs.later hW) (hS.later hW) hwz hI hn)
 obtain ⟨p, m, cap, rfl⟩ := zAB hS
 obtain ⟨tp, tn, tc, rfl⟩ := zAB hs.rt
 obtain ⟨va, ty, ⟨ck, csb, l, r⟩, pw, pn⟩ := pt
 simp only at HP ⊢
 have HT : Hid (Blk2 w ((w.alloc (.cells [.slice tp tn tc, .func (.func 95) #[] #[.pointer (some ⟨b, 0, none⟩)], .map (some mb)].toArray 174)).alloc (.cells [.string va, .string ty, .int .i64 ck, .slice p m cap, .int .i64 l.k, .int .i64 l.vk, .int .i64 l.vi, .string l.vt, .string l.va, .string l.fd, .int .i64 r.k, .int .i64 r.vk, .int .i64 r.vi, .string r.vt, .string r.va, .string r.fd, .int .i64 pw, .int .i64 pn].toArray 48)) [.slice tp tn tc, .func (.func 95) #[] #[.pointer (some ⟨b, 0, none⟩)], .map (some mb)] (ptC va ty ck (.slice p m cap) l r pw pn) 174 48) := Blk2.start w _ _ _ _
 have XP : Hid (((w.alloc (.cells [.slice tp tn tc, .func (.func 95) #[] #[.pointer (some ⟨b, 0, none⟩)], .map (some mb)].toArray 174)).alloc (.cells [.string va, .string ty, .int .i64 ck, .slice p m cap, .int .i64 l.k, .int .i64 l.vk, .int .i64 l.vi, .string l.vt, .string l.va, .string l.fd, .int .i64 r.k, .int .i64 r.vk, .int .i64 r.vi, .string r.vt, .string r.va, .string r.fd, .int .i64 pw, .int .i64 pn].toArray 48)).rangeAt (w.heap.size + 1) 0 (ptC va ty ck (.slice p m cap) l r pw pn)) := zAE HT.out.b2
 clear hS hs hwz hkn hk hka hty
 go_enter Tryz.func88, Tryz.ntmps88
 go_wp2_with ((with_reducible refine gLq ?_); refine wpList_load_mid (by rfl) 48 _ (by rfl) (w.heap.size + 1) 0 (by rfl) (ptC va ty ck (.slice p m cap) l r pw pn) _ XP.out Tryz.underlying48 rfl (by kernel_rfl) ?_)
 have hB : Below w.heap.size w (((w.alloc (.cells [.slice tp tn tc, .func (.func 95) #[] #[.pointer (some ⟨b, 0, none⟩)], .map (some mb)].toArray 174)).alloc (.cells [.string va, .string ty, .int .i64 ck, .slice p m cap, .int .i64 l.k, .int .i64 l.vk, .int .i64 l.vi, .string l.vt, .string l.va, .string l.fd, .int .i64 r.k, .int .i64 r.vk, .int .i64 r.vi, .string r.vt, .string r.va, .string r.fd, .int .i64 pw, .int .i64 pn].toArray 48)).alloc (.cells #[.int .i64 0, .int .i64 1, .int .i64 2] 3)) := HT.out.bel.alloc HT.out.bel.size _
 have hI : Ints (((w.alloc (.cells [.slice tp tn tc, .func (.func 95) #[] #[.pointer (some ⟨b, 0, none⟩)], .map (some mb)].toArray 174)).alloc (.cells [.string va, .string ty, .int .i64 ck, .slice p m cap, .int .i64 l.k, .int .i64 l.vk, .int .i64 l.vi, .string l.vt, .string l.va, .string l.fd, .int .i64 r.k, .int .i64 r.vk, .int .i64 r.vi, .string r.vt, .string r.va, .string r.fd, .int .i64 pw, .int .i64 pn].toArray 48)).alloc (.cells #[.int .i64 0, .int .i64 1, .int .i64 2] 3)) (.slice (some ⟨w.heap.size + 1 + 1, 0, none⟩) 3 3) [0, 1, 2] := ⟨_, 3, rfl, Nat.le_refl _, by decide, fun k hk => by
  have hk' : k < 3 := hk
  have e9 : ((w.alloc (.cells [.slice tp tn tc, .func (.func 95) #[] #[.pointer (some ⟨b, 0, none⟩)], .map (some mb)].toArray 174)).alloc (.cells [.string va, .string ty, .int .i64 ck, .slice p m cap, .int .i64 l.k, .int .i64 l.vk, .int .i64 l.vi, .string l.vt, .string l.va, .string l.fd, .int .i64 r.k, .int .i64 r.vk, .int .i64 r.vi, .string r.vt, .string r.va, .string r.fd, .int .i64 pw, .int .i64 pn].toArray 48)).heap.size = w.heap.size + 1 + 1 := by simp
  rw [← e9, zAC (heap_alloc_new _ _)]
  rcases (by omega : k = 0 ∨ k = 1 ∨ k = 2) with rfl | rfl | rfl <;> rfl⟩
 have X := HP.out _ _ hB hI
 have HB := hid hB
 clear hI hB
 refine X.mono ?_
 intro e w2 hr
 obtain ⟨rfl, hF, hK⟩ := hr.pq HB.out
 have HF := hid hF
 have HK := hid hK
 clear hF hK hr X
 go_wp2_with fail
 go_ret
 exact ⟨rfl, HF.out, HK.out⟩
theorem not_any (ts : List Tp) (ws : List Pt) (ah : List ByteArray) (b mb : Nat) (Ks : Kns) (n : Nat) (hkn : zA9 ts ws) (hk : Knw ts ws Ks) (hka : Kna ah Ks) (hty : ∀ i (hi : i < ts.length), tyk ts[i].n ts[i].f = 0) (pt : Pt) (tv sv : Value) (w : World) (hs : Scp w ts tv b mb Ks n) (hS : Rd w (.row 46 14 pt.c.sb) sv) (hwz : Wsz pt.c) (hn : n ≤ 100) :
  Calls Tryz.prog 89 #[scV tv b mb, ptV pt.va pt.ty pt.c.k sv pt.c.l pt.c.r pt.w pt.n] w (PQ w mb (Ks ++ [(pt.va, (2, tyq ts pt.ty))]) (n + 1) (pck ts ws ah pt 1)) := by
 have HP := hid (fun (wv : Value) W (hW : Below w.heap.size w W) (hI : Ints W wv [0]) => zBO ts ws ah b mb Ks n hkn hk hka hty pt 2 [0] (.inr (.inl ⟨rfl, rfl⟩)) tv sv wv W (hs.later hW) (hS.later hW) hwz hI hn)
 obtain ⟨p, m, cap, rfl⟩ := zAB hS
 obtain ⟨tp, tn, tc, rfl⟩ := zAB hs.rt
 obtain ⟨va, ty, ⟨ck, csb, l, r⟩, pw, pn⟩ := pt
 simp only at HP ⊢
 have HT : Hid (Blk2 w ((w.alloc (.cells [.slice tp tn tc, .func (.func 95) #[] #[.pointer (some ⟨b, 0, none⟩)], .map (some mb)].toArray 174)).alloc (.cells [.string va, .string ty, .int .i64 ck, .slice p m cap, .int .i64 l.k, .int .i64 l.vk, .int .i64 l.vi, .string l.vt, .string l.va, .string l.fd, .int .i64 r.k, .int .i64 r.vk, .int .i64 r.vi, .string r.vt, .string r.va, .string r.fd, .int .i64 pw, .int .i64 pn].toArray 48)) [.slice tp tn tc, .func (.func 95) #[] #[.pointer (some ⟨b, 0, none⟩)], .map (some mb)] (ptC va ty ck (.slice p m cap) l r pw pn) 174 48) := Blk2.start w _ _ _ _
 have XP : Hid (((w.alloc (.cells [.slice tp tn tc, .func (.func 95) #[] #[.pointer (some ⟨b, 0, none⟩)], .map (some mb)].toArray 174)).alloc (.cells [.string va, .string ty, .int .i64 ck, .slice p m cap, .int .i64 l.k, .int .i64 l.vk, .int .i64 l.vi, .string l.vt, .string l.va, .string l.fd, .int .i64 r.k, .int .i64 r.vk, .int .i64 r.vi, .string r.vt, .string r.va, .string r.fd, .int .i64 pw, .int .i64 pn].toArray 48)).rangeAt (w.heap.size + 1) 0 (ptC va ty ck (.slice p m cap) l r pw pn)) := zAE HT.out.b2
 clear hS hs hwz hkn hk hka hty
 go_enter Tryz.func89, Tryz.ntmps89
 go_wp2_with ((with_reducible refine gLq ?_); refine wpList_load_mid (by rfl) 48 _ (by rfl) (w.heap.size + 1) 0 (by rfl) (ptC va ty ck (.slice p m cap) l r pw pn) _ XP.out Tryz.underlying48 rfl (by kernel_rfl) ?_)
 have hB : Below w.heap.size w (((w.alloc (.cells [.slice tp tn tc, .func (.func 95) #[] #[.pointer (some ⟨b, 0, none⟩)], .map (some mb)].toArray 174)).alloc (.cells [.string va, .string ty, .int .i64 ck, .slice p m cap, .int .i64 l.k, .int .i64 l.vk, .int .i64 l.vi, .string l.vt, .string l.va, .string l.fd, .int .i64 r.k, .int .i64 r.vk, .int .i64 r.vi, .string r.vt, .string r.va, .string r.fd, .int .i64 pw, .int .i64 pn].toArray 48)).alloc (.cells #[.int .i64 0] 3)) := HT.out.bel.alloc HT.out.bel.size _
 have hI : Ints (((w.alloc (.cells [.slice tp tn tc, .func (.func 95) #[] #[.pointer (some ⟨b, 0, none⟩)], .map (some mb)].toArray 174)).alloc (.cells [.string va, .string ty, .int .i64 ck, .slice p m cap, .int .i64 l.k, .int .i64 l.vk, .int .i64 l.vi, .string l.vt, .string l.va, .string l.fd, .int .i64 r.k, .int .i64 r.vk, .int .i64 r.vi, .string r.vt, .string r.va, .string r.fd, .int .i64 pw, .int .i64 pn].toArray 48)).alloc (.cells #[.int .i64 0] 3)) (.slice (some ⟨w.heap.size + 1 + 1, 0, none⟩) 1 1) [0] := ⟨_, 1, rfl, Nat.le_refl _, by decide, fun k hk => by
  have hk' : k < 1 := hk
  have e9 : ((w.alloc (.cells [.slice tp tn tc, .func (.func 95) #[] #[.pointer (some ⟨b, 0, none⟩)], .map (some mb)].toArray 174)).alloc (.cells [.string va, .string ty, .int .i64 ck, .slice p m cap, .int .i64 l.k, .int .i64 l.vk, .int .i64 l.vi, .string l.vt, .string l.va, .string l.fd, .int .i64 r.k, .int .i64 r.vk, .int .i64 r.vi, .string r.vt, .string r.va, .string r.fd, .int .i64 pw, .int .i64 pn].toArray 48)).heap.size = w.heap.size + 1 + 1 := by simp
  rw [← e9, zAC (heap_alloc_new _ _)]
  rcases (by omega : k = 0) with rfl <;> rfl⟩
 have X := HP.out _ _ hB hI
 have HB := hid hB
 clear hI hB
 refine X.mono ?_
 intro e w2 hr
 obtain ⟨rfl, hF, hK⟩ := hr.pq HB.out
 have HF := hid hF
 have HK := hid hK
 clear hF hK hr X
 go_wp2_with fail
 go_ret
 exact ⟨rfl, HF.out, HK.out⟩
theorem zAP {w W w' : World} {mb : Nat} (hb : Below w.heap.size w W) (hf : Fr (fun i => i = mb) W w') (hm : w.heap.size ≤ mb) : Below w.heap.size w w' :=
  ⟨hf.os.trans hb.os, hf.tape.trans hb.tape, hf.output.trans hb.output, Nat.le_trans hb.size hf.size, fun k hk => (hf.block k (Nat.lt_of_lt_of_le hk hb.size) (by omega)).trans (hb.block k hk)⟩
theorem zBV {α : Type} {q : α → Bool} : ∀ (l : List α) (n : Nat), 0 ≤ ixq q l n ↔ l.any q = true
 | [], n => by simp [ixq]
 | y :: r, n => by
  rw [ixq]
  by_cases c : q y = true
  . rw [if_pos c]; simp [c]
  . rw [if_neg c, zBV r (n + 1)]; simp [c]
theorem zGD (done : List Tp) (s : ByteArray) : 0 ≤ tyq done s ↔ (done.map Tp.n).any (fun r => seq r s) = true := by
  unfold tyq
  rw [zBV, List.any_map]
  rfl
def tkn (L : List ByteArray) (s : ByteArray) : Int := if L.any (fun r => seq r s) = true then 7 else 0
theorem zFK (mb : Nat) (L : List ByteArray) (n : Nat) (s : ByteArray) (hs : s.size ≤ maxLen) (hn : n ≤ 100) (w : World) (h : Nm w mb L n) :
  Calls Tryz.prog 57 #[.map (some mb), .string s] w fun e w' => e = .returned (.int .i64 (tkn L s)) ∧ Fr (fun i => i = mb) w w' ∧ (tkn L s = 0 → Nm w' mb (L ++ [s]) (n + 1)) := by
 have HNM := hid h
 have HSZ := hid hs
 have HN := hid (show n ≤ 2000 by omega)
 obtain ⟨q, hq⟩ : ∃ q, L.any (fun r => seq r s) = q := ⟨_, rfl⟩
 have hq2 : L.any (fun r => r.data.toList == s.data.toList) = q := by rw [← hq]; congr 1; funext r; exact (zBN r s).symm
 have HQ := hid hq2
 have hR : tkn L s = if q = true then 7 else 0 := by unfold tkn; rw [hq]
 rw [hR]
 have HB := hid (fun o => (Below.refl w.heap.size w).alloc (Nat.le_refl _) o)
 clear h hs hn hq hq2 hR
 cases q with
 | true =>
  rw [if_pos rfl]
  go_enter Tryz.func57, Tryz.ntmps57
  go_wp2_with ((with_reducible show wpList _ _ _ (Oper.mk _ (.lookup _ _ _ _) _ _ _ _ :: _) _ _); refine zFB (by rfl) _ _ (by rfl) mb L n (by rfl) HNM.out s HSZ.out (by rfl) true HQ.out ?_)
  go_ret
  exact ⟨rfl, Fr.of_below (HB.out _), fun c => absurd c (by decide)⟩
 | false =>
  rw [if_neg (by decide)]
  go_enter Tryz.func57, Tryz.ntmps57
  go_wp2_with (first
   | ((with_reducible show wpList _ _ _ (Oper.mk _ (.lookup _ _ _ _) _ _ _ _ :: _) _ _); refine zFB (by rfl) _ _ (by rfl) mb L n (by rfl) HNM.out s HSZ.out (by rfl) false HQ.out ?_)
   | ((with_reducible show wpList _ _ _ (Oper.mk _ (.mapUpdate _ _ _ _) _ _ _ _ :: _) _ _); refine zHD (by rfl) _ _ _ (by rfl) mb L n (by rfl) (HNM.out.later (HB.out _)) HN.out s HSZ.out (by rfl) (by rfl) ?_; intro w2 hn2 hf2; have HN2 := hid hn2; have HF2 := hid ((Fr.of_below (HB.out _)).trans hf2); clear hn2 hf2))
  go_ret
  exact ⟨rfl, HF2.out, fun _ => HN2.out⟩
theorem zF7 (fn : ByteArray) (fk : Int) (w : World) (hk : Tab w 0 kpl) (hr : Tab w 1 rll) :
  Calls Tryz.prog 56 #[.agg #[.string fn, .int .i64 fk]] w fun e w' => e = .returned (.bool (kpt fn)) ∧ Below w.heap.size w w' := by
 have HK := hid (fun W (hW : Below w.heap.size w W) => zDP fn W (zAF hk hW) (zAF hr hW))
 have HB : Hid (Below w.heap.size w (w.alloc (.cells #[.string fn, .int .i64 fk] 103))) := (Below.refl _ _).alloc (Nat.le_refl _) _
 go_enter Tryz.func56, Tryz.ntmps56
 go_wp2_with fail
 refine (HK.out _ HB.out).mono ?_
 rintro e w2 ⟨rfl, rfl⟩
 go_wp2_with fail
 go_ret
 exact ⟨rfl, HB.out⟩
theorem zCN (fs : List Fd) (v : Value) (w : World) (h : Rd w (.row 103 2 (fs.map encF)) v) (hk : Tab w 0 kpl) (hr : Tab w 1 rll) :
  Calls Tryz.prog 84 #[v, .func (.func 56) #[] #[]] w fun e w' => e = .returned (.int .i64 (ixq (fun f => kpt f.n) fs 0)) ∧ Below w.heap.size w w' := by
 obtain ⟨p, cap, rfl, hmx, hat⟩ := zAG lenF h
 have HAT : Hid (At encF 2 w p fs) := hat
 obtain ⟨n, hnl⟩ : ∃ n, fs.length = n := ⟨_, rfl⟩
 have HN := hid hnl
 have HTK := hid hk
 have HTR := hid hr
 rw [hnl] at hmx ⊢
 clear h hat hnl hk hr
 go_enter Tryz.func84, Tryz.ntmps84
 go_wp2_with fail
 go_loopg [8] (n + 1) (fun gg i wr => ∃ k : Nat, k ≤ n ∧ gg = n + 1 - k ∧ i = .int .i64 (k : Nat) ∧ (∀ (j : Nat) (hj : j < fs.length), j < k → kpt fs[j].n = false) ∧ Below w.heap.size w wr)
 case atStart => exact ⟨0, by omega, by omega, rfl, fun j _ h => by omega, Below.refl _ _⟩
 case round =>
  obtain ⟨k, hk, rfl, rfl, hno, hB⟩ := hrel
  have HB := hid hB
  by_cases hlt : k < n
  . have hkc : k < fs.length := by have := HN.out; omega
    obtain ⟨g, off, rfl, hrd⟩ := HAT.out (by omega)
    obtain ⟨us, r1, o1⟩ := hrd wr hB k hkc
    have z1 := rdF o1
    rw [z1] at r1
    have c0 : wr.cell? ⟨g, off + k * 2, none⟩ = some (.string fs[k].n) := by simpa using r1 0 _ rfl
    have c1 : wr.cell? ⟨g, off + k * 2 + 1, none⟩ = some (.int .i64 fs[k].k) := r1 1 _ rfl
    have HCM := hid (zF7 fs[k].n fs[k].k wr (zAF HTK.out hB) (zAF HTR.out hB))
    have HNO := hid hno
    obtain ⟨q, hq⟩ : ∃ q, kpt fs[k].n = q := ⟨_, rfl⟩
    have HQK : Hid (kpt fs[k].n = q) := hq
    rw [hq] at HCM
    obtain ⟨fn, hfn⟩ : ∃ fn, fs[k].n = fn := ⟨_, rfl⟩
    obtain ⟨fk, hfk⟩ : ∃ fk, fs[k].k = fk := ⟨_, rfl⟩
    rw [hfn] at c0
    rw [hfk] at c1
    rw [hfn, hfk] at HCM
    have i1 : (0 : Int) ≤ (k : Int) := by omega
    have i2 : (k : Int) < (n : Int) := by omega
    clear hno hB hrd o1 z1 r1 hq hfn hfk
    cases q with
    | true =>
     go_wp2_with (go_at_call 56; refine HCM.out.mono ?_; rintro e w2 ⟨rfl, hb2⟩; have HB2 := hid (zAA HB.out hb2 HB.out.size); clear hb2)
     go_ret
     exact ⟨zAD (by show (k : Int) = ixq _ _ _; rw [zBB (q := fun f : Fd => kpt f.n) fs 0 k hkc (fun j hj => HNO.out j (by omega) hj) (by exact HQK.out)]; simp), HB2.out⟩
    | false =>
     go_wp2_with (go_at_call 56; refine HCM.out.mono ?_; rintro e w2 ⟨rfl, hb2⟩; have HB2 := hid (zAA HB.out hb2 HB.out.size); clear hb2)
     go_roundg (n + 1 - (k + 1))
     case rel =>
      refine ⟨k + 1, by omega, rfl, by go_num, fun j hj hjk => ?_, HB2.out⟩
      by_cases c : j < k
      . exact HNO.out j hj c
      . obtain rfl : j = k := by omega
        exact HQK.out
     case measure => omega
  . obtain rfl : k = n := by omega
    have HR := hid (show ixq (fun f : Fd => kpt f.n) fs 0 = -1 from zAZ _ _ (fun x hx => by
     obtain ⟨j, hj, rfl⟩ := List.getElem_of_mem hx
     exact hno j hj (by have := HN.out; omega)))
    clear hno hB
    go_wp2_with fail
    go_ret
    exact ⟨zAD HR.out.symm, HB.out⟩
theorem zBW (fs : List Fd) (v : Value) (w : World) (q : Bool) (hq : fs.any (fun f => kpt f.n) = q) (h : Rd w (.row 103 2 (fs.map encF)) v) (hk : Tab w 0 kpl) (hr : Tab w 1 rll) :
  Calls Tryz.prog 55 #[v, .func (.func 56) #[] #[]] w fun e w' => e = .returned (.bool q) ∧ Below w.heap.size w w' := by
 have HC := hid (zCN fs v w h hk hr)
 obtain ⟨p, n, cap, rfl⟩ := zAB h
 have ha := zBV (q := fun f : Fd => kpt f.n) fs 0
 rw [hq] at ha
 obtain ⟨x, hx⟩ : ∃ x, ixq (fun f : Fd => kpt f.n) fs 0 = x := ⟨_, rfl⟩
 rw [hx] at ha HC
 have d : decide (0 ≤ x) = q := by cases q <;> simp_all
 clear hx hq h ha hk hr
 cases q with
 | true =>
  go_enter Tryz.func55, Tryz.ntmps55
  go_wp2_with fail
  refine HC.out.mono ?_
  rintro e w2 ⟨rfl, hb2⟩
  have HB := hid hb2
  clear hb2
  go_wp2_with fail
  go_ret
  exact ⟨rfl, HB.out⟩
 | false =>
  go_enter Tryz.func55, Tryz.ntmps55
  go_wp2_with fail
  refine HC.out.mono ?_
  rintro e w2 ⟨rfl, hb2⟩
  have HB := hid hb2
  clear hb2
  go_wp2_with fail
  go_ret
  exact ⟨rfl, HB.out⟩
structure Tsc (w : World) (cb mb : Nat) (L : List ByteArray) (n : Nat) : Prop where
  cc : w.cell? ⟨cb, 0, none⟩ = some (.map (some mb))
  nm : Nm w mb L n
  tk : Tab w 0 kpl
  tr : Tab w 1 rll
theorem Nm.isMap {w : World} {mb : Nat} {L : List ByteArray} {n : Nat} (h : Nm w mb L n) : ∃ es c, w.heap[mb]? = some (.map es c) := by
  obtain ⟨D, ⟨es, clock, hb, _⟩, _⟩ := h
  exact ⟨es, clock, hb⟩
theorem Tsc.later {w w' : World} {cb mb n : Nat} {L : List ByteArray} (h : Tsc w cb mb L n) (hb : Below w.heap.size w w') : Tsc w' cb mb L n :=
  ⟨(hb.cell (p := ⟨cb, 0, none⟩) (World.block_lt_of_cell? _ _ h.cc)).trans h.cc, h.nm.later hb, zAF h.tk hb, zAF h.tr hb⟩
theorem Tsc.fr {w w' : World} {cb mb n n' : Nat} {L L' : List ByteArray} (h : Tsc w cb mb L n) (hf : Fr (fun i => i = mb) w w') (hk : Nm w' mb L' n') : Tsc w' cb mb L' n' :=
  ⟨zA1 h.nm.isMap hf h.cc, hk, zCY h.nm.isMap hf h.tk (by decide), zCY h.nm.isMap hf h.tr (by decide)⟩
def tk1 (done : List Tp) (t : Tp) : Int := if tyk t.n t.f ≠ 0 then tyk t.n t.f else if kpt t.n = true then 4 else if t.f.any (fun f => kpt f.n) = true then 4 else tkn (done.map Tp.n) t.n
theorem zFL (done : List Tp) (t : Tp) (r : List Tp) : tks done (t :: r) = if tk1 done t ≠ 0 then tk1 done t else tks (done ++ [t]) r := by
 rw [tks]
 unfold tk1 tkn
 by_cases h1 : tyk t.n t.f = 0
 . by_cases h2 : kpt t.n = true
   . simp [h1, h2]
   . by_cases h3 : t.f.any (fun f => kpt f.n) = true
     . simp only [h1, h2, h3, if_true]; simp
     . by_cases h4 : (done.map Tp.n).any (fun r => seq r t.n) = true
       . have e : (if tyk t.n t.f ≠ 0 then tyk t.n t.f else if kpt t.n = true then 4 else if t.f.any (fun f => kpt f.n) = true then 4 else if (done.map Tp.n).any (fun r => seq r t.n) = true then 7 else 0) = 7 := by rw [if_neg (fun c => c h1), if_neg h2, if_neg h3, if_pos h4]
         rw [e, if_neg (fun c => c h1), if_neg h2, if_neg h3, if_pos ((zGD done t.n).2 h4)]
         rfl
       . have e : (if tyk t.n t.f ≠ 0 then tyk t.n t.f else if kpt t.n = true then 4 else if t.f.any (fun f => kpt f.n) = true then 4 else if (done.map Tp.n).any (fun r => seq r t.n) = true then 7 else 0) = 0 := by rw [if_neg (fun c => c h1), if_neg h2, if_neg h3, if_neg h4]
         rw [e, if_neg (fun c => c h1), if_neg h2, if_neg h3, if_neg (fun c => h4 ((zGD done t.n).1 c))]
         rfl
 . simp [h1]
theorem tyk_size {n : ByteArray} {fs : List Fd} (h : tyk n fs = 0) : n.size ≤ maxLen := by
 unfold tyk at h
 have h1 : nchk n = 0 := by
   by_cases c : nchk n = 0
   . exact c
   . rw [if_pos c] at h; exact h
 unfold nchk at h1
 by_cases c : n.size < 1 ∨ 10 < n.size
 . rw [if_pos c] at h1; cases h1
 . unfold maxLen; omega
theorem zCT (done : List Tp) (t : Tp) (fv : Value) (cb mb n : Nat) (w : World) (hs : Tsc w cb mb (done.map Tp.n) n) (hF : Rd w (.row 103 2 (t.f.map encF)) fv) (hn : n ≤ 100) :
   Calls Tryz.prog 52 #[.agg #[.string t.n, fv], .pointer (some ⟨cb, 0, none⟩)] w fun e w' => e = .returned (.int .i64 (tk1 done t)) ∧ Fr (fun i => i = mb) w w' ∧ (tk1 done t = 0 → Nm w' mb ((done ++ [t]).map Tp.n) (n + 1)) := by
 obtain ⟨fp, fn, fc, rfl⟩ := zAB hF
 obtain ⟨tn, tf⟩ := t
 simp only at hF ⊢
 obtain ⟨qk, hqk⟩ : ∃ q, kpt tn = q := ⟨_, rfl⟩
 obtain ⟨qa, hqa⟩ : ∃ q, tf.any (fun f => kpt f.n) = q := ⟨_, rfl⟩
 have HCT := hid (fun W (hW : Below w.heap.size w W) => zE1 tn tf (.slice fp fn fc) W (hF.later hW))
 have HKE := hid (fun W (hW : Below w.heap.size w W) => zDP tn W (zAF hs.tk hW) (zAF hs.tr hW))
 have HCF := hid (fun W (hW : Below w.heap.size w W) => zBW tf (.slice fp fn fc) W qa hqa (hF.later hW) (zAF hs.tk hW) (zAF hs.tr hW))
 have HTA := hid (fun W (hW : Below w.heap.size w W) (hz : tyk tn tf = 0) => zFK mb (done.map Tp.n) n tn (tyk_size hz) hn W (hs.nm.later hW))
 have HCC := hid (fun W (hW : Below w.heap.size w W) => (hs.later hW).cc)
 have hmp : (done ++ [(⟨tn, tf⟩ : Tp)]).map Tp.n = done.map Tp.n ++ [tn] := by rw [List.map_append]; rfl
 rw [hmp]
 unfold tk1
 simp only
 rw [hqk, hqa]
 rw [hqk] at HKE
 obtain ⟨E0, hE0⟩ : ∃ E, tyk tn tf = E := ⟨_, rfl⟩
 rw [hE0] at HCT HTA
 rw [hE0]
 obtain ⟨E3, hE3⟩ : ∃ E, tkn (done.map Tp.n) tn = E := ⟨_, rfl⟩
 rw [hE3] at HTA
 rw [hE3]
 have HT : Hid (BlkT w (w.alloc (.cells [.string tn, .slice fp fn fc].toArray 59)) [.string tn, .slice fp fn fc] 59) := BlkT.start w _ _
 clear hs hF hn hqk hqa hmp hE0 hE3
 by_cases hz : E0 = 0
 . have HZ := hid hz
   cases qk with
   | true =>
    rw [if_neg (fun c => c hz), if_pos rfl]
    subst hz
    go_enter Tryz.func52, Tryz.ntmps52
    go_wp2_with fail
    refine (HCT.out _ HT.out.bel).mono ?_
    rintro e w1 ⟨rfl, hb1⟩
    have HT1 : Hid _ := HT.out.next hb1
    clear hb1
    have c0 : w1.cell? ⟨w.heap.size, 0, none⟩ = some (.string tn) := HT1.out.c 0
    go_wp2_with (go_at_call 54; refine (HKE.out _ HT1.out.bel).mono ?_; rintro e w2 ⟨rfl, rfl⟩)
    go_ret
    exact ⟨rfl, Fr.of_below HT1.out.bel, fun c => absurd c (by decide)⟩
   | false =>
    cases qa with
    | true =>
     rw [if_neg (fun c => c hz), if_neg (by decide), if_pos rfl]
     subst hz
     go_enter Tryz.func52, Tryz.ntmps52
     go_wp2_with fail
     refine (HCT.out _ HT.out.bel).mono ?_
     rintro e w1 ⟨rfl, hb1⟩
     have HT1 : Hid _ := HT.out.next hb1
     clear hb1
     have c0 : w1.cell? ⟨w.heap.size, 0, none⟩ = some (.string tn) := HT1.out.c 0
     have c1 : w1.cell? ⟨w.heap.size, 1, none⟩ = some (.slice fp fn fc) := HT1.out.c 1
     go_wp2_with (first
      | (go_at_call 54; refine (HKE.out _ HT1.out.bel).mono ?_; rintro e w2 ⟨rfl, rfl⟩)
      | (go_at_call 55; refine (HCF.out _ HT1.out.bel).mono ?_; rintro e w2 ⟨rfl, hb2⟩; have HT2 := hid (HT1.out.next hb2); clear hb2))
     go_ret
     exact ⟨rfl, Fr.of_below HT2.out.bel, fun c => absurd c (by decide)⟩
    | false =>
     rw [if_neg (fun c => c hz), if_neg (by decide), if_neg (by decide)]
     subst hz
     go_enter Tryz.func52, Tryz.ntmps52
     go_wp2_with fail
     refine (HCT.out _ HT.out.bel).mono ?_
     rintro e w1 ⟨rfl, hb1⟩
     have HT1 : Hid _ := HT.out.next hb1
     clear hb1
     have c0 : w1.cell? ⟨w.heap.size, 0, none⟩ = some (.string tn) := HT1.out.c 0
     have c1 : w1.cell? ⟨w.heap.size, 1, none⟩ = some (.slice fp fn fc) := HT1.out.c 1
     go_wp2_with (first
      | (go_at_call 54; refine (HKE.out _ HT1.out.bel).mono ?_; rintro e w2 ⟨rfl, rfl⟩)
      | (go_at_call 55; refine (HCF.out _ HT1.out.bel).mono ?_; rintro e w2 ⟨rfl, hb2⟩; have HT2 := hid (HT1.out.next hb2); clear hb2; have c2 : w2.cell? ⟨w.heap.size, 0, none⟩ = some (.string tn) := HT2.out.c 0; have c3 : w2.cell? ⟨cb, 0, none⟩ = some (.map (some mb)) := HCC.out _ HT2.out.bel))
     refine (HTA.out _ HT2.out.bel HZ.out).mono ?_
     rintro e w3 ⟨rfl, hf3, hk3⟩
     have HF3 := hid ((Fr.of_below HT2.out.bel).trans hf3)
     have HK3 := hid hk3
     clear hf3 hk3
     go_wp2_with fail
     go_ret
     exact ⟨rfl, HF3.out, HK3.out⟩
 . rw [if_pos hz]
   have d9 : (E0 != 0) = true := by simpa using hz
   have HZ := hid hz
   clear hz
   go_enter Tryz.func52, Tryz.ntmps52
   go_wp2_with fail
   refine (HCT.out _ HT.out.bel).mono ?_
   rintro e w1 ⟨rfl, hb1⟩
   have HT1 : Hid _ := HT.out.next hb1
   clear hb1
   go_wp2_with fail
   go_ret
   exact ⟨rfl, Fr.of_below HT1.out.bel, fun c => absurd c HZ.out⟩
theorem zDN (ts : List Tp) (cb mb n0 : Nat) (lv : Value) (w : World) (hs : Tsc w cb mb [] n0) (hR : Rd w (.row 59 2 (ts.map encY)) lv) (hn : n0 + ts.length ≤ 100) :
  Calls Tryz.prog 51 #[lv, .func (.func 52) #[] #[.pointer (some ⟨cb, 0, none⟩)]] w fun e w' => e = .returned (.int .i64 (tks [] ts)) ∧ Fr (fun i => i = mb) w w' ∧ (tks [] ts = 0 → Tsc w' cb mb ((ts.take (ts.length)).map Tp.n) (n0 + (ts.length))) := by
 have HS := hid hs
 have HL := hid hR
 have HNN := hid hn
 obtain ⟨p, cap, rfl, hmx, _⟩ := zAG lenY hR
 obtain ⟨n, hnl⟩ : ∃ n, ts.length = n := ⟨_, rfl⟩
 have HN := hid hnl
 obtain ⟨R, hRR⟩ : ∃ R, tks [] ts = R := ⟨_, rfl⟩
 have HR := hid hRR
 rw [hRR]
 rw [hnl] at hmx HL ⊢
 clear hR hs hn hnl hRR
 go_enter Tryz.func51, Tryz.ntmps51
 go_wp2_with fail
 go_loopg [10] (n + 1) (fun gg i wr => ∃ k : Nat, k ≤ n ∧ gg = n + 1 - k ∧ i = .int .i64 (k : Nat) ∧ tks (ts.take k) (ts.drop k) = R ∧ Fr (fun i => i = mb) w wr ∧ Tsc wr cb mb ((ts.take (k)).map Tp.n) (n0 + (k)))
 case atStart => exact ⟨0, by omega, by omega, rfl, by simpa using HR.out, Fr.refl _ _, by simpa using HS.out⟩
 case round =>
  obtain ⟨k, hk, rfl, rfl, hev, hF, hI⟩ := hrel
  have HF := hid hF
  have HI := hid hI
  by_cases hlt : k < n
  . have hkc : k < ts.length := by have := HN.out; omega
    obtain ⟨p', cap', e0, _, hat⟩ := zAG lenY (HL.out.fr HS.out.nm.isMap hF)
    simp only [Value.slice.injEq] at e0
    obtain ⟨rfl, hx0, rfl⟩ := e0
    obtain ⟨g, off, rfl, hrd⟩ := hat (by omega)
    obtain ⟨A, r1, o1⟩ := hrd wr (Below.refl _ _) k hkc
    obtain ⟨fv, z1, o2⟩ := rdY o1
    obtain ⟨up, un, uc, hu⟩ := zAB o2
    have hAz : A.length = 2 := o1.1.symm
    rw [List.drop_eq_getElem_cons hkc, zFL] at hev
    have htk : ts.take (k + 1) = ts.take k ++ [ts[k]] := List.take_succ_eq_append_getElem hkc
    have hcall := fun W (hW : Below wr.heap.size wr W) => zCT (ts.take k) ts[k] fv cb mb (n0 + k) W (hI.later hW) (o2.later hW) (by have := HNN.out; omega)
    rw [← htk] at hcall
    obtain ⟨e9, he9⟩ : ∃ e9, tk1 (ts.take k) ts[k] = e9 := ⟨_, rfl⟩
    rw [he9] at hcall hev
    have HCM : Hid (∀ W, Below wr.heap.size wr W → Calls Tryz.prog 52 #[.agg A.toArray, .pointer (some ⟨cb, 0, none⟩)] W (fun e w' => e = .returned (.int .i64 e9) ∧ Fr (fun i => i = mb) W w' ∧ (e9 = 0 → Nm w' mb ((ts.take (k + 1)).map Tp.n) (n0 + k + 1)))) := fun W hW => by rw [z1]; exact hcall W hW
    have HAO : Hid (A.all (·.oneCell') = true) := by show _ = _; rw [z1, hu]; rfl
    have ZA : Hid ((Tryz.prog.info? 59).map (·.size) = some A.length) := by show _ = _; rw [hAz]; kernel_rfl
    have HAL := hid hAz
    have X1_ := hid r1
    have HEV := hid hev
    have HTK := hid htk
    have i1 : (0 : Int) ≤ (k : Int) := by omega
    have i2 : (k : Int) < (n : Int) := by omega
    clear hF hI hat hrd r1 o1 hAz hev htk hx0 hcall he9 z1 hu o2
    go_wp2_with (first
      | ((with_reducible refine gLq ?_); refine wpList_load_mid (by rfl) 59 _ (by rfl) g (off + k * 2) (by rfl) A _ X1_.out Tryz.underlying59 rfl ZA.out ?_)
      | ((with_reducible refine gSq ?_); refine zA7 (by rfl) 59 _ _ (by rfl) wr.heap.size 0 _ 59 (.agg A.toArray) A (by rfl) (by rfl) (by rfl) (heap_alloc_new _ _) (by have := HAL.out; simp; omega) ZA.out HAO.out ?_; intro w1 hblk hfr; rw [zAT (by rw [HAL.out]; rfl)] at hblk; have XB : Hid (w1.rangeAt wr.heap.size 0 A) := zAE hblk; have HBW : Hid (Below wr.heap.size wr w1) := zAM hfr; clear hblk hfr)
      | ((with_reducible refine gLq ?_); refine wpList_load_mid (by rfl) 59 _ (by rfl) wr.heap.size 0 (by rfl) A _ XB.out Tryz.underlying59 rfl ZA.out ?_))
    refine (HCM.out _ HBW.out).mono ?_
    rintro e w2 ⟨rfl, hf2, hk2⟩
    have HF2 : Hid (Fr (fun i => i = mb) w w2) := HF.out.trans ((Fr.of_below HBW.out).trans hf2)
    have HK2 := hid hk2
    have HS1 := hid ((HI.out.later HBW.out))
    have HFR := hid hf2
    clear hk2 hf2
    by_cases hz : e9 = 0
    . have HE2 := HEV.out
      rw [if_neg (fun c => c hz)] at HE2
      have HE3 := hid HE2
      have HI2 := hid (show Tsc w2 cb mb ((ts.take (k + 1)).map Tp.n) (n0 + (k + 1)) from HS1.out.fr HFR.out (HK2.out hz))
      subst hz
      clear HE2 HK2 HS1 HFR
      go_wp2_with fail
      go_roundg (n + 1 - (k + 1))
      case rel => exact ⟨k + 1, by omega, rfl, by go_num, by rw [HTK.out]; exact HE3.out, HF2.out, HI2.out⟩
      case measure => omega
    . have HE2 : Hid (R = e9) := by have h := HEV.out; rw [if_pos hz] at h; exact h.symm
      have d9 : (e9 != 0) = true := by simpa using hz
      have HZ := hid hz
      clear hz HK2 HS1 HFR
      go_wp2_with fail
      go_ret
      exact ⟨zAD HE2.out.symm, HF2.out, fun c => absurd (HE2.out.symm.trans c) HZ.out⟩
  . obtain rfl : k = n := by omega
    have hw : ts.take k = ts := List.take_of_length_le (by have := HN.out; omega)
    have hd : ts.drop k = [] := List.drop_of_length_le (by have := HN.out; omega)
    rw [hd, tks] at hev
    have HE2 : Hid (R = 0) := hev.symm
    have HI2 := hid hI
    clear hev hd hF hI hw
    go_wp2_with fail
    go_ret
    exact ⟨zAD HE2.out.symm, HF.out, fun _ => HI2.out⟩
theorem zCQ (ts : List Tp) (tv : Value) (w : World) (hT : Rd w (.row 59 2 (ts.map encY)) tv) (htk : Tab w 0 kpl) (htr : Tab w 1 rll) (hn : ts.length ≤ 90) :
  Calls Tryz.prog 33 #[tv] w fun e w' => e = .returned (.int .i64 (tks [] ts)) ∧ Below w.heap.size w w' := by
 have HC := hid (fun W cb mb (hs : Tsc W cb mb [] 0) hR => zDN ts cb mb 0 tv W hs hR (by omega))
 obtain ⟨tp, tn, tc, rfl⟩ := zAB hT
 have hmm := @run_makeMap Tryz.prog
 have hb0 : Below w.heap.size w (w.alloc (.map #[] 0)) := (Below.refl _ _).alloc (Nat.le_refl _) _
 have hb1 : Below (w.alloc (.map #[] 0)).heap.size (w.alloc (.map #[] 0)) ((w.alloc (.map #[] 0)).alloc (.cells #[.map (some w.heap.size)] 139)) := (Below.refl _ _).alloc (Nat.le_refl _) _
 have hb2 : Below w.heap.size w ((w.alloc (.map #[] 0)).alloc (.cells #[.map (some w.heap.size)] 139)) := zAA hb0 hb1 (by simp)
 have HTS : Hid (Tsc ((w.alloc (.map #[] 0)).alloc (.cells #[.map (some w.heap.size)] 139)) (w.heap.size + 1) w.heap.size [] 0) := ⟨zAC (zC0 _ _ _) 0, (zG3 w).later hb1, zAF htk hb2, zAF htr hb2⟩
 have HRD := hid (hT.later hb2)
 have HB2 := hid hb2
 clear hb0 hb1 hb2 hT htk htr hn
 go_enter Tryz.func33, Tryz.ntmps33
 go_wp2_with fail
 refine (HC.out _ _ _ HTS.out HRD.out).mono ?_
 rintro e w3 ⟨rfl, hf3, _⟩
 have HB3 : Hid (Below w.heap.size w w3) := zAP HB2.out hf3 (Nat.le_refl _)
 clear hf3
 go_wp2_with fail
 go_ret
 exact ⟨rfl, HB3.out⟩
end Go.Proofs.YtnlmknbhppdliaaGreatDoor.Chk
