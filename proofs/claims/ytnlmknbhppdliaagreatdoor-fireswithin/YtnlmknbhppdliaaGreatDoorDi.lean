/-
  A many, by the program. A link, by the program.
-/
import Derived.Deep.QuietTactic
import Derived.BigQuiet
import Derived.Test.YtnlmknbhppdliaaGreatDoorDg
set_option maxHeartbeats 64000000
namespace Go.Proofs.YtnlmknbhppdliaaGreatDoor.Chk
open Go.ChangeShapes Go.WideShapes Go.ChangeAt Go.RowKit Go.Maps
set_option linter.unusedVariables false
set_option linter.unusedSimpArgs false
set_option maxRecDepth 20000
theorem zA6 {ops : Array Oper} {o : Oper} {a : Act} {w : World} {K : Act → World → Prop} {Q : Exit → Act → World → Prop} {E : Prop} (f : FuncId) (he : ∀ args w, (callFunc f args).run Tryz.prog w = .ok (.enter f args) w) (hw : Region.wanted o (yielded ops a.tmps) = true) (x0 x1 : Operand) (ts : Array TypeId) (ho : o.op = .call { callee := .value x0, args := #[x1], argTypes := ts }) (c u1 : Value) (h0 : a.eval x0 = .func (.func f) #[] #[c]) (h1 : a.eval x1 = u1)
  (R : Ending → World → Prop) (hc : Calls Tryz.prog f #[u1, c] w R) (h : ∀ e w', R e w' → ∃ v, e = .returned v ∧ K (a.put o.dst v) w') :
  if Region.wanted o (yielded ops a.tmps) = true then Oper.wp Tryz.prog o a w K Q else E := by
 rw [if_pos hw]
 unfold Oper.wp execOp
 simp [ho, resolve, invoke, Deferred.ofValue, h0, h1, he]
 refine hc.mono ?_
 intro e w' hr
 obtain ⟨v, rfl, hk⟩ := h e w' hr
 exact hk
theorem zDL : ∀ args w, (callFunc 95 args).run Tryz.prog w = .ok (.enter 95 args) w := enters_of Tryz.func95 (by kernel_rfl) rfl
theorem ent_fk : ∀ args w, (callFunc 129 args).run Tryz.prog w = .ok (.enter 129 args) w := enters_of Tryz.func129 (by kernel_rfl) rfl
theorem sck_eq (fs : List Fd) (nm : ByteArray) : sck fs nm = if (fck fs nm).2 = 0 ∧ (fck fs nm).1 ≠ 1 then 13 else (fck fs nm).2 := by
 unfold sck
 have h : (fck fs nm).2 = 0 ∨ (fck fs nm).2 = 6 := by
   unfold fck
   split
   . exact .inr rfl
   . exact .inl rfl
 rcases h with h | h
 . rw [h, if_neg (by decide)]
   by_cases c : (fck fs nm).1 = 1
   . rw [if_pos c, if_neg (by omega)]
   . rw [if_neg c, if_pos ⟨rfl, c⟩]
 . rw [h, if_pos (by decide), if_neg (by omega)]
theorem many_any (ts : List Tp) (ws : List Pt) (ah : List ByteArray) (b mb : Nat) (Ks : Kns) (n : Nat) (hkn : zA9 ts ws) (hk : Knw ts ws Ks) (hka : Kna ah Ks) (hty : ∀ i (hi : i < ts.length), tyk ts[i].n ts[i].f = 0) (x : Mn) (tv sv : Value) (w : World) (hs : Scp w ts tv b mb Ks n) (hS : Rd w (.row 46 14 x.p.c.sb) sv) (hwz : Wsz x.p.c) (hn : n ≤ 100) :
  Calls Tryz.prog 91 #[scV tv b mb, .agg (.int .i64 x.c :: .string x.f :: ptC x.p.va x.p.ty x.p.c.k sv x.p.c.l x.p.c.r x.p.w x.p.n).toArray] w (PQ w mb (Ks ++ [(x.p.va, (3, tyq ts x.p.ty))]) (n + 1) (mck ts ws ah x)) := by
 have HP := hid (fun (wv : Value) W (hW : Below w.heap.size w W) (hI : Ints W wv [1]) => zBO ts ws ah b mb Ks n hkn hk hka hty x.p 3 [1] (.inr (.inr ⟨rfl, rfl⟩)) tv sv wv W (hs.later hW) (hS.later hW) hwz hI hn)
 have HS := hid hs
 have HTYK := hid hty
 obtain ⟨p, m, cap, rfl⟩ := zAB hS
 obtain ⟨tp, tn, tc, rfl⟩ := zAB hs.rt
 obtain ⟨mc, mf, ⟨va, ty, ⟨ck, csb, l, r⟩, pw, pn⟩⟩ := x
 simp only at HP ⊢
 have HT : Hid (Blk2 w ((w.alloc (.cells [.slice tp tn tc, .func (.func 95) #[] #[.pointer (some ⟨b, 0, none⟩)], .map (some mb)].toArray 174)).alloc (.cells [.int .i64 mc, .string mf, .string va, .string ty, .int .i64 ck, .slice p m cap, .int .i64 l.k, .int .i64 l.vk, .int .i64 l.vi, .string l.vt, .string l.va, .string l.fd, .int .i64 r.k, .int .i64 r.vk, .int .i64 r.vi, .string r.vt, .string r.va, .string r.fd, .int .i64 pw, .int .i64 pn].toArray 78)) [.slice tp tn tc, .func (.func 95) #[] #[.pointer (some ⟨b, 0, none⟩)], .map (some mb)] [.int .i64 mc, .string mf, .string va, .string ty, .int .i64 ck, .slice p m cap, .int .i64 l.k, .int .i64 l.vk, .int .i64 l.vi, .string l.vt, .string l.va, .string l.fd, .int .i64 r.k, .int .i64 r.vk, .int .i64 r.vi, .string r.vt, .string r.va, .string r.fd, .int .i64 pw, .int .i64 pn] 174 78) := Blk2.start w _ _ _ _
 have HMP : Hid (∃ es c, (((w.alloc (.cells [.slice tp tn tc, .func (.func 95) #[] #[.pointer (some ⟨b, 0, none⟩)], .map (some mb)].toArray 174)).alloc (.cells [.int .i64 mc, .string mf, .string va, .string ty, .int .i64 ck, .slice p m cap, .int .i64 l.k, .int .i64 l.vk, .int .i64 l.vi, .string l.vt, .string l.va, .string l.fd, .int .i64 r.k, .int .i64 r.vk, .int .i64 r.vi, .string r.vt, .string r.va, .string r.fd, .int .i64 pw, .int .i64 pn].toArray 78)).alloc (.cells #[.int .i64 1] 3)).heap[mb]? = some (.map es c)) := ((hs.km.later HT.out.bel).later ((Below.refl _ _).alloc (Nat.le_refl _) _)).isMap
 have XP : Hid (((w.alloc (.cells [.slice tp tn tc, .func (.func 95) #[] #[.pointer (some ⟨b, 0, none⟩)], .map (some mb)].toArray 174)).alloc (.cells [.int .i64 mc, .string mf, .string va, .string ty, .int .i64 ck, .slice p m cap, .int .i64 l.k, .int .i64 l.vk, .int .i64 l.vi, .string l.vt, .string l.va, .string l.fd, .int .i64 r.k, .int .i64 r.vk, .int .i64 r.vi, .string r.vt, .string r.va, .string r.fd, .int .i64 pw, .int .i64 pn].toArray 78)).rangeAt (w.heap.size + 1) 2 (ptC va ty ck (.slice p m cap) l r pw pn)) := zCZ HT.out.b2 rfl
 obtain ⟨E, hE⟩ : ∃ E, mck ts ws ah ⟨mc, mf, ⟨va, ty, ⟨ck, csb, l, r⟩, pw, pn⟩⟩ = E := ⟨_, rfl⟩
 rw [hE]
 have HE := hid hE
 obtain ⟨e9, he9⟩ : ∃ e9, pck ts ws ah ⟨va, ty, ⟨ck, csb, l, r⟩, pw, pn⟩ 2 = e9 := ⟨_, rfl⟩
 have HE9 := hid he9
 rw [show ((3 : Int) - 1) = 2 from rfl, he9] at HP
 clear hE he9 hS hs hwz hkn hk hka hty
 cases hem : emp mf with
 | true =>
  have q0 : mf.toList = [] := zCE hem
  by_cases hr : 1 ≤ mc ∧ mc ≤ 120
  . obtain ⟨g1, g2⟩ := hr
    have g3 : ¬ mc < 1 := by omega
    have g4 : ¬ 120 < mc := by omega
    have HBD : Hid (mbad ⟨mc, mf, ⟨va, ty, ⟨ck, csb, l, r⟩, pw, pn⟩⟩ = false) := by show _ = _; unfold mbad; simp only; rw [hem]; simp; omega
    have HM1 : Hid (e9 = 0 → mck ts ws ah ⟨mc, mf, ⟨va, ty, ⟨ck, csb, l, r⟩, pw, pn⟩⟩ = 0) := fun h => by rw [mck_ok HBD.out (HE9.out.trans h)]; simp only; rw [if_pos hem]
    have HM3 : Hid (e9 ≠ 0 → mck ts ws ah ⟨mc, mf, ⟨va, ty, ⟨ck, csb, l, r⟩, pw, pn⟩⟩ = e9) := fun h => by rw [zHE HBD.out (by show pck _ _ _ _ _ ≠ 0; rw [HE9.out]; exact h)]; exact HE9.out
    clear hem
    go_enter Tryz.func91, Tryz.ntmps91
    go_wp2_with ((with_reducible refine gLq ?_); refine wpList_load_mid (by rfl) 48 _ (by rfl) (w.heap.size + 1) 2 (by rfl) (ptC va ty ck (.slice p m cap) l r pw pn) _ XP.out Tryz.underlying48 rfl (by kernel_rfl) ?_)
    have hB : Below w.heap.size w (((w.alloc (.cells [.slice tp tn tc, .func (.func 95) #[] #[.pointer (some ⟨b, 0, none⟩)], .map (some mb)].toArray 174)).alloc (.cells [.int .i64 mc, .string mf, .string va, .string ty, .int .i64 ck, .slice p m cap, .int .i64 l.k, .int .i64 l.vk, .int .i64 l.vi, .string l.vt, .string l.va, .string l.fd, .int .i64 r.k, .int .i64 r.vk, .int .i64 r.vi, .string r.vt, .string r.va, .string r.fd, .int .i64 pw, .int .i64 pn].toArray 78)).alloc (.cells #[.int .i64 1] 3)) := HT.out.bel.alloc HT.out.bel.size _
    have hI : Ints (((w.alloc (.cells [.slice tp tn tc, .func (.func 95) #[] #[.pointer (some ⟨b, 0, none⟩)], .map (some mb)].toArray 174)).alloc (.cells [.int .i64 mc, .string mf, .string va, .string ty, .int .i64 ck, .slice p m cap, .int .i64 l.k, .int .i64 l.vk, .int .i64 l.vi, .string l.vt, .string l.va, .string l.fd, .int .i64 r.k, .int .i64 r.vk, .int .i64 r.vi, .string r.vt, .string r.va, .string r.fd, .int .i64 pw, .int .i64 pn].toArray 78)).alloc (.cells #[.int .i64 1] 3)) (.slice (some ⟨w.heap.size + 1 + 1, 0, none⟩) 1 1) [1] := ⟨_, 1, rfl, Nat.le_refl _, by decide, fun k hk => by
      have hk' : k < 1 := hk
      have e9 : ((w.alloc (.cells [.slice tp tn tc, .func (.func 95) #[] #[.pointer (some ⟨b, 0, none⟩)], .map (some mb)].toArray 174)).alloc (.cells [.int .i64 mc, .string mf, .string va, .string ty, .int .i64 ck, .slice p m cap, .int .i64 l.k, .int .i64 l.vk, .int .i64 l.vi, .string l.vt, .string l.va, .string l.fd, .int .i64 r.k, .int .i64 r.vk, .int .i64 r.vi, .string r.vt, .string r.va, .string r.fd, .int .i64 pw, .int .i64 pn].toArray 78)).heap.size = w.heap.size + 1 + 1 := by simp
      rw [← e9, zAC (heap_alloc_new _ _)]
      obtain rfl : k = 0 := by omega
      rfl⟩
    have X := HP.out _ _ hB hI
    have HB := hid hB
    have HTB : Hid (Blk2 w (((w.alloc (.cells [.slice tp tn tc, .func (.func 95) #[] #[.pointer (some ⟨b, 0, none⟩)], .map (some mb)].toArray 174)).alloc (.cells [.int .i64 mc, .string mf, .string va, .string ty, .int .i64 ck, .slice p m cap, .int .i64 l.k, .int .i64 l.vk, .int .i64 l.vi, .string l.vt, .string l.va, .string l.fd, .int .i64 r.k, .int .i64 r.vk, .int .i64 r.vi, .string r.vt, .string r.va, .string r.fd, .int .i64 pw, .int .i64 pn].toArray 78)).alloc (.cells #[.int .i64 1] 3)) [.slice tp tn tc, .func (.func 95) #[] #[.pointer (some ⟨b, 0, none⟩)], .map (some mb)] [.int .i64 mc, .string mf, .string va, .string ty, .int .i64 ck, .slice p m cap, .int .i64 l.k, .int .i64 l.vk, .int .i64 l.vi, .string l.vt, .string l.va, .string l.fd, .int .i64 r.k, .int .i64 r.vk, .int .i64 r.vi, .string r.vt, .string r.va, .string r.fd, .int .i64 pw, .int .i64 pn] 174 78) := HT.out.alloc _
    clear hI hB
    refine X.mono ?_
    intro e w3 hr
    clear X
    by_cases h9 : e9 = 0
    . have hr2 := hr
      rw [h9] at hr2
      obtain ⟨rfl, hF, hK⟩ := hr2.pq HB.out
      have HF := hid hF
      have HK := hid (hK rfl)
      have hf3 := (hr2.2.2 rfl).1
      clear hF hK hr hr2
      have HR : Hid (E = 0) := by show _ = _; rw [← HE.out]; exact HM1.out h9
      have c1 : w3.cell? ⟨w.heap.size + 1, 1, none⟩ = some (.string mf) := zA1 HMP.out hf3 (HTB.out.c2 1)
      clear hf3 h9
      go_wp2_with fail
      go_ret
      exact ⟨by rw [HR.out]; rfl, HF.out, fun _ => HK.out⟩
    . obtain ⟨rfl, hF, _⟩ := hr.pq HB.out
      have HF := hid hF
      have HR : Hid (E = e9) := by show _ = _; rw [← HE.out]; exact HM3.out h9
      have H9 := hid h9
      have d1 : (e9 != 0) = true := by simpa using h9
      clear hr h9 hF
      go_wp2_with fail
      go_ret
      exact ⟨by rw [HR.out]; rfl, HF.out, fun c => absurd (HR.out.symm.trans c) H9.out⟩
  . have HBD : Hid (mbad ⟨mc, mf, ⟨va, ty, ⟨ck, csb, l, r⟩, pw, pn⟩⟩ = true) := by show _ = _; unfold mbad; simp only; rw [hem]; simp; omega
    by_cases hlo : mc < 1
    . clear hr hem
      have HR : Hid (E = 2) := by show _ = _; rw [← HE.out]; exact zC8 HBD.out
      go_enter Tryz.func91, Tryz.ntmps91
      go_wp2_with fail
      go_ret
      exact ⟨by rw [HR.out]; rfl, Fr.of_below HT.out.bel, fun c => by rw [HR.out] at c; cases c⟩
    . have g2 : 120 < mc := by omega
      clear hr hem
      have HR : Hid (E = 2) := by show _ = _; rw [← HE.out]; exact zC8 HBD.out
      go_enter Tryz.func91, Tryz.ntmps91
      go_wp2_with fail
      go_ret
      exact ⟨by rw [HR.out]; rfl, Fr.of_below HT.out.bel, fun c => by rw [HR.out] at c; cases c⟩
 | false =>
  obtain ⟨q0, q1⟩ := zDI hem
  by_cases hr : 0 ≤ mc ∧ mc ≤ 1125899906842624
  . obtain ⟨g1, g2⟩ := hr
    have g3 : ¬ mc < 0 := by omega
    have g4 : ¬ 1125899906842624 < mc := by omega
    have HBD : Hid (mbad ⟨mc, mf, ⟨va, ty, ⟨ck, csb, l, r⟩, pw, pn⟩⟩ = false) := by show _ = _; unfold mbad; simp only; rw [hem]; simp; omega
    have HM1 : Hid (∀ ix (hix : ix < ts.length), tyq ts ty = (ix : Int) → e9 = 0 → mck ts ws ah ⟨mc, mf, ⟨va, ty, ⟨ck, csb, l, r⟩, pw, pn⟩⟩ = sck ts[ix].f mf) := fun ix hix ht h => by rw [mck_ok HBD.out (HE9.out.trans h)]; simp only; rw [if_neg (by rw [hem]; decide), ht]; simp [hix]
    have HM3 : Hid (e9 ≠ 0 → mck ts ws ah ⟨mc, mf, ⟨va, ty, ⟨ck, csb, l, r⟩, pw, pn⟩⟩ = e9) := fun h => by rw [zHE HBD.out (by show pck _ _ _ _ _ ≠ 0; rw [HE9.out]; exact h)]; exact HE9.out
    clear hem
    go_enter Tryz.func91, Tryz.ntmps91
    go_wp2_with ((with_reducible refine gLq ?_); refine wpList_load_mid (by rfl) 48 _ (by rfl) (w.heap.size + 1) 2 (by rfl) (ptC va ty ck (.slice p m cap) l r pw pn) _ XP.out Tryz.underlying48 rfl (by kernel_rfl) ?_)
    have hB : Below w.heap.size w (((w.alloc (.cells [.slice tp tn tc, .func (.func 95) #[] #[.pointer (some ⟨b, 0, none⟩)], .map (some mb)].toArray 174)).alloc (.cells [.int .i64 mc, .string mf, .string va, .string ty, .int .i64 ck, .slice p m cap, .int .i64 l.k, .int .i64 l.vk, .int .i64 l.vi, .string l.vt, .string l.va, .string l.fd, .int .i64 r.k, .int .i64 r.vk, .int .i64 r.vi, .string r.vt, .string r.va, .string r.fd, .int .i64 pw, .int .i64 pn].toArray 78)).alloc (.cells #[.int .i64 1] 3)) := HT.out.bel.alloc HT.out.bel.size _
    have hI : Ints (((w.alloc (.cells [.slice tp tn tc, .func (.func 95) #[] #[.pointer (some ⟨b, 0, none⟩)], .map (some mb)].toArray 174)).alloc (.cells [.int .i64 mc, .string mf, .string va, .string ty, .int .i64 ck, .slice p m cap, .int .i64 l.k, .int .i64 l.vk, .int .i64 l.vi, .string l.vt, .string l.va, .string l.fd, .int .i64 r.k, .int .i64 r.vk, .int .i64 r.vi, .string r.vt, .string r.va, .string r.fd, .int .i64 pw, .int .i64 pn].toArray 78)).alloc (.cells #[.int .i64 1] 3)) (.slice (some ⟨w.heap.size + 1 + 1, 0, none⟩) 1 1) [1] := ⟨_, 1, rfl, Nat.le_refl _, by decide, fun k hk => by
      have hk' : k < 1 := hk
      have e9 : ((w.alloc (.cells [.slice tp tn tc, .func (.func 95) #[] #[.pointer (some ⟨b, 0, none⟩)], .map (some mb)].toArray 174)).alloc (.cells [.int .i64 mc, .string mf, .string va, .string ty, .int .i64 ck, .slice p m cap, .int .i64 l.k, .int .i64 l.vk, .int .i64 l.vi, .string l.vt, .string l.va, .string l.fd, .int .i64 r.k, .int .i64 r.vk, .int .i64 r.vi, .string r.vt, .string r.va, .string r.fd, .int .i64 pw, .int .i64 pn].toArray 78)).heap.size = w.heap.size + 1 + 1 := by simp
      rw [← e9, zAC (heap_alloc_new _ _)]
      obtain rfl : k = 0 := by omega
      rfl⟩
    have X := HP.out _ _ hB hI
    have HB := hid hB
    have HTB : Hid (Blk2 w (((w.alloc (.cells [.slice tp tn tc, .func (.func 95) #[] #[.pointer (some ⟨b, 0, none⟩)], .map (some mb)].toArray 174)).alloc (.cells [.int .i64 mc, .string mf, .string va, .string ty, .int .i64 ck, .slice p m cap, .int .i64 l.k, .int .i64 l.vk, .int .i64 l.vi, .string l.vt, .string l.va, .string l.fd, .int .i64 r.k, .int .i64 r.vk, .int .i64 r.vi, .string r.vt, .string r.va, .string r.fd, .int .i64 pw, .int .i64 pn].toArray 78)).alloc (.cells #[.int .i64 1] 3)) [.slice tp tn tc, .func (.func 95) #[] #[.pointer (some ⟨b, 0, none⟩)], .map (some mb)] [.int .i64 mc, .string mf, .string va, .string ty, .int .i64 ck, .slice p m cap, .int .i64 l.k, .int .i64 l.vk, .int .i64 l.vi, .string l.vt, .string l.va, .string l.fd, .int .i64 r.k, .int .i64 r.vk, .int .i64 r.vi, .string r.vt, .string r.va, .string r.fd, .int .i64 pw, .int .i64 pn] 174 78) := HT.out.alloc _
    clear hI hB
    refine X.mono ?_
    intro e w3 hr
    clear X
    by_cases h9 : e9 = 0
    . have hr2 := hr
      rw [h9] at hr2
      obtain ⟨rfl, hF, hK⟩ := hr2.pq HB.out
      have HF := hid hF
      have HK := hid (hK rfl)
      have hf3 := (hr2.2.2 rfl).1
      clear hF hK hr hr2
      obtain ⟨ix, hix, hty2⟩ := zA8 (HE9.out.trans h9)
      obtain ⟨p', cap', e0, _, hat⟩ := zAG lenY HS.out.rt
      have etn := (zBM HS.out.rt).1
      simp only [Value.slice.injEq] at e0
      obtain ⟨rfl, hx0, rfl⟩ := e0
      obtain ⟨gt, oft, rfl, hrd⟩ := hat (by omega)
      obtain ⟨T2, t1, t2⟩ := hrd (((w.alloc (.cells [.slice (some ⟨gt, oft, none⟩) tn tc, .func (.func 95) #[] #[.pointer (some ⟨b, 0, none⟩)], .map (some mb)].toArray 174)).alloc (.cells [.int .i64 mc, .string mf, .string va, .string ty, .int .i64 ck, .slice p m cap, .int .i64 l.k, .int .i64 l.vk, .int .i64 l.vi, .string l.vt, .string l.va, .string l.fd, .int .i64 r.k, .int .i64 r.vk, .int .i64 r.vi, .string r.vt, .string r.va, .string r.fd, .int .i64 pw, .int .i64 pn].toArray 78)).alloc (.cells #[.int .i64 1] 3)) HB.out ix hix
      obtain ⟨fv2, zt, o3⟩ := rdY t2
      have ZT : Hid ((Tryz.prog.info? 59).map (·.size) = some T2.length) := by show _ = _; rw [zt]; kernel_rfl
      have hs3 : Scp w3 ts (.slice (some ⟨gt, oft, none⟩) tn tc) b mb (Ks ++ [(va, (3, tyq ts ty))]) (n + 1) := (HS.out.later HB.out).fr hf3 HK.out
      have HFT : Hid (∀ W, Below w3.heap.size w3 W → Calls Tryz.prog 95 #[.string ty, .pointer (some ⟨b, 0, none⟩)] W fun e w' => e = .returned (.int .i64 (ix : Int)) ∧ Below W.heap.size W w') := fun W hW => by rw [← hty2]; exact zA4 ts _ ty b W (hs3.later hW).rt (hs3.later hW).fd
      have o4 := Rd.fr HMP.out hf3 o3
      have HFK : Hid (∀ W, Below w3.heap.size w3 W → Calls Tryz.prog 129 #[.agg T2.toArray, .string mf] W fun e w' => e = .returned (.tuple #[.int .i64 (fck ts[ix].f mf).1, .int .i64 (fck ts[ix].f mf).2]) ∧ Below W.heap.size W w') := fun W hW => by rw [zt]; exact zA5 _ _ fv2 mf W (o4.later hW) (HTYK.out ix hix)
      have HR : Hid (E = if (fck ts[ix].f mf).2 = 0 ∧ (fck ts[ix].f mf).1 ≠ 1 then 13 else (fck ts[ix].f mf).2) := by show _ = _; rw [← HE.out, HM1.out ix hix hty2 h9, sck_eq]
      obtain ⟨⟨f1, f2⟩, hf⟩ : ∃ x, fck ts[ix].f mf = x := ⟨_, rfl⟩
      rw [hf] at HFK HR
      have HK0' : w3.cell? ⟨w.heap.size, 0, none⟩ = some (.slice (some ⟨gt, oft, none⟩) tn tc) ∧ w3.cell? ⟨w.heap.size, 1, none⟩ = some (.func (.func 95) #[] #[.pointer (some ⟨b, 0, none⟩)]) ∧ w3.cell? ⟨w.heap.size + 1, 3, none⟩ = some (.string ty) ∧ w3.cell? ⟨w.heap.size + 1, 1, none⟩ = some (.string mf) ∧ w3.rangeAt gt (oft + ix * 2) T2 :=
        ⟨zA1 HMP.out hf3 (HTB.out.c1 0), zA1 HMP.out hf3 (HTB.out.c1 1), zA1 HMP.out hf3 (HTB.out.c2 3), zA1 HMP.out hf3 (HTB.out.c2 1), zFC HMP.out hf3 t1⟩
      have HK0 : Hid (w3.drew.cell? ⟨w.heap.size, 0, none⟩ = some (.slice (some ⟨gt, oft, none⟩) tn tc) ∧ w3.drew.cell? ⟨w.heap.size, 1, none⟩ = some (.func (.func 95) #[] #[.pointer (some ⟨b, 0, none⟩)]) ∧ w3.drew.cell? ⟨w.heap.size + 1, 3, none⟩ = some (.string ty) ∧ w3.drew.cell? ⟨w.heap.size + 1, 1, none⟩ = some (.string mf) ∧ w3.drew.rangeAt gt (oft + ix * 2) T2) := HK0'
      have HKB : Hid (∀ W, Below w3.heap.size w3 W → W.cell? ⟨w.heap.size, 0, none⟩ = some (.slice (some ⟨gt, oft, none⟩) tn tc) ∧ W.cell? ⟨w.heap.size, 1, none⟩ = some (.func (.func 95) #[] #[.pointer (some ⟨b, 0, none⟩)]) ∧ W.cell? ⟨w.heap.size + 1, 3, none⟩ = some (.string ty) ∧ W.cell? ⟨w.heap.size + 1, 1, none⟩ = some (.string mf) ∧ W.rangeAt gt (oft + ix * 2) T2) := fun W hW =>
        ⟨(hW.cell (World.block_lt_of_cell? _ _ HK0'.1)).trans HK0'.1, (hW.cell (World.block_lt_of_cell? _ _ HK0'.2.1)).trans HK0'.2.1, (hW.cell (World.block_lt_of_cell? _ _ HK0'.2.2.1)).trans HK0'.2.2.1, (hW.cell (World.block_lt_of_cell? _ _ HK0'.2.2.2.1)).trans HK0'.2.2.2.1, zAK HK0'.2.2.2.2 hW⟩
      have c1 := HK0'.2.2.2.1
      have i1 : (0 : Int) ≤ (ix : Int) := by omega
      have i2 : (ix : Int) < (tn : Int) := by omega
      clear hf3 h9 HK0' hf o3 o4 zt t1 t2 hrd hat etn hx0 hix hty2 hs3
      go_wp2_with fail
      refine zBC (S := (fun w' => w'.cell? ⟨w.heap.size, 0, none⟩ = some (.slice (some ⟨gt, oft, none⟩) tn tc) ∧ w'.cell? ⟨w.heap.size, 1, none⟩ = some (.func (.func 95) #[] #[.pointer (some ⟨b, 0, none⟩)]) ∧ w'.cell? ⟨w.heap.size + 1, 3, none⟩ = some (.string ty) ∧ w'.cell? ⟨w.heap.size + 1, 1, none⟩ = some (.string mf) ∧ w'.rangeAt gt (oft + ix * 2) T2)) 18 #[false, false, false, false, false, false, false, false, false, false, false, false, false, false, false, false, false, false] rfl rfl (by kernel_rfl) (by { exact HK0.out }) (fun hHeld => ?_)
      refine tkq (i := 0) (v := ?v1) rfl ?hy1 ?rest1; (case hy1 => intro w0 hSw; (try dsimp only at hSw); go_simp <;> (try (with_reducible rfl))); (try simp only [puts])
      refine tkq (i := 1) (v := ?v2) rfl ?hy2 ?rest2; (case hy2 => intro w0 hSw; (try dsimp only at hSw); go_simp <;> (try (with_reducible rfl))); (try simp only [puts])
      refine tkq (i := 2) (v := ?v3) rfl ?hy3 ?rest3; (case hy3 => intro w0 hSw; (try dsimp only at hSw); go_simp <;> (try (with_reducible rfl))); (try simp only [puts])
      refine tkq (i := 3) (v := ?v4) rfl ?hy4 ?rest4; (case hy4 => intro w0 hSw; (try dsimp only at hSw); go_simp <;> (try (with_reducible rfl))); (try simp only [puts])
      refine tkq (i := 4) (v := ?v5) rfl ?hy5 ?rest5; (case hy5 => intro w0 hSw; (try dsimp only at hSw); go_simp <;> (try (with_reducible rfl))); (try simp only [puts])
      refine tkq (i := 5) (v := ?v6) rfl ?hy6 ?rest6; (case hy6 => intro w0 hSw; (try dsimp only at hSw); go_simp <;> (try (with_reducible rfl))); (try simp only [puts])
      refine tkq (i := 6) (v := ?v7) rfl ?hy7 ?rest7; (case hy7 => intro w0 hSw; (try dsimp only at hSw); go_simp <;> (try (with_reducible rfl))); (try simp only [puts])
      refine tkq (i := 10) (v := ?v8) rfl ?hy8 ?rest8; (case hy8 => intro w0 hSw; (try dsimp only at hSw); go_simp <;> (try (with_reducible rfl))); (try simp only [puts])
      refine tkq (i := 11) (v := ?v9) rfl ?hy9 ?rest9; (case hy9 => intro w0 hSw; (try dsimp only at hSw); go_simp <;> (try (with_reducible rfl))); (try simp only [puts])
      refine wpAnyH_ready (rs := [7]) (by kernel_rfl) (by simp) ?_
      refine zAV rfl (fun K hK => ?_) AllReadyH.nil
      refine zA6 95 zDL (by rfl) _ _ _ (by rfl) (.pointer (some ⟨b, 0, none⟩)) (.string ty) (by rfl) (by rfl) _ (HFT.out _ (Below.drew (Below.refl _ _))) ?_
      rintro e w9 ⟨rfl, hb9⟩
      refine ⟨_, rfl, ?_⟩
      have HB9 : Hid (Below w3.heap.size w3 w9) := zAA (Below.drew (Below.refl _ _)) hb9 (Nat.le_refl _)
      clear hb9
      refine hK.out _ _ (by { exact HKB.out _ HB9.out }) (fun hHeld => ?_)
      clear hK K
      (try simp only [puts])
      refine tkq (i := 8) (v := ?v10) rfl ?hy10 ?rest10; (case hy10 => intro w0 hSw; (try dsimp only at hSw); go_simp <;> (try (with_reducible rfl))); (try simp only [puts])
      refine tlq (i := 9) rfl (yieldsIf_load_mid (by rfl) 59 _ rfl gt (oft + ix * 2) (by rfl) T2 _ (fun _ h => h.2.2.2.2) Tryz.underlying59 rfl ZT.out) ?_
      (try simp only [puts])
      refine wpAnyH_ready (rs := [12]) (by kernel_rfl) (by simp) ?_
      refine zAV rfl (fun K hK => ?_) AllReadyH.nil
      refine zAX 129 ent_fk (by rfl) _ _ _ (by rfl) (.agg T2.toArray) (.string mf) (by rfl) (by rfl) _ (HFK.out _ HB9.out) ?_
      rintro e w10 ⟨rfl, hb10⟩
      refine ⟨_, rfl, ?_⟩
      have HB10 : Hid (Below w3.heap.size w3 w10) := zAA HB9.out hb10 HB9.out.size
      clear hb10
      refine hK.out _ _ (by { exact HKB.out _ HB10.out }) (fun hHeld => ?_)
      clear hK K
      (try simp only [puts])
      refine tkq (i := 13) (v := ?v11) rfl ?hy11 ?rest11; (case hy11 => intro w0 hSw; (try dsimp only at hSw); go_simp <;> (try (with_reducible rfl))); (try simp only [puts])
      refine tkq (i := 14) (v := ?v12) rfl ?hy12 ?rest12; (case hy12 => intro w0 hSw; (try dsimp only at hSw); go_simp <;> (try (with_reducible rfl))); (try simp only [puts])
      refine tkq (i := 15) (v := ?v13) rfl ?hy13 ?rest13; (case hy13 => intro w0 hSw; (try dsimp only at hSw); go_simp <;> (try (with_reducible rfl))); (try simp only [puts])
      refine tkq (i := 16) (v := ?v14) rfl ?hy14 ?rest14; (case hy14 => intro w0 hSw; (try dsimp only at hSw); go_simp <;> (try (with_reducible rfl))); (try simp only [puts])
      refine tkq (i := 17) (v := ?v15) rfl ?hy15 ?rest15; (case hy15 => intro w0 hSw; (try dsimp only at hSw); go_simp <;> (try (with_reducible rfl))); (try simp only [puts])
      refine wpAnyH_done (by kernel_rfl) ?_ _
      clear hHeld c1
      have HFF : Hid (Fr (fun i => i = mb) w w10) := HF.out.trans (Fr.of_below HB10.out)
      have HKK : Hid (Km w10 mb (Ks ++ [(va, (3, tyq ts ty))]) (n + 1)) := HK.out.later HB10.out
      by_cases hz : f2 = 0
      . subst hz
        by_cases hy : f1 = 1
        . subst hy
          have HR2 : Hid (E = 0) := by show _ = _; rw [HR.out]; simp
          go_wp2_with fail
          go_ret
          exact ⟨by rw [HR2.out]; rfl, HFF.out, fun _ => HKK.out⟩
        . have HR2 : Hid (E = 13) := by show _ = _; rw [HR.out]; simp [hy]
          have d1 : (f1 != 1) = true := by simpa using hy
          clear hy
          go_wp2_with fail
          go_ret
          exact ⟨by rw [HR2.out]; rfl, HFF.out, fun c => by rw [HR2.out] at c; cases c⟩
      . have HR2 : Hid (E = f2) := by show _ = _; rw [HR.out]; simp [hz]
        have d1 : (f2 == 0) = false := by simpa using hz
        have HZ := hid hz
        clear hz
        go_wp2_with fail
        go_ret
        exact ⟨by rw [HR2.out]; rfl, HFF.out, fun c => absurd (HR2.out.symm.trans c) HZ.out⟩
    . obtain ⟨rfl, hF, _⟩ := hr.pq HB.out
      have HF := hid hF
      have HR : Hid (E = e9) := by show _ = _; rw [← HE.out]; exact HM3.out h9
      have H9 := hid h9
      have d1 : (e9 != 0) = true := by simpa using h9
      clear hr h9 hF
      go_wp2_with fail
      go_ret
      exact ⟨by rw [HR.out]; rfl, HF.out, fun c => absurd (HR.out.symm.trans c) H9.out⟩
  . have HBD : Hid (mbad ⟨mc, mf, ⟨va, ty, ⟨ck, csb, l, r⟩, pw, pn⟩⟩ = true) := by show _ = _; unfold mbad; simp only; rw [hem]; simp; omega
    by_cases hlo : mc < 0
    . clear hr hem
      have HR : Hid (E = 2) := by show _ = _; rw [← HE.out]; exact zC8 HBD.out
      go_enter Tryz.func91, Tryz.ntmps91
      go_wp2_with fail
      go_ret
      exact ⟨by rw [HR.out]; rfl, Fr.of_below HT.out.bel, fun c => by rw [HR.out] at c; cases c⟩
    . have g2 : 1125899906842624 < mc := by omega
      clear hr hem
      have HR : Hid (E = 2) := by show _ = _; rw [← HE.out]; exact zC8 HBD.out
      go_enter Tryz.func91, Tryz.ntmps91
      go_wp2_with fail
      go_ret
      exact ⟨by rw [HR.out]; rfl, Fr.of_below HT.out.bel, fun c => by rw [HR.out] at c; cases c⟩
def optP (r l h : Int) : Int := if 1 ≤ r ∧ r ≤ 13 then (if 0 ≤ l ∧ l ≤ 1073741824 ∧ -1 ≤ h ∧ h ≤ 1073741824 then (if h ≠ -1 ∧ h < l then 11 else 0) else 2) else 3
theorem zF4        (r l h : Int) : ¬ 1 ≤ r ∨ (1 ≤ r ∧ ¬ r ≤ 13) ∨ (1 ≤ r ∧ r ≤ 13 ∧ ¬ 0 ≤ l) ∨ (1 ≤ r ∧ r ≤ 13 ∧ 0 ≤ l ∧ ¬ l ≤ 1073741824) ∨ (1 ≤ r ∧ r ≤ 13 ∧ 0 ≤ l ∧ l ≤ 1073741824 ∧ ¬ -1 ≤ h) ∨ (1 ≤ r ∧ r ≤ 13 ∧ 0 ≤ l ∧ l ≤ 1073741824 ∧ -1 ≤ h ∧ ¬ h ≤ 1073741824)
    ∨ (1 ≤ r ∧ r ≤ 13 ∧ 0 ≤ l ∧ l ≤ 1073741824 ∧ h = -1) ∨ (1 ≤ r ∧ r ≤ 13 ∧ 0 ≤ l ∧ l ≤ 1073741824 ∧ 0 ≤ h ∧ h ≤ 1073741824 ∧ l ≤ h) ∨ (1 ≤ r ∧ r ≤ 13 ∧ 0 ≤ l ∧ l ≤ 1073741824 ∧ 0 ≤ h ∧ h ≤ 1073741824 ∧ ¬ l ≤ h) := by omega
theorem opt_anyP (r l h : Int) (w : World) :
   Calls Tryz.prog 132 #[.agg #[.int .i64 r, .int .i64 l, .int .i64 h]] w fun e w' => e = .returned (.int .i64 (optP r l h)) ∧ Below w.heap.size w w' := by
 rcases zF4 r l h with h0 | ⟨h0, h1⟩ | ⟨h0, h1, h2⟩ | ⟨h0, h1, h2, h3⟩ | ⟨h0, h1, h2, h3, h4⟩ | ⟨h0, h1, h2, h3, h4, h5⟩ | ⟨h0, h1, h2, h3, h4⟩ | ⟨h0, h1, h2, h3, h4, h5, h6⟩ | ⟨h0, h1, h2, h3, h4, h5, h6⟩
 . rw [show optP r l h = 3 from by unfold optP; rw [if_neg (by omega)]]
   go_enter Tryz.func132, Tryz.ntmps132
   go_wp2
   go_ret
   exact ⟨rfl, by go_grown⟩
 . rw [show optP r l h = 3 from by unfold optP; rw [if_neg (by omega)]]
   go_enter Tryz.func132, Tryz.ntmps132
   go_wp2
   go_ret
   exact ⟨rfl, by go_grown⟩
 . rw [show optP r l h = 2 from by unfold optP; rw [if_pos (by omega), if_neg (by omega)]]
   go_enter Tryz.func132, Tryz.ntmps132
   go_wp2
   go_ret
   exact ⟨rfl, by go_grown⟩
 . rw [show optP r l h = 2 from by unfold optP; rw [if_pos (by omega), if_neg (by omega)]]
   go_enter Tryz.func132, Tryz.ntmps132
   go_wp2
   go_ret
   exact ⟨rfl, by go_grown⟩
 . rw [show optP r l h = 2 from by unfold optP; rw [if_pos (by omega), if_neg (by omega)]]
   go_enter Tryz.func132, Tryz.ntmps132
   go_wp2
   go_ret
   exact ⟨rfl, by go_grown⟩
 . rw [show optP r l h = 2 from by unfold optP; rw [if_pos (by omega), if_neg (by omega)]]
   go_enter Tryz.func132, Tryz.ntmps132
   go_wp2
   go_ret
   exact ⟨rfl, by go_grown⟩
 . rw [show optP r l h = 0 from by unfold optP; rw [if_pos (by omega), if_pos (by omega), if_neg (by omega)]]
   subst h4
   go_enter Tryz.func132, Tryz.ntmps132
   go_wp2
   go_ret
   exact ⟨rfl, by go_grown⟩
 . rw [show optP r l h = 0 from by unfold optP; rw [if_pos (by omega), if_pos (by omega), if_neg (by omega)]]
   have hn : (h != -1) = true := by simp; omega
   go_enter Tryz.func132, Tryz.ntmps132
   go_wp2
   go_ret
   exact ⟨rfl, by go_grown⟩
 . rw [show optP r l h = 11 from by unfold optP; rw [if_pos (by omega), if_pos (by omega), if_pos (by omega)]]
   have hn : (h != -1) = true := by simp; omega
   go_enter Tryz.func132, Tryz.ntmps132
   go_wp2
   go_ret
   exact ⟨rfl, by go_grown⟩
theorem ock_eq (r l h : Int) : optP r l h = ock r l h := by
 unfold optP ock
 by_cases h1 : 1 ≤ r ∧ r ≤ 13
 . have h1' : ¬ ¬ (1 ≤ r ∧ r ≤ 13) := fun c => c h1
   rw [if_pos h1, if_neg h1']
   by_cases h2 : 0 ≤ l ∧ l ≤ 1073741824 ∧ -1 ≤ h ∧ h ≤ 1073741824
   . have h3 : ¬ (¬ (0 ≤ l ∧ l ≤ 1073741824) ∨ ¬ (-1 ≤ h ∧ h ≤ 1073741824)) := by omega
     rw [if_pos h2, if_neg h3]
   . have h3 : ¬ (0 ≤ l ∧ l ≤ 1073741824) ∨ ¬ (-1 ≤ h ∧ h ≤ 1073741824) := by omega
     rw [if_neg h2, if_pos h3]
 . rw [if_neg h1, if_pos h1]
theorem zCF (r l h : Int) (w : World) : Calls Tryz.prog 132 #[.agg #[.int .i64 r, .int .i64 l, .int .i64 h]] w fun e w' => e = .returned (.int .i64 (ock r l h)) ∧ Below w.heap.size w w' := by
  have := opt_anyP r l h w
  rw [ock_eq] at this
  exact this
theorem zCG (os : List Op3) (v : Value) (w : World) (h : Rd w (.row 63 3 (os.map encQ)) v) :
  Calls Tryz.prog 131 #[v, .func (.func 132) #[] #[]] w fun e w' => e = .returned (.int .i64 (ofs os)) ∧ Below w.heap.size w w' := by
 obtain ⟨p, cap, rfl, hmx, hat⟩ := zAG lenQ h
 have HAT : Hid (At encQ 3 w p os) := hat
 obtain ⟨n, hnl⟩ : ∃ n, os.length = n := ⟨_, rfl⟩
 have HN := hid hnl
 obtain ⟨R, hR⟩ : ∃ R, ofs os = R := ⟨_, rfl⟩
 have HR := hid hR
 rw [hR]
 rw [hnl] at hmx ⊢
 clear h hat hnl hR
 go_enter Tryz.func131, Tryz.ntmps131
 go_wp2_with fail
 go_loopg [10] (n + 1) (fun gg i wr => ∃ k : Nat, k ≤ n ∧ gg = n + 1 - k ∧ i = .int .i64 (k : Nat) ∧ ofs (os.drop k) = R ∧ Below w.heap.size w wr)
 case atStart => exact ⟨0, by omega, by omega, rfl, HR.out, Below.refl _ _⟩
 case round =>
  obtain ⟨k, hk, rfl, rfl, hof, hB⟩ := hrel
  have HB := hid hB
  by_cases hlt : k < n
  . have hkc : k < os.length := by have := HN.out; omega
    obtain ⟨g, off, rfl, hrd⟩ := HAT.out (by omega)
    obtain ⟨us, r1, o1⟩ := hrd wr hB k hkc
    rw [rdQ o1] at r1
    rw [List.drop_eq_getElem_cons hkc, ofs] at hof
    obtain ⟨⟨xr, xl, xh⟩, hd⟩ : ∃ d, os[k] = d := ⟨_, rfl⟩
    rw [hd] at r1 hof
    simp only at r1 hof
    have c0 : wr.cell? ⟨g, off + k * 3, none⟩ = some (.int .i64 xr) := by simpa using r1 0 _ rfl
    have c1 : wr.cell? ⟨g, off + k * 3 + 1, none⟩ = some (.int .i64 xl) := r1 1 _ rfl
    have c2 : wr.cell? ⟨g, off + k * 3 + 2, none⟩ = some (.int .i64 xh) := r1 2 _ rfl
    have HC := hid (fun W => zCF xr xl xh W)
    obtain ⟨q, hq⟩ : ∃ q, ock xr xl xh = q := ⟨_, rfl⟩
    rw [hq] at HC hof
    have HOF := hid hof
    have HBA : Hid (Below w.heap.size w (wr.alloc (.cells #[.int .i64 xr, .int .i64 xl, .int .i64 xh] 63))) := HB.out.alloc HB.out.size _
    have i1 : (0 : Int) ≤ (k : Int) := by omega
    have i2 : (k : Int) < (n : Int) := by omega
    clear hof hB hrd o1 r1 hq hd
    by_cases hz : q = 0
    . have HO2 : Hid (ofs (os.drop (k + 1)) = R) := by have h := HOF.out; rw [if_neg (fun c => c hz)] at h; exact h
      subst hz
      go_wp2_with (go_at_call 132; refine (HC.out _).mono ?_; rintro e w2 ⟨rfl, hb2⟩; have HB2 := hid (zAA HBA.out hb2 HBA.out.size); clear hb2)
      go_roundg (n + 1 - (k + 1))
      case rel => exact ⟨k + 1, by omega, rfl, by go_num, HO2.out, HB2.out⟩
      case measure => omega
    . have HO2 : Hid (R = q) := by have h := HOF.out; rw [if_pos hz] at h; exact h.symm
      have d1 : (q != 0) = true := by simpa using hz
      clear hz
      go_wp2_with (go_at_call 132; refine (HC.out _).mono ?_; rintro e w2 ⟨rfl, hb2⟩; have HB2 := hid (zAA HBA.out hb2 HBA.out.size); clear hb2)
      go_ret
      exact ⟨zAD HO2.out.symm, HB2.out⟩
  . obtain rfl : k = n := by omega
    have hd : os.drop k = [] := List.drop_of_length_le (by have := HN.out; omega)
    rw [hd, ofs] at hof
    have HO2 := hid hof
    clear hof hB hd
    go_wp2_with fail
    go_ret
    exact ⟨zAD HO2.out, HB.out⟩
theorem zD8 (x : Int) (q : Bool) (hq : decide (x = 1 ∨ x = 2) = q) (w : World) : Calls Tryz.prog 130 #[.int .i64 x] w fun e w' => e = .returned (.bool q) ∧ w' = w := by
 subst hq
 by_cases h1 : x = 1
 . subst h1
   go_enter Tryz.func130, Tryz.ntmps130
   go_wp2_with fail
   go_ret
   exact ⟨rfl, rfl⟩
 . have d1 : (x == 1) = false := by simpa using h1
   by_cases h2 : x = 2
   . subst h2
     go_enter Tryz.func130, Tryz.ntmps130
     go_wp2_with fail
     go_ret
     exact ⟨rfl, rfl⟩
   . have d2 : (x == 2) = false := by simpa using h2
     go_enter Tryz.func130, Tryz.ntmps130
     go_wp2_with fail
     go_ret
     exact ⟨zAO (by simp [h1, h2]), rfl⟩
def Knl (ws ns : List Pt) (Ks : Kns) : Prop := ∀ va : ByteArray, (((lkp Ks va.data.toList).getD (0, 0)).1 = 1 ↔ 0 ≤ ptq ws va) ∧ (((lkp Ks va.data.toList).getD (0, 0)).1 = 2 ↔ ptq ws va < 0 ∧ 0 ≤ ptq ns va)
theorem link_any (ts : List Tp) (ws ns : List Pt) (b mb : Nat) (Ks : Kns) (n : Nat) (hkl : Knl ws ns Ks) (kl kr : ByteArray) (os : List Op3) (tv ov : Value) (w : World) (hs : Scp w ts tv b mb Ks n) (hO : Rd w (.row 63 3 (os.map encQ)) ov) (hzl : kl.size ≤ maxLen) (hzr : kr.size ≤ maxLen) :
   Calls Tryz.prog 93 #[scV tv b mb, .agg #[.string kl, ov, .string kr]] w fun e w' => e = .returned (.int .i64 (lck ws ns kl kr os)) ∧ Below w.heap.size w w' := by
 have HFO := hid (fun W (hW : Below w.heap.size w W) => zCG os ov W (hO.later hW))
 obtain ⟨op, oc, rfl, hmx, _⟩ := zAG lenQ hO
 obtain ⟨tp, tn, tc, rfl⟩ := zAB hs.rt
 obtain ⟨p1, p2, hp⟩ : ∃ p1 p2, (lkp Ks kl.data.toList).getD (0, 0) = (p1, p2) := ⟨_, _, rfl⟩
 obtain ⟨q1, q2, hq⟩ : ∃ q1 q2, (lkp Ks kr.data.toList).getD (0, 0) = (q1, q2) := ⟨_, _, rfl⟩
 have hL := hkl kl
 have hR := hkl kr
 rw [hp] at hL
 rw [hq] at hR
 simp only at hL hR
 obtain ⟨on, hon⟩ : ∃ l, os.length = l := ⟨_, rfl⟩
 rw [hon] at hmx HFO ⊢
 have HT : Hid (Blk2 w ((w.alloc (.cells [.slice tp tn tc, .func (.func 95) #[] #[.pointer (some ⟨b, 0, none⟩)], .map (some mb)].toArray 174)).alloc (.cells [.string kl, .slice op on oc, .string kr].toArray 66)) [.slice tp tn tc, .func (.func 95) #[] #[.pointer (some ⟨b, 0, none⟩)], .map (some mb)] [.string kl, .slice op on oc, .string kr] 174 66) := Blk2.start w _ _ _ _
 have km := (hs.later HT.out.bel).km
 have lk1 : ∀ k, (Instr.lookup 172 (.map (some mb)) (.string kl) false).run Tryz.prog (((w.alloc (.cells [.slice tp tn tc, .func (.func 95) #[] #[.pointer (some ⟨b, 0, none⟩)], .map (some mb)].toArray 174)).alloc (.cells [.string kl, .slice op on oc, .string kr].toArray 66)).drewN k) = .ok (.agg #[.int .i64 p1, .int .i64 p2]) (((w.alloc (.cells [.slice tp tn tc, .func (.func 95) #[] #[.pointer (some ⟨b, 0, none⟩)], .map (some mb)].toArray 174)).alloc (.cells [.string kl, .slice op on oc, .string kr].toArray 66)).drewN k) := fun k => by
   have := (km.later (zAJ (Below.refl _ _) k)).look hzl
   rw [hp] at this
   exact this
 have lk2 : ∀ k, (Instr.lookup 172 (.map (some mb)) (.string kr) false).run Tryz.prog (((w.alloc (.cells [.slice tp tn tc, .func (.func 95) #[] #[.pointer (some ⟨b, 0, none⟩)], .map (some mb)].toArray 174)).alloc (.cells [.string kl, .slice op on oc, .string kr].toArray 66)).drewN k) = .ok (.agg #[.int .i64 q1, .int .i64 q2]) (((w.alloc (.cells [.slice tp tn tc, .func (.func 95) #[] #[.pointer (some ⟨b, 0, none⟩)], .map (some mb)].toArray 174)).alloc (.cells [.string kl, .slice op on oc, .string kr].toArray 66)).drewN k) := fun k => by
   have := (km.later (zAJ (Below.refl _ _) k)).look hzr
   rw [hq] at this
   exact this
 have hfl := zFE
 have HFB := hid (fun x q hq W => zD8 x q hq W)
 obtain ⟨R, hRR⟩ : ∃ R, lck ws ns kl kr os = R := ⟨_, rfl⟩
 rw [hRR]
 unfold lck at hRR
 rw [hon] at hRR
 have HR := hid hRR
 have HL := hid hL
 have HRt := hid hR
 clear hRR hL hR hkl hO hs hzl hzr hp hq hon km
 by_cases hl : p1 = 1 ∨ p1 = 2
 . by_cases hr : q1 = 1 ∨ q1 = 2
   . have hc1 : ¬ ((ptq ws kl < 0 ∧ ptq ns kl < 0) ∨ (ptq ws kr < 0 ∧ ptq ns kr < 0)) := by
      obtain ⟨a1, a2⟩ := HL.out
      obtain ⟨b1, b2⟩ := HRt.out
      omega
     have HR1 := HR.out
     rw [if_neg hc1] at HR1
     cases hsq : seq kl kr with
     | true =>
      have HRR : Hid (R = 4) := by show _ = _; rw [← HR1, if_pos (.inl hsq)]
      have d0 : (kl.toList == kr.toList) = true := hsq
      have HDL := hid (show decide (p1 = 1 ∨ p1 = 2) = true by simpa using hl)
      have HDR := hid (show decide (q1 = 1 ∨ q1 = 2) = true by simpa using hr)
      clear hl hr hc1 HR1 hsq HR HL HRt
      go_enter Tryz.func93, Tryz.ntmps93
      go_wp2_with fail
      go_quiet (fail)
      go_wp2_with fail
      refine (HFB.out _ true HDL.out _).mono ?_
      rintro e _ ⟨rfl, rfl⟩
      go_wp2_with fail
      refine (HFB.out _ true HDR.out _).mono ?_
      rintro e _ ⟨rfl, rfl⟩
      go_wp2_with fail
      go_ret
      exact ⟨zAD HRR.out.symm, zAJ HT.out.bel _⟩
     | false =>
      have d0 : (kl.toList == kr.toList) = false := hsq
      by_cases h22 : p1 = 2 ∧ q1 = 2
      . have HRR : Hid (R = 4) := by
          show _ = _
          obtain ⟨a1, a2⟩ := HL.out
          obtain ⟨b1, b2⟩ := HRt.out
          rw [← HR1, if_pos (.inr ⟨(a2.1 h22.1).1, (b2.1 h22.2).1⟩)]
        obtain ⟨rfl, rfl⟩ := h22
        clear hl hr hc1 HR1 hsq HR HL HRt
        go_enter Tryz.func93, Tryz.ntmps93
        go_wp2_with fail
        go_quiet (fail)
        go_wp2_with fail
        refine (HFB.out _ true (by decide) _).mono ?_
        rintro e _ ⟨rfl, rfl⟩
        go_wp2_with fail
        refine (HFB.out _ true (by decide) _).mono ?_
        rintro e _ ⟨rfl, rfl⟩
        go_wp2_with fail
        go_ret
        exact ⟨zAD HRR.out.symm, zAJ HT.out.bel _⟩
      . have HR2 := HR1
        rw [if_neg (by
          obtain ⟨a1, a2⟩ := HL.out
          obtain ⟨b1, b2⟩ := HRt.out
          rw [hsq]
          simp
          omega)] at HR2
        have HDL := hid (show decide (p1 = 1 ∨ p1 = 2) = true by simpa using hl)
        have HDR := hid (show decide (q1 = 1 ∨ q1 = 2) = true by simpa using hr)
        have hwy : (p1 = 2 ∧ q1 ≠ 2) ∨ p1 ≠ 2 := by omega
        have HR3 := hid HR2
        clear hl hr hc1 HR1 HR2 hsq HR HL HRt h22
        rcases (by omega : on < 1 ∨ 6 < on ∨ (1 ≤ on ∧ on ≤ 6)) with ho | ho | ho
        . have HRR : Hid (R = 1) := by show _ = _; rw [← HR3.out, if_pos (by omega)]
          have g1 : (on : Int) < 1 := by omega
          clear HR3 ho
          rcases hwy with ⟨rfl, hw⟩ | hw
          . have e2 : (q1 == 2) = false := by simpa using hw
            clear hw
            go_enter Tryz.func93, Tryz.ntmps93
            go_wp2_with fail
            go_quiet (fail)
            go_wp2_with fail
            refine (HFB.out _ true HDL.out _).mono ?_
            rintro e _ ⟨rfl, rfl⟩
            go_wp2_with fail
            refine (HFB.out _ true HDR.out _).mono ?_
            rintro e _ ⟨rfl, rfl⟩
            go_wp2_with fail
            go_ret
            exact ⟨zAD HRR.out.symm, zAJ HT.out.bel _⟩
          . have e2 : (p1 == 2) = false := by simpa using hw
            clear hw
            go_enter Tryz.func93, Tryz.ntmps93
            go_wp2_with fail
            go_quiet (fail)
            go_wp2_with fail
            refine (HFB.out _ true HDL.out _).mono ?_
            rintro e _ ⟨rfl, rfl⟩
            go_wp2_with fail
            refine (HFB.out _ true HDR.out _).mono ?_
            rintro e _ ⟨rfl, rfl⟩
            go_wp2_with fail
            go_ret
            exact ⟨zAD HRR.out.symm, zAJ HT.out.bel _⟩
        . have HRR : Hid (R = 1) := by show _ = _; rw [← HR3.out, if_pos (by omega)]
          have g1 : ¬ (on : Int) < 1 := by omega
          have g2 : (6 : Int) < (on : Int) := by omega
          clear HR3 ho
          rcases hwy with ⟨rfl, hw⟩ | hw
          . have e2 : (q1 == 2) = false := by simpa using hw
            clear hw
            go_enter Tryz.func93, Tryz.ntmps93
            go_wp2_with fail
            go_quiet (fail)
            go_wp2_with fail
            refine (HFB.out _ true HDL.out _).mono ?_
            rintro e _ ⟨rfl, rfl⟩
            go_wp2_with fail
            refine (HFB.out _ true HDR.out _).mono ?_
            rintro e _ ⟨rfl, rfl⟩
            go_wp2_with fail
            go_ret
            exact ⟨zAD HRR.out.symm, zAJ HT.out.bel _⟩
          . have e2 : (p1 == 2) = false := by simpa using hw
            clear hw
            go_enter Tryz.func93, Tryz.ntmps93
            go_wp2_with fail
            go_quiet (fail)
            go_wp2_with fail
            refine (HFB.out _ true HDL.out _).mono ?_
            rintro e _ ⟨rfl, rfl⟩
            go_wp2_with fail
            refine (HFB.out _ true HDR.out _).mono ?_
            rintro e _ ⟨rfl, rfl⟩
            go_wp2_with fail
            go_ret
            exact ⟨zAD HRR.out.symm, zAJ HT.out.bel _⟩
        . have HRR : Hid (R = ofs os) := by show _ = _; rw [← HR3.out, if_neg (by omega)]
          have g1 : ¬ (on : Int) < 1 := by omega
          have g2 : ¬ (6 : Int) < (on : Int) := by omega
          clear HR3 ho
          rcases hwy with ⟨rfl, hw⟩ | hw
          . have e2 : (q1 == 2) = false := by simpa using hw
            clear hw
            go_enter Tryz.func93, Tryz.ntmps93
            go_wp2_with fail
            go_quiet (fail)
            go_wp2_with fail
            refine (HFB.out _ true HDL.out _).mono ?_
            rintro e _ ⟨rfl, rfl⟩
            go_wp2_with fail
            refine (HFB.out _ true HDR.out _).mono ?_
            rintro e _ ⟨rfl, rfl⟩
            go_wp2_with fail
            refine (HFO.out _ (zAJ HT.out.bel _)).mono ?_
            rintro e w2 ⟨rfl, hb2⟩
            have HB2 := hid (zAA (zAJ HT.out.bel _) hb2 (zAJ HT.out.bel _).size)
            clear hb2
            go_wp2_with fail
            go_ret
            exact ⟨zAD HRR.out.symm, HB2.out⟩
          . have e2 : (p1 == 2) = false := by simpa using hw
            clear hw
            go_enter Tryz.func93, Tryz.ntmps93
            go_wp2_with fail
            go_quiet (fail)
            go_wp2_with fail
            refine (HFB.out _ true HDL.out _).mono ?_
            rintro e _ ⟨rfl, rfl⟩
            go_wp2_with fail
            refine (HFB.out _ true HDR.out _).mono ?_
            rintro e _ ⟨rfl, rfl⟩
            go_wp2_with fail
            refine (HFO.out _ (zAJ HT.out.bel _)).mono ?_
            rintro e w2 ⟨rfl, hb2⟩
            have HB2 := hid (zAA (zAJ HT.out.bel _) hb2 (zAJ HT.out.bel _).size)
            clear hb2
            go_wp2_with fail
            go_ret
            exact ⟨zAD HRR.out.symm, HB2.out⟩
   . have HRR : Hid (R = 6) := by
      show _ = _
      obtain ⟨b1, b2⟩ := HRt.out
      rw [← HR.out, if_pos (.inr (by omega))]
     have HDL := hid (show decide (p1 = 1 ∨ p1 = 2) = true by simpa using hl)
     have HDR := hid (show decide (q1 = 1 ∨ q1 = 2) = false by simpa using hr)
     clear hl hr HR HL HRt
     go_enter Tryz.func93, Tryz.ntmps93
     go_wp2_with fail
     go_quiet (fail)
     go_wp2_with fail
     refine (HFB.out _ true HDL.out _).mono ?_
     rintro e _ ⟨rfl, rfl⟩
     go_wp2_with fail
     refine (HFB.out _ false HDR.out _).mono ?_
     rintro e _ ⟨rfl, rfl⟩
     go_wp2_with fail
     go_ret
     exact ⟨zAD HRR.out.symm, zAJ HT.out.bel _⟩
 . have HRR : Hid (R = 6) := by
     show _ = _
     obtain ⟨a1, a2⟩ := HL.out
     rw [← HR.out, if_pos (.inl (by omega))]
   have HDL := hid (show decide (p1 = 1 ∨ p1 = 2) = false by simpa using hl)
   clear hl HR HL HRt
   go_enter Tryz.func93, Tryz.ntmps93
   go_wp2_with fail
   go_quiet (fail)
   go_wp2_with fail
   refine (HFB.out _ false HDL.out _).mono ?_
   rintro e _ ⟨rfl, rfl⟩
   go_wp2_with fail
   go_ret
   exact ⟨zAD HRR.out.symm, zAJ HT.out.bel _⟩
end Go.Proofs.YtnlmknbhppdliaaGreatDoor.Chk
