/-
  What a type's events may be needed for: the needs of a rule. What a rule of a book that may be has. The plan of a rule of a book: by the program, by the document.
-/
import Derived.Test.YtnlmknbhppdliaaGreatDoorPt
import Derived.Test.YtnlmknbhppdliaaGreatDoorDt
import Derived.Test.YtnlmknbhppdliaaGreatDoorPh
import Derived.Test.YtnlmknbhppdliaaGreatDoorB8X
set_option maxHeartbeats 64000000
namespace Go.Proofs.YtnlmknbhppdliaaGreatDoor.Chk
open Go.ChangeShapes Go.WideShapes Go.ChangeAt Go.RowKit Go.Maps
open B8 (Mx OwnM New zA5)
set_option linter.unusedVariables false
set_option linter.unusedSimpArgs false
set_option maxRecDepth 20000
def rW (ts : List Tp) (ws : List Pt) (f : Nat → Int) : Nat → (Nat → Int) → (Nat → Int)
  | 0, z => z
  | k + 1, z => rz ts (wAt ws k).ty (f k) (rW ts ws f k z)
def rM (ts : List Tp) (ms : List Mn) (f : Nat → Int) : Nat → (Nat → Int) → (Nat → Int)
  | 0, z => z
  | k + 1, z => rz ts (ms.getD k mn0).p.ty (f k) (rM ts ms f k z)
theorem wAt_lt {ws : List Pt} {k : Nat} (h : k < ws.length) : wAt ws k = ws[k] := by
  unfold wAt
  rw [List.getD_eq_getElem?_getD, List.getElem?_eq_getElem h]
  rfl
theorem RwN.fr {B g n : Nat} {w W : World} {v : Value} {z : Nat → Int} (h : RwN B w v n z) (hf : Fr (fun i => i = g) w W) (hg : g < B) : RwN B W v n z := by
 obtain ⟨⟨⟨p, cap, e, h1, h2, h3⟩, h4⟩, h5⟩ := h
 refine ⟨⟨⟨p, cap, e, h1, h2, fun h0 => ?_⟩, fun q off c e2 => ?_⟩, h5⟩
 . obtain ⟨q, off, rfl, hc⟩ := h3 h0
   obtain ⟨cs, hcs⟩ := h4 q off cap e
   have hq := h5 q off cap e
   refine ⟨q, off, rfl, fun k hk => ?_⟩
   have h6 := (hf.block q (zAE hcs) (by omega)).trans hcs
   rw [zAB h6]
   have h7 := hc k hk
   rw [zAB hcs] at h7
   exact h7
 . obtain ⟨cs, hcs⟩ := h4 q off c e2
   have hq := h5 q off c e2
   exact ⟨cs, (hf.block q (zAE hcs) (by omega)).trans hcs⟩
theorem RwN.later {B n : Nat} {w W : World} {v : Value} {z : Nat → Int} (h : RwN B w v n z) (hb : Below w.heap.size w W) : RwN B W v n z := ⟨h.1.later hb, h.2⟩
theorem zGR {P : Program} {o : Oper} {a : Act} {w : World} {K : Act → World → Prop} {Q : Exit → Act → World → Prop} (f : FuncId) (he : ∀ args w, (callFunc f args).run P w = .ok (.enter f args) w) (x0 x1 x2 : Operand) (ts : Array TypeId) (ho : o.op = .call { callee := .value x0, args := #[x1, x2], argTypes := ts }) (c d u1 u2 : Value) (h0 : a.eval x0 = .func (.func f) #[] #[c, d]) (h1 : a.eval x1 = u1) (h2 : a.eval x2 = u2)
  (R : Ending → World → Prop) (hc : Calls P f #[u1, u2, c, d] w R) (h : ∀ e w', R e w' → ∃ v, e = .returned v ∧ K (a.put o.dst v) w') : Oper.wp P o a w K Q := by
 unfold Oper.wp execOp
 simp [ho, resolve, invoke, Deferred.ofValue, h0, h1, h2, he]
 refine hc.mono ?_
 intro e w' hr
 obtain ⟨v, rfl, hk⟩ := h e w' hr
 exact hk
theorem zGT : ∀ args w, (callFunc 29 args).run Tryz.prog w = .ok (.enter 29 args) w := enters_of Tryz.func29 (by kernel_rfl) rfl
theorem zEQ {w : World} {g n b : Nat} {f : Nat → Value} {cs : Array Value} {T : TypeId} (h : w.rowIs g 3 n f) (hb : w.heap[b]? = some (.cells cs T (0, 0))) (hT : 3 ≠ T) : b ≠ g := by
  obtain ⟨c, h1, _⟩ := h
  intro e
  subst e
  rw [h1] at hb
  simp only [Option.some.injEq, Obj.cells.injEq] at hb
  exact absurd hb.2.1 hT
theorem zFS (ts : List Tp) (ws us : List Pt) (ms : List Mn) (P1 P2 P3 : Nat → Int) (d : Int) (tv rv : Value) (bB bO g n B : Nat) (z0 : Nat → Int) (rn rt : ByteArray) (a1 : Option Addr) (a2 a3 : Nat) (a4 : Option Addr) (a5 a6 : Nat) (a7 : Option Addr) (a8 a9 : Nat) (b1_ : Option Addr) (b2_ b3_ : Nat) (b4_ : Option Addr) (b5_ b6_ : Nat) (pa pb pc : Option Addr) (ca cb cc : Nat) (wA w : World)
  (hA : Below wA.heap.size wA w) (hgA : wA.heap.size ≤ g) (hgB : g < B) (hBw : B ≤ w.heap.size) (hW : Rd wA (.row 48 18 (ws.map encP)) (.slice a1 a2 a3)) (hU : Rd wA (.row 48 18 (us.map encP)) (.slice a4 a5 a6)) (hM : Rd wA (.row 78 20 (ms.map encM)) (.slice a7 a8 a9)) (hT : Rd wA (.row 59 2 (ts.map encY)) tv) (hl2 : a2 ≤ 3) (hl5 : a5 ≤ 2) (hl8 : a8 ≤ 2)
  (hq1 : ∀ p, p ∈ ws → 0 ≤ tyq ts p.ty) (hq2 : ∀ p, p ∈ us → 0 ≤ tyq ts p.ty) (hq3 : ∀ m, m ∈ ms → 0 ≤ tyq ts m.p.ty) (hn : ts.length = n) (hn2 : n ≤ 1000) (hn1 : RwN B w (.slice pa a2 ca) a2 P1) (hn2' : RwN B w (.slice pb a5 cb) a5 P2) (hn3 : RwN B w (.slice pc a8 cc) a8 P3)
  (hB : w.heap[bB]? = some (.cells #[tv, rv] 28 (0, 0))) (hO : w.heap[bO]? = some (.cells #[.slice (some ⟨g, 0, none⟩) n n] 67 (0, 0))) (hr : w.rowIs g 3 n (fun i => .int .i64 (z0 i))) :
  Calls Tryz.prog 32 #[.agg #[.string rn, .slice a1 a2 a3, .slice a4 a5 a6, .slice a7 a8 a9, .slice b1_ b2_ b3_, .string rt, .slice b4_ b5_ b6_], .agg #[.int .i64 d, .slice pa a2 ca, .slice pb a5 cb, .slice pc a8 cc], .func (.func 29) #[] #[.pointer (some ⟨bB, 0, none⟩), .pointer (some ⟨bO, 0, none⟩)]] w fun e w' => e = .returned (.tuple #[]) ∧ w'.rowIs g 3 n (fun i => .int .i64 (rM ts ms P3 a8 (rW ts us P2 a5 (rW ts ws P1 a2 z0)) i)) ∧ Fr (fun i => i = g) w w' := by
 obtain ⟨wp_, wc_, e1, _, hat1⟩ := zAK lenP hW
 obtain ⟨tp_, tc_, e2, _, hat2⟩ := zAK lenP hU
 obtain ⟨mp_, mc_, e3, _, hat3⟩ := zAK lenM hM
 simp only [Value.slice.injEq] at e1 e2 e3
 obtain ⟨rfl, e1, rfl⟩ := e1
 obtain ⟨rfl, e2, rfl⟩ := e2
 obtain ⟨rfl, e3, rfl⟩ := e3
 have HL : Hid (ws.length = a2 ∧ us.length = a5 ∧ ms.length = a8 ∧ a2 ≤ 3 ∧ a5 ≤ 2 ∧ a8 ≤ 2) := ⟨e1.symm, e2.symm, e3.symm, hl2, hl5, hl8⟩
 have HAT1 := hid hat1
 have HAT2 := hid hat2
 have HAT3 := hid hat3
 obtain ⟨W0, hW0⟩ : ∃ W, (w.alloc (.cells #[.string rn, .slice a1 a2 a3, .slice a4 a5 a6, .slice a7 a8 a9, .slice b1_ b2_ b3_, .string rt, .slice b4_ b5_ b6_] 56)).alloc (.cells #[.int .i64 d, .slice pa a2 ca, .slice pb a5 cb, .slice pc a8 cc] 69) = W := ⟨_, rfl⟩
 have hbx := bxs2 w [.string rn, .slice a1 a2 a3, .slice a4 a5 a6, .slice a7 a8 a9, .slice b1_ b2_ b3_, .string rt, .slice b4_ b5_ b6_] [.int .i64 d, .slice pa a2 ca, .slice pb a5 cb, .slice pc a8 cc] 56 69
 rw [hW0] at hbx
 have hbx' := hbx
 have hAW := hbx'.bel
 have HRB : Hid (W0.heap[w.heap.size]? = some (.cells #[.string rn, .slice a1 a2 a3, .slice a4 a5 a6, .slice a7 a8 a9, .slice b1_ b2_ b3_, .string rt, .slice b4_ b5_ b6_] 56 (0, 0))) := hbx'.b 0 (by simp)
 have HPB : Hid (W0.heap[w.heap.size + 1]? = some (.cells #[.int .i64 d, .slice pa a2 ca, .slice pb a5 cb, .slice pc a8 cc] 69 (0, 0))) := hbx'.b 1 (by simp)
 have HA0 := hid (zAA hA hAW hA.size)
 have HN1 := hid (hn1.later hAW)
 have HN2 := hid (hn2'.later hAW)
 have HN3 := hid (hn3.later hAW)
 have hB0 := (hAW.block _ (zAE hB)).trans hB
 have hO0 := (hAW.block _ (zAE hO)).trans hO
 have hR0 := zAJ hr hAW
 have hbBg := zEQ hr hB (by decide)
 have hbOg := zEQ hr hO (by decide)
 have HRAI := hid (fun (nm : ByteArray) (x : Int) (z : Nat → Int) (W : World) (hf : Fr (fun i => i = g) W0 W) (h0 : 0 ≤ tyq ts nm) (hr : W.rowIs g 3 n (fun i => .int .i64 (z i))) => zJC ts nm x tv rv bB bO g n z W (hT.later (zAU (zAA hA hAW hA.size) hf hgA (Nat.le_refl _))) ((hf.block _ (zAE hB0) hbBg).trans hB0) ((hf.block _ (zAE hO0) hbOg).trans hO0) hr hn hn2 h0)
 have HGA := hid hgA
 have HGB := hid hgB
 have HNG : Hid (g < w.heap.size) := by show _ < _; omega
 have HAW := hid hAW
 have HQ1 := hid hq1
 have HQ2 := hid hq2
 have HQ3 := hid hq3
 have HR0 := hid hR0
 have s2 : ¬ (a2 : Int) < 0 := by omega
 clear hat1 hat2 hat3 hW hU hM hT hl2 hl5 hl8 hq1 hq2 hq3 hn hn2 hn1 hn2' hn3 hB hO hr hbx hbx' hAW hB0 hO0 hR0 hbBg hbOg hA hgA hgB hBw e1 e2 e3 s2
 go_enter Tryz.func32, Tryz.ntmps32
 go_upto_region 1 with fail
 clear hW0
 have q1 : W0.cell? ⟨w.heap.size, 1, none⟩ = some (.slice a1 a2 a3) := by rw [zAB HRB.out]; rfl
 go_wp2_with fail
 clear q1
 go_loopg [15] (a2 + 1) (fun gg io wr => ∃ (k : Nat), k ≤ a2 ∧ gg = a2 + 1 - k ∧ io = .int .i64 (k : Nat) ∧ wr.rowIs g 3 n (fun i => .int .i64 (rW ts ws P1 k z0 i)) ∧ Fr (fun i => i = g) W0 wr)
 case atStart => exact ⟨0, by omega, by omega, rfl, HR0.out, Fr.refl _ _⟩
 case round =>
  obtain ⟨k, hk, rfl, rfl, hr, hf⟩ := hrel
  have HRr := hid hr
  have HFr := hid hf
  have HBA : Hid (Below wA.heap.size wA wr) := zAU HA0.out hf HGA.out (Nat.le_refl _)
  clear hr hf
  by_cases hkn : k < a2
  . have hkc : k < ws.length := by have := HL.out; omega
    obtain ⟨gw, off, rfl, hrd⟩ := HAT1.out (by omega)
    obtain ⟨A, r1, o1⟩ := hrd wr HBA.out k hkc
    obtain ⟨vc', z1, o2⟩ := rdP o1
    obtain ⟨up, un, uc, hu⟩ := zAC o2
    rw [hu] at z1
    obtain ⟨va, hva⟩ : ∃ z, ws[k].va = z := ⟨_, rfl⟩
    obtain ⟨ty, hty⟩ : ∃ z, ws[k].ty = z := ⟨_, rfl⟩
    obtain ⟨ck, hck⟩ : ∃ z, ws[k].c.k = z := ⟨_, rfl⟩
    obtain ⟨ol, hol⟩ : ∃ z, ws[k].c.l = z := ⟨_, rfl⟩
    obtain ⟨or_, hor_⟩ : ∃ z, ws[k].c.r = z := ⟨_, rfl⟩
    obtain ⟨pw, hpw⟩ : ∃ z, ws[k].w = z := ⟨_, rfl⟩
    obtain ⟨pn, hpn⟩ : ∃ z, ws[k].n = z := ⟨_, rfl⟩
    rw [hva, hty, hck, hol, hor_, hpw, hpn] at z1
    have HTE : Hid ((wAt ws k).ty = ty) := by show _ = _; rw [wAt_lt hkc, hty]
    have HTY : Hid (0 ≤ tyq ts ty) := by rw [← hty]; exact HQ1.out _ (List.getElem_mem hkc)
    subst z1
    have XA := hid r1
    obtain ⟨x, hx⟩ : ∃ z, P1 k = z := ⟨_, rfl⟩
    have HXE : Hid (P1 k = x) := hx
    obtain ⟨q9, c9_, e9, hq1, hq2, hq3⟩ := (HN1.out.fr HFr.out HGB.out).1.1
    obtain ⟨gp, op_, rfl, hpc⟩ := hq3 (by omega)
    simp only [Value.slice.injEq] at e9
    obtain ⟨rfl, my9, rfl⟩ := e9
    have HPC0 : Hid (∀ W, Below wr.heap.size wr W → W.cell? ⟨gp, op_ + k, none⟩ = some (.int .i64 x)) := fun W hW => (hW.cell (p := ⟨gp, op_ + k, none⟩) (World.block_lt_of_cell? _ _ (hpc k hkn))).trans (by rw [hpc k hkn, hx])
    have HKN := hid hkn
    have k1 : (0 : Int) ≤ (k : Int) := by omega
    have k2 : (k : Int) < (a2 : Int) := by omega
    clear my9 hq1 hq2 hq3 hpc hx hrd r1 o1 o2 hu hva hty hck hol hor_ hpw hpn hkc hkn hk
    go_upto_region 4 with (first
       | ((with_reducible show wpList _ _ _ (Oper.mk _ (.load 48 _) _ _ _ _ :: _) _ _); refine wpList_load_mid (by rfl) 48 _ (by rfl) gw (off + k * 18) (by rfl) (ptC va ty ck (.slice up un uc) ol or_ pw pn) _ XA.out Tryz.underlying48 rfl (by kernel_rfl) ?_)
       | ((with_reducible show wpList _ _ _ (Oper.mk _ (.store 48 _ _) _ _ _ _ :: _) _ _); refine zBL 48 wr.heap.size 0 pt0 48 (ptC va ty ck (.slice up un uc) ol or_ pw pn) (heap_alloc_new _ _) ?_ (hl := Nat.le_refl 18); intro w6 hq1 hq2; have HX6' : Hid (w6.heap[wr.heap.size]? = some (.cells (ptC va ty ck (.slice up un uc) ol or_ pw pn).toArray 48 (0, 0))) := hq1; have HBW6 : Hid (Below wr.heap.size wr w6) := zA4 ((Below.refl _ _).alloc (Nat.le_refl _) (.cells (pt0 : List Value).toArray 48)) hq2 (Nat.le_refl _); clear hq1 hq2))
    obtain ⟨bx, hbx⟩ : ∃ z, wr.heap.size = z := ⟨_, rfl⟩
    have HX6 := HX6'
    clear HX6'
    rw [hbx] at HX6 ⊢
    have HR6 := hid (zAJ HRr.out HBW6.out)
    have HF6 := hid (HFr.out.trans (Fr.of_below (X := fun i => i = g) HBW6.out))
    have HP6 := hid ((HF6.out.block _ (zAE HPB.out) (by have := HNG.out; omega)).trans HPB.out)
    have HPC := hid (fun (W : World) (hW : Below w6.heap.size w6 W) => HPC0.out W (zAA HBW6.out hW HBW6.out.size))
    clear hbx HPC0 HBW6 XA
    refine zAT (by kernel_rfl) (fun i9 w9 v => ([(fun w9 v => v = .func (.func 29) #[] #[.pointer (some ⟨bB, 0, none⟩), .pointer (some ⟨bO, 0, none⟩)]), (fun w9 v => v = .pointer (some ⟨bx, 1, none⟩)), (fun w9 v => v = .string ty), (fun w9 v => v = .pointer (some ⟨w.heap.size + 1, 1, none⟩)), (fun w9 v => v = .slice (some ⟨gp, op_, none⟩) a2 ca), (fun w9 v => v = .int .i64 (k : Nat)), (fun w9 v => v = .pointer (some ⟨gp, op_ + k, none⟩)), (fun w9 v => v = .int .i64 x)] : List (World → Value → Prop)).getD i9 (fun _ _ => True) w9 v) (fun W => Below w6.heap.size w6 W) 67 8 rfl rfl (by kernel_rfl) (by kernel_rfl) (fun W W' => Below W.heap.size W W') ?hmon (Below.drew (Below.refl _ _)) (zAD.cons ?o0 (zAD.cons ?o1 (zAD.cons ?o2 (zAD.cons ?o3 (zAD.cons ?o4 (zAD.cons ?o5 (zAD.cons ?o6 (zAD.cons ?o7 zAD.nil)))))))) ?hend
    case hmon =>
     intro q W W' v hb h
     rcases q with _ | _ | _ | _ | _ | _ | _ | _ | q
     . exact h
     . exact h
     . exact h
     . exact h
     . exact h
     . exact h
     . exact h
     . exact h
     . exact h
    case o0 =>
     intro a W hB hd ho
     have e2 : a.eval (.tmp 2) = .func (.func 29) #[] #[.pointer (some ⟨bB, 0, none⟩), .pointer (some ⟨bO, 0, none⟩)] := ho 2 (by kernel_rfl)
     exact zA6 _ (by simp) _ e2 ⟨_, rfl, rfl, hB, Below.refl _ _⟩
    case o1 =>
     intro a W hB hd ho
     have e7 : a.eval (.tmp 7) = .pointer (some ⟨bx, 0, none⟩) := ho 7 (by kernel_rfl)
     exact zAM (.pointer (some ⟨bx, 1, none⟩)) (by unfold execOp; simp only [ev_c, e7]; go_simp) ⟨_, rfl, rfl, hB, Below.refl _ _⟩
    case o2 =>
     intro a W hB hd ho
     have e21 : a.eval (.tmp 21) = .pointer (some ⟨bx, 1, none⟩) := hd 1 21 (by kernel_rfl)
     have c9 : W.cell? ⟨bx, 1, none⟩ = some (.string ty) := by
       rw [zAB ((hB.block _ (zAE HX6.out)).trans HX6.out)]
       rfl
     exact zAM (.string ty) (by unfold execOp; simp only [ev_c, e21]; go_simp) ⟨_, rfl, rfl, hB, Below.refl _ _⟩
    case o3 =>
     intro a W hB hd ho
     have e4 : a.eval (.tmp 4) = .pointer (some ⟨w.heap.size + 1, 0, none⟩) := ho 4 (by kernel_rfl)
     exact zAM (.pointer (some ⟨w.heap.size + 1, 1, none⟩)) (by unfold execOp; simp only [ev_c, e4]; go_simp) ⟨_, rfl, rfl, hB, Below.refl _ _⟩
    case o4 =>
     intro a W hB hd ho
     have e23 : a.eval (.tmp 23) = .pointer (some ⟨w.heap.size + 1, 1, none⟩) := hd 3 23 (by kernel_rfl)
     have c9 : W.cell? ⟨w.heap.size + 1, 1, none⟩ = some (.slice (some ⟨gp, op_, none⟩) a2 ca) := by
       rw [zAB ((hB.block _ (zAE HP6.out)).trans HP6.out)]
       rfl
     exact zAM (.slice (some ⟨gp, op_, none⟩) a2 ca) (by unfold execOp; simp only [ev_c, e23]; go_simp) ⟨_, rfl, rfl, hB, Below.refl _ _⟩
    case o5 =>
     intro a W hB hd ho
     have e6 : a.eval (.tmp 6) = .int .i64 (k : Nat) := ho 6 (by kernel_rfl)
     exact zA6 _ (by simp) _ e6 ⟨_, rfl, rfl, hB, Below.refl _ _⟩
    case o6 =>
     intro a W hB hd ho
     have e24 : a.eval (.tmp 24) = .slice (some ⟨gp, op_, none⟩) a2 ca := hd 4 24 (by kernel_rfl)
     have e25 : a.eval (.tmp 25) = .int .i64 (k : Nat) := hd 5 25 (by kernel_rfl)
     exact zAM (.pointer (some ⟨gp, op_ + k, none⟩)) (by unfold execOp; simp only [ev_c, e24, e25]; go_simp) ⟨_, rfl, rfl, hB, Below.refl _ _⟩
    case o7 =>
     intro a W hB hd ho
     have e26 : a.eval (.tmp 26) = .pointer (some ⟨gp, op_ + k, none⟩) := hd 6 26 (by kernel_rfl)
     have c9 : W.cell? ⟨gp, op_ + k, none⟩ = some (.int .i64 x) := HPC.out W hB
     exact zAM (.int .i64 x) (by unfold execOp; simp only [ev_c, e26]; go_simp) ⟨_, rfl, rfl, hB, Below.refl _ _⟩
    case hend =>
     intro vs W o ho hB hT
     have e0 : vs 0 = .func (.func 29) #[] #[.pointer (some ⟨bB, 0, none⟩), .pointer (some ⟨bO, 0, none⟩)] := hT 0 (by decide)
     have e1 : vs 1 = .pointer (some ⟨bx, 1, none⟩) := hT 1 (by decide)
     have e2 : vs 2 = .string ty := hT 2 (by decide)
     have e3 : vs 3 = .pointer (some ⟨w.heap.size + 1, 1, none⟩) := hT 3 (by decide)
     have e4 : vs 4 = .slice (some ⟨gp, op_, none⟩) a2 ca := hT 4 (by decide)
     have e5 : vs 5 = .int .i64 (k : Nat) := hT 5 (by decide)
     have e6 : vs 6 = .pointer (some ⟨gp, op_ + k, none⟩) := hT 6 (by decide)
     have e7 : vs 7 = .int .i64 x := hT 7 (by decide)
     cases (show some _ = some o from ho)
     simp only [List.toList_toArray, List.take_succ_cons, List.take_zero, fill, if_true, Act.put, List.setIfInBounds_toArray, List.set_cons_zero, List.set_cons_succ, e0, e1, e2, e3, e4, e5, e6, e7]
     have hW0W := HF6.out.trans (Fr.of_below (X := fun i => i = g) hB)
     refine zGR 29 zGT _ _ _ _ rfl (.pointer (some ⟨bB, 0, none⟩)) (.pointer (some ⟨bO, 0, none⟩)) (.string ty) (.int .i64 x) (by rfl) (by rfl) (by rfl) _ (HRAI.out ty x _ W hW0W HTY.out (zAJ HR6.out hB)) ?_
     rintro e W' ⟨rfl, hrow, hf⟩
     have HROW := hid hrow
     have HFF := hid (hW0W.trans hf)
     refine ⟨_, rfl, ?_⟩
     clear hrow hf hB hT hW0W e0 e1 e2 e3 e4 e5 e6 e7
     clear vs
     go_wp2_with fail
     go_roundg (a2 + 1 - (k + 1))
     case rel =>
       refine ⟨k + 1, HKN.out, rfl, by have h8 := HKN.out; have h7 := HL.out; have h9 : RowKit.wrap64 ((k : Int) + 1) = ((k + 1 : Nat) : Int) := by { unfold RowKit.wrap64; omega }; first | rw [h9] | (show Value.int _ _ = _; rw [h9]) | go_num, ?_, HFF.out⟩
       have h9 := HROW.out
       rw [← HTE.out, ← HXE.out] at h9
       exact h9
     case measure => have := HKN.out; omega
  . obtain rfl : k = a2 := by omega
    clear hkn hk
    obtain ⟨Z1, hZ1⟩ : ∃ z, rW ts ws P1 k z0 = z := ⟨_, rfl⟩
    rw [hZ1] at HRr
    have HZ1 := hid hZ1
    have q1 : wr.cell? ⟨w.heap.size, 2, none⟩ = some (.slice a4 a5 a6) := by rw [zAB ((HFr.out.block _ (zAE HRB.out) (by have := HNG.out; omega)).trans HRB.out)]; rfl
    have HR1 := HRr
    have HF1 := HFr
    clear hZ1 HRr HFr HBA HR0
    go_wp2_with fail
    clear q1
    go_loopg [33] (a5 + 1) (fun gg io wr => ∃ (k : Nat), k ≤ a5 ∧ gg = a5 + 1 - k ∧ io = .int .i64 (k : Nat) ∧ wr.rowIs g 3 n (fun i => .int .i64 (rW ts us P2 k Z1 i)) ∧ Fr (fun i => i = g) W0 wr)
    case atStart => exact ⟨0, by omega, by omega, rfl, HR1.out, HF1.out⟩
    case round =>
     clear HR1 HF1
     obtain ⟨k, hk, rfl, rfl, hr, hf⟩ := hrel
     have HRr := hid hr
     have HFr := hid hf
     have HBA : Hid (Below wA.heap.size wA wr) := zAU HA0.out hf HGA.out (Nat.le_refl _)
     clear hr hf
     by_cases hkn : k < a5
     . have hkc : k < us.length := by have := HL.out; omega
       obtain ⟨gw, off, rfl, hrd⟩ := HAT2.out (by omega)
       obtain ⟨A, r1, o1⟩ := hrd wr HBA.out k hkc
       obtain ⟨vc', z1, o2⟩ := rdP o1
       obtain ⟨up, un, uc, hu⟩ := zAC o2
       rw [hu] at z1
       obtain ⟨va, hva⟩ : ∃ z, us[k].va = z := ⟨_, rfl⟩
       obtain ⟨ty, hty⟩ : ∃ z, us[k].ty = z := ⟨_, rfl⟩
       obtain ⟨ck, hck⟩ : ∃ z, us[k].c.k = z := ⟨_, rfl⟩
       obtain ⟨ol, hol⟩ : ∃ z, us[k].c.l = z := ⟨_, rfl⟩
       obtain ⟨or_, hor_⟩ : ∃ z, us[k].c.r = z := ⟨_, rfl⟩
       obtain ⟨pw, hpw⟩ : ∃ z, us[k].w = z := ⟨_, rfl⟩
       obtain ⟨pn, hpn⟩ : ∃ z, us[k].n = z := ⟨_, rfl⟩
       rw [hva, hty, hck, hol, hor_, hpw, hpn] at z1
       have HTE : Hid ((wAt us k).ty = ty) := by show _ = _; rw [wAt_lt hkc, hty]
       have HTY : Hid (0 ≤ tyq ts ty) := by rw [← hty]; exact HQ2.out _ (List.getElem_mem hkc)
       subst z1
       have XA := hid r1
       obtain ⟨x, hx⟩ : ∃ z, P2 k = z := ⟨_, rfl⟩
       have HXE : Hid (P2 k = x) := hx
       obtain ⟨q9, c9_, e9, hq1, hq2, hq3⟩ := (HN2.out.fr HFr.out HGB.out).1.1
       obtain ⟨gp, op_, rfl, hpc⟩ := hq3 (by omega)
       simp only [Value.slice.injEq] at e9
       obtain ⟨rfl, my9, rfl⟩ := e9
       have HPC0 : Hid (∀ W, Below wr.heap.size wr W → W.cell? ⟨gp, op_ + k, none⟩ = some (.int .i64 x)) := fun W hW => (hW.cell (p := ⟨gp, op_ + k, none⟩) (World.block_lt_of_cell? _ _ (hpc k hkn))).trans (by rw [hpc k hkn, hx])
       have HKN := hid hkn
       have k1 : (0 : Int) ≤ (k : Int) := by omega
       have k2 : (k : Int) < (a5 : Int) := by omega
       clear my9 hq1 hq2 hq3 hpc hx hrd r1 o1 o2 hu hva hty hck hol hor_ hpw hpn hkc hkn hk
       go_upto_region 9 with (first
          | ((with_reducible show wpList _ _ _ (Oper.mk _ (.load 48 _) _ _ _ _ :: _) _ _); refine wpList_load_mid (by rfl) 48 _ (by rfl) gw (off + k * 18) (by rfl) (ptC va ty ck (.slice up un uc) ol or_ pw pn) _ XA.out Tryz.underlying48 rfl (by kernel_rfl) ?_)
          | ((with_reducible show wpList _ _ _ (Oper.mk _ (.store 48 _ _) _ _ _ _ :: _) _ _); refine zBL 48 wr.heap.size 0 pt0 48 (ptC va ty ck (.slice up un uc) ol or_ pw pn) (heap_alloc_new _ _) ?_ (hl := Nat.le_refl 18); intro w6 hq1 hq2; have HX6' : Hid (w6.heap[wr.heap.size]? = some (.cells (ptC va ty ck (.slice up un uc) ol or_ pw pn).toArray 48 (0, 0))) := hq1; have HBW6 : Hid (Below wr.heap.size wr w6) := zA4 ((Below.refl _ _).alloc (Nat.le_refl _) (.cells (pt0 : List Value).toArray 48)) hq2 (Nat.le_refl _); clear hq1 hq2))
       obtain ⟨bx, hbx⟩ : ∃ z, wr.heap.size = z := ⟨_, rfl⟩
       have HX6 := HX6'
       clear HX6'
       rw [hbx] at HX6 ⊢
       have HR6 := hid (zAJ HRr.out HBW6.out)
       have HF6 := hid (HFr.out.trans (Fr.of_below (X := fun i => i = g) HBW6.out))
       have HP6 := hid ((HF6.out.block _ (zAE HPB.out) (by have := HNG.out; omega)).trans HPB.out)
       have HPC := hid (fun (W : World) (hW : Below w6.heap.size w6 W) => HPC0.out W (zAA HBW6.out hW HBW6.out.size))
       clear hbx HPC0 HBW6 XA
       refine zAT (by kernel_rfl) (fun i9 w9 v => ([(fun w9 v => v = .func (.func 29) #[] #[.pointer (some ⟨bB, 0, none⟩), .pointer (some ⟨bO, 0, none⟩)]), (fun w9 v => v = .pointer (some ⟨bx, 1, none⟩)), (fun w9 v => v = .string ty), (fun w9 v => v = .pointer (some ⟨w.heap.size + 1, 2, none⟩)), (fun w9 v => v = .slice (some ⟨gp, op_, none⟩) a5 cb), (fun w9 v => v = .int .i64 (k : Nat)), (fun w9 v => v = .pointer (some ⟨gp, op_ + k, none⟩)), (fun w9 v => v = .int .i64 x)] : List (World → Value → Prop)).getD i9 (fun _ _ => True) w9 v) (fun W => Below w6.heap.size w6 W) 67 8 rfl rfl (by kernel_rfl) (by kernel_rfl) (fun W W' => Below W.heap.size W W') ?hmon (Below.drew (Below.refl _ _)) (zAD.cons ?o0 (zAD.cons ?o1 (zAD.cons ?o2 (zAD.cons ?o3 (zAD.cons ?o4 (zAD.cons ?o5 (zAD.cons ?o6 (zAD.cons ?o7 zAD.nil)))))))) ?hend
       case hmon =>
        intro q W W' v hb h
        rcases q with _ | _ | _ | _ | _ | _ | _ | _ | q
        . exact h
        . exact h
        . exact h
        . exact h
        . exact h
        . exact h
        . exact h
        . exact h
        . exact h
       case o0 =>
        intro a W hB hd ho
        have e2 : a.eval (.tmp 2) = .func (.func 29) #[] #[.pointer (some ⟨bB, 0, none⟩), .pointer (some ⟨bO, 0, none⟩)] := ho 2 (by kernel_rfl)
        exact zA6 _ (by simp) _ e2 ⟨_, rfl, rfl, hB, Below.refl _ _⟩
       case o1 =>
        intro a W hB hd ho
        have e9 : a.eval (.tmp 9) = .pointer (some ⟨bx, 0, none⟩) := ho 9 (by kernel_rfl)
        exact zAM (.pointer (some ⟨bx, 1, none⟩)) (by unfold execOp; simp only [ev_c, e9]; go_simp) ⟨_, rfl, rfl, hB, Below.refl _ _⟩
       case o2 =>
        intro a W hB hd ho
        have e39 : a.eval (.tmp 39) = .pointer (some ⟨bx, 1, none⟩) := hd 1 39 (by kernel_rfl)
        have c9 : W.cell? ⟨bx, 1, none⟩ = some (.string ty) := by
          rw [zAB ((hB.block _ (zAE HX6.out)).trans HX6.out)]
          rfl
        exact zAM (.string ty) (by unfold execOp; simp only [ev_c, e39]; go_simp) ⟨_, rfl, rfl, hB, Below.refl _ _⟩
       case o3 =>
        intro a W hB hd ho
        have e4 : a.eval (.tmp 4) = .pointer (some ⟨w.heap.size + 1, 0, none⟩) := ho 4 (by kernel_rfl)
        exact zAM (.pointer (some ⟨w.heap.size + 1, 2, none⟩)) (by unfold execOp; simp only [ev_c, e4]; go_simp) ⟨_, rfl, rfl, hB, Below.refl _ _⟩
       case o4 =>
        intro a W hB hd ho
        have e41 : a.eval (.tmp 41) = .pointer (some ⟨w.heap.size + 1, 2, none⟩) := hd 3 41 (by kernel_rfl)
        have c9 : W.cell? ⟨w.heap.size + 1, 2, none⟩ = some (.slice (some ⟨gp, op_, none⟩) a5 cb) := by
          rw [zAB ((hB.block _ (zAE HP6.out)).trans HP6.out)]
          rfl
        exact zAM (.slice (some ⟨gp, op_, none⟩) a5 cb) (by unfold execOp; simp only [ev_c, e41]; go_simp) ⟨_, rfl, rfl, hB, Below.refl _ _⟩
       case o5 =>
        intro a W hB hd ho
        have e8 : a.eval (.tmp 8) = .int .i64 (k : Nat) := ho 8 (by kernel_rfl)
        exact zA6 _ (by simp) _ e8 ⟨_, rfl, rfl, hB, Below.refl _ _⟩
       case o6 =>
        intro a W hB hd ho
        have e42 : a.eval (.tmp 42) = .slice (some ⟨gp, op_, none⟩) a5 cb := hd 4 42 (by kernel_rfl)
        have e43 : a.eval (.tmp 43) = .int .i64 (k : Nat) := hd 5 43 (by kernel_rfl)
        exact zAM (.pointer (some ⟨gp, op_ + k, none⟩)) (by unfold execOp; simp only [ev_c, e42, e43]; go_simp) ⟨_, rfl, rfl, hB, Below.refl _ _⟩
       case o7 =>
        intro a W hB hd ho
        have e44 : a.eval (.tmp 44) = .pointer (some ⟨gp, op_ + k, none⟩) := hd 6 44 (by kernel_rfl)
        have c9 : W.cell? ⟨gp, op_ + k, none⟩ = some (.int .i64 x) := HPC.out W hB
        exact zAM (.int .i64 x) (by unfold execOp; simp only [ev_c, e44]; go_simp) ⟨_, rfl, rfl, hB, Below.refl _ _⟩
       case hend =>
        intro vs W o ho hB hT
        have e0 : vs 0 = .func (.func 29) #[] #[.pointer (some ⟨bB, 0, none⟩), .pointer (some ⟨bO, 0, none⟩)] := hT 0 (by decide)
        have e1 : vs 1 = .pointer (some ⟨bx, 1, none⟩) := hT 1 (by decide)
        have e2 : vs 2 = .string ty := hT 2 (by decide)
        have e3 : vs 3 = .pointer (some ⟨w.heap.size + 1, 2, none⟩) := hT 3 (by decide)
        have e4 : vs 4 = .slice (some ⟨gp, op_, none⟩) a5 cb := hT 4 (by decide)
        have e5 : vs 5 = .int .i64 (k : Nat) := hT 5 (by decide)
        have e6 : vs 6 = .pointer (some ⟨gp, op_ + k, none⟩) := hT 6 (by decide)
        have e7 : vs 7 = .int .i64 x := hT 7 (by decide)
        cases (show some _ = some o from ho)
        simp only [List.toList_toArray, List.take_succ_cons, List.take_zero, fill, if_true, Act.put, List.setIfInBounds_toArray, List.set_cons_zero, List.set_cons_succ, e0, e1, e2, e3, e4, e5, e6, e7]
        have hW0W := HF6.out.trans (Fr.of_below (X := fun i => i = g) hB)
        refine zGR 29 zGT _ _ _ _ rfl (.pointer (some ⟨bB, 0, none⟩)) (.pointer (some ⟨bO, 0, none⟩)) (.string ty) (.int .i64 x) (by rfl) (by rfl) (by rfl) _ (HRAI.out ty x _ W hW0W HTY.out (zAJ HR6.out hB)) ?_
        rintro e W' ⟨rfl, hrow, hf⟩
        have HROW := hid hrow
        have HFF := hid (hW0W.trans hf)
        refine ⟨_, rfl, ?_⟩
        clear hrow hf hB hT hW0W e0 e1 e2 e3 e4 e5 e6 e7
        clear vs
        go_wp2_with fail
        go_roundg (a5 + 1 - (k + 1))
        case rel =>
          refine ⟨k + 1, HKN.out, rfl, by have h8 := HKN.out; have h7 := HL.out; have h9 : RowKit.wrap64 ((k : Int) + 1) = ((k + 1 : Nat) : Int) := by { unfold RowKit.wrap64; omega }; first | rw [h9] | (show Value.int _ _ = _; rw [h9]) | go_num, ?_, HFF.out⟩
          have h9 := HROW.out
          rw [← HTE.out, ← HXE.out] at h9
          exact h9
        case measure => have := HKN.out; omega
     . obtain rfl : k = a5 := by omega
       clear hkn hk
       obtain ⟨Z2, hZ2⟩ : ∃ z, rW ts us P2 k Z1 = z := ⟨_, rfl⟩
       rw [hZ2] at HRr
       have HZ2 := hid hZ2
       have q1 : wr.cell? ⟨w.heap.size, 3, none⟩ = some (.slice a7 a8 a9) := by rw [zAB ((HFr.out.block _ (zAE HRB.out) (by have := HNG.out; omega)).trans HRB.out)]; rfl
       have HR1 := HRr
       have HF1 := HFr
       clear hZ2 HRr HFr HBA
       go_wp2_with fail
       clear q1
       go_loopg [51] (a8 + 1) (fun gg io wr => ∃ (k : Nat), k ≤ a8 ∧ gg = a8 + 1 - k ∧ io = .int .i64 (k : Nat) ∧ wr.rowIs g 3 n (fun i => .int .i64 (rM ts ms P3 k Z2 i)) ∧ Fr (fun i => i = g) W0 wr)
       case atStart => exact ⟨0, by omega, by omega, rfl, HR1.out, HF1.out⟩
       case round =>
        clear HR1 HF1
        obtain ⟨k, hk, rfl, rfl, hr, hf⟩ := hrel
        have HRr := hid hr
        have HFr := hid hf
        have HBA : Hid (Below wA.heap.size wA wr) := zAU HA0.out hf HGA.out (Nat.le_refl _)
        clear hr hf
        by_cases hkn : k < a8
        . have hkc : k < ms.length := by have := HL.out; omega
          obtain ⟨gw, off, rfl, hrd⟩ := HAT3.out (by omega)
          obtain ⟨A, r1, o1⟩ := hrd wr HBA.out k hkc
          have o1' : RdL wr (encP ms[k].p) (A.drop 2) := RdL.drop 2 o1
          obtain ⟨vc', zz, o2⟩ := rdP o1'
          obtain ⟨up, un, uc, hu⟩ := zAC o2
          rw [hu] at zz
          obtain ⟨u0, r0, hA0, hu0, o3⟩ := RdL.one o1
          obtain ⟨u1, r2, hA1, hu1, o4⟩ := RdL.one o3
          have hd2 : r2 = A.drop 2 := by rw [hA0, hA1]; rfl
          have z1 : A = .int .i64 ms[k].c :: .string ms[k].f :: ptC ms[k].p.va ms[k].p.ty ms[k].p.c.k (.slice up un uc) ms[k].p.c.l ms[k].p.c.r ms[k].p.w ms[k].p.n := by
           rw [hA0, hA1, hd2, zz, zAN hu0, zAN hu1]
          obtain ⟨mc, hmc⟩ : ∃ z, ms[k].c = z := ⟨_, rfl⟩
          obtain ⟨mf, hmf⟩ : ∃ z, ms[k].f = z := ⟨_, rfl⟩
          obtain ⟨va, hva⟩ : ∃ z, ms[k].p.va = z := ⟨_, rfl⟩
          obtain ⟨ty, hty⟩ : ∃ z, ms[k].p.ty = z := ⟨_, rfl⟩
          obtain ⟨ck, hck⟩ : ∃ z, ms[k].p.c.k = z := ⟨_, rfl⟩
          obtain ⟨ol, hol⟩ : ∃ z, ms[k].p.c.l = z := ⟨_, rfl⟩
          obtain ⟨or_, hor_⟩ : ∃ z, ms[k].p.c.r = z := ⟨_, rfl⟩
          obtain ⟨pw, hpw⟩ : ∃ z, ms[k].p.w = z := ⟨_, rfl⟩
          obtain ⟨pn, hpn⟩ : ∃ z, ms[k].p.n = z := ⟨_, rfl⟩
          rw [hmc, hmf, hva, hty, hck, hol, hor_, hpw, hpn] at z1
          have HTE : Hid ((ms.getD k mn0).p.ty = ty) := by show _ = _; rw [getD_lt hkc, hty]
          have HTY : Hid (0 ≤ tyq ts ty) := by rw [← hty]; exact HQ3.out _ (List.getElem_mem hkc)
          subst z1
          have XA := hid r1
          obtain ⟨x, hx⟩ : ∃ z, P3 k = z := ⟨_, rfl⟩
          have HXE : Hid (P3 k = x) := hx
          obtain ⟨q9, c9_, e9, hq1, hq2, hq3⟩ := (HN3.out.fr HFr.out HGB.out).1.1
          obtain ⟨gp, op_, rfl, hpc⟩ := hq3 (by omega)
          simp only [Value.slice.injEq] at e9
          obtain ⟨rfl, my9, rfl⟩ := e9
          have HPC0 : Hid (∀ W, Below wr.heap.size wr W → W.cell? ⟨gp, op_ + k, none⟩ = some (.int .i64 x)) := fun W hW => (hW.cell (p := ⟨gp, op_ + k, none⟩) (World.block_lt_of_cell? _ _ (hpc k hkn))).trans (by rw [hpc k hkn, hx])
          have HKN := hid hkn
          have k1 : (0 : Int) ≤ (k : Int) := by omega
          have k2 : (k : Int) < (a8 : Int) := by omega
          clear my9 hq1 hq2 hq3 hpc hx hrd r1 o1 o1' zz o2 hu hA0 hA1 hu0 hu1 o3 o4 hd2 hmc hmf hva hty hck hol hor_ hpw hpn hkc hkn hk
          go_upto_region 14 with (first
             | ((with_reducible show wpList _ _ _ (Oper.mk _ (.load 78 _) _ _ _ _ :: _) _ _); refine wpList_load_mid (by rfl) 78 _ (by rfl) gw (off + k * 20) (by rfl) (.int .i64 mc :: .string mf :: ptC va ty ck (.slice up un uc) ol or_ pw pn) _ XA.out Tryz.underlying78 rfl (by kernel_rfl) ?_)
             | ((with_reducible show wpList _ _ _ (Oper.mk _ (.store 78 _ _) _ _ _ _ :: _) _ _); refine zBL 78 wr.heap.size 0 (.int .i64 0 :: .string ⟨#[]⟩ :: pt0) 78 (.int .i64 mc :: .string mf :: ptC va ty ck (.slice up un uc) ol or_ pw pn) (heap_alloc_new _ _) ?_ (hl := Nat.le_refl 20); intro w6 hq1 hq2; have HX6' : Hid (w6.heap[wr.heap.size]? = some (.cells (.int .i64 mc :: .string mf :: ptC va ty ck (.slice up un uc) ol or_ pw pn).toArray 78 (0, 0))) := hq1; have HBW6 : Hid (Below wr.heap.size wr w6) := zA4 ((Below.refl _ _).alloc (Nat.le_refl _) (.cells ((.int .i64 0 :: .string ⟨#[]⟩ :: pt0) : List Value).toArray 78)) hq2 (Nat.le_refl _); clear hq1 hq2))
          obtain ⟨bx, hbx⟩ : ∃ z, wr.heap.size = z := ⟨_, rfl⟩
          have HX6 := HX6'
          clear HX6'
          rw [hbx] at HX6 ⊢
          have HR6 := hid (zAJ HRr.out HBW6.out)
          have HF6 := hid (HFr.out.trans (Fr.of_below (X := fun i => i = g) HBW6.out))
          have HP6 := hid ((HF6.out.block _ (zAE HPB.out) (by have := HNG.out; omega)).trans HPB.out)
          have HPC := hid (fun (W : World) (hW : Below w6.heap.size w6 W) => HPC0.out W (zAA HBW6.out hW HBW6.out.size))
          clear hbx HPC0 HBW6 XA
          refine zAT (by kernel_rfl) (fun i9 w9 v => ([(fun w9 v => v = .func (.func 29) #[] #[.pointer (some ⟨bB, 0, none⟩), .pointer (some ⟨bO, 0, none⟩)]), (fun w9 v => v = .pointer (some ⟨bx, 2, none⟩)), (fun w9 v => v = .pointer (some ⟨bx, 3, none⟩)), (fun w9 v => v = .string ty), (fun w9 v => v = .pointer (some ⟨w.heap.size + 1, 3, none⟩)), (fun w9 v => v = .slice (some ⟨gp, op_, none⟩) a8 cc), (fun w9 v => v = .int .i64 (k : Nat)), (fun w9 v => v = .pointer (some ⟨gp, op_ + k, none⟩)), (fun w9 v => v = .int .i64 x)] : List (World → Value → Prop)).getD i9 (fun _ _ => True) w9 v) (fun W => Below w6.heap.size w6 W) 67 9 rfl rfl (by kernel_rfl) (by kernel_rfl) (fun W W' => Below W.heap.size W W') ?hmon (Below.drew (Below.refl _ _)) (zAD.cons ?o0 (zAD.cons ?o1 (zAD.cons ?o2 (zAD.cons ?o3 (zAD.cons ?o4 (zAD.cons ?o5 (zAD.cons ?o6 (zAD.cons ?o7 (zAD.cons ?o8 zAD.nil))))))))) ?hend
          case hmon =>
           intro q W W' v hb h
           rcases q with _ | _ | _ | _ | _ | _ | _ | _ | _ | q
           . exact h
           . exact h
           . exact h
           . exact h
           . exact h
           . exact h
           . exact h
           . exact h
           . exact h
           . exact h
          case o0 =>
           intro a W hB hd ho
           have e2 : a.eval (.tmp 2) = .func (.func 29) #[] #[.pointer (some ⟨bB, 0, none⟩), .pointer (some ⟨bO, 0, none⟩)] := ho 2 (by kernel_rfl)
           exact zA6 _ (by simp) _ e2 ⟨_, rfl, rfl, hB, Below.refl _ _⟩
          case o1 =>
           intro a W hB hd ho
           have e11 : a.eval (.tmp 11) = .pointer (some ⟨bx, 0, none⟩) := ho 11 (by kernel_rfl)
           exact zAM (.pointer (some ⟨bx, 2, none⟩)) (by unfold execOp; simp only [ev_c, e11]; go_simp) ⟨_, rfl, rfl, hB, Below.refl _ _⟩
          case o2 =>
           intro a W hB hd ho
           have e57 : a.eval (.tmp 57) = .pointer (some ⟨bx, 2, none⟩) := hd 1 57 (by kernel_rfl)
           exact zAM (.pointer (some ⟨bx, 3, none⟩)) (by unfold execOp; simp only [ev_c, e57]; go_simp) ⟨_, rfl, rfl, hB, Below.refl _ _⟩
          case o3 =>
           intro a W hB hd ho
           have e58 : a.eval (.tmp 58) = .pointer (some ⟨bx, 3, none⟩) := hd 2 58 (by kernel_rfl)
           have c9 : W.cell? ⟨bx, 3, none⟩ = some (.string ty) := by
             rw [zAB ((hB.block _ (zAE HX6.out)).trans HX6.out)]
             rfl
           exact zAM (.string ty) (by unfold execOp; simp only [ev_c, e58]; go_simp) ⟨_, rfl, rfl, hB, Below.refl _ _⟩
          case o4 =>
           intro a W hB hd ho
           have e4 : a.eval (.tmp 4) = .pointer (some ⟨w.heap.size + 1, 0, none⟩) := ho 4 (by kernel_rfl)
           exact zAM (.pointer (some ⟨w.heap.size + 1, 3, none⟩)) (by unfold execOp; simp only [ev_c, e4]; go_simp) ⟨_, rfl, rfl, hB, Below.refl _ _⟩
          case o5 =>
           intro a W hB hd ho
           have e60 : a.eval (.tmp 60) = .pointer (some ⟨w.heap.size + 1, 3, none⟩) := hd 4 60 (by kernel_rfl)
           have c9 : W.cell? ⟨w.heap.size + 1, 3, none⟩ = some (.slice (some ⟨gp, op_, none⟩) a8 cc) := by
             rw [zAB ((hB.block _ (zAE HP6.out)).trans HP6.out)]
             rfl
           exact zAM (.slice (some ⟨gp, op_, none⟩) a8 cc) (by unfold execOp; simp only [ev_c, e60]; go_simp) ⟨_, rfl, rfl, hB, Below.refl _ _⟩
          case o6 =>
           intro a W hB hd ho
           have e10 : a.eval (.tmp 10) = .int .i64 (k : Nat) := ho 10 (by kernel_rfl)
           exact zA6 _ (by simp) _ e10 ⟨_, rfl, rfl, hB, Below.refl _ _⟩
          case o7 =>
           intro a W hB hd ho
           have e61 : a.eval (.tmp 61) = .slice (some ⟨gp, op_, none⟩) a8 cc := hd 5 61 (by kernel_rfl)
           have e62 : a.eval (.tmp 62) = .int .i64 (k : Nat) := hd 6 62 (by kernel_rfl)
           exact zAM (.pointer (some ⟨gp, op_ + k, none⟩)) (by unfold execOp; simp only [ev_c, e61, e62]; go_simp) ⟨_, rfl, rfl, hB, Below.refl _ _⟩
          case o8 =>
           intro a W hB hd ho
           have e63 : a.eval (.tmp 63) = .pointer (some ⟨gp, op_ + k, none⟩) := hd 7 63 (by kernel_rfl)
           have c9 : W.cell? ⟨gp, op_ + k, none⟩ = some (.int .i64 x) := HPC.out W hB
           exact zAM (.int .i64 x) (by unfold execOp; simp only [ev_c, e63]; go_simp) ⟨_, rfl, rfl, hB, Below.refl _ _⟩
          case hend =>
           intro vs W o ho hB hT
           have e0 : vs 0 = .func (.func 29) #[] #[.pointer (some ⟨bB, 0, none⟩), .pointer (some ⟨bO, 0, none⟩)] := hT 0 (by decide)
           have e1 : vs 1 = .pointer (some ⟨bx, 2, none⟩) := hT 1 (by decide)
           have e2 : vs 2 = .pointer (some ⟨bx, 3, none⟩) := hT 2 (by decide)
           have e3 : vs 3 = .string ty := hT 3 (by decide)
           have e4 : vs 4 = .pointer (some ⟨w.heap.size + 1, 3, none⟩) := hT 4 (by decide)
           have e5 : vs 5 = .slice (some ⟨gp, op_, none⟩) a8 cc := hT 5 (by decide)
           have e6 : vs 6 = .int .i64 (k : Nat) := hT 6 (by decide)
           have e7 : vs 7 = .pointer (some ⟨gp, op_ + k, none⟩) := hT 7 (by decide)
           have e8 : vs 8 = .int .i64 x := hT 8 (by decide)
           cases (show some _ = some o from ho)
           simp only [List.toList_toArray, List.take_succ_cons, List.take_zero, fill, if_true, Act.put, List.setIfInBounds_toArray, List.set_cons_zero, List.set_cons_succ, e0, e1, e2, e3, e4, e5, e6, e7, e8]
           have hW0W := HF6.out.trans (Fr.of_below (X := fun i => i = g) hB)
           refine zGR 29 zGT _ _ _ _ rfl (.pointer (some ⟨bB, 0, none⟩)) (.pointer (some ⟨bO, 0, none⟩)) (.string ty) (.int .i64 x) (by rfl) (by rfl) (by rfl) _ (HRAI.out ty x _ W hW0W HTY.out (zAJ HR6.out hB)) ?_
           rintro e W' ⟨rfl, hrow, hf⟩
           have HROW := hid hrow
           have HFF := hid (hW0W.trans hf)
           refine ⟨_, rfl, ?_⟩
           clear hrow hf hB hT hW0W e0 e1 e2 e3 e4 e5 e6 e7 e8
           clear vs
           go_wp2_with fail
           go_roundg (a8 + 1 - (k + 1))
           case rel =>
             refine ⟨k + 1, HKN.out, rfl, by have h8 := HKN.out; have h7 := HL.out; have h9 : RowKit.wrap64 ((k : Int) + 1) = ((k + 1 : Nat) : Int) := by { unfold RowKit.wrap64; omega }; first | rw [h9] | (show Value.int _ _ = _; rw [h9]) | go_num, ?_, HFF.out⟩
             have h9 := HROW.out
             rw [← HTE.out, ← HXE.out] at h9
             exact h9
           case measure => have := HKN.out; omega
        . obtain rfl : k = a8 := by omega
          clear hkn hk
          go_wp2_with fail
          refine bodyPost_end (results_none rfl _ _ _) rfl ?_
          exact ⟨rfl, by rw [HZ1.out, HZ2.out]; exact HRr.out, (Fr.of_below HAW.out).trans HFr.out⟩
end Go.Proofs.YtnlmknbhppdliaaGreatDoor.Chk
namespace Go.Proofs.YtnlmknbhppdliaaGreatDoor.Chk
open Go.ChangeShapes Go.WideShapes Go.ChangeAt Go.RowKit Go.Maps
set_option linter.unusedVariables false
set_option linter.unusedSimpArgs false
set_option maxRecDepth 20000
theorem zH9 {ts : List Tp} {kn : List Pt} {ah : List ByteArray} {p : Pt} {part : Int} (h : pck ts kn ah p part = 0) : ¬ wbad part p.w p.n ∧ ¬ rbad p.w p.n := by
 unfold pck at h
 split at h
 . rename_i c; exact absurd h c
 . split at h
   . omega
   . split at h
     . omega
     . split at h
       . omega
       . rename_i c1
         split at h
         . omega
         . rename_i c2
           exact ⟨c1, c2⟩
theorem zJT {ts : List Tp} : ∀ (l done : List Pt), wfs 0 ts done l = 0 → ∀ p, p ∈ l → ¬ rbad p.w p.n
 | [], _, _, p, hp => by cases hp
 | y :: r, done, h, p, hp => by
  rw [wfs] at h
  split at h
  . rename_i c; exact absurd h c
  . rename_i c
    rcases List.mem_cons.1 hp with rfl | hp
    . exact (zH9 (Classical.byContradiction c)).2
    . exact zJT r _ h p hp
theorem zHX {ts : List Tp} {ws : List Pt} : ∀ (l : List Mn) (ah : List ByteArray), mfs 0 ts ws ah l = 0 → ∀ m, m ∈ l → 0 ≤ m.p.n ∧ m.p.n ≤ 1073741824
 | [], _, _, m, hm => by cases hm
 | y :: r, ah, h, m, hm => by
  rw [mfs] at h
  split at h
  . rename_i c; exact absurd h c
  . rename_i c
    rcases List.mem_cons.1 hm with rfl | hm
    . have c1 := Classical.byContradiction c
      unfold mck at c1
      split at c1
      . omega
      . split at c1
        . rename_i c2; exact absurd c1 c2
        . rename_i c2
          obtain ⟨h1, h2⟩ := zH9 (Classical.byContradiction c2)
          unfold wbad at h1
          unfold rbad at h2
          omega
    . exact zHX r _ h m hm
theorem zI0 : ∀ (l : List Op3), ofs l = 0 → ∀ o, o ∈ l → B8.optE o.r o.lo o.hi = 0
 | [], _, o, ho => by cases ho
 | y :: r, h, o, ho => by
  rw [ofs] at h
  split at h
  . rename_i c; exact absurd h c
  . rename_i c
    rcases List.mem_cons.1 ho with rfl | ho
    . have c1 := Classical.byContradiction c
      unfold ock at c1
      unfold B8.optE
      repeat' split at c1
      all_goals first | omega | (repeat' split) <;> omega
    . exact zI0 r h o ho
theorem zIO {ws ns : List Pt} : ∀ (l : List Lk), lfs 0 ws ns l = 0 → ∀ k, k ∈ l → ofs k.o = 0 ∧ seq k.l k.r = false
 | [], _, k, hk => by cases hk
 | y :: r, h, k, hk => by
  rw [lfs] at h
  split at h
  . rename_i c; exact absurd h c
  . rename_i c
    rcases List.mem_cons.1 hk with rfl | hk
    . have c1 := Classical.byContradiction c
      unfold lck at c1
      split at c1
      . omega
      . split at c1
        . omega
        . rename_i c2
          split at c1
          . omega
          . refine ⟨c1, ?_⟩
            cases hs : seq k.l k.r with
            | false => rfl
            | true => exact absurd (Or.inl hs) c2
    . exact zIO r h k hk
theorem lok_of {sp : List Pt} {ks : List Lk} (h : ∀ k, k ∈ ks → ofs k.o = 0 ∧ seq k.l k.r = false) : Lok sp ks := by
 intro k hk
 obtain ⟨h1, h2⟩ := h k hk
 refine ⟨fun i hi => ?_, h2⟩
 have h3 := zI0 k.o h1 k.o[i] (List.getElem_mem hi)
 have e : opZ k.o i = qo k.o[i] := by
  unfold opZ
  rw [List.getD_eq_getElem?_getD, List.getElem?_eq_getElem hi]
  rfl
 rw [e]
 exact h3
theorem zIG {ts : List Tp} {rs : List Rl} (h : bok ts rs = 0) : ∀ x, x ∈ rs → rck ts x = 0 := by
 unfold bok bkf at h
 split at h
 . omega
 . split at h
   . rename_i c; exact absurd h c
   . split at h
     . rename_i c; exact absurd h c
     . rename_i c2
       exact zC3 rs [] (Classical.byContradiction c2)
theorem zGB {ts : List Tp} {rs : List Rl} (h : bok ts rs = 0) : ts.length ≤ 6 ∧ rs.length ≤ 5 := by
  unfold bok bkf at h
  split at h
  . omega
  . rename_i c; omega
structure Plk (x : Rl) : Prop where
  sz : szs x
  w : Wok x.w
  k : ∀ sp, Lok sp x.k
  m : ∀ m, m ∈ x.m → 0 ≤ m.p.n ∧ m.p.n ≤ 1073741824
theorem zBX {ts : List Tp} {x : Rl} (h : rck ts x = 0) : Plk x := by
 obtain ⟨_, h2⟩ := zFL h
 have h1 : frn x.n = 0 := by
   refine Classical.byContradiction fun c => ?_
   unfold rck at h
   rw [if_pos c] at h
   exact c h
 rw [zBV ts x h1 h2] at h
 split at h
 . rename_i c; exact absurd h c
 . rename_i c1
   split at h
   . rename_i c; exact absurd h c
   . split at h
     . rename_i c; exact absurd h c
     . rename_i c3
       split at h
       . rename_i c; exact absurd h c
       . rename_i c4
         refine ⟨h2, fun i hi hw => ?_, fun sp => lok_of (zIO x.k (Classical.byContradiction c4)), zHX x.m _ (Classical.byContradiction c3)⟩
         have e : wAt x.w i = x.w[i] := by
          unfold wAt
          rw [List.getD_eq_getElem?_getD, List.getElem?_eq_getElem hi]
          rfl
         rw [e] at hw ⊢
         have h5 := zJT x.w [] (Classical.byContradiction c1) _ (List.getElem_mem hi)
         unfold rbad at h5
         omega
end Go.Proofs.YtnlmknbhppdliaaGreatDoor.Chk
namespace Go.Proofs.YtnlmknbhppdliaaGreatDoor.Chk
open Go.ChangeShapes Go.WideShapes Go.ChangeAt Go.RowKit Go.Maps
open B8 (Mx OwnM New zA5)
set_option linter.unusedVariables false
set_option linter.unusedSimpArgs false
set_option maxRecDepth 20000
structure PlP where
  x : Int
  c : Int
  n1 : Nat
  n2 : Nat
  n3 : Nat
  z1 : Nat → Int
  z2 : Nat → Int
  z3 : Nat → Int
def plE (c : Int) : PlP := ⟨0, c, 0, 0, 0, fun _ => 0, fun _ => 0, fun _ => 0⟩
def plO (x : Rl) : PlP := match rmx x.w x.w x.k with
 | none => plE 16
 | some M => match dly x.w.length (nmx x.w x.k x.t) x.t.length with
  | none => plE 15
  | some d => ⟨d, 0, x.w.length, x.t.length, x.m.length, pW M x.w.length d, pN (nmx x.w x.k x.t) x.w.length d, pM x.m d⟩
def PlV (w : World) (e : Ending) (P : PlP) : Prop := ∃ pa ca pb cb pc cc, e = .returned (.tuple #[.agg #[.int .i64 P.x, .slice pa P.n1 ca, .slice pb P.n2 cb, .slice pc P.n3 cc], .int .i64 P.c]) ∧ RwI w (.slice pa P.n1 ca) P.n1 P.z1 ∧ RwI w (.slice pb P.n2 cb) P.n2 P.z2 ∧ RwI w (.slice pc P.n3 cc) P.n3 P.z3
theorem zH1 {w : World} {c : Int} : PlV w (.returned (.tuple #[.agg #[.int .i64 0, .slice none 0 0, .slice none 0 0, .slice none 0 0], .int .i64 c])) (plE c) := ⟨none, 0, none, 0, none, 0, rfl, RwI.nil _ _, RwI.nil _ _, RwI.nil _ _⟩
theorem plV_of {w : World} {e : Ending} {x : Rl} (h : Pres w e x.w x.t x.m x.k) : PlV w e (plO x) := by
 unfold Pres at h
 unfold plO
 cases h1 : rmx x.w x.w x.k with
 | none => simp only [h1] at h; rw [h]; exact zH1
 | some M =>
  simp only [h1] at h ⊢
  cases h2 : dly x.w.length (nmx x.w x.k x.t) x.t.length with
  | none => simp only [h2] at h; rw [h]; exact zH1
  | some d =>
   simp only [h2] at h ⊢
   obtain ⟨va, vb, vc, rfl, q1, q2, q3⟩ := h
   obtain ⟨pa, ca, rfl, _⟩ := q1.1
   obtain ⟨pb, cb, rfl, _⟩ := q2.1
   obtain ⟨pc, cc, rfl, _⟩ := q3.1
   exact ⟨_, _, _, _, _, _, rfl, q1, q2, q3⟩
def rl0 : Rl := ⟨txt [], [], [], [], [], ⟨txt [], []⟩⟩
def plR (ts : List Tp) (rs : List Rl) (k : Int) : PlP := if bok ts rs ≠ 0 then plE (bok ts rs) else if ¬ (0 ≤ k ∧ k < (rs.length : Int)) then plE 2 else plO (rs.getD k.toNat rl0)
theorem rule_bad (ts : List Tp) (rs : List Rl) (hzz : ∀ r, r ∈ rs → Szr r) (tv rv : Value) (w : World) (hT : Rd w (.row 59 2 (ts.map encY)) tv) (hR : Rd w (.row 56 7 (rs.map encR)) rv) (htk : Tab w 0 kpl) (htr : Tab w 1 rll) (ht : B8.Tab w) (k : Int) (hb : bok ts rs ≠ 0) : Calls Tryz.prog 13 #[.agg #[tv, rv], .int .i64 k] w fun e w' => PlV w' e (plE (bok ts rs)) ∧ Below w.heap.size w w' := by
  have HCH := hid (fun W (hW : Below w.heap.size w W) => check_any ts rs hzz tv rv W (hT.later hW) (hR.later hW) (zAH htk hW) (zAH htr hW))
  obtain ⟨tp, tc, htv, _, _⟩ := zAK lenY hT
  obtain ⟨rp, rc, hrv, hmr, _⟩ := zAK lenR hR
  obtain ⟨E0, hE0⟩ : ∃ E, bok ts rs = E := ⟨_, rfl⟩
  rw [hE0] at HCH hb ⊢
  subst htv hrv
  generalize ts.length = tn at *
  generalize rs.length = rn at *
  have hB : Bxs w ((w.alloc (.cells #[.slice tp tn tc, .slice rp rn rc] 28)).alloc (.cells #[.int .i64 0, .slice none 0 0, .slice none 0 0, .slice none 0 0] 69)) [([.slice tp tn tc, .slice rp rn rc], 28), ([.int .i64 0, .slice none 0 0, .slice none 0 0, .slice none 0 0], 69)] := bxs2 w _ _ _ _
  have HB := hid hB
  have d9 : (E0 != 0) = true := by simpa using hb
  have d8 : (E0 == 0) = false := by simpa using hb
  clear hT hR hzz hE0 hb hB hmr htk htr
  go_enter Tryz.func13, Tryz.ntmps13
  go_wp2_with fail
  refine (HCH.out _ HB.out.bel).mono ?_
  rintro e w1 ⟨rfl, hb1⟩
  have HB1 := hid (HB.out.next hb1)
  have HP1 : Hid (w1.heap[w.heap.size + 1]? = some (.cells #[.int .i64 0, .slice none 0 0, .slice none 0 0, .slice none 0 0] 69 (0, 0))) := HB1.out.b 1 (by simp)
  clear hb1
  go_wp2_with (((with_reducible show wpList _ _ _ (Oper.mk _ (.store 69 (.tmp 4) _) _ _ _ _ :: _) _ _); refine zBL 69 (w.heap.size + 1) 0 [.int .i64 0, .slice none 0 0, .slice none 0 0, .slice none 0 0] 69 [.int .i64 0, .slice none 0 0, .slice none 0 0, .slice none 0 0] HP1.out ?_ (hl := by first | decide | simp); intro w9 hq1 hq2; have HP9 := hid hq1; have HB9 : Hid (Below w.heap.size w w9) := zAU HB1.out.bel hq2 (by omega) (Nat.le_refl _); clear hq1 hq2))
  exact zB3 (w.heap.size + 1) [.int .i64 0, .slice none 0 0, .slice none 0 0, .slice none 0 0] 69 _ HP9.out rfl rfl (by rfl) Tryz.underlying69 rfl (by kernel_rfl) ⟨zH1, HB9.out⟩
theorem rule_off (ts : List Tp) (rs : List Rl) (hzz : ∀ r, r ∈ rs → Szr r) (tv rv : Value) (w : World) (hT : Rd w (.row 59 2 (ts.map encY)) tv) (hR : Rd w (.row 56 7 (rs.map encR)) rv) (htk : Tab w 0 kpl) (htr : Tab w 1 rll) (ht : B8.Tab w) (k : Int) (hb : bok ts rs = 0) (hk : ¬ (0 ≤ k ∧ k < (rs.length : Int))) : Calls Tryz.prog 13 #[.agg #[tv, rv], .int .i64 k] w fun e w' => PlV w' e (plE 2) ∧ Below w.heap.size w w' := by
 have HCH := hid (fun W (hW : Below w.heap.size w W) => check_any ts rs hzz tv rv W (hT.later hW) (hR.later hW) (zAH htk hW) (zAH htr hW))
 obtain ⟨tp, tc, htv, _, _⟩ := zAK lenY hT
 obtain ⟨rp, rc, hrv, hmr, _⟩ := zAK lenR hR
 have hlen := (zGB hb).2
 rw [hb] at HCH
 subst htv hrv
 generalize ts.length = tn at *
 generalize rs.length = rn at *
 have hB : Bxs w ((w.alloc (.cells #[.slice tp tn tc, .slice rp rn rc] 28)).alloc (.cells #[.int .i64 0, .slice none 0 0, .slice none 0 0, .slice none 0 0] 69)) [([.slice tp tn tc, .slice rp rn rc], 28), ([.int .i64 0, .slice none 0 0, .slice none 0 0, .slice none 0 0], 69)] := bxs2 w _ _ _ _
 have HB := hid hB
 clear hT hR htk htr hzz hb hB hmr
 by_cases h0 : k < 0
 . have d1 : decide (k < 0) = true := by simpa using h0
   clear hk
   go_enter Tryz.func13, Tryz.ntmps13
   go_wp2_with fail
   refine (HCH.out _ HB.out.bel).mono ?_
   rintro e w1 ⟨rfl, hb1⟩
   have HB1 := hid (HB.out.next hb1)
   have HP1 : Hid (w1.heap[w.heap.size + 1]? = some (.cells #[.int .i64 0, .slice none 0 0, .slice none 0 0, .slice none 0 0] 69 (0, 0))) := HB1.out.b 1 (by simp)
   have c1 : w1.cell? ⟨w.heap.size, 1, none⟩ = some (.slice rp rn rc) := HB1.out.c 0 (by simp) 1
   clear hb1
   go_wp2_with (((with_reducible show wpList _ _ _ (Oper.mk _ (.store 69 (.tmp 4) _) _ _ _ _ :: _) _ _); refine zBL 69 (w.heap.size + 1) 0 [.int .i64 0, .slice none 0 0, .slice none 0 0, .slice none 0 0] 69 [.int .i64 0, .slice none 0 0, .slice none 0 0, .slice none 0 0] HP1.out ?_ (hl := by first | decide | simp); intro w9 hq1 hq2; have HP9 := hid hq1; have HB9 : Hid (Below w.heap.size w w9) := zAU HB1.out.bel hq2 (by omega) (Nat.le_refl _); clear hq1 hq2))
   exact zB3 (w.heap.size + 1) [.int .i64 0, .slice none 0 0, .slice none 0 0, .slice none 0 0] 69 _ HP9.out rfl rfl (by rfl) Tryz.underlying69 rfl (by kernel_rfl) ⟨zH1, HB9.out⟩
 . have d1 : decide (k < 0) = false := by simpa using h0
   have h1 : (rn : Int) ≤ k := by omega
   have d2 : decide (k ≥ (rn : Int)) = true := by simpa using h1
   clear hk
   go_enter Tryz.func13, Tryz.ntmps13
   go_wp2_with fail
   refine (HCH.out _ HB.out.bel).mono ?_
   rintro e w1 ⟨rfl, hb1⟩
   have HB1 := hid (HB.out.next hb1)
   have HP1 : Hid (w1.heap[w.heap.size + 1]? = some (.cells #[.int .i64 0, .slice none 0 0, .slice none 0 0, .slice none 0 0] 69 (0, 0))) := HB1.out.b 1 (by simp)
   have c1 : w1.cell? ⟨w.heap.size, 1, none⟩ = some (.slice rp rn rc) := HB1.out.c 0 (by simp) 1
   clear hb1
   go_wp2_with (((with_reducible show wpList _ _ _ (Oper.mk _ (.store 69 (.tmp 4) _) _ _ _ _ :: _) _ _); refine zBL 69 (w.heap.size + 1) 0 [.int .i64 0, .slice none 0 0, .slice none 0 0, .slice none 0 0] 69 [.int .i64 0, .slice none 0 0, .slice none 0 0, .slice none 0 0] HP1.out ?_ (hl := by first | decide | simp); intro w9 hq1 hq2; have HP9 := hid hq1; have HB9 : Hid (Below w.heap.size w w9) := zAU HB1.out.bel hq2 (by omega) (Nat.le_refl _); clear hq1 hq2))
   exact zB3 (w.heap.size + 1) [.int .i64 0, .slice none 0 0, .slice none 0 0, .slice none 0 0] 69 _ HP9.out rfl rfl (by rfl) Tryz.underlying69 rfl (by kernel_rfl) ⟨zH1, HB9.out⟩
theorem rule_in (ts : List Tp) (rs : List Rl) (hzz : ∀ r, r ∈ rs → Szr r) (tv rv : Value) (w : World) (hT : Rd w (.row 59 2 (ts.map encY)) tv) (hR : Rd w (.row 56 7 (rs.map encR)) rv) (htk : Tab w 0 kpl) (htr : Tab w 1 rll) (ht : B8.Tab w) (k : Nat) (hb : bok ts rs = 0) (hk : k < rs.length) : Calls Tryz.prog 13 #[.agg #[tv, rv], .int .i64 (k : Int)] w fun e w' => PlV w' e (plO rs[k]) ∧ Below w.heap.size w w' := by
 have hpl := zBX (zIG hb _ (List.getElem_mem hk))
 have hlen := (zGB hb).2
 have HCH := hid (fun W (hW : Below w.heap.size w W) => check_any ts rs hzz tv rv W (hT.later hW) (hR.later hW) (zAH htk hW) (zAH htr hW))
 obtain ⟨tp, tc, htv, _, _⟩ := zAK lenY hT
 obtain ⟨rp, rc, hrv, hmr, _⟩ := zAK lenR hR
 rw [hb] at HCH
 obtain ⟨g, off, A, hrg, hA⟩ : ∃ g off A, rp = some ⟨g, off, none⟩ ∧ (∀ W, Below w.heap.size w W → W.rangeAt g (off + k * 7) A) ∧ RdL w (encR rs[k]) A := by
  obtain ⟨p, cap, e0, _, hat⟩ := zAK lenR hR
  obtain ⟨g, off, rfl, hrd⟩ := hat (by omega)
  obtain ⟨A, r1, o1⟩ := hrd w (Below.refl _ _) k hk
  rw [hrv] at e0
  simp only [Value.slice.injEq] at e0
  exact ⟨g, off, A, e0.1, fun W hW => zAY r1 hW, o1⟩
 obtain ⟨X, hX⟩ : ∃ X, rs[k] = X := ⟨_, rfl⟩
 rw [hX] at hpl hA ⊢
 obtain ⟨v1, v2, v3, v4, v5, z1, o1, o2, o3, o4, o5⟩ := rdR hA.2
 obtain ⟨a1, a2, a3, rfl⟩ := zAC o1
 obtain ⟨b1, b2, b3, rfl⟩ := zAC o2
 obtain ⟨d1, d2, d3, rfl⟩ := zAC o3
 obtain ⟨f1, f2, f3, rfl⟩ := zAC o4
 obtain ⟨g1, g2, g3, rfl⟩ := zAC o5
 have HPO := hid (fun W (hW : Below w.heap.size w W) => zHI X.w X.t X.m X.k hpl.w (hpl.k _) (fun p _ => hpl.k _) hpl.m hpl.sz.1 hpl.sz.2.1 hpl.sz.2.2.1 hpl.sz.2.2.2.1 X.n X.e.ty a1 a2 a3 b1 b2 b3 d1 d2 d3 f1 f2 f3 g1 g2 g3 W (o1.later hW) (o2.later hW) (o3.later hW) (o4.later hW) (ht.later hW))
 have HPV := hid (fun (W : World) (e : Ending) (h : Pres W e X.w X.t X.m X.k) => plV_of h)
 obtain ⟨P, hP⟩ : ∃ P, plO X = P := ⟨_, rfl⟩
 rw [hP] at HPV ⊢
 obtain ⟨qn, hqn⟩ : ∃ z, X.n = z := ⟨_, rfl⟩
 obtain ⟨qt, hqt⟩ : ∃ z, X.e.ty = z := ⟨_, rfl⟩
 rw [hqn, hqt] at z1 HPO
 subst z1
 have HXR := hid hA.1
 subst hrg htv
 generalize ts.length = tn at *
 obtain ⟨rn, hrn⟩ : ∃ n, rs.length = n := ⟨_, rfl⟩
 rw [hrn] at hrv hmr hlen
 subst hrv
 have i1 : (0 : Int) ≤ (k : Int) := by omega
 have i2 : (k : Int) < (rn : Int) := by omega
 have y1 : decide ((k : Int) < 0) = false := by simp
 have y2 : decide ((k : Int) ≥ (rn : Int)) = false := by simp; omega
 have hB : Bxs w ((w.alloc (.cells #[.slice tp tn tc, .slice (some ⟨g, off, none⟩) rn rc] 28)).alloc (.cells #[.int .i64 0, .slice none 0 0, .slice none 0 0, .slice none 0 0] 69)) [([.slice tp tn tc, .slice (some ⟨g, off, none⟩) rn rc], 28), ([.int .i64 0, .slice none 0 0, .slice none 0 0, .slice none 0 0], 69)] := bxs2 w _ _ _ _
 have HB := hid hB
 have HKR : Hid (k < rn) := by show _ < _; omega
 clear hT hR hzz hb hB hmr hA o1 o2 o3 o4 o5 hqn hqt hP hpl hk hrn hlen hX htk htr ht
 go_enter Tryz.func13, Tryz.ntmps13
 go_wp2_with fail
 refine (HCH.out _ HB.out.bel).mono ?_
 rintro e w1 ⟨rfl, hb1⟩
 have HB1 := hid (HB.out.next hb1)
 have HP1 : Hid (w1.heap[w.heap.size + 1]? = some (.cells #[.int .i64 0, .slice none 0 0, .slice none 0 0, .slice none 0 0] 69 (0, 0))) := HB1.out.b 1 (by simp)
 have c1 : w1.cell? ⟨w.heap.size, 1, none⟩ = some (.slice (some ⟨g, off, none⟩) rn rc) := HB1.out.c 0 (by simp) 1
 clear hb1
 go_wp2_with (first
  | ((with_reducible show wpList _ _ _ (Oper.mk (some 27) _ _ _ _ _ :: _) _ _); refine wpList_load_mid (by rfl) 56 _ (by rfl) g (off + k * 7) (by rfl) [.string qn, .slice a1 a2 a3, .slice b1 b2 b3, .slice d1 d2 d3, .slice f1 f2 f3, .string qt, .slice g1 g2 g3] _ (HXR.out _ HB1.out.bel) Tryz.underlying56 rfl (by kernel_rfl) ?_)
  | (go_at_call 28; refine (HPO.out _ HB1.out.bel).mono ?_; rintro e w2 ⟨hres, hb2⟩; obtain ⟨pa, ca, pb, cb, pc, cc, rfl, q1, q2, q3⟩ := HPV.out _ _ hres; have HQ := hid (And.intro q1 (And.intro q2 q3)); have HB2 := hid (HB1.out.next hb2); have HP2 : Hid (w2.heap[w.heap.size + 1]? = some (.cells #[.int .i64 0, .slice none 0 0, .slice none 0 0, .slice none 0 0] 69 (0, 0))) := HB2.out.b 1 (by simp); clear hres hb2 q1 q2 q3 c1)
  | ((with_reducible show wpList _ _ _ (Oper.mk _ (.store 69 (.tmp 4) _) _ _ _ _ :: _) _ _); refine zBL 69 (w.heap.size + 1) 0 [.int .i64 0, .slice none 0 0, .slice none 0 0, .slice none 0 0] 69 [.int .i64 P.x, .slice pa P.n1 ca, .slice pb P.n2 cb, .slice pc P.n3 cc] HP2.out ?_ (hl := by first | decide | simp); intro w9 hq1 hq2; have HP9 := hid hq1; have HF9 := hid hq2; have HB9 : Hid (Below w.heap.size w w9) := zAU HB2.out.bel hq2 (by omega) (Nat.le_refl _); clear hq1 hq2))
 exact zB3 (w.heap.size + 1) [.int .i64 P.x, .slice pa P.n1 ca, .slice pb P.n2 cb, .slice pc P.n3 cc] 69 _ HP9.out rfl rfl (by rfl) Tryz.underlying69 rfl (by kernel_rfl) ⟨⟨_, _, _, _, _, _, rfl, HQ.out.1.fr HP2.out HF9.out, HQ.out.2.1.fr HP2.out HF9.out, HQ.out.2.2.fr HP2.out HF9.out⟩, HB9.out⟩
theorem rule_any (ts : List Tp) (rs : List Rl) (hzz : ∀ r, r ∈ rs → Szr r) (tv rv : Value) (w : World) (hT : Rd w (.row 59 2 (ts.map encY)) tv) (hR : Rd w (.row 56 7 (rs.map encR)) rv) (htk : Tab w 0 kpl) (htr : Tab w 1 rll) (ht : B8.Tab w) (k : Int) : Calls Tryz.prog 13 #[.agg #[tv, rv], .int .i64 k] w fun e w' => PlV w' e (plR ts rs k) ∧ Below w.heap.size w w' := by
 unfold plR
 by_cases hb : bok ts rs = 0
 . rw [if_neg (fun c => c hb)]
   by_cases hk : 0 ≤ k ∧ k < (rs.length : Int)
   . rw [if_neg (fun c => c hk)]
     obtain ⟨j, rfl⟩ : ∃ j : Nat, k = (j : Int) := ⟨k.toNat, by omega⟩
     have hj : j < rs.length := by omega
     have e : rs.getD ((j : Int)).toNat rl0 = rs[j] := by rw [Int.toNat_natCast, List.getD_eq_getElem?_getD, List.getElem?_eq_getElem hj]; rfl
     rw [e]
     exact rule_in ts rs hzz tv rv w hT hR htk htr ht j hb hj
   . rw [if_pos hk]
     exact rule_off ts rs hzz tv rv w hT hR htk htr ht k hb hk
 . rw [if_pos hb]
   exact rule_bad ts rs hzz tv rv w hT hR htk htr ht k hb
end Go.Proofs.YtnlmknbhppdliaaGreatDoor.Chk
