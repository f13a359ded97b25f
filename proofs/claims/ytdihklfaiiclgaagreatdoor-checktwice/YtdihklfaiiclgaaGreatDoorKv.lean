/-
  What is there twice: CheckTwice.
-/
import Derived.Test.YtdihklfaiiclgaaGreatDoorKp
import Derived.Test.YtdihklfaiiclgaaGreatDoorDt
namespace Go.Proofs.YtdihklfaiiclgaaGreatDoor.Chk
open Go.ChangeShapes Go.WideShapes Go.ChangeAt Go.RowKit Go.Maps
set_option linter.unusedVariables false
set_option linter.unusedSimpArgs false
set_option maxRecDepth 20000
theorem op_lenS {P : Program} {o : Oper} {a : Act} {W : World} {K : Act → World → Prop} {Q : Exit → Act → World → Prop} (x : Operand) (T : TypeId) {e : TypeId} (ho : o.op = .call { callee := .builtin .len, args := #[x], argTypes := #[T] }) (hu : P.underlying T = some (.slice e)) {p : Option Addr} {n c : Nat} (hx : a.eval x = .slice p n c) (hk : K (a.put o.dst (.int .i64 (n : Int))) W) : Oper.wp P o a W K Q := by
  refine op_val (.int .i64 (n : Int)) ?_ hk
  unfold execOp
  simp only [ho, resolve, invoke, builtin, Sem.run_bind, Sem.run_pure, Result.andThen_ok, List.map_toArray, List.map_cons, List.map_nil, hx]
  simp [Builtin.len_, run_underlying hu, goInt]
theorem show_bad (ts : List Tp) (rs : List Rl) (hzz : ∀ r, r ∈ rs → Szr r) (tv rv : Value) (w : World) (hT : Rd w (.row 33 2 (ts.map encY)) tv) (hR : Rd w (.row 41 7 (rs.map encR)) rv) (htk : Tab w 0 kpl) (htr : Tab w 1 rll) (hb : bok ts rs ≠ 0) :
  Calls Tryz.prog 8 #[.agg #[tv, rv]] w fun e w' => e = .returned (.tuple #[.slice none 0 0, .int .i64 (bok ts rs)]) ∧ Below w.heap.size w w' := by
 have HCH := hid (fun W (hW : Below w.heap.size w W) => check_any ts rs hzz tv rv W (hT.later hW) (hR.later hW) (tab_later htk hW) (tab_later htr hW))
 obtain ⟨tp, tn, tc, rfl⟩ := rd_shape hT
 obtain ⟨rp, rn, rc, rfl⟩ := rd_shape hR
 obtain ⟨E0, hE0⟩ : ∃ E, bok ts rs = E := ⟨_, rfl⟩
 rw [hE0] at HCH hb ⊢
 have HB := hid ((Bxs.nil w).snoc (by simp) [.slice tp tn tc, .slice rp rn rc] 26)
 have d9 : (E0 != 0) = true := by simpa using hb
 clear hT hR htk htr hzz hE0 hb
 go_enter Tryz.func8, Tryz.ntmps8
 go_wp2_with fail
 refine (HCH.out _ HB.out.bel).mono ?_
 rintro e w1 ⟨rfl, hb1⟩
 have HB1 := hid (HB.out.next hb1)
 clear hb1
 go_wp2_with fail
 go_ret2
 exact ⟨rfl, HB1.out.bel⟩
theorem cell_sm {w W : World} {g i : Nat} (hb : W.heap[g]? = w.heap[g]?) : W.cell? ⟨g, i, none⟩ = w.cell? ⟨g, i, none⟩ := by
  unfold World.cell?
  simp only [hb]
theorem range_eq {w W : World} {g o : Nat} {us vs : List Value} (h : w.rangeAt g o us) (k : W.rangeAt g o vs) (hb : W.heap[g]? = w.heap[g]?) (hl : us.length = vs.length) : us = vs := by
  refine List.ext_getElem hl fun j h1 h2 => ?_
  have e1 := h j us[j] (List.getElem?_eq_getElem h1)
  have e2 := k j vs[j] (List.getElem?_eq_getElem h2)
  rw [cell_sm hb] at e2
  exact Option.some.inj (e1.symm.trans e2)
theorem kt_first {w : World} {n : Nat} {x : Rl} {p : Pt} {r : List Pt} {xn xe : ByteArray} {p1 p2 p3 p4 p5 : Option Addr} {n1 n2 n3 n4 n5 c1 c2 c3 c4 c5 : Nat} (hw : x.w = p :: r) (h : KT w n isR (encR x) [.string xn, .slice p1 n1 c1, .slice p2 n2 c2, .slice p3 n3 c3, .slice p4 n4 c4, .string xe, .slice p5 n5 c5]) :
  ∃ (g off : Nat) (a1 a2 a3 a4 a5 a6 a7 a8 : ByteArray) (sp : Option Addr) (sn sc : Nat) (k1 k2 k3 k4 k5 k6 k7 k8 k9 : Int), p1 = some ⟨g, off, none⟩ ∧ n1 = r.length + 1 ∧ (∀ W : World, W.heap[g]? = w.heap[g]? → W.rangeAt g off [.string a1, .string a2, .int .i64 k1, .slice sp sn sc, .int .i64 k2, .int .i64 k3, .int .i64 k4, .string a3, .string a4, .string a5, .int .i64 k5, .int .i64 k6, .int .i64 k7, .string a6, .string a7, .string a8, .int .i64 k8, .int .i64 k9]) ∧ KT w n isR (encP p) [.string a1, .string a2, .int .i64 k1, .slice sp sn sc, .int .i64 k2, .int .i64 k3, .int .i64 k4, .string a3, .string a4, .string a5, .int .i64 k5, .int .i64 k6, .int .i64 k7, .string a6, .string a7, .string a8, .int .i64 k8, .int .i64 k9] ∧ (∃ t, isR t ∧ TB w t g) ∧ n ≤ g := by
 have hr : ∀ W : World, (∀ i t, n ≤ i → isR t → TB w t i → W.heap[i]? = w.heap[i]?) → Rd W (.row 50 18 ((p :: r).map encP)) (.slice p1 n1 c1) := fun W hW => by
  obtain ⟨v1, v2, v3, v4, v5, e, o1, _⟩ := rdR (h W hW)
  simp only [List.cons.injEq] at e
  rw [e.2.1, ← hw]
  exact o1
 have hat : ∀ W : World, (∀ i t, n ≤ i → isR t → TB w t i → W.heap[i]? = w.heap[i]?) → ∃ g off us, Value.slice p1 n1 c1 = .slice (some ⟨g, off, none⟩) (r.length + 1) c1 ∧ W.rangeAt g off us ∧ RdL W (encP p) us := fun W hW => by
  obtain ⟨q, cap, e, _, ha⟩ := rd_row lenP (hr W hW)
  obtain ⟨g, off, rfl, hb⟩ := ha (by simp)
  obtain ⟨us, h1, h2⟩ := hb W (Below.refl _ _) 0 (by simp)
  simp only [Value.slice.injEq] at e
  refine ⟨g, off, us, by rw [e.1, e.2.1]; simp, by simpa using h1, h2⟩
 obtain ⟨g, off, us, e0, hg, hus⟩ := hat w (fun _ _ _ _ _ => rfl)
 simp only [Value.slice.injEq, and_true] at e0
 obtain ⟨rfl, rfl⟩ := e0
 obtain ⟨sv, eu, hs⟩ := rdP hus
 obtain ⟨sp, sn, sc, rfl⟩ := rd_shape hs
 have hl : us.length = 18 := by rw [eu]; rfl
 have hlt : g < w.heap.size := World.block_lt_of_cell? _ _ (hg 0 us[0] (List.getElem?_eq_getElem (by omega)))
 have hp : ∃ t, n ≤ g ∧ isR t ∧ TB w t g := by
  refine Classical.byContradiction fun c => ?_
  obtain ⟨g', off', us', e, h1, h2⟩ := hat { w with heap := w.heap.setIfInBounds g (.cells #[] 0 (0, 0)) } (fun i t hi hq ht => by
   have hne : i ≠ g := fun e => c ⟨t, by rw [← e]; exact hi, hq, by rw [← e]; exact ht⟩
   simp only [Array.getElem?_setIfInBounds]
   rw [if_neg (fun e => hne e.symm)])
  simp only [Value.slice.injEq, Option.some.injEq, Addr.mk.injEq] at e
  obtain ⟨⟨rfl, rfl, _⟩, _⟩ := e
  have hl2 : 0 < us'.length := by rw [← h2.1]; show 0 < (encP p).length; rw [lenP]; omega
  have h3 := h1 0 us'[0] (List.getElem?_eq_getElem hl2)
  rw [cell_of_blk (cs := #[]) (by simp only [Array.getElem?_setIfInBounds]; rw [if_pos trivial, if_pos hlt])] at h3
  simp at h3
 obtain ⟨t, t1, t2, t3⟩ := hp
 subst eu
 refine ⟨g, off, _, _, _, _, _, _, _, _, _, _, _, _, _, _, _, _, _, _, _, _, rfl, rfl, fun W hW => range_same hg hW, fun W hW => ?_, ⟨t, t2, t3⟩, t1⟩
 obtain ⟨g', off', us', e, h1, h2⟩ := hat W hW
 simp only [Value.slice.injEq, Option.some.injEq, Addr.mk.injEq] at e
 obtain ⟨⟨rfl, rfl, _⟩, _⟩ := e
 have e9 := range_eq hg h1 (hW g t t1 t2 t3) (by rw [← h2.1]; show _ = (encP p).length; rw [lenP]; rfl)
 rw [← e9] at h2
 exact h2
theorem rdl_tw {w : World} {x : Rl} {q : Pt} {b9 : Nat} {xn xe : ByteArray} {v1 v2 v3 v4 v5 : Value} {us : List Value} (h : RdL w (encR x) [.string xn, v1, v2, v3, v4, .string xe, v5]) (hp : w.heap[b9]? = some (.cells (us ++ us).toArray 50 (0, 0))) (hq : RdL w (encP q) us) : RdL w (encR (twW x q)) [.string xn, .slice (some ⟨b9, 0, none⟩) 2 2, v2, v3, .slice none 0 0, .string xe, v5] := by
 obtain ⟨u1, u2, u3, u4, u5, e, o1, o2, o3, o4, o5⟩ := rdR h
 simp only [List.cons.injEq, Value.string.injEq] at e
 obtain ⟨rfl, rfl, rfl, rfl, rfl, rfl, rfl, _⟩ := e
 have hp2 : Rd w (.row 50 18 ([q, q].map encP)) (.slice (some ⟨b9, 0, none⟩) 2 2) := rd_blk (l := [q, q].map encP) hp (by simp) (by simp [maxLen]) (by
  show RdL w (encP q ++ (encP q ++ [])) _
  rw [List.append_nil]
  exact rdl_app hq hq)
 exact .cons (.lit _) (.cons hp2 (.cons o2 (.cons o3 (.cons (.nil _ _ none 0 (Nat.zero_le _)) (.cons (.lit _) (.cons o5 (RdL.nil _)))))))
structure Tw (w0 W : World) (b : Nat) (d1 d2 : List Dat) (u1 u2 : List Value) : Prop where
  bel : Below w0.heap.size w0 W
  ty : Tys W b
  kt : KT W (b + 5) isR d1 u1
  kq : KT W (b + 5) isR d2 u2
theorem Tw.below {w0 W W' : World} {b : Nat} {d1 d2 : List Dat} {u1 u2 : List Value} (h : Tw w0 W b d1 d2 u1 u2) (hb : Below W.heap.size W W') : Tw w0 W' b d1 d2 u1 u2 :=
  ⟨below_trans h.bel hb h.bel.size, h.ty.later (fun i o hi _ _ => (hb.block _ (blk_lt hi)).trans hi), h.kt.below hb, h.kq.below hb⟩
theorem Tw.fr {w0 W W' : World} {b u i : Nat} {d1 d2 : List Dat} {u1 u2 : List Value} (h : Tw w0 W b d1 d2 u1 u2) (hf : Fr (fun j => j = i) W W') (ht : TB W u i) (hu : ¬ isR u) (h1 : b + 4 < i) (h0 : w0.heap.size ≤ i) : Tw w0 W' b d1 d2 u1 u2 :=
  ⟨below_fr h.bel hf h0, h.ty.later (fun j o hj _ hb2 => (hf.block _ (blk_lt hj) (by show j ≠ i; omega)).trans hj), h.kt.fr hf ht hu, h.kq.fr hf ht hu⟩
theorem blk_fr {w w' : World} {i j : Nat} {cs : Array Value} {t : TypeId} (h : w.heap[j]? = some (.cells cs t (0, 0))) (hf : Fr (fun k => k = i) w w') (hne : j ≠ i) : w'.heap[j]? = some (.cells cs t (0, 0)) := (hf.block _ (blk_lt h) hne).trans h
def isT (t : Nat) : Prop := t = 95
instance (t : Nat) : Decidable (isT t) := by unfold isT; infer_instance
def TYC (b : Nat) : List Value := [.string ⟨#[97]⟩, .slice (some ⟨b, 0, none⟩) 1 1, .string ⟨#[98]⟩, .slice (some ⟨b + 1, 0, none⟩) 2 2, .string ⟨#[99]⟩, .slice none 0 0, .string ⟨#[100]⟩, .slice (some ⟨b + 2, 0, none⟩) 1 1, .string ⟨#[101]⟩, .slice (some ⟨b + 3, 0, none⟩) 1 1]
theorem tys_kt {w : World} {b : Nat} (h : Tys w b) : KT w b isT (kts.map encY).flatten (TYC b) := fun W hW => by
  obtain ⟨h0, h1, h2, h3, h4⟩ := h
  have g0 := (hW b 95 (Nat.le_refl _) rfl ⟨_, h0⟩).trans h0
  have g1 := (hW (b + 1) 95 (by omega) rfl ⟨_, h1⟩).trans h1
  have g2 := (hW (b + 2) 95 (by omega) rfl ⟨_, h2⟩).trans h2
  have g3 := (hW (b + 3) 95 (by omega) rfl ⟨_, h3⟩).trans h3
  have r0 : Rd W (.row 95 2 (([⟨txt [110], 1⟩] : List Fd).map encF)) (.slice (some ⟨b, 0, none⟩) 1 1) := rd_blk (l := ([⟨txt [110], 1⟩] : List Fd).map encF) g0 (by decide) (by decide) (rdl_lits [.string (txt [110]), .int .i64 1])
  have r1 : Rd W (.row 95 2 (([⟨txt [110], 1⟩, ⟨txt [115], 2⟩] : List Fd).map encF)) (.slice (some ⟨b + 1, 0, none⟩) 2 2) := rd_blk (l := ([⟨txt [110], 1⟩, ⟨txt [115], 2⟩] : List Fd).map encF) g1 (by decide) (by decide) (rdl_lits [.string (txt [110]), .int .i64 1, .string (txt [115]), .int .i64 2])
  have r2 : Rd W (.row 95 2 (([⟨txt [110], 1⟩] : List Fd).map encF)) (.slice (some ⟨b + 2, 0, none⟩) 1 1) := rd_blk (l := ([⟨txt [110], 1⟩] : List Fd).map encF) g2 (by decide) (by decide) (rdl_lits [.string (txt [110]), .int .i64 1])
  have r3 : Rd W (.row 95 2 (([⟨txt [110], 1⟩] : List Fd).map encF)) (.slice (some ⟨b + 3, 0, none⟩) 1 1) := rd_blk (l := ([⟨txt [110], 1⟩] : List Fd).map encF) g3 (by decide) (by decide) (rdl_lits [.string (txt [110]), .int .i64 1])
  have rc : Rd W (.row 95 2 (([] : List Fd).map encF)) (.slice none 0 0) := .nil _ _ none 0 (Nat.zero_le _)
  exact .cons (.lit _) (.cons r0 (.cons (.lit _) (.cons r1 (.cons (.lit _) (.cons rc (.cons (.lit _) (.cons r2 (.cons (.lit _) (.cons r3 (RdL.nil _))))))))))
theorem tys_row {w : World} {b : Nat} (h : Tys w b) : RwT w b isT 33 2 (.slice (some ⟨b + 4, 0, none⟩) 5 5) (kts.map encY) :=
  ⟨TYC b, ⟨by rfl, .inr ⟨b + 4, 5, _, rfl, by omega, h.2.2.2.2, Nat.le_refl _, by unfold maxLen; omega, rfl, rfl⟩⟩, tys_kt h⟩
theorem kt_ty {w : World} {b : Nat} (h : Tys w b) : KT w b isT (encY ⟨txt [97], [⟨txt [110], 1⟩]⟩) [.string ⟨#[97]⟩, .slice (some ⟨b, 0, none⟩) 1 1] := fun W hW => by
  have g0 := (hW b 95 (Nat.le_refl _) rfl ⟨_, h.1⟩).trans h.1
  have r0 : Rd W (.row 95 2 (([⟨txt [110], 1⟩] : List Fd).map encF)) (.slice (some ⟨b, 0, none⟩) 1 1) := rd_blk (l := ([⟨txt [110], 1⟩] : List Fd).map encF) g0 (by decide) (by decide) (rdl_lits [.string (txt [110]), .int .i64 1])
  exact .cons (.lit _) (.cons r0 (RdL.nil _))
theorem infT : (Tryz.prog.info? 33).map (fun i => (i.zero, i.size, i.bytes)) = some (some (.agg #[.string ⟨#[]⟩, .slice none 0 0]), 2, 40) := by kernel_rfl
theorem inT : ∃ i0, Tryz.prog.info? 33 = some i0 ∧ i0.zero = some (.agg #[.string ⟨#[]⟩, .slice none 0 0]) ∧ i0.size = 2 ∧ i0.bytes = 40 := info_parts infT
theorem ty_range {W : World} {b : Nat} (h : Tys W b) : W.rangeAt (b + 4) 0 [.string ⟨#[97]⟩, .slice (some ⟨b, 0, none⟩) 1 1] := fun j u hu => by
  rw [Nat.zero_add, cell_of_blk h.2.2.2.2]
  rcases j with _ | _ | j
  . simpa using hu
  . simpa using hu
  . simp at hu
set_option maxHeartbeats 64000000 in
theorem checkTwice_walk (l : List Plt) (hok : ∀ p, p ∈ l → p.ok) (lv : Value) (wh : Int) (hw1 : -9223372036854775808 ≤ wh) (hw2 : wh ≤ 9223372036854775807) (w : World) (hl : Rd w (.row 72 5 (l.map encPl)) lv) (htk : Tab w 0 kpl) (htr : Tab w 1 rll) :
   Calls Tryz.prog 3 #[lv, .int .i64 wh] w fun e w' => e = .returned (.bool true) ∧ Below w.heap.size w w' := by
 have HBK := hid (book_any l hok lv w hl)
 have HCK := hid (fun (rs : List Rl) (hz : ∀ x, x ∈ rs → Szr x) (tv rv : Value) (W : World) (hb : Below w.heap.size w W) (hT : Rd W (.row 33 2 (kts.map encY)) tv) (hR : Rd W (.row 41 7 (rs.map encR)) rv) => check_any kts rs hz tv rv W hT hR (tab_later htk hb) (tab_later htr hb))
 have HSH := hid (fun (ts : List Tp) (rs : List Rl) (hz : ∀ x, x ∈ rs → Szr x) (h7 : bok ts rs = 7) (tv rv : Value) (W : World) (hb : Below w.heap.size w W) (hT : Rd W (.row 33 2 (ts.map encY)) tv) (hR : Rd W (.row 41 7 (rs.map encR)) rv) => show_bad ts rs hz tv rv W hT hR (tab_later htk hb) (tab_later htr hb) (by rw [h7]; decide))
 have HCK2 := hid (fun (ts : List Tp) (rs : List Rl) (hz : ∀ x, x ∈ rs → Szr x) (tv rv : Value) (W : World) (hb : Below w.heap.size w W) (hT : Rd W (.row 33 2 (ts.map encY)) tv) (hR : Rd W (.row 41 7 (rs.map encR)) rv) => check_any ts rs hz tv rv W hT hR (tab_later htk hb) (tab_later htr hb))
 have HPK := hid (fun W => picked_any wh 3 W hw1 hw2 (by decide) (by decide))
 have hp2 := pkd_in wh (m := 3) (by decide)
 obtain ⟨R, hR⟩ : ∃ R, min l.length 4 + 1 = R := ⟨_, rfl⟩
 rw [hR] at HBK
 have HRR : Hid (1 ≤ R ∧ R ≤ 5 ∧ min l.length 4 + 1 = R) := by show _ ∧ _; omega
 obtain ⟨lp, L, lc, rfl⟩ := rd_shape hl
 obtain ⟨ir, ir1, ir2, ir3, ir4⟩ := inR
 have HIR := hid (And.intro ir1 (And.intro ir2 (And.intro ir3 ir4)))
 clear hl htk htr hok hw1 hw2 hR ir1 ir2 ir3 ir4
 go_enter Tryz.func3, Tryz.ntmps3
 go_wp2_with (first
   | (go_at_call 5; refine HBK.out.mono ?_; rintro e w1 ⟨b, rp, rc, rfl, hb, hty, hr, hbl⟩; have HB0 := hid hb; have HTY := hid hty; have HRW := hid hr; have HBL := hid hbl; clear hb hty hr hbl)
   | ((with_reducible show wpList _ _ _ (Oper.mk _ (.store 26 _ _) _ _ _ _ :: _) _ _); refine wp_st (by rfl) 26 _ _ (by rfl) w1.heap.size 0 [.slice none 0 0, .slice none 0 0] 26 (.agg #[.slice (some ⟨b + 4, 0, none⟩) 5 5, .slice rp R rc]) [.slice (some ⟨b + 4, 0, none⟩) 5 5, .slice rp R rc] (by rfl) (by rfl) (by rfl) (heap_alloc_new _ _) (by simp) (by kernel_rfl) (by rfl) ?_; intro w2 hq1 hq2; have HU2 := hid hq1; have HF2 := hid hq2; have c0 : w2.cell? ⟨w1.heap.size, 0, none⟩ = some (.slice (some ⟨b + 4, 0, none⟩) 5 5) := (by rw [cell_of_blk HU2.out]; rfl); have c1 : w2.cell? ⟨w1.heap.size, 1, none⟩ = some (.slice rp R rc) := (by rw [cell_of_blk HU2.out]; rfl); clear hq1 hq2))
 obtain ⟨bx, hbx⟩ : ∃ x, w1.heap.size = x := ⟨_, rfl⟩
 have hA1 : Below w1.heap.size w1 (w1.alloc (.cells #[.slice none 0 0, .slice none 0 0] 26)) := (Below.refl _ _).alloc (Nat.le_refl _) _
 have hn12 : Below w1.heap.size w1 w2 := below_fr hA1 HF2.out (Nat.le_refl _)
 have HB2 := hid (below_trans HBL.out hn12 HBL.out.size)
 have HTY2 : Hid (Tys w2 b) := HTY.out.later (fun i o hi _ _ => (hn12.block _ (blk_lt hi)).trans hi)
 have HRW2 := hid (HRW.out.below hn12)
 have HBb : Hid (b + 4 < bx) := by rw [← hbx]; exact blk_lt HTY.out.2.2.2.2
 have HU2b := hid HU2.out
 rw [hbx] at HU2b ⊢
 clear hbx hA1 hn12 HF2 HBL HTY HRW HU2 HBK
 refine (HCK.out (pwBk l) (szr_bk l) _ _ w2 HB2.out HTY2.out.rd HRW2.out.rd).mono ?_
 rintro e w3 ⟨rfl, hb3⟩
 rw [bok_pw]
 have HU3 := hid ((hb3.block _ (blk_lt HU2b.out)).trans HU2b.out)
 have HB3 := hid (below_trans HB2.out hb3 HB2.out.size)
 have HTY3 : Hid (Tys w3 b) := HTY2.out.later (fun i o hi _ _ => (hb3.block _ (blk_lt hi)).trans hi)
 have HRW3 := hid (HRW2.out.below hb3)
 clear hb3 c0 c1 HTY2 HRW2 HU2b HB2
 have c1 : w3.cell? ⟨bx, 1, none⟩ = some (.slice rp R rc) := by rw [cell_of_blk HU3.out]; rfl
 clear c1
 obtain ⟨x, r, hbk, hrx, hrl⟩ := bk_cons l
 have hszx : Szr x := szr_bk l x (by rw [hbk]; simp)
 have hfr : RwT w3 (b + 5) isR 41 7 (.slice rp R rc) (encR x :: r.map encR) := by have h9 := HRW3.out; rw [hbk] at h9; exact h9
 obtain ⟨g, cg, us, hv, hul, hrg, hkt, htb, hbg⟩ := hfr.first (lenR x)
 obtain ⟨p1, n1, c1, p2, n2, c2, p3, n3, c3, p4, n4, c4, p5, n5, c5, rfl⟩ := kt_rule hkt.rd
 simp only [Value.slice.injEq] at hv
 obtain ⟨rfl, hRr, rfl⟩ := hv
 clear hRr
 obtain ⟨xn, hxn⟩ : ∃ z, x.n = z := ⟨_, rfl⟩
 obtain ⟨xe, hxe⟩ : ∃ z, x.e.ty = z := ⟨_, rfl⟩
 rw [hxn, hxe] at hrg hkt
 have HKT := hid hkt
 have HRG := hid (fun (W : World) (hb : Below w3.heap.size w3 W) => hrg W (hb.block _ htb.lt))
 have HSX := hid hszx
 have HRX := hid hrx
 have HRL := hid hrl
 have HBKC := hid hbk
 have hR0 : (0 : Int) < (R : Int) := by have := HRR.out; omega
 have HN3 : Hid (b + 5 ≤ w3.heap.size) := by have h8 := blk_lt HU3.out; have := HBb.out; show _ ≤ _; omega
 clear hbk hrx hrl hszx hfr hul hrg hkt htb hbg hxn hxe
 obtain ⟨wr, hwr⟩ : ∃ x, x = w3 := ⟨_, rfl⟩
 subst hwr
 obtain ⟨it, it1, it2, it3, it4⟩ := inT
 have HIT := hid (And.intro it1 (And.intro it2 (And.intro it3 it4)))
 clear it1 it2 it3 it4
 obtain ⟨pk, hpk⟩ : ∃ x, pkd wh 3 = x := ⟨_, rfl⟩
 rw [hpk] at HPK hp2
 clear hpk
 by_cases hp0 : pk = 0
 . subst hp0
   clear hp2
   go_upto_region 10 with (go_at_call 7; refine (HPK.out _).mono ?_; rintro e wr ⟨rfl, rfl⟩)
   refine wp_region_two (by kernel_rfl) (fun i w9 v => ([(fun w9 v => v = .pointer (some ⟨bx, 0, none⟩)), (fun w9 v => v = .slice (some ⟨b + 4, 0, none⟩) 5 5), (fun w9 v => v = .pointer (some ⟨bx, 0, none⟩)), (fun w9 v => v = .slice (some ⟨b + 4, 0, none⟩) 5 5), (fun w9 v => v = .int .i64 5), (fun w9 v => v = .pointer (some ⟨bx, 0, none⟩)), (fun w9 v => v = .slice (some ⟨b + 4, 0, none⟩) 5 5), (fun w9 v => v = .int .i64 5), (fun w9 v => v = .slice (some ⟨b + 4, 0, none⟩) 5 5), (fun w9 v => v = .pointer (some ⟨bx, 0, none⟩)), (fun w9 v => v = .slice (some ⟨b + 4, 0, none⟩) 5 5), (fun w9 v => v = .pointer (some ⟨b + 4, 0, none⟩)), (fun w9 v => v = .agg #[.string ⟨#[97]⟩, .slice (some ⟨b, 0, none⟩) 1 1]), (fun w9 v => ∃ (b9 : Nat), v = .slice (some ⟨b9, 0, none⟩) 1 1 ∧ w9.heap[b9]? = some (.cells #[.string ⟨#[97]⟩, .slice (some ⟨b, 0, none⟩) 1 1] 33 (0, 0))), (fun w9 v => True), (fun w9 v => v = .pointer (some ⟨bx, 0, none⟩))] : List (World → Value → Prop)).getD i (fun _ _ => True) w9 v) (fun W => Below wr.heap.size wr W) 14 16 (fun w9 v => ∃ (p' : Option Addr) (c' : Nat) (Wp : World), v = .slice p' 6 c' ∧ Below wr.heap.size wr Wp ∧ Wp.grownBy w9 (Value.slice (some ⟨b + 4, 0, none⟩) 5 5).ownBlock ∧ RwT w9 b isT 33 2 (.slice p' 6 c') (kts.map encY ++ [encY ⟨txt [97], [⟨txt [110], 1⟩]⟩])) 76 rfl rfl (by decide) [some 36, some 37, some 38, some 39, some 40, some 41, some 42, some 43, some 44, some 45, some 46, some 47, some 48, some 49, some 50, some 51] (by kernel_rfl) 23 (.tmp 51) (.tmp 50) (by rfl) (by rfl) (by kernel_rfl) (by kernel_rfl) (by kernel_rfl) (fun W W' => Below W.heap.size W W') ?hmon ?hpi (Below.drew (Below.refl _ _)) (AllOps.cons ?o0 (AllOps.cons ?o1 (AllOps.cons ?o2 (AllOps.cons ?o3 (AllOps.cons ?o4 (AllOps.cons ?o5 (AllOps.cons ?o6 (AllOps.cons ?o7 (AllOps.cons ?o8 (AllOps.cons ?o9 (AllOps.cons ?o10 (AllOps.cons ?o11 (AllOps.cons ?o12 (AllOps.cons ?o13 (AllOps.cons ?o14 (AllOps.cons ?o15 (AllOps.cons ?o16 AllOps.nil))))))))))))))))) ?hS ?hend
   case hmon =>
     intro q W W' v hb h
     rcases q with _ | _ | _ | _ | _ | _ | _ | _ | _ | _ | _ | _ | _ | _ | _ | _ | q
     . exact h
     . exact h
     . exact h
     . exact h
     . exact h
     . exact h
     . exact h
     . exact h
     . exact h
     . exact h
     . exact h
     . exact h
     . exact h
     . obtain ⟨b9, e, h1⟩ := h; exact ⟨b9, e, (hb.block _ (blk_lt h1)).trans h1⟩
     . exact h
     . exact h
     . exact h
   case hpi =>
     intro q W W' v hq h
     rcases q with _ | _ | _ | _ | _ | _ | _ | _ | _ | _ | _ | _ | _ | _ | _ | _ | _ | q
     . exact absurd hq (by decide)
     . exact absurd hq (by decide)
     . exact absurd hq (by decide)
     . exact absurd hq (by decide)
     . exact absurd hq (by decide)
     . exact absurd hq (by decide)
     . exact absurd hq (by decide)
     . exact absurd hq (by decide)
     . exact absurd hq (by decide)
     . exact absurd hq (by decide)
     . exact absurd hq (by decide)
     . exact absurd hq (by decide)
     . exact absurd hq (by decide)
     . exact absurd hq (by decide)
     . exact absurd hq (by decide)
     . exact h
     . exact h
     . exact h
   case o0 =>
     intro _ _ a W hB hd ho
     replace hB := hB (by decide)
     have e5 : a.eval (.tmp 5) = .pointer (some ⟨bx, 0, none⟩) := ho 5 (by kernel_rfl)
     exact op_val (.pointer (some ⟨bx, 0, none⟩)) (by unfold execOp; simp only [ev_c, e5]; go_simp) ⟨_, rfl, rfl, fun _ => hB, fun _ => Below.refl _ _, fun _ => rfl⟩
   case o1 =>
     intro _ _ a W hB hd ho
     replace hB := hB (by decide)
     have e36 : a.eval (.tmp 36) = .pointer (some ⟨bx, 0, none⟩) := hd 0 36 (by kernel_rfl) (by decide)
     have c9 : W.cell? ⟨bx, 0, none⟩ = some (.slice (some ⟨b + 4, 0, none⟩) 5 5) := by
       rw [cell_of_blk ((hB.block _ (blk_lt HU3.out)).trans HU3.out)]
       rfl
     exact op_val (.slice (some ⟨b + 4, 0, none⟩) 5 5) (by unfold execOp; simp only [ev_c, e36]; go_simp) ⟨_, rfl, rfl, fun _ => hB, fun _ => Below.refl _ _, fun _ => rfl⟩
   case o2 =>
     intro _ _ a W hB hd ho
     replace hB := hB (by decide)
     have e5 : a.eval (.tmp 5) = .pointer (some ⟨bx, 0, none⟩) := ho 5 (by kernel_rfl)
     exact op_val (.pointer (some ⟨bx, 0, none⟩)) (by unfold execOp; simp only [ev_c, e5]; go_simp) ⟨_, rfl, rfl, fun _ => hB, fun _ => Below.refl _ _, fun _ => rfl⟩
   case o3 =>
     intro _ _ a W hB hd ho
     replace hB := hB (by decide)
     have e38 : a.eval (.tmp 38) = .pointer (some ⟨bx, 0, none⟩) := hd 2 38 (by kernel_rfl) (by decide)
     have c9 : W.cell? ⟨bx, 0, none⟩ = some (.slice (some ⟨b + 4, 0, none⟩) 5 5) := by
       rw [cell_of_blk ((hB.block _ (blk_lt HU3.out)).trans HU3.out)]
       rfl
     exact op_val (.slice (some ⟨b + 4, 0, none⟩) 5 5) (by unfold execOp; simp only [ev_c, e38]; go_simp) ⟨_, rfl, rfl, fun _ => hB, fun _ => Below.refl _ _, fun _ => rfl⟩
   case o4 =>
     intro _ _ a W hB hd ho
     replace hB := hB (by decide)
     have e39 : a.eval (.tmp 39) = .slice (some ⟨b + 4, 0, none⟩) 5 5 := hd 3 39 (by kernel_rfl) (by decide)
     exact op_lenS _ 23 (e := 33) rfl (by kernel_rfl) e39 ⟨_, rfl, rfl, fun _ => hB, fun _ => Below.refl _ _, fun _ => rfl⟩
   case o5 =>
     intro _ _ a W hB hd ho
     replace hB := hB (by decide)
     have e5 : a.eval (.tmp 5) = .pointer (some ⟨bx, 0, none⟩) := ho 5 (by kernel_rfl)
     exact op_val (.pointer (some ⟨bx, 0, none⟩)) (by unfold execOp; simp only [ev_c, e5]; go_simp) ⟨_, rfl, rfl, fun _ => hB, fun _ => Below.refl _ _, fun _ => rfl⟩
   case o6 =>
     intro _ _ a W hB hd ho
     replace hB := hB (by decide)
     have e41 : a.eval (.tmp 41) = .pointer (some ⟨bx, 0, none⟩) := hd 5 41 (by kernel_rfl) (by decide)
     have c9 : W.cell? ⟨bx, 0, none⟩ = some (.slice (some ⟨b + 4, 0, none⟩) 5 5) := by
       rw [cell_of_blk ((hB.block _ (blk_lt HU3.out)).trans HU3.out)]
       rfl
     exact op_val (.slice (some ⟨b + 4, 0, none⟩) 5 5) (by unfold execOp; simp only [ev_c, e41]; go_simp) ⟨_, rfl, rfl, fun _ => hB, fun _ => Below.refl _ _, fun _ => rfl⟩
   case o7 =>
     intro _ _ a W hB hd ho
     replace hB := hB (by decide)
     have e42 : a.eval (.tmp 42) = .slice (some ⟨b + 4, 0, none⟩) 5 5 := hd 6 42 (by kernel_rfl) (by decide)
     exact op_lenS _ 23 (e := 33) rfl (by kernel_rfl) e42 ⟨_, rfl, rfl, fun _ => hB, fun _ => Below.refl _ _, fun _ => rfl⟩
   case o8 =>
     intro _ _ a W hB hd ho
     replace hB := hB (by decide)
     have e37 : a.eval (.tmp 37) = .slice (some ⟨b + 4, 0, none⟩) 5 5 := hd 1 37 (by kernel_rfl) (by decide)
     have e40 : a.eval (.tmp 40) = .int .i64 5 := hd 4 40 (by kernel_rfl) (by decide)
     have e43 : a.eval (.tmp 43) = .int .i64 5 := hd 7 43 (by kernel_rfl) (by decide)
     exact op_val (.slice (some ⟨b + 4, 0, none⟩) 5 5) (by unfold execOp; simp only [ev_c, List.map_toArray, List.map_cons, List.map_nil, Option.map_some, Option.map_none, e37, e40, e43]; go_simp) ⟨_, rfl, rfl, fun _ => hB, fun _ => Below.refl _ _, fun _ => rfl⟩
   case o9 =>
     intro _ _ a W hB hd ho
     replace hB := hB (by decide)
     have e5 : a.eval (.tmp 5) = .pointer (some ⟨bx, 0, none⟩) := ho 5 (by kernel_rfl)
     exact op_val (.pointer (some ⟨bx, 0, none⟩)) (by unfold execOp; simp only [ev_c, e5]; go_simp) ⟨_, rfl, rfl, fun _ => hB, fun _ => Below.refl _ _, fun _ => rfl⟩
   case o10 =>
     intro _ _ a W hB hd ho
     replace hB := hB (by decide)
     have e45 : a.eval (.tmp 45) = .pointer (some ⟨bx, 0, none⟩) := hd 9 45 (by kernel_rfl) (by decide)
     have c9 : W.cell? ⟨bx, 0, none⟩ = some (.slice (some ⟨b + 4, 0, none⟩) 5 5) := by
       rw [cell_of_blk ((hB.block _ (blk_lt HU3.out)).trans HU3.out)]
       rfl
     exact op_val (.slice (some ⟨b + 4, 0, none⟩) 5 5) (by unfold execOp; simp only [ev_c, e45]; go_simp) ⟨_, rfl, rfl, fun _ => hB, fun _ => Below.refl _ _, fun _ => rfl⟩
   case o11 =>
     intro _ _ a W hB hd ho
     replace hB := hB (by decide)
     have e46 : a.eval (.tmp 46) = .slice (some ⟨b + 4, 0, none⟩) 5 5 := hd 10 46 (by kernel_rfl) (by decide)
     exact op_val (.pointer (some ⟨b + 4, 0, none⟩)) (by unfold execOp; simp only [ev_c, e46]; go_simp) ⟨_, rfl, rfl, fun _ => hB, fun _ => Below.refl _ _, fun _ => rfl⟩
   case o12 =>
     intro _ _ a W hB hd ho
     replace hB := hB (by decide)
     have e47 : a.eval (.tmp 47) = .pointer (some ⟨b + 4, 0, none⟩) := hd 11 47 (by kernel_rfl) (by decide)
     exact op_ld 33 _ rfl (b + 4) 0 e47 [.string ⟨#[97]⟩, .slice (some ⟨b, 0, none⟩) 1 1] _ (ty_range (HTY3.out.later (fun i o hi _ _ => (hB.block _ (blk_lt hi)).trans hi))) Tryz.underlying33 rfl (by kernel_rfl) ⟨_, rfl, rfl, fun _ => hB, fun _ => Below.refl _ _, fun _ => rfl⟩
   case o13 =>
     intro _ _ a W hB hd ho
     replace hB := hB (by decide)
     have e48 : a.eval (.tmp 48) = .agg #[.string ⟨#[97]⟩, .slice (some ⟨b, 0, none⟩) 1 1] := hd 12 48 (by kernel_rfl) (by decide)
     have hal : Below W.heap.size W (W.alloc (.cells #[.string ⟨#[97]⟩, .slice (some ⟨b, 0, none⟩) 1 1] 33)) := (Below.refl _ _).alloc (Nat.le_refl _) _
     refine op_bs 23 1 _ rfl #[(0, .agg #[.string ⟨#[97]⟩, .slice (some ⟨b, 0, none⟩) 1 1])] (by simp [ev_c, e48]) (.slice (some ⟨W.heap.size, 0, none⟩) 1 1) (W.alloc (.cells #[.string ⟨#[97]⟩, .slice (some ⟨b, 0, none⟩) 1 1] 33)) (by kernel_rfl) ⟨_, rfl, ⟨W.heap.size, rfl, heap_alloc_new _ _⟩, fun _ => below_trans hB hal hB.size, fun _ => hal, fun h9 => absurd h9 (by decide)⟩
   case o14 =>
     intro h9; exact absurd rfl h9
   case o15 =>
     intro _ _ a W hB hd ho
     have e5 : a.eval (.tmp 5) = .pointer (some ⟨bx, 0, none⟩) := ho 5 (by kernel_rfl)
     exact op_val (.pointer (some ⟨bx, 0, none⟩)) (by unfold execOp; simp only [ev_c, e5]; go_simp) ⟨_, rfl, rfl, fun h9 => absurd h9 (by decide), fun h9 => absurd h9 (by decide), fun _ => rfl⟩
   case o16 =>
     intro _ h9; exact absurd rfl h9
   case hS =>
     intro a W vs hB hT hd hout
     have e8 : vs 8 = .slice (some ⟨b + 4, 0, none⟩) 5 5 := hT 8 (by decide)
     obtain ⟨b9, e13, h9⟩ : ∃ (b9 : Nat), vs 13 = .slice (some ⟨b9, 0, none⟩) 1 1 ∧ W.heap[b9]? = some (.cells #[.string ⟨#[97]⟩, .slice (some ⟨b, 0, none⟩) 1 1] 33 (0, 0)) := hT 13 (by decide)
     have hty : Tys W b := HTY3.out.later (fun i o hi _ _ => (hB.block _ (blk_lt hi)).trans hi)
     refine op_appT _ _ 23 rfl b isT 33 2 40 it _ Tryz.underlying23 HIT.out.1 HIT.out.2.1 HIT.out.2.2.1 HIT.out.2.2.2 rfl (by omega) (by decide) (.slice (some ⟨b + 4, 0, none⟩) 5 5) (kts.map encY) ((hd 8 44 (by kernel_rfl)).trans e8) (tys_row hty) (by have := HN3.out; have := hB.size; omega) b9 [.string ⟨#[97]⟩, .slice (some ⟨b, 0, none⟩) 1 1] ((hd 13 49 (by kernel_rfl)).trans e13) h9 (by rfl) (by rfl) (encY ⟨txt [97], [⟨txt [110], 1⟩]⟩) (kt_ty hty) (by decide) (by decide) 6 rfl ?_
     intro p' c' W' k1 k2 k3
     exact ⟨_, rfl, p', c', W, rfl, hB, k2, k1⟩
   case hend =>
     intro vs W hB2 hT
     obtain ⟨p', c', Wp, e14, k1, k2, k4⟩ := hB2
     have e15 : vs 15 = .pointer (some ⟨bx, 0, none⟩) := hT 15 (by decide) (by decide)
     have hB6 := below_trans HB3.out k1 HB3.out.size
     have hU6 := (k1.block _ (blk_lt HU3.out)).trans HU3.out
     have hU7 := (k2.block _ (blk_lt hU6) (fun e9 => by have := HBb.out; simp [Value.ownBlock] at e9; omega)).trans hU6
     have hB7 := hB6.grown k2 hB6.size (fun i hi => by have h9 := HB0.out; simp [Value.ownBlock] at hi; omega)
     have hR6 := HRW3.out.below k1
     have hR7 : RwT W (b + 5) isR 41 7 (.slice (some ⟨g, 0, none⟩) R rc) ((pwBk l).map encR) := hR6.keep (fun i hi => k2.block i (hR6.tb hi).1.lt (fun e9 => by have h8 := (hR6.tb hi).2; simp [Value.ownBlock] at e9; omega)) (fun i t hi _ ht => k2.block i ht.lt (fun e9 => by simp [Value.ownBlock] at e9; omega))
     refine ⟨bx, 0, [.slice (some ⟨b + 4, 0, none⟩) 5 5, .slice (some ⟨g, 0, none⟩) R rc], 26, .slice p' 6 c', [.slice p' 6 c'], Eq.trans (b := vs 15) (by kernel_rfl) e15, Eq.trans (b := vs 14) (by kernel_rfl) e14, rfl, hU7, by simp, by kernel_rfl, rfl, ?_⟩
     intro w8 hq1 hq2
     have HU8 := hid hq1
     have HB8 : Hid (Below w.heap.size w w8) := below_fr hB7 hq2 (by have := HBb.out; have := HB0.out; omega)
     have hT8 := k4.set hq2 ⟨_, hU7⟩ (by decide) (by decide)
     have hR8 := hR7.set hq2 ⟨_, hU7⟩ (by decide) (by decide)
     clear hq1 hq2 k1 k2 k4 hT hB6 hU6 hU7 hB7 hR6 hR7
     simp only [putsD, Act.put, List.setIfInBounds_toArray, e14, e15]
     simp only [set_c20]
     simp only [List.set_cons_zero, List.set_cons_succ]
     clear e14 e15
     generalize vs 0 = v0
     generalize vs 1 = v1
     generalize vs 2 = v2
     generalize vs 3 = v3
     generalize vs 4 = v4
     generalize vs 5 = v5
     generalize vs 6 = v6
     generalize vs 7 = v7
     generalize vs 8 = v8
     generalize vs 9 = v9
     generalize vs 10 = v10
     generalize vs 11 = v11
     generalize vs 12 = v12
     generalize vs 13 = v13
     clear vs
     have HT8 := hid (show Rd w8 (.row 33 2 (kts2.map encY)) (.slice p' 6 c') from (by unfold kts2; rw [List.map_append]; exact hT8.rd))
     have HR8 := hid (hR8.rd)
     have c0 : w8.cell? ⟨bx, 0, none⟩ = some (.slice p' 6 c') := (by rw [cell_of_blk HU8.out]; rfl)
     have c1 : w8.cell? ⟨bx, 1, none⟩ = some (.slice (some ⟨g, 0, none⟩) R rc) := (by rw [cell_of_blk HU8.out]; rfl)
     go_wp2_with fail
     refine (HSH.out kts2 (pwBk l) (szr_bk l) (bok_twice0 (rs := pwBk l) (by rw [len_bk]; omega)) _ _ w8 HB8.out HT8.out HR8.out).mono ?_
     rintro e w9 ⟨rfl, hb9⟩
     rw [(bok_twice0 (rs := pwBk l) (by rw [len_bk]; omega))]
     have HU9 := hid ((hb9.block _ (blk_lt HU8.out)).trans HU8.out)
     have HB9 := hid (below_trans HB8.out hb9 HB8.out.size)
     have HT9 := hid (HT8.out.later hb9)
     have HR9 := hid (HR8.out.later hb9)
     clear hb9 c0 c1
     have c0 : w9.cell? ⟨bx, 0, none⟩ = some (.slice p' 6 c') := (by rw [cell_of_blk HU9.out]; rfl)
     have c1 : w9.cell? ⟨bx, 1, none⟩ = some (.slice (some ⟨g, 0, none⟩) R rc) := (by rw [cell_of_blk HU9.out]; rfl)
     go_wp2_with fail
     refine (HCK2.out kts2 (pwBk l) (szr_bk l) _ _ w9 HB9.out HT9.out HR9.out).mono ?_
     rintro e wa ⟨rfl, hba⟩
     rw [(bok_twice0 (rs := pwBk l) (by rw [len_bk]; omega))]
     have HBA := hid (below_trans HB9.out hba HB9.out.size)
     clear hba c0 c1
     go_wp2_with fail
     go_ret
     exact ⟨ret_bool (by simp), HBA.out⟩
 . by_cases hp1 : pk = 1
   . subst hp1
     clear hp2 hp0
     go_upto_region 12 with (go_at_call 7; refine (HPK.out _).mono ?_; rintro e wr ⟨rfl, rfl⟩)
     refine wp_region_st (by kernel_rfl) (fun i w9 v => ([(fun w9 v => v = .pointer (some ⟨bx, 1, none⟩)), (fun w9 v => v = .slice (some ⟨g, 0, none⟩) R rc), (fun w9 v => v = .pointer (some ⟨g, 0, none⟩)), (fun w9 v => v = .agg #[.string xn, .slice p1 n1 c1, .slice p2 n2 c2, .slice p3 n3 c3, .slice p4 n4 c4, .string xe, .slice p5 n5 c5]), (fun w9 v => v = .pointer (some ⟨bx, 1, none⟩)), (fun w9 v => v = .slice (some ⟨g, 0, none⟩) R rc), (fun w9 v => v = .pointer (some ⟨g, 0, none⟩)), (fun w9 v => v = .agg #[.string xn, .slice p1 n1 c1, .slice p2 n2 c2, .slice p3 n3 c3, .slice p4 n4 c4, .string xe, .slice p5 n5 c5]), (fun w9 v => ∃ (b9 : Nat), v = .slice (some ⟨b9, 0, none⟩) 2 2 ∧ w9.heap[b9]? = some (.cells #[.string xn, .slice p1 n1 c1, .slice p2 n2 c2, .slice p3 n3 c3, .slice p4 n4 c4, .string xe, .slice p5 n5 c5, .string xn, .slice p1 n1 c1, .slice p2 n2 c2, .slice p3 n3 c3, .slice p4 n4 c4, .string xe, .slice p5 n5 c5] 41 (0, 0))), (fun w9 v => v = .pointer (some ⟨bx, 1, none⟩))] : List (World → Value → Prop)).getD i (fun _ _ => True) w9 v) (fun W => Below wr.heap.size wr W) 76 10 rfl rfl [some 54, some 55, some 56, some 57, some 58, some 59, some 60, some 61, some 62, some 63] (by kernel_rfl) 24 (.tmp 63) (.tmp 62) (by rfl) (by rfl) (by kernel_rfl) (by kernel_rfl) (fun W W' => Below W.heap.size W W') ?hmon (Below.drew (Below.refl _ _)) (AllOps.cons ?o0 (AllOps.cons ?o1 (AllOps.cons ?o2 (AllOps.cons ?o3 (AllOps.cons ?o4 (AllOps.cons ?o5 (AllOps.cons ?o6 (AllOps.cons ?o7 (AllOps.cons ?o8 (AllOps.cons ?o9 AllOps.nil)))))))))) ?hend
     case hmon =>
       intro q W W' v hb h
       rcases q with _ | _ | _ | _ | _ | _ | _ | _ | _ | _ | q
       . exact h
       . exact h
       . exact h
       . exact h
       . exact h
       . exact h
       . exact h
       . exact h
       . obtain ⟨b9, e, h1⟩ := h; exact ⟨b9, e, (hb.block _ (blk_lt h1)).trans h1⟩
       . exact h
       . exact h
     case o0 =>
       intro a W hB hd ho
       have e5 : a.eval (.tmp 5) = .pointer (some ⟨bx, 0, none⟩) := ho 5 (by kernel_rfl)
       exact op_val (.pointer (some ⟨bx, 1, none⟩)) (by unfold execOp; simp only [ev_c, e5]; go_simp) ⟨_, rfl, rfl, hB, Below.refl _ _⟩
     case o1 =>
       intro a W hB hd ho
       have e54 : a.eval (.tmp 54) = .pointer (some ⟨bx, 1, none⟩) := hd 0 54 (by kernel_rfl)
       have c9 : W.cell? ⟨bx, 1, none⟩ = some (.slice (some ⟨g, 0, none⟩) R rc) := by
         rw [cell_of_blk ((hB.block _ (blk_lt HU3.out)).trans HU3.out)]
         rfl
       exact op_val (.slice (some ⟨g, 0, none⟩) R rc) (by unfold execOp; simp only [ev_c, e54]; go_simp) ⟨_, rfl, rfl, hB, Below.refl _ _⟩
     case o2 =>
       intro a W hB hd ho
       have e55 : a.eval (.tmp 55) = .slice (some ⟨g, 0, none⟩) R rc := hd 1 55 (by kernel_rfl)
       exact op_val (.pointer (some ⟨g, 0, none⟩)) (by unfold execOp; simp only [ev_c, e55]; go_simp; intro h0; exact absurd h0 (by have := HRR.out; omega)) ⟨_, rfl, rfl, hB, Below.refl _ _⟩
     case o3 =>
       intro a W hB hd ho
       have e56 : a.eval (.tmp 56) = .pointer (some ⟨g, 0, none⟩) := hd 2 56 (by kernel_rfl)
       exact op_ld 41 _ rfl g 0 e56 [.string xn, .slice p1 n1 c1, .slice p2 n2 c2, .slice p3 n3 c3, .slice p4 n4 c4, .string xe, .slice p5 n5 c5] _ (HRG.out W hB) Tryz.underlying41 rfl (by kernel_rfl) ⟨_, rfl, rfl, hB, Below.refl _ _⟩
     case o4 =>
       intro a W hB hd ho
       have e5 : a.eval (.tmp 5) = .pointer (some ⟨bx, 0, none⟩) := ho 5 (by kernel_rfl)
       exact op_val (.pointer (some ⟨bx, 1, none⟩)) (by unfold execOp; simp only [ev_c, e5]; go_simp) ⟨_, rfl, rfl, hB, Below.refl _ _⟩
     case o5 =>
       intro a W hB hd ho
       have e58 : a.eval (.tmp 58) = .pointer (some ⟨bx, 1, none⟩) := hd 4 58 (by kernel_rfl)
       have c9 : W.cell? ⟨bx, 1, none⟩ = some (.slice (some ⟨g, 0, none⟩) R rc) := by
         rw [cell_of_blk ((hB.block _ (blk_lt HU3.out)).trans HU3.out)]
         rfl
       exact op_val (.slice (some ⟨g, 0, none⟩) R rc) (by unfold execOp; simp only [ev_c, e58]; go_simp) ⟨_, rfl, rfl, hB, Below.refl _ _⟩
     case o6 =>
       intro a W hB hd ho
       have e59 : a.eval (.tmp 59) = .slice (some ⟨g, 0, none⟩) R rc := hd 5 59 (by kernel_rfl)
       exact op_val (.pointer (some ⟨g, 0, none⟩)) (by unfold execOp; simp only [ev_c, e59]; go_simp; intro h0; exact absurd h0 (by have := HRR.out; omega)) ⟨_, rfl, rfl, hB, Below.refl _ _⟩
     case o7 =>
       intro a W hB hd ho
       have e60 : a.eval (.tmp 60) = .pointer (some ⟨g, 0, none⟩) := hd 6 60 (by kernel_rfl)
       exact op_ld 41 _ rfl g 0 e60 [.string xn, .slice p1 n1 c1, .slice p2 n2 c2, .slice p3 n3 c3, .slice p4 n4 c4, .string xe, .slice p5 n5 c5] _ (HRG.out W hB) Tryz.underlying41 rfl (by kernel_rfl) ⟨_, rfl, rfl, hB, Below.refl _ _⟩
     case o8 =>
       intro a W hB hd ho
       have e57 : a.eval (.tmp 57) = .agg #[.string xn, .slice p1 n1 c1, .slice p2 n2 c2, .slice p3 n3 c3, .slice p4 n4 c4, .string xe, .slice p5 n5 c5] := hd 3 57 (by kernel_rfl)
       have e61 : a.eval (.tmp 61) = .agg #[.string xn, .slice p1 n1 c1, .slice p2 n2 c2, .slice p3 n3 c3, .slice p4 n4 c4, .string xe, .slice p5 n5 c5] := hd 7 61 (by kernel_rfl)
       have hal : Below W.heap.size W (W.alloc (.cells #[.string xn, .slice p1 n1 c1, .slice p2 n2 c2, .slice p3 n3 c3, .slice p4 n4 c4, .string xe, .slice p5 n5 c5, .string xn, .slice p1 n1 c1, .slice p2 n2 c2, .slice p3 n3 c3, .slice p4 n4 c4, .string xe, .slice p5 n5 c5] 41)) := (Below.refl _ _).alloc (Nat.le_refl _) _
       refine op_bs 24 2 _ rfl #[(0, .agg #[.string xn, .slice p1 n1 c1, .slice p2 n2 c2, .slice p3 n3 c3, .slice p4 n4 c4, .string xe, .slice p5 n5 c5]), (1, .agg #[.string xn, .slice p1 n1 c1, .slice p2 n2 c2, .slice p3 n3 c3, .slice p4 n4 c4, .string xe, .slice p5 n5 c5])] (by simp [ev_c, e57, e61]) (.slice (some ⟨W.heap.size, 0, none⟩) 2 2) (W.alloc (.cells #[.string xn, .slice p1 n1 c1, .slice p2 n2 c2, .slice p3 n3 c3, .slice p4 n4 c4, .string xe, .slice p5 n5 c5, .string xn, .slice p1 n1 c1, .slice p2 n2 c2, .slice p3 n3 c3, .slice p4 n4 c4, .string xe, .slice p5 n5 c5] 41)) (by kernel_rfl) ⟨_, rfl, ⟨W.heap.size, rfl, heap_alloc_new _ _⟩, below_trans hB hal hB.size, hal⟩
     case o9 =>
       intro a W hB hd ho
       have e5 : a.eval (.tmp 5) = .pointer (some ⟨bx, 0, none⟩) := ho 5 (by kernel_rfl)
       exact op_val (.pointer (some ⟨bx, 1, none⟩)) (by unfold execOp; simp only [ev_c, e5]; go_simp) ⟨_, rfl, rfl, hB, Below.refl _ _⟩
     case hend =>
       intro vs W hB hT
       obtain ⟨b9, e8, h9⟩ : ∃ (b9 : Nat), vs 8 = .slice (some ⟨b9, 0, none⟩) 2 2 ∧ W.heap[b9]? = some (.cells #[.string xn, .slice p1 n1 c1, .slice p2 n2 c2, .slice p3 n3 c3, .slice p4 n4 c4, .string xe, .slice p5 n5 c5, .string xn, .slice p1 n1 c1, .slice p2 n2 c2, .slice p3 n3 c3, .slice p4 n4 c4, .string xe, .slice p5 n5 c5] 41 (0, 0)) := hT 8 (by decide)
       have e9 : vs 9 = .pointer (some ⟨bx, 1, none⟩) := hT 9 (by decide)
       have hU6 := (hB.block _ (blk_lt HU3.out)).trans HU3.out
       have hB6 := below_trans HB3.out hB HB3.out.size
       refine ⟨bx, 1, [.slice (some ⟨b + 4, 0, none⟩) 5 5, .slice (some ⟨g, 0, none⟩) R rc], 26, .slice (some ⟨b9, 0, none⟩) 2 2, [.slice (some ⟨b9, 0, none⟩) 2 2], Eq.trans (b := vs 9) (by kernel_rfl) e9, Eq.trans (b := vs 8) (by kernel_rfl) e8, rfl, hU6, by simp, by kernel_rfl, rfl, ?_⟩
       intro w8 hq1 hq2
       have HU8 := hid hq1
       have HB8 : Hid (Below w.heap.size w w8) := below_fr hB6 hq2 (by have := HBb.out; have := HB0.out; omega)
       have hty8 : Tys w8 b := (HTY3.out.later (fun i o hi _ _ => (hB.block _ (blk_lt hi)).trans hi)).later (fun i o hi _ hb2 => (hq2.block _ (blk_lt hi) (by have := HBb.out; show i ≠ bx; omega)).trans hi)
       have hkt8 := (HKT.out.below hB).fr hq2 ⟨_, hU6⟩ (by decide)
       have h98 : w8.heap[b9]? = some (.cells #[.string xn, .slice p1 n1 c1, .slice p2 n2 c2, .slice p3 n3 c3, .slice p4 n4 c4, .string xe, .slice p5 n5 c5, .string xn, .slice p1 n1 c1, .slice p2 n2 c2, .slice p3 n3 c3, .slice p4 n4 c4, .string xe, .slice p5 n5 c5] 41 (0, 0)) := (hq2.block _ (blk_lt h9) (fun e2 => by
         have h7 : b9 = bx := e2
         rw [h7, hU6] at h9
         simp only [Option.some.injEq, Obj.cells.injEq] at h9
         exact absurd h9.2.1 (by decide))).trans h9
       have hrd8 : Rd w8 (.row 41 7 ([x, x].map encR)) (.slice (some ⟨b9, 0, none⟩) 2 2) := rd_blk (l := [x, x].map encR) h98 (by simp) (by simp [maxLen]) (by
         show RdL w8 (encR x ++ (encR x ++ [])) _
         rw [List.append_nil]
         exact rdl_app (vs := [.string xn, .slice p1 n1 c1, .slice p2 n2 c2, .slice p3 n3 c3, .slice p4 n4 c4, .string xe, .slice p5 n5 c5]) hkt8.rd hkt8.rd)
       clear hq1 hq2 hT hU6 hB6 hkt8 h98 h9 hB
       simp only [putsD, Act.put, List.setIfInBounds_toArray, e8, e9]
       simp only [set_c20]
       simp only [List.set_cons_zero, List.set_cons_succ]
       clear e8 e9
       generalize vs 0 = v0
       generalize vs 1 = v1
       generalize vs 2 = v2
       generalize vs 3 = v3
       generalize vs 4 = v4
       generalize vs 5 = v5
       generalize vs 6 = v6
       generalize vs 7 = v7
       clear vs
       have HT8 := hid (hty8.rd)
       have HR8 := hid (hrd8)
       have c0 : w8.cell? ⟨bx, 0, none⟩ = some (.slice (some ⟨b + 4, 0, none⟩) 5 5) := (by rw [cell_of_blk HU8.out]; rfl)
       have c1 : w8.cell? ⟨bx, 1, none⟩ = some (.slice (some ⟨b9, 0, none⟩) 2 2) := (by rw [cell_of_blk HU8.out]; rfl)
       go_wp2_with fail
       refine (HSH.out kts [x, x] (fun y hy => by simp at hy; rw [hy]; exact HSX.out) (bok_twice1 HRX.out) _ _ w8 HB8.out HT8.out HR8.out).mono ?_
       rintro e w9 ⟨rfl, hb9⟩
       rw [(bok_twice1 HRX.out)]
       have HU9 := hid ((hb9.block _ (blk_lt HU8.out)).trans HU8.out)
       have HB9 := hid (below_trans HB8.out hb9 HB8.out.size)
       have HT9 := hid (HT8.out.later hb9)
       have HR9 := hid (HR8.out.later hb9)
       clear hb9 c0 c1
       have c0 : w9.cell? ⟨bx, 0, none⟩ = some (.slice (some ⟨b + 4, 0, none⟩) 5 5) := (by rw [cell_of_blk HU9.out]; rfl)
       have c1 : w9.cell? ⟨bx, 1, none⟩ = some (.slice (some ⟨b9, 0, none⟩) 2 2) := (by rw [cell_of_blk HU9.out]; rfl)
       go_wp2_with fail
       refine (HCK2.out kts [x, x] (fun y hy => by simp at hy; rw [hy]; exact HSX.out) _ _ w9 HB9.out HT9.out HR9.out).mono ?_
       rintro e wa ⟨rfl, hba⟩
       rw [(bok_twice1 HRX.out)]
       have HBA := hid (below_trans HB9.out hba HB9.out.size)
       clear hba c0 c1
       go_wp2_with fail
       go_ret
       exact ⟨ret_bool (by simp), HBA.out⟩
   . have g0 : (pk == 0) = false := by simpa using hp0
     have g1 : (pk == 1) = false := by simpa using hp1
     clear hp2 hp0 hp1
     obtain ⟨_, _, q, rq, hwq, hpq⟩ := rck_first HRX.out
     have HSZ : Hid (∀ y, y ∈ [twW x q] → Szr y) := fun y hy => by simp at hy; rw [hy]; exact szr_twW HSX.out hwq
     have HB7 : Hid (bok kts [twW x q] = 7) := bok_first (rck_twice2 HRX.out hwq hpq) (by decide) (by decide)
     obtain ⟨gq, off, a1, a2, a3, a4, a5, a6, a7, a8, sp, sn, sc, k1, k2, k3, k4, k5, k6, k7, k8, k9, rfl, hn1, hq1, hq2, hq3, hq4⟩ := kt_first hwq HKT.out
     obtain ⟨_, _, tq⟩ := hq3
     have HN1 : Hid (0 < n1) := by show _ < _; omega
     have HQR := hid hq1
     have HKQ := hid hq2
     have HQT := hid tq.lt
     clear hn1 hq1 hq2 hq4 tq hwq hpq
     have dx : wr.cell? ⟨bx, 1, none⟩ = some (.slice (some ⟨g, 0, none⟩) R rc) := by rw [cell_of_blk HU3.out]; rfl
     have d0 : wr.cell? ⟨g, 0, none⟩ = some (.string xn) := by have h9 := HRG.out wr (Below.refl _ _) 0 _ rfl; simpa using h9
     have d1 : wr.cell? ⟨g, 1, none⟩ = some (.slice (some ⟨gq, off, none⟩) n1 c1) := by have h9 := HRG.out wr (Below.refl _ _) 1 _ rfl; simpa using h9
     have d2 : wr.cell? ⟨g, 2, none⟩ = some (.slice p2 n2 c2) := by have h9 := HRG.out wr (Below.refl _ _) 2 _ rfl; simpa using h9
     have d3 : wr.cell? ⟨g, 3, none⟩ = some (.slice p3 n3 c3) := by have h9 := HRG.out wr (Below.refl _ _) 3 _ rfl; simpa using h9
     have d4 : wr.cell? ⟨g, 4, none⟩ = some (.slice p4 n4 c4) := by have h9 := HRG.out wr (Below.refl _ _) 4 _ rfl; simpa using h9
     have d5 : wr.cell? ⟨g, 5, none⟩ = some (.string xe) := by have h9 := HRG.out wr (Below.refl _ _) 5 _ rfl; simpa using h9
     have d6 : wr.cell? ⟨g, 6, none⟩ = some (.slice p5 n5 c5) := by have h9 := HRG.out wr (Below.refl _ _) 6 _ rfl; simpa using h9
     go_upto_region 6 with (first
       | (go_at_call 7; refine (HPK.out _).mono ?_; rintro e wr ⟨rfl, rfl⟩)
       | ((with_reducible show wpList _ _ _ (Oper.mk _ (.store 41 _ _) _ _ _ _ :: _) _ _); refine wp_st (by rfl) 41 _ _ (by rfl) wr.heap.size 0 [.string ⟨#[]⟩, .slice none 0 0, .slice none 0 0, .slice none 0 0, .slice none 0 0, .string ⟨#[]⟩, .slice none 0 0] 41 (.agg #[.string xn, .slice (some ⟨gq, off, none⟩) n1 c1, .slice p2 n2 c2, .slice p3 n3 c3, .slice p4 n4 c4, .string xe, .slice p5 n5 c5]) [.string xn, .slice (some ⟨gq, off, none⟩) n1 c1, .slice p2 n2 c2, .slice p3 n3 c3, .slice p4 n4 c4, .string xe, .slice p5 n5 c5] (by rfl) (by rfl) (by rfl) (heap_alloc_new _ _) (by simp) (by kernel_rfl) (by rfl) ?_; intro w5 hq1 hq2; have HU5 := hid hq1; have HF5 := hid hq2; clear hq1 hq2))
     have hA5 : Below wr.heap.size wr (wr.alloc (.cells #[.string ⟨#[]⟩, .slice none 0 0, .slice none 0 0, .slice none 0 0, .slice none 0 0, .string ⟨#[]⟩, .slice none 0 0] 41)) := (Below.refl _ _).alloc (Nat.le_refl _) _
     have hn5 : Below wr.heap.size wr w5 := below_fr hA5 HF5.out (Nat.le_refl _)
     have HY1 : Hid (b + 4 < wr.heap.size) := by have h8 := HN3.out; show _ < _; omega
     have HY0 : Hid (w.heap.size ≤ wr.heap.size) := HB3.out.size
     have HYX : Hid (bx ≠ wr.heap.size) := by have h8 := blk_lt HU3.out; show _ ≠ _; omega
     have HBX : Hid (w.heap.size ≤ bx) := by have := HBb.out; have := HB0.out; show _ ≤ _; omega
     have HT5 : Hid (Tw w w5 b (encR x) (encP q) [.string xn, .slice (some ⟨gq, off, none⟩) n1 c1, .slice p2 n2 c2, .slice p3 n3 c3, .slice p4 n4 c4, .string xe, .slice p5 n5 c5] [.string a1, .string a2, .int .i64 k1, .slice sp sn sc, .int .i64 k2, .int .i64 k3, .int .i64 k4, .string a3, .string a4, .string a5, .int .i64 k5, .int .i64 k6, .int .i64 k7, .string a6, .string a7, .string a8, .int .i64 k8, .int .i64 k9]) := Tw.below ⟨HB3.out, HTY3.out, HKT.out, HKQ.out⟩ hn5
     have HX5 := hid ((hn5.block _ (blk_lt HU3.out)).trans HU3.out)
     have HQE := hid (hn5.block _ HQT.out)
     have HQL := hid (Nat.lt_of_lt_of_le HQT.out hn5.size)
     obtain ⟨by_, hby⟩ : ∃ z, wr.heap.size = z := ⟨_, rfl⟩
     rw [hby] at HU5 HY1 HY0 HYX ⊢
     clear hA5 hn5 HF5 hby d0 d1 d2 d3 d4 d5 d6 dx HKQ HQT
     refine wp_region_st (by kernel_rfl) (fun i w9 v => ([(fun w9 v => v = .pointer (some ⟨by_, 1, none⟩)), (fun w9 v => v = .slice (some ⟨gq, off, none⟩) n1 c1), (fun w9 v => v = .pointer (some ⟨gq, off, none⟩)), (fun w9 v => v = .agg #[.string a1, .string a2, .int .i64 k1, .slice sp sn sc, .int .i64 k2, .int .i64 k3, .int .i64 k4, .string a3, .string a4, .string a5, .int .i64 k5, .int .i64 k6, .int .i64 k7, .string a6, .string a7, .string a8, .int .i64 k8, .int .i64 k9]), (fun w9 v => v = .pointer (some ⟨by_, 1, none⟩)), (fun w9 v => v = .slice (some ⟨gq, off, none⟩) n1 c1), (fun w9 v => v = .pointer (some ⟨gq, off, none⟩)), (fun w9 v => v = .agg #[.string a1, .string a2, .int .i64 k1, .slice sp sn sc, .int .i64 k2, .int .i64 k3, .int .i64 k4, .string a3, .string a4, .string a5, .int .i64 k5, .int .i64 k6, .int .i64 k7, .string a6, .string a7, .string a8, .int .i64 k8, .int .i64 k9]), (fun w9 v => ∃ (b9 : Nat), v = .slice (some ⟨b9, 0, none⟩) 2 2 ∧ w9.heap[b9]? = some (.cells #[.string a1, .string a2, .int .i64 k1, .slice sp sn sc, .int .i64 k2, .int .i64 k3, .int .i64 k4, .string a3, .string a4, .string a5, .int .i64 k5, .int .i64 k6, .int .i64 k7, .string a6, .string a7, .string a8, .int .i64 k8, .int .i64 k9, .string a1, .string a2, .int .i64 k1, .slice sp sn sc, .int .i64 k2, .int .i64 k3, .int .i64 k4, .string a3, .string a4, .string a5, .int .i64 k5, .int .i64 k6, .int .i64 k7, .string a6, .string a7, .string a8, .int .i64 k8, .int .i64 k9] 50 (0, 0))), (fun w9 v => v = .pointer (some ⟨by_, 1, none⟩))] : List (World → Value → Prop)).getD i (fun _ _ => True) w9 v) (fun W => Below w5.heap.size w5 W) 76 10 rfl rfl [some 20, some 21, some 22, some 23, some 24, some 25, some 26, some 27, some 28, some 29] (by kernel_rfl) 34 (.tmp 29) (.tmp 28) (by rfl) (by rfl) (by kernel_rfl) (by kernel_rfl) (fun W W' => Below W.heap.size W W') ?hmon (Below.drew (Below.refl _ _)) (AllOps.cons ?o0 (AllOps.cons ?o1 (AllOps.cons ?o2 (AllOps.cons ?o3 (AllOps.cons ?o4 (AllOps.cons ?o5 (AllOps.cons ?o6 (AllOps.cons ?o7 (AllOps.cons ?o8 (AllOps.cons ?o9 AllOps.nil)))))))))) ?hend
     case hmon =>
       intro q W W' v hb h
       rcases q with _ | _ | _ | _ | _ | _ | _ | _ | _ | _ | q
       . exact h
       . exact h
       . exact h
       . exact h
       . exact h
       . exact h
       . exact h
       . exact h
       . obtain ⟨b9, e, h1⟩ := h; exact ⟨b9, e, (hb.block _ (blk_lt h1)).trans h1⟩
       . exact h
       . exact h
     case o0 =>
       intro a W hB hd ho
       have e6 : a.eval (.tmp 6) = .pointer (some ⟨by_, 0, none⟩) := ho 6 (by kernel_rfl)
       exact op_val (.pointer (some ⟨by_, 1, none⟩)) (by unfold execOp; simp only [ev_c, e6]; go_simp) ⟨_, rfl, rfl, hB, Below.refl _ _⟩
     case o1 =>
       intro a W hB hd ho
       have e20 : a.eval (.tmp 20) = .pointer (some ⟨by_, 1, none⟩) := hd 0 20 (by kernel_rfl)
       have c9 : W.cell? ⟨by_, 1, none⟩ = some (.slice (some ⟨gq, off, none⟩) n1 c1) := by
         rw [cell_of_blk ((hB.block _ (blk_lt HU5.out)).trans HU5.out)]
         rfl
       exact op_val (.slice (some ⟨gq, off, none⟩) n1 c1) (by unfold execOp; simp only [ev_c, e20]; go_simp) ⟨_, rfl, rfl, hB, Below.refl _ _⟩
     case o2 =>
       intro a W hB hd ho
       have e21 : a.eval (.tmp 21) = .slice (some ⟨gq, off, none⟩) n1 c1 := hd 1 21 (by kernel_rfl)
       exact op_val (.pointer (some ⟨gq, off, none⟩)) (by unfold execOp; simp only [ev_c, e21]; go_simp; intro h0; exact absurd h0 (by have := HN1.out; omega)) ⟨_, rfl, rfl, hB, Below.refl _ _⟩
     case o3 =>
       intro a W hB hd ho
       have e22 : a.eval (.tmp 22) = .pointer (some ⟨gq, off, none⟩) := hd 2 22 (by kernel_rfl)
       exact op_ld 50 _ rfl gq off e22 [.string a1, .string a2, .int .i64 k1, .slice sp sn sc, .int .i64 k2, .int .i64 k3, .int .i64 k4, .string a3, .string a4, .string a5, .int .i64 k5, .int .i64 k6, .int .i64 k7, .string a6, .string a7, .string a8, .int .i64 k8, .int .i64 k9] _ (HQR.out W ((hB.block _ HQL.out).trans HQE.out)) Tryz.underlying50 rfl (by kernel_rfl) ⟨_, rfl, rfl, hB, Below.refl _ _⟩
     case o4 =>
       intro a W hB hd ho
       have e6 : a.eval (.tmp 6) = .pointer (some ⟨by_, 0, none⟩) := ho 6 (by kernel_rfl)
       exact op_val (.pointer (some ⟨by_, 1, none⟩)) (by unfold execOp; simp only [ev_c, e6]; go_simp) ⟨_, rfl, rfl, hB, Below.refl _ _⟩
     case o5 =>
       intro a W hB hd ho
       have e24 : a.eval (.tmp 24) = .pointer (some ⟨by_, 1, none⟩) := hd 4 24 (by kernel_rfl)
       have c9 : W.cell? ⟨by_, 1, none⟩ = some (.slice (some ⟨gq, off, none⟩) n1 c1) := by
         rw [cell_of_blk ((hB.block _ (blk_lt HU5.out)).trans HU5.out)]
         rfl
       exact op_val (.slice (some ⟨gq, off, none⟩) n1 c1) (by unfold execOp; simp only [ev_c, e24]; go_simp) ⟨_, rfl, rfl, hB, Below.refl _ _⟩
     case o6 =>
       intro a W hB hd ho
       have e25 : a.eval (.tmp 25) = .slice (some ⟨gq, off, none⟩) n1 c1 := hd 5 25 (by kernel_rfl)
       exact op_val (.pointer (some ⟨gq, off, none⟩)) (by unfold execOp; simp only [ev_c, e25]; go_simp; intro h0; exact absurd h0 (by have := HN1.out; omega)) ⟨_, rfl, rfl, hB, Below.refl _ _⟩
     case o7 =>
       intro a W hB hd ho
       have e26 : a.eval (.tmp 26) = .pointer (some ⟨gq, off, none⟩) := hd 6 26 (by kernel_rfl)
       exact op_ld 50 _ rfl gq off e26 [.string a1, .string a2, .int .i64 k1, .slice sp sn sc, .int .i64 k2, .int .i64 k3, .int .i64 k4, .string a3, .string a4, .string a5, .int .i64 k5, .int .i64 k6, .int .i64 k7, .string a6, .string a7, .string a8, .int .i64 k8, .int .i64 k9] _ (HQR.out W ((hB.block _ HQL.out).trans HQE.out)) Tryz.underlying50 rfl (by kernel_rfl) ⟨_, rfl, rfl, hB, Below.refl _ _⟩
     case o8 =>
       intro a W hB hd ho
       have e23 : a.eval (.tmp 23) = .agg #[.string a1, .string a2, .int .i64 k1, .slice sp sn sc, .int .i64 k2, .int .i64 k3, .int .i64 k4, .string a3, .string a4, .string a5, .int .i64 k5, .int .i64 k6, .int .i64 k7, .string a6, .string a7, .string a8, .int .i64 k8, .int .i64 k9] := hd 3 23 (by kernel_rfl)
       have e27 : a.eval (.tmp 27) = .agg #[.string a1, .string a2, .int .i64 k1, .slice sp sn sc, .int .i64 k2, .int .i64 k3, .int .i64 k4, .string a3, .string a4, .string a5, .int .i64 k5, .int .i64 k6, .int .i64 k7, .string a6, .string a7, .string a8, .int .i64 k8, .int .i64 k9] := hd 7 27 (by kernel_rfl)
       have hal : Below W.heap.size W (W.alloc (.cells #[.string a1, .string a2, .int .i64 k1, .slice sp sn sc, .int .i64 k2, .int .i64 k3, .int .i64 k4, .string a3, .string a4, .string a5, .int .i64 k5, .int .i64 k6, .int .i64 k7, .string a6, .string a7, .string a8, .int .i64 k8, .int .i64 k9, .string a1, .string a2, .int .i64 k1, .slice sp sn sc, .int .i64 k2, .int .i64 k3, .int .i64 k4, .string a3, .string a4, .string a5, .int .i64 k5, .int .i64 k6, .int .i64 k7, .string a6, .string a7, .string a8, .int .i64 k8, .int .i64 k9] 50)) := (Below.refl _ _).alloc (Nat.le_refl _) _
       refine op_bs 34 2 _ rfl #[(0, .agg #[.string a1, .string a2, .int .i64 k1, .slice sp sn sc, .int .i64 k2, .int .i64 k3, .int .i64 k4, .string a3, .string a4, .string a5, .int .i64 k5, .int .i64 k6, .int .i64 k7, .string a6, .string a7, .string a8, .int .i64 k8, .int .i64 k9]), (1, .agg #[.string a1, .string a2, .int .i64 k1, .slice sp sn sc, .int .i64 k2, .int .i64 k3, .int .i64 k4, .string a3, .string a4, .string a5, .int .i64 k5, .int .i64 k6, .int .i64 k7, .string a6, .string a7, .string a8, .int .i64 k8, .int .i64 k9])] (by simp [ev_c, e23, e27]) (.slice (some ⟨W.heap.size, 0, none⟩) 2 2) (W.alloc (.cells #[.string a1, .string a2, .int .i64 k1, .slice sp sn sc, .int .i64 k2, .int .i64 k3, .int .i64 k4, .string a3, .string a4, .string a5, .int .i64 k5, .int .i64 k6, .int .i64 k7, .string a6, .string a7, .string a8, .int .i64 k8, .int .i64 k9, .string a1, .string a2, .int .i64 k1, .slice sp sn sc, .int .i64 k2, .int .i64 k3, .int .i64 k4, .string a3, .string a4, .string a5, .int .i64 k5, .int .i64 k6, .int .i64 k7, .string a6, .string a7, .string a8, .int .i64 k8, .int .i64 k9] 50)) (by kernel_rfl) ⟨_, rfl, ⟨W.heap.size, rfl, heap_alloc_new _ _⟩, below_trans hB hal hB.size, hal⟩
     case o9 =>
       intro a W hB hd ho
       have e6 : a.eval (.tmp 6) = .pointer (some ⟨by_, 0, none⟩) := ho 6 (by kernel_rfl)
       exact op_val (.pointer (some ⟨by_, 1, none⟩)) (by unfold execOp; simp only [ev_c, e6]; go_simp) ⟨_, rfl, rfl, hB, Below.refl _ _⟩
     case hend =>
       intro vs W hB hT
       obtain ⟨b9, e8, h9⟩ : ∃ (b9 : Nat), vs 8 = .slice (some ⟨b9, 0, none⟩) 2 2 ∧ W.heap[b9]? = some (.cells #[.string a1, .string a2, .int .i64 k1, .slice sp sn sc, .int .i64 k2, .int .i64 k3, .int .i64 k4, .string a3, .string a4, .string a5, .int .i64 k5, .int .i64 k6, .int .i64 k7, .string a6, .string a7, .string a8, .int .i64 k8, .int .i64 k9, .string a1, .string a2, .int .i64 k1, .slice sp sn sc, .int .i64 k2, .int .i64 k3, .int .i64 k4, .string a3, .string a4, .string a5, .int .i64 k5, .int .i64 k6, .int .i64 k7, .string a6, .string a7, .string a8, .int .i64 k8, .int .i64 k9] 50 (0, 0)) := hT 8 (by decide)
       have e9 : vs 9 = .pointer (some ⟨by_, 1, none⟩) := hT 9 (by decide)
       have hU6 := (hB.block _ (blk_lt HU5.out)).trans HU5.out
       refine ⟨by_, 1, [.string xn, .slice (some ⟨gq, off, none⟩) n1 c1, .slice p2 n2 c2, .slice p3 n3 c3, .slice p4 n4 c4, .string xe, .slice p5 n5 c5], 41, .slice (some ⟨b9, 0, none⟩) 2 2, [.slice (some ⟨b9, 0, none⟩) 2 2], Eq.trans (b := vs 9) (by kernel_rfl) e9, Eq.trans (b := vs 8) (by kernel_rfl) e8, rfl, hU6, by simp, by kernel_rfl, rfl, ?_⟩
       intro w6 hq1 hq2
       have HU6 : Hid (w6.heap[by_]? = some (.cells #[.string xn, .slice (some ⟨b9, 0, none⟩) 2 2, .slice p2 n2 c2, .slice p3 n3 c3, .slice p4 n4 c4, .string xe, .slice p5 n5 c5] 41 (0, 0))) := hq1
       have HT6 := hid ((HT5.out.below hB).fr hq2 ⟨_, hU6⟩ (by decide) HY1.out HY0.out)
       have HX6 := hid (blk_fr ((hB.block _ (blk_lt HX5.out)).trans HX5.out) hq2 HYX.out)
       have HW6 := hid (blk_fr h9 hq2 (TB.ne ⟨_, h9⟩ ⟨_, hU6⟩ (by decide)))
       clear hq1 hq2 hT hU6 h9 hB
       simp only [putsD, Act.put, List.setIfInBounds_toArray, e8, e9]
       simp only [set_c20]
       simp only [List.set_cons_zero, List.set_cons_succ]
       clear e8 e9
       generalize vs 0 = v0
       generalize vs 1 = v1
       generalize vs 2 = v2
       generalize vs 3 = v3
       generalize vs 4 = v4
       generalize vs 5 = v5
       generalize vs 6 = v6
       generalize vs 7 = v7
       clear vs HQR HQE HQL HT5 HX5 HU5
       go_wp2_with (first
         | ((with_reducible show wpList _ _ _ (Oper.mk _ (.store 36 _ _) _ _ _ _ :: _) _ _); refine wp_st (by rfl) 36 _ _ (by rfl) by_ 4 [.string xn, .slice (some ⟨b9, 0, none⟩) 2 2, .slice p2 n2 c2, .slice p3 n3 c3, .slice p4 n4 c4, .string xe, .slice p5 n5 c5] 41 (.slice none 0 0) [.slice none 0 0] (by rfl) (by rfl) (by rfl) HU6.out (by simp) (by kernel_rfl) (by rfl) ?_; intro w7 hq1 hq2; have HU7 := hid hq1; have HT7 := hid (HT6.out.fr hq2 ⟨_, HU6.out⟩ (by decide) HY1.out HY0.out); have HX7 := hid (blk_fr HX6.out hq2 HYX.out); have HW7 := hid (blk_fr HW6.out hq2 (TB.ne ⟨_, HW6.out⟩ ⟨_, HU6.out⟩ (by decide))); clear hq1 hq2; have y0 : w7.cell? ⟨by_, 0, none⟩ = some (.string xn) := (by rw [cell_of_blk HU7.out]; rfl); have y1 : w7.cell? ⟨by_, 1, none⟩ = some (.slice (some ⟨b9, 0, none⟩) 2 2) := (by rw [cell_of_blk HU7.out]; rfl); have y2 : w7.cell? ⟨by_, 2, none⟩ = some (.slice p2 n2 c2) := (by rw [cell_of_blk HU7.out]; rfl); have y3 : w7.cell? ⟨by_, 3, none⟩ = some (.slice p3 n3 c3) := (by rw [cell_of_blk HU7.out]; rfl); have y4 : w7.cell? ⟨by_, 4, none⟩ = some (.slice none 0 0) := (by rw [cell_of_blk HU7.out]; rfl); have y5 : w7.cell? ⟨by_, 5, none⟩ = some (.string xe) := (by rw [cell_of_blk HU7.out]; rfl); have y6 : w7.cell? ⟨by_, 6, none⟩ = some (.slice p5 n5 c5) := (by rw [cell_of_blk HU7.out]; rfl))
         | ((with_reducible show wpList _ _ _ (Oper.mk (some 32) _ _ _ _ _ :: _) _ _); refine wp_bsB (by rfl) 24 1 _ (by rfl) #[(0, .agg #[.string xn, .slice (some ⟨b9, 0, none⟩) 2 2, .slice p2 n2 c2, .slice p3 n3 c3, .slice none 0 0, .string xe, .slice p5 n5 c5])] (by simp [Act.eval, Act.put]) [.string xn, .slice (some ⟨b9, 0, none⟩) 2 2, .slice p2 n2 c2, .slice p3 n3 c3, .slice none 0 0, .string xe, .slice p5 n5 c5] 41 (fun w => by kernel_rfl) ?_; intro bz wb hq1 hq0 hq2; have HZ := hid hq1; have HTb := hid (HT7.out.below hq2); have HXb := hid ((hq2.block _ (blk_lt HX7.out)).trans HX7.out); have HWb := hid ((hq2.block _ (blk_lt HW7.out)).trans HW7.out); clear hq1 hq0 hq2)
         | ((with_reducible show wpList _ _ _ (Oper.mk _ (.store 24 _ _) _ _ _ _ :: _) _ _); refine wp_st (by rfl) 24 _ _ (by rfl) bx 1 [.slice (some ⟨b + 4, 0, none⟩) 5 5, .slice (some ⟨g, 0, none⟩) R rc] 26 (.slice (some ⟨bz, 0, none⟩) 1 1) [.slice (some ⟨bz, 0, none⟩) 1 1] (by rfl) (by rfl) (by rfl) HXb.out (by simp) (by kernel_rfl) (by rfl) ?_; intro w8 hq1 hq2; have HU8 := hid hq1; have HTw8 := hid (HTb.out.fr hq2 ⟨_, HXb.out⟩ (by decide) HBb.out HBX.out); have HW8 := hid (blk_fr HWb.out hq2 (TB.ne ⟨_, HWb.out⟩ ⟨_, HXb.out⟩ (by decide))); have HZ8 := hid (blk_fr HZ.out hq2 (TB.ne ⟨_, HZ.out⟩ ⟨_, HXb.out⟩ (by decide))); have c0 : w8.cell? ⟨bx, 0, none⟩ = some (.slice (some ⟨b + 4, 0, none⟩) 5 5) := (by rw [cell_of_blk HU8.out]; rfl); have c1 : w8.cell? ⟨bx, 1, none⟩ = some (.slice (some ⟨bz, 0, none⟩) 1 1) := (by rw [cell_of_blk HU8.out]; rfl); clear hq1 hq2))
       have HB8 : Hid (Below w.heap.size w w8) := HTw8.out.bel
       have HT8 := hid HTw8.out.ty.rd
       have hr1 := rdl_tw HTw8.out.kt.rd HW8.out HTw8.out.kq.rd
       have HR8 : Hid (Rd w8 (.row 41 7 ([twW x q].map encR)) (.slice (some ⟨bz, 0, none⟩) 1 1)) := rd_blk (l := [twW x q].map encR) HZ8.out (by simp) (by simp [maxLen]) (by
         show RdL w8 (encR (twW x q) ++ []) _
         rw [List.append_nil]
         exact hr1)
       clear hr1
       refine (HSH.out kts [twW x q] HSZ.out HB7.out _ _ w8 HB8.out HT8.out HR8.out).mono ?_
       rintro e w9 ⟨rfl, hb9⟩
       rw [HB7.out]
       have HU9 := hid ((hb9.block _ (blk_lt HU8.out)).trans HU8.out)
       have HB9 := hid (below_trans HB8.out hb9 HB8.out.size)
       have HT9 := hid (HT8.out.later hb9)
       have HR9 := hid (HR8.out.later hb9)
       clear hb9 c0 c1
       have c0 : w9.cell? ⟨bx, 0, none⟩ = some (.slice (some ⟨b + 4, 0, none⟩) 5 5) := (by rw [cell_of_blk HU9.out]; rfl)
       have c1 : w9.cell? ⟨bx, 1, none⟩ = some (.slice (some ⟨bz, 0, none⟩) 1 1) := (by rw [cell_of_blk HU9.out]; rfl)
       go_wp2_with fail
       refine (HCK2.out kts [twW x q] HSZ.out _ _ w9 HB9.out HT9.out HR9.out).mono ?_
       rintro e wa ⟨rfl, hba⟩
       rw [HB7.out]
       have HBA := hid (below_trans HB9.out hba HB9.out.size)
       clear hba c0 c1
       go_wp2_with fail
       go_ret
       exact ⟨ret_bool (by simp), HBA.out⟩
end Go.Proofs.YtdihklfaiiclgaaGreatDoor.Chk
