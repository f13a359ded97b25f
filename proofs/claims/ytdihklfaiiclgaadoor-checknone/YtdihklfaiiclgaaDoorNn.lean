/-
  What is named that is not there: CheckNone.
-/
import Derived.Test.YtdihklfaiiclgaaDoorKp
namespace Go.Proofs.YtdihklfaiiclgaaDoor.Chk
open Go.ChangeShapes Go.WideShapes Go.ChangeAt Go.RowKit Go.Maps
set_option linter.unusedVariables false
set_option linter.unusedSimpArgs false
set_option maxRecDepth 20000
theorem rdp_ty {w : World} {q : Pt} {u v : Value} {us : List Value} (t : ByteArray) (h : RdL w (encP q) (u :: v :: us)) : RdL w (encP { q with ty := t }) (u :: .string t :: us) := by
  obtain ⟨v0, r0, e, h0, h⟩ := RdL.one h
  obtain ⟨v1, r1, e1, h1, h⟩ := RdL.one h
  simp only [List.cons.injEq] at e
  obtain ⟨rfl, rfl⟩ := e
  simp only [List.cons.injEq] at e1
  obtain ⟨rfl, rfl⟩ := e1
  exact .cons h0 (.cons (.lit _) h)
theorem rdp_c {w : World} {q : Pt} {X : Cn} {cs : List Value} {a1 a2 a3 a4 a5 a6 a7 a8 : ByteArray} {sp : Option Addr} {sn sc : Nat} {k1 k2 k3 k4 k5 k6 k7 k8 k9 : Int} (h : RdL w (encP q) [.string a1, .string a2, .int .i64 k1, .slice sp sn sc, .int .i64 k2, .int .i64 k3, .int .i64 k4, .string a3, .string a4, .string a5, .int .i64 k5, .int .i64 k6, .int .i64 k7, .string a6, .string a7, .string a8, .int .i64 k8, .int .i64 k9]) (hc : RdL w (encC X) cs) : RdL w (encP { q with c := X }) (.string a1 :: .string a2 :: (cs ++ [.int .i64 k8, .int .i64 k9])) := by
  obtain ⟨v, e, _⟩ := rdP h
  have e0 : Value.string a1 = .string q.va := congrArg (fun l : List Value => l.getD 0 nilV) e
  have e1 : Value.string a2 = .string q.ty := congrArg (fun l : List Value => l.getD 1 nilV) e
  have e2 : Value.int .i64 k8 = .int .i64 q.w := congrArg (fun l : List Value => l.getD 16 nilV) e
  have e3 : Value.int .i64 k9 = .int .i64 q.n := congrArg (fun l : List Value => l.getD 17 nilV) e
  rw [e0, e1, e2, e3]
  exact .cons (.lit _) (.cons (.lit _) (rdl_app hc (rdl_lits [.int .i64 q.w, .int .i64 q.n])))
theorem rdc_cmp (w : World) (k : Int) (a b : Opd) : RdL w (encC (cmpC k a b)) (cnC k (.slice none 0 0) a b) :=
  .cons (.lit _) (.cons (.nil _ _ none 0 (Nat.zero_le _)) (rdl_lits [.int .i64 a.k, .int .i64 a.vk, .int .i64 a.vi, .string a.vt, .string a.va, .string a.fd, .int .i64 b.k, .int .i64 b.vk, .int .i64 b.vi, .string b.vt, .string b.va, .string b.fd]))
theorem RwT.rest {w : World} {n e z g m c : Nat} {τ : Nat → Prop} {x : List Dat} {r : List (List Dat)} (h : RwT w n τ e z (.slice (some ⟨g, 0, none⟩) m c) (x :: r)) (hx : x.length = z) : ∃ us, us.length = r.length * z ∧ (∀ W : World, W.heap[g]? = w.heap[g]? → W.rangeAt g z us) ∧ KT w n τ r.flatten us ∧ r.length + 1 ≤ c := by
 obtain ⟨xs, h1, h2⟩ := h
 have hxl : xs.length = r.length * z + z := by rw [h1.1, List.length_cons, Nat.add_mul]; omega
 rcases h1.2 with ⟨h3, h4⟩ | ⟨g', cap, cur, h3, h4, h5, h6, h7, h8, h9⟩
 . simp at h4
 . simp only [Value.slice.injEq, Option.some.injEq, Addr.mk.injEq] at h3
   obtain ⟨⟨rfl, _⟩, _, rfl⟩ := h3
   refine ⟨xs.drop z, by rw [List.length_drop]; omega, fun W hW j u hj => ?_, fun W hW => ?_, h6⟩
   . rw [List.getElem?_drop] at hj
     have h10 : W.heap[g]? = some (.cells cur e (0, 0)) := hW.trans h5
     rw [cell_of_blk h10, ← h9] at *
     rw [List.getElem?_take] at hj
     split at hj
     . simpa using hj
     . cases hj
   . have h10 := RdL.drop z (h2 W hW)
     rw [List.flatten_cons, List.drop_left' hx] at h10
     exact h10
theorem rdl_rl {w : World} {x : Rl} {ws : List Pt} {xn xe : ByteArray} {v1 v2 v3 v4 v5 u1 : Value} (h : RdL w (encR x) [.string xn, v1, v2, v3, v4, .string xe, v5]) (hw : Rd w (.row 46 18 (ws.map encP)) u1) : RdL w (encR { x with w := ws }) [.string xn, u1, v2, v3, v4, .string xe, v5] ∧ (∀ (lk : List Lk) (u4 : Value), Rd w (.row 54 3 (lk.map encK)) u4 → RdL w (encR { x with w := ws, k := lk }) [.string xn, u1, v2, v3, u4, .string xe, v5]) ∧ (∀ em : ByteArray, RdL w (encR { x with w := ws, e := ⟨em, []⟩ }) [.string xn, u1, v2, v3, v4, .string em, .slice none 0 0]) := by
  obtain ⟨y1, y2, y3, y4, y5, e, o1, o2, o3, o4, o5⟩ := rdR h
  simp only [List.cons.injEq, Value.string.injEq] at e
  obtain ⟨rfl, rfl, rfl, rfl, rfl, rfl, rfl, _⟩ := e
  exact ⟨.cons (.lit _) (.cons hw (.cons o2 (.cons o3 (.cons o4 (.cons (.lit _) (.cons o5 (RdL.nil _))))))), fun lk u4 h4 => .cons (.lit _) (.cons hw (.cons o2 (.cons o3 (.cons h4 (.cons (.lit _) (.cons o5 (RdL.nil _))))))), fun em => .cons (.lit _) (.cons hw (.cons o2 (.cons o3 (.cons o4 (.cons (.lit _) (.cons (.nil _ _ none 0 (Nat.zero_le _)) (RdL.nil _)))))))⟩
set_option maxHeartbeats 64000000 in
theorem checkNone_walk (l : List Plt) (hok : ∀ p, p ∈ l → p.ok) (lv : Value) (wh : Int) (hw1 : -9223372036854775808 ≤ wh) (hw2 : wh ≤ 9223372036854775807) (w : World) (hl : Rd w (.row 63 5 (l.map encPl)) lv) (htk : Tab w 0 kpl) (htr : Tab w 1 rll) :
   Calls Tryd.prog 3 #[lv, .int .i64 wh] w fun e w' => e = .returned (.bool true) ∧ Below w.heap.size w w' := by
 have HBK := hid (book_any l hok lv w hl)
 have HCK := hid (fun (rs : List Rl) (hz : ∀ x, x ∈ rs → Szr x) (tv rv : Value) (W : World) (hb : Below w.heap.size w W) (hT : Rd W (.row 71 2 (kts.map encY)) tv) (hR : Rd W (.row 35 7 (rs.map encR)) rv) => check_any kts rs hz tv rv W hT hR (tab_later htk hb) (tab_later htr hb))
 have HPK := hid (fun W => picked_any wh 5 W hw1 hw2 (by decide) (by decide))
 have hp2 := pkd_in wh (m := 5) (by decide)
 obtain ⟨R, hR⟩ : ∃ R, min l.length 4 + 1 = R := ⟨_, rfl⟩
 rw [hR] at HBK
 have HRR : Hid (1 ≤ R ∧ R ≤ 5 ∧ min l.length 4 + 1 = R) := by show _ ∧ _; omega
 obtain ⟨lp, L, lc, rfl⟩ := rd_shape hl
 obtain ⟨ir, ir1, ir2, ir3, ir4⟩ := inR
 have HIR := hid (And.intro ir1 (And.intro ir2 (And.intro ir3 ir4)))
 clear hl htk htr hok hw1 hw2 hR ir1 ir2 ir3 ir4
 go_enter Tryd.func3, Tryd.ntmps3
 go_upto_region 2 with (first
   | (go_at_call 5; refine HBK.out.mono ?_; rintro e w1 ⟨b, rp, rc, rfl, hb, hty, hr, hbl⟩; have HB0 := hid hb; have HTY := hid hty; have HRW := hid hr; have HBL := hid hbl; clear hb hty hr hbl)
   | ((with_reducible show wpList _ _ _ (Oper.mk _ (.store 26 _ _) _ _ _ _ :: _) _ _); refine wp_st (by rfl) 26 _ _ (by rfl) w1.heap.size 0 [.slice none 0 0, .slice none 0 0] 26 (.agg #[.slice (some ⟨b + 4, 0, none⟩) 5 5, .slice rp R rc]) [.slice (some ⟨b + 4, 0, none⟩) 5 5, .slice rp R rc] (by rfl) (by rfl) (by rfl) (heap_alloc_new _ _) (by simp) (by kernel_rfl) (by rfl) ?_; intro w3 hq1 hq2; have HU2 := hid hq1; have HF2 := hid hq2; have c0 : w3.cell? ⟨w1.heap.size, 0, none⟩ = some (.slice (some ⟨b + 4, 0, none⟩) 5 5) := (by rw [cell_of_blk HU2.out]; rfl); have c1 : w3.cell? ⟨w1.heap.size, 1, none⟩ = some (.slice rp R rc) := (by rw [cell_of_blk HU2.out]; rfl); clear hq1 hq2))
 obtain ⟨bx, hbx⟩ : ∃ x, w1.heap.size = x := ⟨_, rfl⟩
 have hA1 : Below w1.heap.size w1 (w1.alloc (.cells #[.slice none 0 0, .slice none 0 0] 26)) := (Below.refl _ _).alloc (Nat.le_refl _) _
 have hn12 : Below w1.heap.size w1 w3 := below_fr hA1 HF2.out (Nat.le_refl _)
 have HB3 := hid (below_trans HBL.out hn12 HBL.out.size)
 have HTY3 : Hid (Tys w3 b) := HTY.out.later (fun i o hi _ _ => (hn12.block _ (blk_lt hi)).trans hi)
 have HRW3 := hid (HRW.out.below hn12)
 have HBb : Hid (b + 4 < bx) := by rw [← hbx]; exact blk_lt HTY.out.2.2.2.2
 have HU3 := hid HU2.out
 rw [hbx] at HU3 ⊢
 clear hbx hA1 hn12 HF2 HBL HTY HRW HU2 HBK
 clear c0 c1
 obtain ⟨x, r, hbk, hrx, hrl⟩ := bk_cons l
 have hszx : Szr x := szr_bk l x (by rw [hbk]; simp)
 have hfr : RwT w3 (b + 5) isR 35 7 (.slice rp R rc) (encR x :: r.map encR) := by have h9 := HRW3.out; rw [hbk] at h9; exact h9
 obtain ⟨g, cg, us, hv, hul, hrg, hkt, htb, hbg⟩ := hfr.first (lenR x)
 obtain ⟨p1, n1, c1, p2, n2, c2, p3, n3, c3, p4, n4, c4, p5, n5, c5, rfl⟩ := kt_rule hkt.rd
 simp only [Value.slice.injEq] at hv
 obtain ⟨rfl, hRr, rfl⟩ := hv
 obtain ⟨xn, hxn⟩ : ∃ z, x.n = z := ⟨_, rfl⟩
 obtain ⟨xe, hxe⟩ : ∃ z, x.e.ty = z := ⟨_, rfl⟩
 rw [hxn, hxe] at hrg hkt
 obtain ⟨ur, hr1, hr2, hr3, hr4⟩ := hfr.rest (lenR x)
 rw [List.length_map] at hr1 hr4
 have HKT := hid hkt
 have HRG7 := hid hr2
 have HKR := hid hr3
 have HUR : Hid (ur.length = r.length * 7 ∧ ur.all (·.oneCell') = true ∧ r.length + 1 ≤ rc ∧ R = r.length + 1) := ⟨hr1, one_all one_rl hr3.rd, hr4, by simpa using hRr⟩
 have HGB : Hid (TB w3 35 g) := htb
 have HGN : Hid (b + 5 ≤ g) := hbg
 clear hr1 hr2 hr3 hr4 hRr
 have HRG := hid (fun (W : World) (hb : Below w3.heap.size w3 W) => hrg W (hb.block _ htb.lt))
 have HSX := hid hszx
 have HRX := hid hrx
 have HRL := hid hrl
 have HBKC := hid hbk
 have hR0 : (0 : Int) < (R : Int) := by have := HRR.out; omega
 have HN3 : Hid (b + 5 ≤ w3.heap.size) := by have h8 := blk_lt HU3.out; have := HBb.out; show _ ≤ _; omega
 clear hbk hrx hrl hszx hfr hul hrg hkt htb hbg hxn hxe
 obtain ⟨wr, hwr⟩ : ∃ x, x = w3 := ⟨_, rfl⟩
 subst hwr
 obtain ⟨_, _, q, rq, hwq, hpq⟩ := rck_first HRX.out
 have HZ0 := hid (bk_zz l x (by rw [HBKC.out]; simp))
 have hlq : rq.length ≤ 2 := by have h9 := (rck_first HRX.out).2.1.2.1; rw [hwq, List.length_cons] at h9; omega
 obtain ⟨gq, off, a1, a2, a3, a4, a5, a6, a7, a8, sp, sn, sc, k1, k2, k3, k4, k5, k6, k7, k8, k9, ys, rfl, hn1, hg1, hg2, hg3, hg4, hg5, hg6⟩ := kt_whens hwq HKT.out
 have HN1 : Hid (0 < n1 ∧ n1 ≤ 3 ∧ (([.string a1, .string a2, .int .i64 k1, .slice sp sn sc, .int .i64 k2, .int .i64 k3, .int .i64 k4, .string a3, .string a4, .string a5, .int .i64 k5, .int .i64 k6, .int .i64 k7, .string a6, .string a7, .string a8, .int .i64 k8, .int .i64 k9] : List Value) ++ ys).length = n1 * 18 ∧ (([.string a1, .string a2, .int .i64 k1, .slice sp sn sc, .int .i64 k2, .int .i64 k3, .int .i64 k4, .string a3, .string a4, .string a5, .int .i64 k5, .int .i64 k6, .int .i64 k7, .string a6, .string a7, .string a8, .int .i64 k8, .int .i64 k9] : List Value) ++ ys).all (·.oneCell') = true) := ⟨by omega, by omega, by rw [List.length_append, hg3, hn1]; simp; omega, hg4⟩
 have HNQ : Hid (n1 = rq.length + 1 ∧ ys.length = rq.length * 18) := ⟨hn1, hg3⟩
 have HKQ := hid hg5
 have HKY := hid hg6
 have HGQ := hid (And.intro hg1 hg2)
 have HWQ := hid hwq
 have HPQ := hid hpq
 have hn0 : (0 : Int) < (n1 : Int) := by omega
 obtain ⟨ip, ip1, ip2, ip3, ip4⟩ := inP
 have HIP := hid (And.intro ip1 (And.intro ip2 (And.intro ip3 ip4)))
 clear hn1 hg1 hg2 hg3 hg4 hg5 hg6 hwq hpq hlq ip1 ip2 ip3 ip4
 have dx : wr.cell? ⟨bx, 1, none⟩ = some (.slice (some ⟨g, 0, none⟩) R rc) := by rw [cell_of_blk HU3.out]; rfl
 have d0 : wr.cell? ⟨g, 0, none⟩ = some (.string xn) := by have h9 := HRG.out wr (Below.refl _ _) 0 _ rfl; simpa using h9
 have d1 : wr.cell? ⟨g, 1, none⟩ = some (.slice (some ⟨gq, off, none⟩) n1 c1) := by have h9 := HRG.out wr (Below.refl _ _) 1 _ rfl; simpa using h9
 have d2 : wr.cell? ⟨g, 2, none⟩ = some (.slice p2 n2 c2) := by have h9 := HRG.out wr (Below.refl _ _) 2 _ rfl; simpa using h9
 have d3 : wr.cell? ⟨g, 3, none⟩ = some (.slice p3 n3 c3) := by have h9 := HRG.out wr (Below.refl _ _) 3 _ rfl; simpa using h9
 have d4 : wr.cell? ⟨g, 4, none⟩ = some (.slice p4 n4 c4) := by have h9 := HRG.out wr (Below.refl _ _) 4 _ rfl; simpa using h9
 have d5 : wr.cell? ⟨g, 5, none⟩ = some (.string xe) := by have h9 := HRG.out wr (Below.refl _ _) 5 _ rfl; simpa using h9
 have d6 : wr.cell? ⟨g, 6, none⟩ = some (.slice p5 n5 c5) := by have h9 := HRG.out wr (Below.refl _ _) 6 _ rfl; simpa using h9
 go_upto_region 3 with ((with_reducible show wpList _ _ _ (Oper.mk _ (.store 35 _ _) _ _ _ _ :: _) _ _); refine wp_st (by rfl) 35 _ _ (by rfl) wr.heap.size 0 [.string ⟨#[]⟩, .slice none 0 0, .slice none 0 0, .slice none 0 0, .slice none 0 0, .string ⟨#[]⟩, .slice none 0 0] 35 (.agg #[.string xn, .slice (some ⟨gq, off, none⟩) n1 c1, .slice p2 n2 c2, .slice p3 n3 c3, .slice p4 n4 c4, .string xe, .slice p5 n5 c5]) [.string xn, .slice (some ⟨gq, off, none⟩) n1 c1, .slice p2 n2 c2, .slice p3 n3 c3, .slice p4 n4 c4, .string xe, .slice p5 n5 c5] (by rfl) (by rfl) (by rfl) (heap_alloc_new _ _) (by simp) (by kernel_rfl) (by rfl) ?_; intro w5 hq1 hq2; have HU5 := hid hq1; have HF5 := hid hq2; clear hq1 hq2)
 have HF5' : Hid (Fr (fun i => i = bx) wr w5) := ((Fr.refl (fun i => i = bx) wr).alloc (.cells #[.string ⟨#[]⟩, .slice none 0 0, .slice none 0 0, .slice none 0 0, .slice none 0 0, .string ⟨#[]⟩, .slice none 0 0] 35)).stored HF5.out (.inr (Nat.le_refl _))
 have HRGq : Hid (w5.rangeAt gq off ([.string a1, .string a2, .int .i64 k1, .slice sp sn sc, .int .i64 k2, .int .i64 k3, .int .i64 k4, .string a3, .string a4, .string a5, .int .i64 k5, .int .i64 k6, .int .i64 k7, .string a6, .string a7, .string a8, .int .i64 k8, .int .i64 k9] ++ ys)) := range_same HGQ.out.1 ((below_fr ((Below.refl _ _).alloc (Nat.le_refl _) (.cells #[.string ⟨#[]⟩, .slice none 0 0, .slice none 0 0, .slice none 0 0, .slice none 0 0, .string ⟨#[]⟩, .slice none 0 0] 35)) HF5.out (Nat.le_refl _)).block gq HGQ.out.2)
 have HX5 := hid (((below_fr ((Below.refl _ _).alloc (Nat.le_refl _) (.cells #[.string ⟨#[]⟩, .slice none 0 0, .slice none 0 0, .slice none 0 0, .slice none 0 0, .string ⟨#[]⟩, .slice none 0 0] 35)) HF5.out (Nat.le_refl _)).block bx (blk_lt HU3.out)).trans HU3.out)
 clear HF5
 have HF5 := HF5'
 have HYX : Hid (bx ≠ wr.heap.size) := by have h8 := blk_lt HU3.out; show _ ≠ _; omega
 have HBX : Hid (w.heap.size ≤ bx) := by have := HBb.out; have := HB0.out; show _ ≤ _; omega
 obtain ⟨by_, hby⟩ : ∃ z, wr.heap.size = z := ⟨_, rfl⟩
 have HBY : Hid (wr.heap.size = by_) := hby
 rw [hby] at HU5 HYX ⊢
 clear HF5' hby dx d0 d1 d2 d3 d4 d5 d6 HGQ HRG
 have y1 : w5.cell? ⟨by_, 1, none⟩ = some (.slice (some ⟨gq, off, none⟩) n1 c1) := by rw [cell_of_blk HU5.out]; rfl
 go_upto_region 4 with (first
   | ((with_reducible show wpList _ _ _ (Oper.mk (some 16) _ _ _ _ _ :: _) _ _); refine wp_appC (by rfl) _ _ 28 (by rfl) 46 18 224 ip _ Tryd.underlying28 HIP.out.1 HIP.out.2.1 HIP.out.2.2.1 HIP.out.2.2.2 rfl (by omega) (by decide) (by rfl) gq off n1 c1 ([.string a1, .string a2, .int .i64 k1, .slice sp sn sc, .int .i64 k2, .int .i64 k3, .int .i64 k4, .string a3, .string a4, .string a5, .int .i64 k5, .int .i64 k6, .int .i64 k7, .string a6, .string a7, .string a8, .int .i64 k8, .int .i64 k9] ++ ys) (by rfl) HRGq.out HN1.out.2.2.1 HN1.out.2.2.2 (Nat.le_trans HN1.out.2.1 (by decide)) HN1.out.1 ?_; intro gw cw tl w6 hq1 hq2 hq3 hq4 hq5; have HW6 := hid hq1; have HGW := hid hq2; have HCW := hid (And.intro hq3 hq4); have HU6 := hid ((hq5.block _ (blk_lt HU5.out)).trans HU5.out); have HF6 := hid (fr_below HF5.out hq5); have HX6 := hid ((hq5.block _ (blk_lt HX5.out)).trans HX5.out); clear hq1 hq2 hq3 hq4 hq5)
   | ((with_reducible show wpList _ _ _ (Oper.mk _ (.store 28 _ _) _ _ _ _ :: _) _ _); refine wp_st (by rfl) 28 _ _ (by rfl) by_ 1 [.string xn, .slice (some ⟨gq, off, none⟩) n1 c1, .slice p2 n2 c2, .slice p3 n3 c3, .slice p4 n4 c4, .string xe, .slice p5 n5 c5] 35 (.slice (some ⟨gw, 0, none⟩) n1 cw) [.slice (some ⟨gw, 0, none⟩) n1 cw] (by rfl) (by rfl) (by rfl) HU6.out (by simp) (by kernel_rfl) (by rfl) ?_; intro w7 hq1 hq2; have HU7 : Hid (w7.heap[by_]? = some (.cells #[.string xn, .slice (some ⟨gw, 0, none⟩) n1 cw, .slice p2 n2 c2, .slice p3 n3 c3, .slice p4 n4 c4, .string xe, .slice p5 n5 c5] 35 (0, 0))) := hq1; have HF7 := hid (HF6.out.stored hq2 (.inr (Nat.le_of_eq HBY.out))); have HW7 := hid (blk_set HW6.out hq2 (TB.ne ⟨_, HW6.out⟩ ⟨_, HU6.out⟩ (by decide))); have HX7 := hid (blk_set HX6.out hq2 HYX.out); clear hq1 hq2))
 have HW : Hid (w7.heap[gw]? = some (.cells (([.string a1, .string a2, .int .i64 k1, .slice sp sn sc, .int .i64 k2, .int .i64 k3, .int .i64 k4, .string a3, .string a4, .string a5, .int .i64 k5, .int .i64 k6, .int .i64 k7, .string a6, .string a7, .string a8, .int .i64 k8, .int .i64 k9] : List Value) ++ (ys ++ tl)).toArray 46 (0, 0))) := by rw [← List.append_assoc]; exact HW7.out
 have HX : Hid (w7.heap[bx]? = some (.cells #[.slice (some ⟨b + 4, 0, none⟩) 5 5, .slice (some ⟨g, 0, none⟩) R rc] 26 (0, 0))) := HX7.out
 have HGW' : Hid (wr.heap.size ≤ gw) := by have h8 := HF5.out.size; have h9 := HGW.out; show _ ≤ _; omega
 clear HX5 HX6 HX7 HW7 HW6 HU6 HF6 HU5 HF5 HRGq HGW y1
 have y1 : w7.cell? ⟨by_, 1, none⟩ = some (.slice (some ⟨gw, 0, none⟩) n1 cw) := by rw [cell_of_blk HU7.out]; rfl
 obtain ⟨pk, hpk⟩ : ∃ x, pkd wh 5 = x := ⟨_, rfl⟩
 rw [hpk] at HPK hp2
 clear hpk
 by_cases hp0 : pk = 0
 . subst hp0
   clear hp2 
   go_upto_region 16 with (first
     | (go_at_call 6; refine (HPK.out _).mono ?_; rintro e w7 ⟨rfl, rfl⟩)
     | ((with_reducible show wpList _ _ _ (Oper.mk _ (.store 9 _ _) _ _ _ _ :: _) _ _); refine wp_st (by rfl) 9 _ _ (by rfl) gw 1 ([.string a1, .string a2, .int .i64 k1, .slice sp sn sc, .int .i64 k2, .int .i64 k3, .int .i64 k4, .string a3, .string a4, .string a5, .int .i64 k5, .int .i64 k6, .int .i64 k7, .string a6, .string a7, .string a8, .int .i64 k8, .int .i64 k9] ++ (ys ++ tl)) 46 (.string ⟨#[122, 122]⟩) [.string ⟨#[122, 122]⟩] (by rfl) (by rfl) (by rfl) HW.out (by simp <;> omega) (by kernel_rfl) (by rfl) ?_; intro wz hq1 hq2; have HWz : Hid (wz.heap[gw]? = some (.cells (([.string a1, .string ⟨#[122, 122]⟩, .int .i64 k1, .slice sp sn sc, .int .i64 k2, .int .i64 k3, .int .i64 k4, .string a3, .string a4, .string a5, .int .i64 k5, .int .i64 k6, .int .i64 k7, .string a6, .string a7, .string a8, .int .i64 k8, .int .i64 k9] : List Value) ++ (ys ++ tl)).toArray 46 (0, 0))) := hq1; have HFz := hid (HF7.out.stored hq2 (.inr HGW'.out)); have HYz := hid (blk_set HU7.out hq2 (TB.ne ⟨_, HU7.out⟩ ⟨_, HW.out⟩ (by decide))); have HXz := hid (blk_set HX.out hq2 (TB.ne ⟨_, HX.out⟩ ⟨_, HW.out⟩ (by decide))); clear hq1 hq2))
   have HKTz := HKT.out.fr HFz.out ⟨_, HU3.out⟩ (by decide)
   have HKQz := HKQ.out.fr HFz.out ⟨_, HU3.out⟩ (by decide)
   have HKYz := HKY.out.fr HFz.out ⟨_, HU3.out⟩ (by decide)
   have HKX : Hid (KT wz (b + 5) isR (encR { x with w := { q with ty := zz } :: rq }) [.string xn, .slice (some ⟨gw, 0, none⟩) n1 cw, .slice p2 n2 c2, .slice p3 n3 c3, .slice p4 n4 c4, .string xe, .slice p5 n5 c5]) := fun W hW => (rdl_rl (HKTz W hW) (show Rd W (.row 46 18 (({ q with ty := zz } :: rq).map encP)) (.slice (some ⟨gw, 0, none⟩) n1 cw) from by rw [HNQ.out.1]; exact rd_heads (us := [.string a1, .string ⟨#[122, 122]⟩, .int .i64 k1, .slice sp sn sc, .int .i64 k2, .int .i64 k3, .int .i64 k4, .string a3, .string a4, .string a5, .int .i64 k5, .int .i64 k6, .int .i64 k7, .string a6, .string a7, .string a8, .int .i64 k8, .int .i64 k9]) ((hW gw 46 (Nat.le_trans HN3.out HGW'.out) (by decide) ⟨_, HWz.out⟩).trans HWz.out) (rdp_ty zz (HKQz W hW)) (HKYz W hW) (by have h8 := HNQ.out.1; have h9 := HCW.out.1; omega) HCW.out.2)).1
   have HRC : Hid (rck kts { x with w := { q with ty := zz } :: rq } = 6) := rck_head HRX.out HWQ.out (pck_zz HPQ.out) (by decide)
   have HSP : Hid (Szr { x with w := { q with ty := zz } :: rq }) := szr_head HSX.out HWQ.out (HSX.out.w q (by rw [HWQ.out]; simp))
   clear HKTz HKQz HKYz
   have HKRz := HKR.out.fr HFz.out ⟨_, HU3.out⟩ (by decide)
   have HPz : Hid (KT wz (b + 5) isR (encR { x with w := { q with ty := zz } :: rq } ++ (r.map encR).flatten) ([.string xn, .slice (some ⟨gw, 0, none⟩) n1 cw, .slice p2 n2 c2, .slice p3 n3 c3, .slice p4 n4 c4, .string xe, .slice p5 n5 c5] ++ ur)) := HKX.out.app HKRz
   have HBO : Hid (bok kts ({ x with w := { q with ty := zz } :: rq } :: r) = 6) := bok_first HRC.out (by decide) HRL.out
   have HSZ : Hid (∀ y, y ∈ { x with w := { q with ty := zz } :: rq } :: r → Szr y) := fun y hy => by
     rcases List.mem_cons.1 hy with rfl | hy
     . exact HSP.out
     . exact szr_bk l y (by rw [HBKC.out]; exact List.mem_cons_of_mem _ hy)
   have HG7z : Hid (wz.rangeAt g 7 ur) := HRG7.out wz (HFz.out.block g HGB.out.lt (TB.ne HGB.out ⟨_, HU3.out⟩ (by decide)))
   have HGLz : Hid (g < wz.heap.size) := Nat.lt_of_lt_of_le HGB.out.lt HFz.out.size
   have HNz : Hid (b + 5 ≤ wz.heap.size) := Nat.le_trans HN3.out HFz.out.size
   have HTYz : Hid (Tys wz b) := HTY3.out.later (fun i o hi _ hb2 => (HFz.out.block i (blk_lt hi) (by have := HBb.out; show i ≠ bx; omega)).trans hi)
   have HBz : Hid (Below w.heap.size w wz) := below_fr HB3.out HFz.out HBX.out
   have hR1 : (1 : Int) ≤ (R : Int) := by have := HRR.out; omega
   clear HKRz y1
   refine wp_region_two (by kernel_rfl) (fun i w9 v => ([(fun w9 v => v = .agg #[.string xn, .slice (some ⟨gw, 0, none⟩) n1 cw, .slice p2 n2 c2, .slice p3 n3 c3, .slice p4 n4 c4, .string xe, .slice p5 n5 c5]), (fun w9 v => ∃ (b9 : Nat), v = .slice (some ⟨b9, 0, none⟩) 1 1 ∧ w9.heap[b9]? = some (.cells #[.string xn, .slice (some ⟨gw, 0, none⟩) n1 cw, .slice p2 n2 c2, .slice p3 n3 c3, .slice p4 n4 c4, .string xe, .slice p5 n5 c5] 35 (0, 0)) ∧ wz.heap.size ≤ b9), (fun w9 v => v = .pointer (some ⟨bx, 1, none⟩)), (fun w9 v => v = .slice (some ⟨g, 0, none⟩) R rc), (fun w9 v => v = .slice (if rc = 1 then some ⟨g, 0, none⟩ else some ⟨g, 7, none⟩) (R - 1) (rc - 1)), (fun w9 v => True), (fun w9 v => v = .pointer (some ⟨bx, 1, none⟩))] : List (World → Value → Prop)).getD i (fun _ _ => True) w9 v) (fun W => Below wz.heap.size wz W) 5 7 (fun w9 v => ∃ (p' : Option Addr) (c' : Nat) (Wp : World) (b9 : Nat), v = .slice p' (R - 1 + 1) c' ∧ Below wz.heap.size wz Wp ∧ Wp.grownBy w9 (some b9) ∧ wz.heap.size ≤ b9 ∧ RwT w9 (b + 5) isR 35 7 (.slice p' (R - 1 + 1) c') (encR { x with w := { q with ty := zz } :: rq } :: (r.map encR))) 65 rfl rfl (by decide) [some 54, some 55, some 56, some 57, some 58, some 59, some 60] (by kernel_rfl) 24 (.tmp 60) (.tmp 59) (by rfl) (by rfl) (by kernel_rfl) (by kernel_rfl) (by kernel_rfl) (fun W W' => Below W.heap.size W W') ?hmon ?hpi (Below.drew (Below.refl _ _)) (AllOps.cons ?o0 (AllOps.cons ?o1 (AllOps.cons ?o2 (AllOps.cons ?o3 (AllOps.cons ?o4 (AllOps.cons ?o5 (AllOps.cons ?o6 (AllOps.cons ?o7 AllOps.nil)))))))) ?hS ?hend
   case hmon =>
     intro q W W' v hb h
     rcases q with _ | _ | _ | _ | _ | _ | _ | q
     . exact h
     . obtain ⟨b9, e, h1, h2⟩ := h; exact ⟨b9, e, (hb.block _ (blk_lt h1)).trans h1, h2⟩
     . exact h
     . exact h
     . exact h
     . exact h
     . exact h
     . exact h
   case hpi =>
     intro q W W' v hq h
     rcases q with _ | _ | _ | _ | _ | _ | _ | _ | q
     . exact absurd hq (by decide)
     . exact absurd hq (by decide)
     . exact absurd hq (by decide)
     . exact absurd hq (by decide)
     . exact absurd hq (by decide)
     . exact absurd hq (by decide)
     . exact h
     . exact h
     . exact h
   case o0 =>
     intro _ _ a W hB hd ho
     replace hB := hB (by decide)
     have e6 : a.eval (.tmp 6) = .pointer (some ⟨by_, 0, none⟩) := ho 6 (by kernel_rfl)
     exact op_ld 35 _ rfl by_ 0 e6 [.string xn, .slice (some ⟨gw, 0, none⟩) n1 cw, .slice p2 n2 c2, .slice p3 n3 c3, .slice p4 n4 c4, .string xe, .slice p5 n5 c5] _ (range_blk ((hB.block _ (blk_lt HYz.out)).trans HYz.out)) Tryd.underlying35 rfl (by kernel_rfl) ⟨_, rfl, rfl, fun _ => hB, fun _ => Below.refl _ _, fun _ => rfl⟩
   case o1 =>
     intro _ _ a W hB hd ho
     replace hB := hB (by decide)
     have e54 : a.eval (.tmp 54) = .agg #[.string xn, .slice (some ⟨gw, 0, none⟩) n1 cw, .slice p2 n2 c2, .slice p3 n3 c3, .slice p4 n4 c4, .string xe, .slice p5 n5 c5] := hd 0 54 (by kernel_rfl) (by decide)
     have hal : Below W.heap.size W (W.alloc (.cells #[.string xn, .slice (some ⟨gw, 0, none⟩) n1 cw, .slice p2 n2 c2, .slice p3 n3 c3, .slice p4 n4 c4, .string xe, .slice p5 n5 c5] 35)) := (Below.refl _ _).alloc (Nat.le_refl _) _
     refine op_bs 24 1 _ rfl #[(0, .agg #[.string xn, .slice (some ⟨gw, 0, none⟩) n1 cw, .slice p2 n2 c2, .slice p3 n3 c3, .slice p4 n4 c4, .string xe, .slice p5 n5 c5])] (by simp [ev_c, e54]) (.slice (some ⟨W.heap.size, 0, none⟩) 1 1) (W.alloc (.cells #[.string xn, .slice (some ⟨gw, 0, none⟩) n1 cw, .slice p2 n2 c2, .slice p3 n3 c3, .slice p4 n4 c4, .string xe, .slice p5 n5 c5] 35)) (by kernel_rfl) ⟨_, rfl, ⟨W.heap.size, rfl, heap_alloc_new _ _, hB.size⟩, fun _ => below_trans hB hal hB.size, fun _ => hal, fun h9 => absurd h9 (by decide)⟩
   case o2 =>
     intro _ _ a W hB hd ho
     replace hB := hB (by decide)
     have e5 : a.eval (.tmp 5) = .pointer (some ⟨bx, 0, none⟩) := ho 5 (by kernel_rfl)
     exact op_val (.pointer (some ⟨bx, 1, none⟩)) (by unfold execOp; simp only [ev_c, e5]; go_simp) ⟨_, rfl, rfl, fun _ => hB, fun _ => Below.refl _ _, fun _ => rfl⟩
   case o3 =>
     intro _ _ a W hB hd ho
     replace hB := hB (by decide)
     have e56 : a.eval (.tmp 56) = .pointer (some ⟨bx, 1, none⟩) := hd 2 56 (by kernel_rfl) (by decide)
     have c9 : W.cell? ⟨bx, 1, none⟩ = some (.slice (some ⟨g, 0, none⟩) R rc) := by
       rw [cell_of_blk ((hB.block _ (blk_lt HXz.out)).trans HXz.out)]
       rfl
     exact op_val (.slice (some ⟨g, 0, none⟩) R rc) (by unfold execOp; simp only [ev_c, e56]; go_simp) ⟨_, rfl, rfl, fun _ => hB, fun _ => Below.refl _ _, fun _ => rfl⟩
   case o4 =>
     intro _ _ a W hB hd ho
     replace hB := hB (by decide)
     have e57 : a.eval (.tmp 57) = .slice (some ⟨g, 0, none⟩) R rc := hd 3 57 (by kernel_rfl) (by decide)
     exact op_val (.slice (if rc = 1 then some ⟨g, 0, none⟩ else some ⟨g, 7, none⟩) (R - 1) (rc - 1)) (by unfold execOp; simp only [ev_c, List.map_toArray, List.map_cons, List.map_nil, Option.map_some, Option.map_none, e57]; go_simp) ⟨_, rfl, rfl, fun _ => hB, fun _ => Below.refl _ _, fun _ => rfl⟩
   case o5 =>
     intro h9; exact absurd rfl h9
   case o6 =>
     intro _ _ a W hB hd ho
     have e5 : a.eval (.tmp 5) = .pointer (some ⟨bx, 0, none⟩) := ho 5 (by kernel_rfl)
     exact op_val (.pointer (some ⟨bx, 1, none⟩)) (by unfold execOp; simp only [ev_c, e5]; go_simp) ⟨_, rfl, rfl, fun h9 => absurd h9 (by decide), fun h9 => absurd h9 (by decide), fun _ => rfl⟩
   case o7 =>
     intro _ h9; exact absurd rfl h9
   case hS =>
     intro a W vs hB hT hd hout
     have e4 : vs 4 = .slice (if rc = 1 then some ⟨g, 0, none⟩ else some ⟨g, 7, none⟩) (R - 1) (rc - 1) := hT 4 (by decide)
     obtain ⟨b9, e1, h9, h9b⟩ : ∃ (b9 : Nat), vs 1 = .slice (some ⟨b9, 0, none⟩) 1 1 ∧ W.heap[b9]? = some (.cells #[.string xn, .slice (some ⟨gw, 0, none⟩) n1 cw, .slice p2 n2 c2, .slice p3 n3 c3, .slice p4 n4 c4, .string xe, .slice p5 n5 c5] 35 (0, 0)) ∧ wz.heap.size ≤ b9 := hT 1 (by decide)
     obtain ⟨o9, e5, hr9⟩ : ∃ o9, (if rc = 1 then (some ⟨g, 0, none⟩ : Option Addr) else some ⟨g, 7, none⟩) = some ⟨g, o9, none⟩ ∧ W.rangeAt g o9 ur := by
       by_cases h1 : rc = 1
       . refine ⟨0, by rw [if_pos h1], fun j u hj => ?_⟩
         have h2 : ur = [] := List.eq_nil_of_length_eq_zero (by have := HUR.out.1; have := HUR.out.2.2.1; omega)
         rw [h2] at hj
         simp at hj
       . exact ⟨7, by rw [if_neg h1], range_same HG7z.out (hB.block g HGLz.out)⟩
     rw [e5] at e4
     refine op_appR _ _ 24 rfl (b + 5) isR 35 7 152 ir _ Tryd.underlying24 HIR.out.1 HIR.out.2.1 HIR.out.2.2.1 HIR.out.2.2.2 rfl (by omega) (by decide) b9 [.string xn, .slice (some ⟨gw, 0, none⟩) n1 cw, .slice p2 n2 c2, .slice p3 n3 c3, .slice p4 n4 c4, .string xe, .slice p5 n5 c5] ((hd 1 55 (by kernel_rfl)).trans e1) h9 (by rfl) (Nat.le_trans HNz.out h9b) g o9 (R - 1) (rc - 1) ur ((hd 4 58 (by kernel_rfl)).trans e4) hr9 (by have := HUR.out.1; have := HUR.out.2.2.2; rw [this, HUR.out.1]; simp) HUR.out.2.1 (encR { x with w := { q with ty := zz } :: rq }) (r.map encR) (by rw [List.length_map]; have := HUR.out.2.2.2; omega) (HPz.out.below hB) (by decide) (by have := HUR.out.2.2.2; have := HRL.out; omega) ?_
     intro p' c' W' k1 k2
     exact ⟨_, rfl, p', c', W, b9, rfl, hB, k2, h9b, k1⟩
   case hend =>
     intro vs W hB2 hT
     obtain ⟨p', c', Wp, b9, e5, k1, k2, h9b, k4⟩ := hB2
     have e6 : vs 6 = .pointer (some ⟨bx, 1, none⟩) := hT 6 (by decide) (by decide)
     have hXp := (k1.block _ (blk_lt HXz.out)).trans HXz.out
     have hX7 := (k2.block _ (blk_lt hXp) (fun e9 => by have h8 := blk_lt HXz.out; simp only [Option.some.injEq] at e9; omega)).trans hXp
     have hB7 : Below w.heap.size w W := (below_trans HBz.out k1 HBz.out.size).grown k2 (below_trans HBz.out k1 HBz.out.size).size (fun i hi => by simp only [Option.some.injEq] at hi; have := HBz.out.size; omega)
     have hTYp : Tys Wp b := HTYz.out.later (fun i o hi _ _ => (k1.block _ (blk_lt hi)).trans hi)
     have hTY7 : Tys W b := hTYp.later (fun i o hi _ hb2 => (k2.block _ (blk_lt hi) (fun e9 => by simp only [Option.some.injEq] at e9; have := HNz.out; omega)).trans hi)
     refine ⟨bx, 1, [.slice (some ⟨b + 4, 0, none⟩) 5 5, .slice (some ⟨g, 0, none⟩) R rc], 26, .slice p' (R - 1 + 1) c', [.slice p' (R - 1 + 1) c'], Eq.trans (b := vs 6) (by kernel_rfl) e6, Eq.trans (b := vs 5) (by kernel_rfl) e5, rfl, hX7, by simp, by kernel_rfl, rfl, ?_⟩
     intro w8 hq1 hq2
     have HU8 := hid hq1
     have HB8 : Hid (Below w.heap.size w w8) := below_fr hB7 hq2 HBX.out
     have HTY8 : Hid (Tys w8 b) := hTY7.later (fun i o hi _ hb2 => (hq2.block _ (blk_lt hi) (by have := HBb.out; show i ≠ bx; omega)).trans hi)
     have HR8 := hid (k4.set hq2 ⟨_, hX7⟩ (by decide) (by decide))
     have c0 : w8.cell? ⟨bx, 0, none⟩ = some (.slice (some ⟨b + 4, 0, none⟩) 5 5) := (by rw [cell_of_blk HU8.out]; rfl)
     have c1' : w8.cell? ⟨bx, 1, none⟩ = some (.slice p' (R - 1 + 1) c') := (by rw [cell_of_blk HU8.out]; rfl)
     clear hq1 hq2 k1 k2 k4 hT hXp hX7 hB7 hTYp hTY7
     simp only [putsD, Act.put, List.setIfInBounds_toArray, e5, e6]
     simp only [set_c20]
     simp only [List.set_cons_zero, List.set_cons_succ]
     clear e5 e6
     generalize vs 0 = v0
     generalize vs 1 = v1
     generalize vs 2 = v2
     generalize vs 3 = v3
     generalize vs 4 = v4
     clear vs
     go_wp2_with fail
     refine (HCK.out ({ x with w := { q with ty := zz } :: rq } :: r) HSZ.out _ _ w8 HB8.out HTY8.out.rd HR8.out.rd).mono ?_
     rintro e w9 ⟨rfl, hb9⟩
     rw [HBO.out]
     have HB9 := hid (below_trans HB8.out hb9 HB8.out.size)
     clear hb9 c0 c1'
     go_wp2_with fail
     go_ret
     exact ⟨ret_bool (by simp), HB9.out⟩
 . skip
   by_cases hp1 : pk = 1
   . subst hp1
     clear hp2 hp0
     go_upto_region 11 with (go_at_call 6; refine (HPK.out _).mono ?_; rintro e w7 ⟨rfl, rfl⟩)
     refine wp_region_st (by kernel_rfl) (fun i w9 v => ([(fun w9 v => v = .pointer (some ⟨by_, 1, none⟩)), (fun w9 v => v = .slice (some ⟨gw, 0, none⟩) n1 cw), (fun w9 v => v = opV (ownO zz)), (fun w9 v => v = opV (numO 1)), (fun w9 v => v = cnV 4 (.slice none 0 0) (ownO zz) (numO 1)), (fun w9 v => v = .pointer (some ⟨gw, 0, none⟩)), (fun w9 v => v = .pointer (some ⟨gw, 2, none⟩))] : List (World → Value → Prop)).getD i (fun _ _ => True) w9 v) (fun W => Below w7.heap.size w7 W) 65 7 rfl rfl [some 36, some 37, some 38, some 39, some 40, some 41, some 42] (by kernel_rfl) 44 (.tmp 42) (.tmp 40) (by rfl) (by rfl) (by kernel_rfl) (by kernel_rfl) (fun W W' => Below W.heap.size W W') ?hmon (Below.drew (Below.refl _ _)) (AllOps.cons ?o0 (AllOps.cons ?o1 (AllOps.cons ?o2 (AllOps.cons ?o3 (AllOps.cons ?o4 (AllOps.cons ?o5 (AllOps.cons ?o6 AllOps.nil))))))) ?hend
     case hmon =>
       intro q W W' v hb h
       rcases q with _ | _ | _ | _ | _ | _ | _ | q
       . exact h
       . exact h
       . exact h
       . exact h
       . exact h
       . exact h
       . exact h
       . exact h
     case o0 =>
       intro a W hB hd ho
       have e6 : a.eval (.tmp 6) = .pointer (some ⟨by_, 0, none⟩) := ho 6 (by kernel_rfl)
       exact op_val (.pointer (some ⟨by_, 1, none⟩)) (by unfold execOp; simp only [ev_c, e6]; go_simp) ⟨_, rfl, rfl, hB, Below.refl _ _⟩
     case o1 =>
       intro a W hB hd ho
       have e36 : a.eval (.tmp 36) = .pointer (some ⟨by_, 1, none⟩) := hd 0 36 (by kernel_rfl)
       have c9 : W.cell? ⟨by_, 1, none⟩ = some (.slice (some ⟨gw, 0, none⟩) n1 cw) := by
         rw [cell_of_blk ((hB.block _ (blk_lt HU7.out)).trans HU7.out)]
         rfl
       exact op_val (.slice (some ⟨gw, 0, none⟩) n1 cw) (by unfold execOp; simp only [ev_c, e36]; go_simp) ⟨_, rfl, rfl, hB, Below.refl _ _⟩
     case o2 =>
       intro a W hB hd ho
       refine op_cl 8 ent_own _ _ rfl #[.string ⟨#[122, 122]⟩] (by simp [ev_c]) _ (own_any zz W) ?_
       rintro e W' ⟨rfl, hal⟩
       exact ⟨_, rfl, _, rfl, rfl, below_trans hB hal hB.size, hal⟩
     case o3 =>
       intro a W hB hd ho
       refine op_cl 9 ent_num _ _ rfl #[.int .i64 1] (by simp [ev_c]) _ (number_any 1 W) ?_
       rintro e W' ⟨rfl, hal⟩
       exact ⟨_, rfl, _, rfl, rfl, below_trans hB hal hB.size, hal⟩
     case o4 =>
       intro a W hB hd ho
       have e38 : a.eval (.tmp 38) = opV (ownO zz) := hd 2 38 (by kernel_rfl)
       have e39 : a.eval (.tmp 39) = opV (numO 1) := hd 3 39 (by kernel_rfl)
       refine op_cl 7 ent_cmp _ _ rfl #[.int .i64 4, opV (ownO zz), opV (numO 1)] (by simp [ev_c, e38, e39]) _ (compare_any 4 (ownO zz) (numO 1) W) ?_
       rintro e W' ⟨rfl, hal⟩
       exact ⟨_, rfl, _, rfl, rfl, below_trans hB hal hB.size, hal⟩
     case o5 =>
       intro a W hB hd ho
       have e37 : a.eval (.tmp 37) = .slice (some ⟨gw, 0, none⟩) n1 cw := hd 1 37 (by kernel_rfl)
       exact op_val (.pointer (some ⟨gw, 0, none⟩)) (by unfold execOp; simp only [ev_c, e37]; go_simp; intro h0; exact absurd h0 (by have := HN1.out.1; omega)) ⟨_, rfl, rfl, hB, Below.refl _ _⟩
     case o6 =>
       intro a W hB hd ho
       have e41 : a.eval (.tmp 41) = .pointer (some ⟨gw, 0, none⟩) := hd 5 41 (by kernel_rfl)
       exact op_val (.pointer (some ⟨gw, 2, none⟩)) (by unfold execOp; simp only [ev_c, e41]; go_simp) ⟨_, rfl, rfl, hB, Below.refl _ _⟩
     case hend =>
       intro vs W hB hT
       have eV : vs 4 = cnV 4 (.slice none 0 0) (ownO zz) (numO 1) := hT 4 (by decide)
       have eP : vs 6 = .pointer (some ⟨gw, 2, none⟩) := hT 6 (by decide)
       have hW8 := (hB.block _ (blk_lt HW.out)).trans HW.out
       have hU8 := (hB.block _ (blk_lt HU7.out)).trans HU7.out
       have hX8 := (hB.block _ (blk_lt HX.out)).trans HX.out
       have hF8 := fr_below HF7.out hB
       refine ⟨gw, 2, ([.string a1, .string a2, .int .i64 k1, .slice sp sn sc, .int .i64 k2, .int .i64 k3, .int .i64 k4, .string a3, .string a4, .string a5, .int .i64 k5, .int .i64 k6, .int .i64 k7, .string a6, .string a7, .string a8, .int .i64 k8, .int .i64 k9] ++ (ys ++ tl)), 46, cnV 4 (.slice none 0 0) (ownO zz) (numO 1), cnC 4 (.slice none 0 0) (ownO zz) (numO 1), Eq.trans (b := vs 6) (by kernel_rfl) eP, Eq.trans (b := vs 4) (by kernel_rfl) eV, rfl, hW8, by simp <;> omega, by kernel_rfl, rfl, ?_⟩
       intro wz hq1 hq2
       have HWz : Hid (wz.heap[gw]? = some (.cells (((.string a1 :: .string a2 :: (cnC 4 (.slice none 0 0) (ownO zz) (numO 1) ++ [.int .i64 k8, .int .i64 k9])) : List Value) ++ (ys ++ tl)).toArray 46 (0, 0))) := hq1
       have HFz := hid (hF8.stored hq2 (.inr HGW'.out))
       have HYz := hid (blk_set hU8 hq2 (TB.ne ⟨_, hU8⟩ ⟨_, hW8⟩ (by decide)))
       have HXz := hid (blk_set hX8 hq2 (TB.ne ⟨_, hX8⟩ ⟨_, hW8⟩ (by decide)))
       clear hq1 hq2 hW8 hU8 hX8 hF8 hT hB
       simp only [putsD, Act.put, List.setIfInBounds_toArray, eV, eP]
       simp only [set_c20]
       simp only [List.set_cons_zero, List.set_cons_succ]
       clear eV eP
       generalize vs 0 = v0
       generalize vs 1 = v1
       generalize vs 2 = v2
       generalize vs 3 = v3
       generalize vs 5 = v5
       clear vs
       go_upto_region 16 with fail
       have HKTz := HKT.out.fr HFz.out ⟨_, HU3.out⟩ (by decide)
       have HKQz := HKQ.out.fr HFz.out ⟨_, HU3.out⟩ (by decide)
       have HKYz := HKY.out.fr HFz.out ⟨_, HU3.out⟩ (by decide)
       have HKX : Hid (KT wz (b + 5) isR (encR { x with w := { q with c := cmpC 4 (ownO zz) (numO 1) } :: rq }) [.string xn, .slice (some ⟨gw, 0, none⟩) n1 cw, .slice p2 n2 c2, .slice p3 n3 c3, .slice p4 n4 c4, .string xe, .slice p5 n5 c5]) := fun W hW => (rdl_rl (HKTz W hW) (show Rd W (.row 46 18 (({ q with c := cmpC 4 (ownO zz) (numO 1) } :: rq).map encP)) (.slice (some ⟨gw, 0, none⟩) n1 cw) from by rw [HNQ.out.1]; exact rd_heads (us := (.string a1 :: .string a2 :: (cnC 4 (.slice none 0 0) (ownO zz) (numO 1) ++ [.int .i64 k8, .int .i64 k9]))) ((hW gw 46 (Nat.le_trans HN3.out HGW'.out) (by decide) ⟨_, HWz.out⟩).trans HWz.out) (rdp_c (HKQz W hW) (rdc_cmp W 4 (ownO zz) (numO 1))) (HKYz W hW) (by have h8 := HNQ.out.1; have h9 := HCW.out.1; omega) HCW.out.2)).1
       have HRC : Hid (rck kts { x with w := { q with c := cmpC 4 (ownO zz) (numO 1) } :: rq } = 6) := rck_head HRX.out HWQ.out (pck_cmp HPQ.out) (by decide)
       have HSP : Hid (Szr { x with w := { q with c := cmpC 4 (ownO zz) (numO 1) } :: rq }) := szr_head HSX.out HWQ.out (wsz_cmp (by show (txt []).size ≤ maxLen; decide) (by show (txt []).size ≤ maxLen; decide))
       clear HKTz HKQz HKYz
       have HKRz := HKR.out.fr HFz.out ⟨_, HU3.out⟩ (by decide)
       have HPz : Hid (KT wz (b + 5) isR (encR { x with w := { q with c := cmpC 4 (ownO zz) (numO 1) } :: rq } ++ (r.map encR).flatten) ([.string xn, .slice (some ⟨gw, 0, none⟩) n1 cw, .slice p2 n2 c2, .slice p3 n3 c3, .slice p4 n4 c4, .string xe, .slice p5 n5 c5] ++ ur)) := HKX.out.app HKRz
       have HBO : Hid (bok kts ({ x with w := { q with c := cmpC 4 (ownO zz) (numO 1) } :: rq } :: r) = 6) := bok_first HRC.out (by decide) HRL.out
       have HSZ : Hid (∀ y, y ∈ { x with w := { q with c := cmpC 4 (ownO zz) (numO 1) } :: rq } :: r → Szr y) := fun y hy => by
         rcases List.mem_cons.1 hy with rfl | hy
         . exact HSP.out
         . exact szr_bk l y (by rw [HBKC.out]; exact List.mem_cons_of_mem _ hy)
       have HG7z : Hid (wz.rangeAt g 7 ur) := HRG7.out wz (HFz.out.block g HGB.out.lt (TB.ne HGB.out ⟨_, HU3.out⟩ (by decide)))
       have HGLz : Hid (g < wz.heap.size) := Nat.lt_of_lt_of_le HGB.out.lt HFz.out.size
       have HNz : Hid (b + 5 ≤ wz.heap.size) := Nat.le_trans HN3.out HFz.out.size
       have HTYz : Hid (Tys wz b) := HTY3.out.later (fun i o hi _ hb2 => (HFz.out.block i (blk_lt hi) (by have := HBb.out; show i ≠ bx; omega)).trans hi)
       have HBz : Hid (Below w.heap.size w wz) := below_fr HB3.out HFz.out HBX.out
       have hR1 : (1 : Int) ≤ (R : Int) := by have := HRR.out; omega
       clear HKRz y1
       refine wp_region_two (by kernel_rfl) (fun i w9 v => ([(fun w9 v => v = .agg #[.string xn, .slice (some ⟨gw, 0, none⟩) n1 cw, .slice p2 n2 c2, .slice p3 n3 c3, .slice p4 n4 c4, .string xe, .slice p5 n5 c5]), (fun w9 v => ∃ (b9 : Nat), v = .slice (some ⟨b9, 0, none⟩) 1 1 ∧ w9.heap[b9]? = some (.cells #[.string xn, .slice (some ⟨gw, 0, none⟩) n1 cw, .slice p2 n2 c2, .slice p3 n3 c3, .slice p4 n4 c4, .string xe, .slice p5 n5 c5] 35 (0, 0)) ∧ wz.heap.size ≤ b9), (fun w9 v => v = .pointer (some ⟨bx, 1, none⟩)), (fun w9 v => v = .slice (some ⟨g, 0, none⟩) R rc), (fun w9 v => v = .slice (if rc = 1 then some ⟨g, 0, none⟩ else some ⟨g, 7, none⟩) (R - 1) (rc - 1)), (fun w9 v => True), (fun w9 v => v = .pointer (some ⟨bx, 1, none⟩))] : List (World → Value → Prop)).getD i (fun _ _ => True) w9 v) (fun W => Below wz.heap.size wz W) 5 7 (fun w9 v => ∃ (p' : Option Addr) (c' : Nat) (Wp : World) (b9 : Nat), v = .slice p' (R - 1 + 1) c' ∧ Below wz.heap.size wz Wp ∧ Wp.grownBy w9 (some b9) ∧ wz.heap.size ≤ b9 ∧ RwT w9 (b + 5) isR 35 7 (.slice p' (R - 1 + 1) c') (encR { x with w := { q with c := cmpC 4 (ownO zz) (numO 1) } :: rq } :: (r.map encR))) 65 rfl rfl (by decide) [some 54, some 55, some 56, some 57, some 58, some 59, some 60] (by kernel_rfl) 24 (.tmp 60) (.tmp 59) (by rfl) (by rfl) (by kernel_rfl) (by kernel_rfl) (by kernel_rfl) (fun W W' => Below W.heap.size W W') ?hmon ?hpi (Below.drew (Below.refl _ _)) (AllOps.cons ?o0 (AllOps.cons ?o1 (AllOps.cons ?o2 (AllOps.cons ?o3 (AllOps.cons ?o4 (AllOps.cons ?o5 (AllOps.cons ?o6 (AllOps.cons ?o7 AllOps.nil)))))))) ?hS ?hend
       case hmon =>
         intro q W W' v hb h
         rcases q with _ | _ | _ | _ | _ | _ | _ | q
         . exact h
         . obtain ⟨b9, e, h1, h2⟩ := h; exact ⟨b9, e, (hb.block _ (blk_lt h1)).trans h1, h2⟩
         . exact h
         . exact h
         . exact h
         . exact h
         . exact h
         . exact h
       case hpi =>
         intro q W W' v hq h
         rcases q with _ | _ | _ | _ | _ | _ | _ | _ | q
         . exact absurd hq (by decide)
         . exact absurd hq (by decide)
         . exact absurd hq (by decide)
         . exact absurd hq (by decide)
         . exact absurd hq (by decide)
         . exact absurd hq (by decide)
         . exact h
         . exact h
         . exact h
       case o0 =>
         intro _ _ a W hB hd ho
         replace hB := hB (by decide)
         have e6 : a.eval (.tmp 6) = .pointer (some ⟨by_, 0, none⟩) := ho 6 (by kernel_rfl)
         exact op_ld 35 _ rfl by_ 0 e6 [.string xn, .slice (some ⟨gw, 0, none⟩) n1 cw, .slice p2 n2 c2, .slice p3 n3 c3, .slice p4 n4 c4, .string xe, .slice p5 n5 c5] _ (range_blk ((hB.block _ (blk_lt HYz.out)).trans HYz.out)) Tryd.underlying35 rfl (by kernel_rfl) ⟨_, rfl, rfl, fun _ => hB, fun _ => Below.refl _ _, fun _ => rfl⟩
       case o1 =>
         intro _ _ a W hB hd ho
         replace hB := hB (by decide)
         have e54 : a.eval (.tmp 54) = .agg #[.string xn, .slice (some ⟨gw, 0, none⟩) n1 cw, .slice p2 n2 c2, .slice p3 n3 c3, .slice p4 n4 c4, .string xe, .slice p5 n5 c5] := hd 0 54 (by kernel_rfl) (by decide)
         have hal : Below W.heap.size W (W.alloc (.cells #[.string xn, .slice (some ⟨gw, 0, none⟩) n1 cw, .slice p2 n2 c2, .slice p3 n3 c3, .slice p4 n4 c4, .string xe, .slice p5 n5 c5] 35)) := (Below.refl _ _).alloc (Nat.le_refl _) _
         refine op_bs 24 1 _ rfl #[(0, .agg #[.string xn, .slice (some ⟨gw, 0, none⟩) n1 cw, .slice p2 n2 c2, .slice p3 n3 c3, .slice p4 n4 c4, .string xe, .slice p5 n5 c5])] (by simp [ev_c, e54]) (.slice (some ⟨W.heap.size, 0, none⟩) 1 1) (W.alloc (.cells #[.string xn, .slice (some ⟨gw, 0, none⟩) n1 cw, .slice p2 n2 c2, .slice p3 n3 c3, .slice p4 n4 c4, .string xe, .slice p5 n5 c5] 35)) (by kernel_rfl) ⟨_, rfl, ⟨W.heap.size, rfl, heap_alloc_new _ _, hB.size⟩, fun _ => below_trans hB hal hB.size, fun _ => hal, fun h9 => absurd h9 (by decide)⟩
       case o2 =>
         intro _ _ a W hB hd ho
         replace hB := hB (by decide)
         have e5 : a.eval (.tmp 5) = .pointer (some ⟨bx, 0, none⟩) := ho 5 (by kernel_rfl)
         exact op_val (.pointer (some ⟨bx, 1, none⟩)) (by unfold execOp; simp only [ev_c, e5]; go_simp) ⟨_, rfl, rfl, fun _ => hB, fun _ => Below.refl _ _, fun _ => rfl⟩
       case o3 =>
         intro _ _ a W hB hd ho
         replace hB := hB (by decide)
         have e56 : a.eval (.tmp 56) = .pointer (some ⟨bx, 1, none⟩) := hd 2 56 (by kernel_rfl) (by decide)
         have c9 : W.cell? ⟨bx, 1, none⟩ = some (.slice (some ⟨g, 0, none⟩) R rc) := by
           rw [cell_of_blk ((hB.block _ (blk_lt HXz.out)).trans HXz.out)]
           rfl
         exact op_val (.slice (some ⟨g, 0, none⟩) R rc) (by unfold execOp; simp only [ev_c, e56]; go_simp) ⟨_, rfl, rfl, fun _ => hB, fun _ => Below.refl _ _, fun _ => rfl⟩
       case o4 =>
         intro _ _ a W hB hd ho
         replace hB := hB (by decide)
         have e57 : a.eval (.tmp 57) = .slice (some ⟨g, 0, none⟩) R rc := hd 3 57 (by kernel_rfl) (by decide)
         exact op_val (.slice (if rc = 1 then some ⟨g, 0, none⟩ else some ⟨g, 7, none⟩) (R - 1) (rc - 1)) (by unfold execOp; simp only [ev_c, List.map_toArray, List.map_cons, List.map_nil, Option.map_some, Option.map_none, e57]; go_simp) ⟨_, rfl, rfl, fun _ => hB, fun _ => Below.refl _ _, fun _ => rfl⟩
       case o5 =>
         intro h9; exact absurd rfl h9
       case o6 =>
         intro _ _ a W hB hd ho
         have e5 : a.eval (.tmp 5) = .pointer (some ⟨bx, 0, none⟩) := ho 5 (by kernel_rfl)
         exact op_val (.pointer (some ⟨bx, 1, none⟩)) (by unfold execOp; simp only [ev_c, e5]; go_simp) ⟨_, rfl, rfl, fun h9 => absurd h9 (by decide), fun h9 => absurd h9 (by decide), fun _ => rfl⟩
       case o7 =>
         intro _ h9; exact absurd rfl h9
       case hS =>
         intro a W vs hB hT hd hout
         have e4 : vs 4 = .slice (if rc = 1 then some ⟨g, 0, none⟩ else some ⟨g, 7, none⟩) (R - 1) (rc - 1) := hT 4 (by decide)
         obtain ⟨b9, e1, h9, h9b⟩ : ∃ (b9 : Nat), vs 1 = .slice (some ⟨b9, 0, none⟩) 1 1 ∧ W.heap[b9]? = some (.cells #[.string xn, .slice (some ⟨gw, 0, none⟩) n1 cw, .slice p2 n2 c2, .slice p3 n3 c3, .slice p4 n4 c4, .string xe, .slice p5 n5 c5] 35 (0, 0)) ∧ wz.heap.size ≤ b9 := hT 1 (by decide)
         obtain ⟨o9, e5, hr9⟩ : ∃ o9, (if rc = 1 then (some ⟨g, 0, none⟩ : Option Addr) else some ⟨g, 7, none⟩) = some ⟨g, o9, none⟩ ∧ W.rangeAt g o9 ur := by
           by_cases h1 : rc = 1
           . refine ⟨0, by rw [if_pos h1], fun j u hj => ?_⟩
             have h2 : ur = [] := List.eq_nil_of_length_eq_zero (by have := HUR.out.1; have := HUR.out.2.2.1; omega)
             rw [h2] at hj
             simp at hj
           . exact ⟨7, by rw [if_neg h1], range_same HG7z.out (hB.block g HGLz.out)⟩
         rw [e5] at e4
         refine op_appR _ _ 24 rfl (b + 5) isR 35 7 152 ir _ Tryd.underlying24 HIR.out.1 HIR.out.2.1 HIR.out.2.2.1 HIR.out.2.2.2 rfl (by omega) (by decide) b9 [.string xn, .slice (some ⟨gw, 0, none⟩) n1 cw, .slice p2 n2 c2, .slice p3 n3 c3, .slice p4 n4 c4, .string xe, .slice p5 n5 c5] ((hd 1 55 (by kernel_rfl)).trans e1) h9 (by rfl) (Nat.le_trans HNz.out h9b) g o9 (R - 1) (rc - 1) ur ((hd 4 58 (by kernel_rfl)).trans e4) hr9 (by have := HUR.out.1; have := HUR.out.2.2.2; rw [this, HUR.out.1]; simp) HUR.out.2.1 (encR { x with w := { q with c := cmpC 4 (ownO zz) (numO 1) } :: rq }) (r.map encR) (by rw [List.length_map]; have := HUR.out.2.2.2; omega) (HPz.out.below hB) (by decide) (by have := HUR.out.2.2.2; have := HRL.out; omega) ?_
         intro p' c' W' k1 k2
         exact ⟨_, rfl, p', c', W, b9, rfl, hB, k2, h9b, k1⟩
       case hend =>
         intro vs W hB2 hT
         obtain ⟨p', c', Wp, b9, e5, k1, k2, h9b, k4⟩ := hB2
         have e6 : vs 6 = .pointer (some ⟨bx, 1, none⟩) := hT 6 (by decide) (by decide)
         have hXp := (k1.block _ (blk_lt HXz.out)).trans HXz.out
         have hX7 := (k2.block _ (blk_lt hXp) (fun e9 => by have h8 := blk_lt HXz.out; simp only [Option.some.injEq] at e9; omega)).trans hXp
         have hB7 : Below w.heap.size w W := (below_trans HBz.out k1 HBz.out.size).grown k2 (below_trans HBz.out k1 HBz.out.size).size (fun i hi => by simp only [Option.some.injEq] at hi; have := HBz.out.size; omega)
         have hTYp : Tys Wp b := HTYz.out.later (fun i o hi _ _ => (k1.block _ (blk_lt hi)).trans hi)
         have hTY7 : Tys W b := hTYp.later (fun i o hi _ hb2 => (k2.block _ (blk_lt hi) (fun e9 => by simp only [Option.some.injEq] at e9; have := HNz.out; omega)).trans hi)
         refine ⟨bx, 1, [.slice (some ⟨b + 4, 0, none⟩) 5 5, .slice (some ⟨g, 0, none⟩) R rc], 26, .slice p' (R - 1 + 1) c', [.slice p' (R - 1 + 1) c'], Eq.trans (b := vs 6) (by kernel_rfl) e6, Eq.trans (b := vs 5) (by kernel_rfl) e5, rfl, hX7, by simp, by kernel_rfl, rfl, ?_⟩
         intro w8 hq1 hq2
         have HU8 := hid hq1
         have HB8 : Hid (Below w.heap.size w w8) := below_fr hB7 hq2 HBX.out
         have HTY8 : Hid (Tys w8 b) := hTY7.later (fun i o hi _ hb2 => (hq2.block _ (blk_lt hi) (by have := HBb.out; show i ≠ bx; omega)).trans hi)
         have HR8 := hid (k4.set hq2 ⟨_, hX7⟩ (by decide) (by decide))
         have c0 : w8.cell? ⟨bx, 0, none⟩ = some (.slice (some ⟨b + 4, 0, none⟩) 5 5) := (by rw [cell_of_blk HU8.out]; rfl)
         have c1' : w8.cell? ⟨bx, 1, none⟩ = some (.slice p' (R - 1 + 1) c') := (by rw [cell_of_blk HU8.out]; rfl)
         clear hq1 hq2 k1 k2 k4 hT hXp hX7 hB7 hTYp hTY7
         simp only [putsD, Act.put, List.setIfInBounds_toArray, e5, e6]
         simp only [set_c20]
         simp only [List.set_cons_zero, List.set_cons_succ]
         clear e5 e6
         generalize vs 0 = v0
         generalize vs 1 = v1
         generalize vs 2 = v2
         generalize vs 3 = v3
         generalize vs 4 = v4
         clear vs
         go_wp2_with fail
         refine (HCK.out ({ x with w := { q with c := cmpC 4 (ownO zz) (numO 1) } :: rq } :: r) HSZ.out _ _ w8 HB8.out HTY8.out.rd HR8.out.rd).mono ?_
         rintro e w9 ⟨rfl, hb9⟩
         rw [HBO.out]
         have HB9 := hid (below_trans HB8.out hb9 HB8.out.size)
         clear hb9 c0 c1'
         go_wp2_with fail
         go_ret
         exact ⟨ret_bool (by simp), HB9.out⟩
   . skip
     by_cases hp2' : pk = 2
     . subst hp2'
       clear hp2 hp0 hp1
       go_upto_region 16 with (first
         | (go_at_call 6; refine (HPK.out _).mono ?_; rintro e w7 ⟨rfl, rfl⟩)
         | ((with_reducible show wpList _ _ _ (Oper.mk (some 45) _ _ _ _ _ :: _) _ _); refine wp_bdq (by rfl) 51 _ (by rfl) #[(0, .int .i64 1), (2, .int .i64 (-1))] (by simp [Act.eval, Act.put]) (.agg #[.int .i64 1, .int .i64 0, .int .i64 (-1)]) (fun w => by kernel_rfl) ?_)
         | ((with_reducible show wpList _ _ _ (Oper.mk (some 46) _ _ _ _ _ :: _) _ _); refine wp_bsB (by rfl) 52 1 _ (by rfl) #[(0, .agg #[.int .i64 1, .int .i64 0, .int .i64 (-1)])] (by simp [Act.eval, Act.put]) [.int .i64 1, .int .i64 0, .int .i64 (-1)] 51 (fun w => by kernel_rfl) ?_; intro b46 w8 hq1 hq0 hq2; have HO8 := hid hq1; have H46 : Hid (b + 5 ≤ b46) := Nat.le_trans (Nat.le_trans HN3.out HF7.out.size) hq0; have HW8 := hid ((hq2.block _ (blk_lt HW.out)).trans HW.out); have HU8 := hid ((hq2.block _ (blk_lt HU7.out)).trans HU7.out); have HX8 := hid ((hq2.block _ (blk_lt HX.out)).trans HX.out); have HF8 := hid (fr_below HF7.out hq2); clear hq1 hq0 hq2)
         | ((with_reducible show wpList _ _ _ (Oper.mk (some 47) _ _ _ _ _ :: _) _ _); refine wp_bdq (by rfl) 54 _ (by rfl) #[(0, .string ⟨#[120]⟩), (1, .slice (some ⟨b46, 0, none⟩) 1 1), (2, .string ⟨#[122, 122]⟩)] (by simp [Act.eval, Act.put]) (.agg #[.string ⟨#[120]⟩, .slice (some ⟨b46, 0, none⟩) 1 1, .string ⟨#[122, 122]⟩]) (fun w => by kernel_rfl) ?_)
         | ((with_reducible show wpList _ _ _ (Oper.mk (some 48) _ _ _ _ _ :: _) _ _); refine wp_bsB (by rfl) 30 1 _ (by rfl) #[(0, .agg #[.string ⟨#[120]⟩, .slice (some ⟨b46, 0, none⟩) 1 1, .string ⟨#[122, 122]⟩])] (by simp [Act.eval, Act.put]) [.string ⟨#[120]⟩, .slice (some ⟨b46, 0, none⟩) 1 1, .string ⟨#[122, 122]⟩] 54 (fun w => by kernel_rfl) ?_; intro b48 w9 hq1 hq0 hq2; have HL9 := hid hq1; have H48 : Hid (b + 5 ≤ b48) := Nat.le_trans (Nat.le_trans HN3.out HF8.out.size) hq0; have HO9 := hid ((hq2.block _ (blk_lt HO8.out)).trans HO8.out); have HW9 := hid ((hq2.block _ (blk_lt HW8.out)).trans HW8.out); have HU9 := hid ((hq2.block _ (blk_lt HU8.out)).trans HU8.out); have HX9 := hid ((hq2.block _ (blk_lt HX8.out)).trans HX8.out); have HF9 := hid (fr_below HF8.out hq2); clear hq1 hq0 hq2)
         | ((with_reducible show wpList _ _ _ (Oper.mk _ (.store 30 _ _) _ _ _ _ :: _) _ _); refine wp_st (by rfl) 30 _ _ (by rfl) by_ 4 [.string xn, .slice (some ⟨gw, 0, none⟩) n1 cw, .slice p2 n2 c2, .slice p3 n3 c3, .slice p4 n4 c4, .string xe, .slice p5 n5 c5] 35 (.slice (some ⟨b48, 0, none⟩) 1 1) [.slice (some ⟨b48, 0, none⟩) 1 1] (by rfl) (by rfl) (by rfl) HU9.out (by simp) (by kernel_rfl) (by rfl) ?_; intro wz hq1 hq2; have HYz : Hid (wz.heap[by_]? = some (.cells #[.string xn, .slice (some ⟨gw, 0, none⟩) n1 cw, .slice p2 n2 c2, .slice p3 n3 c3, .slice (some ⟨b48, 0, none⟩) 1 1, .string xe, .slice p5 n5 c5] 35 (0, 0))) := hq1; have HWz := hid (blk_set HW9.out hq2 (TB.ne ⟨_, HW9.out⟩ ⟨_, HU9.out⟩ (by decide))); have HOz := hid (blk_set HO9.out hq2 (TB.ne ⟨_, HO9.out⟩ ⟨_, HU9.out⟩ (by decide))); have HLz := hid (blk_set HL9.out hq2 (TB.ne ⟨_, HL9.out⟩ ⟨_, HU9.out⟩ (by decide))); have HXz := hid (blk_set HX9.out hq2 HYX.out); have HFz := hid (HF9.out.stored hq2 (.inr (Nat.le_of_eq HBY.out))); clear hq1 hq2))
       have HKTz := HKT.out.fr HFz.out ⟨_, HU3.out⟩ (by decide)
       have HKQz := HKQ.out.fr HFz.out ⟨_, HU3.out⟩ (by decide)
       have HKYz := HKY.out.fr HFz.out ⟨_, HU3.out⟩ (by decide)
       have HKX : Hid (KT wz (b + 5) isR (encR { x with k := [⟨txt [120], [⟨1, 0, -1⟩], zz⟩] }) [.string xn, .slice (some ⟨gw, 0, none⟩) n1 cw, .slice p2 n2 c2, .slice p3 n3 c3, .slice (some ⟨b48, 0, none⟩) 1 1, .string xe, .slice p5 n5 c5]) := fun W hW => by
         have g1 := (hW b46 51 H46.out (by decide) ⟨_, HOz.out⟩).trans HOz.out
         have g2 := (hW b48 54 H48.out (by decide) ⟨_, HLz.out⟩).trans HLz.out
         have x5 : Rd W (.row 51 3 ([(⟨1, 0, -1⟩ : Op3)].map encQ)) (.slice (some ⟨b46, 0, none⟩) 1 1) := rd_blk (l := [(⟨1, 0, -1⟩ : Op3)].map encQ) g1 (by simp) (by simp [maxLen]) (rdl_lits [.int .i64 1, .int .i64 0, .int .i64 (-1)])
         have x6 : Rd W (.row 54 3 ([(⟨txt [120], [⟨1, 0, -1⟩], zz⟩ : Lk)].map encK)) (.slice (some ⟨b48, 0, none⟩) 1 1) := rd_blk (l := [(⟨txt [120], [⟨1, 0, -1⟩], zz⟩ : Lk)].map encK) g2 (by simp) (by simp [maxLen]) (.cons (.lit _) (.cons x5 (.cons (.lit _) (RdL.nil _))))
         have h9 := (rdl_rl (HKTz W hW) (show Rd W (.row 46 18 ((q :: rq).map encP)) (.slice (some ⟨gw, 0, none⟩) n1 cw) from by rw [HNQ.out.1]; exact rd_heads (us := [.string a1, .string a2, .int .i64 k1, .slice sp sn sc, .int .i64 k2, .int .i64 k3, .int .i64 k4, .string a3, .string a4, .string a5, .int .i64 k5, .int .i64 k6, .int .i64 k7, .string a6, .string a7, .string a8, .int .i64 k8, .int .i64 k9]) ((hW gw 46 (Nat.le_trans HN3.out HGW'.out) (by decide) ⟨_, HWz.out⟩).trans HWz.out) (HKQz W hW) (HKYz W hW) (by have h8 := HNQ.out.1; have h9 := HCW.out.1; omega) HCW.out.2)).2.1 [⟨txt [120], [⟨1, 0, -1⟩], zz⟩] _ x6
         rw [← HWQ.out] at h9
         exact h9
       have HRC : Hid (rck kts { x with k := [⟨txt [120], [⟨1, 0, -1⟩], zz⟩] } = 6) := rck_lnk HRX.out HZ0.out.1 HZ0.out.2
       have HSP : Hid (Szr { x with k := [⟨txt [120], [⟨1, 0, -1⟩], zz⟩] }) := szr_lnk HSX.out
       clear HKTz HKQz HKYz
       have HKRz := HKR.out.fr HFz.out ⟨_, HU3.out⟩ (by decide)
       have HPz : Hid (KT wz (b + 5) isR (encR { x with k := [⟨txt [120], [⟨1, 0, -1⟩], zz⟩] } ++ (r.map encR).flatten) ([.string xn, .slice (some ⟨gw, 0, none⟩) n1 cw, .slice p2 n2 c2, .slice p3 n3 c3, .slice (some ⟨b48, 0, none⟩) 1 1, .string xe, .slice p5 n5 c5] ++ ur)) := HKX.out.app HKRz
       have HBO : Hid (bok kts ({ x with k := [⟨txt [120], [⟨1, 0, -1⟩], zz⟩] } :: r) = 6) := bok_first HRC.out (by decide) HRL.out
       have HSZ : Hid (∀ y, y ∈ { x with k := [⟨txt [120], [⟨1, 0, -1⟩], zz⟩] } :: r → Szr y) := fun y hy => by
         rcases List.mem_cons.1 hy with rfl | hy
         . exact HSP.out
         . exact szr_bk l y (by rw [HBKC.out]; exact List.mem_cons_of_mem _ hy)
       have HG7z : Hid (wz.rangeAt g 7 ur) := HRG7.out wz (HFz.out.block g HGB.out.lt (TB.ne HGB.out ⟨_, HU3.out⟩ (by decide)))
       have HGLz : Hid (g < wz.heap.size) := Nat.lt_of_lt_of_le HGB.out.lt HFz.out.size
       have HNz : Hid (b + 5 ≤ wz.heap.size) := Nat.le_trans HN3.out HFz.out.size
       have HTYz : Hid (Tys wz b) := HTY3.out.later (fun i o hi _ hb2 => (HFz.out.block i (blk_lt hi) (by have := HBb.out; show i ≠ bx; omega)).trans hi)
       have HBz : Hid (Below w.heap.size w wz) := below_fr HB3.out HFz.out HBX.out
       have hR1 : (1 : Int) ≤ (R : Int) := by have := HRR.out; omega
       clear HKRz y1
       refine wp_region_two (by kernel_rfl) (fun i w9 v => ([(fun w9 v => v = .agg #[.string xn, .slice (some ⟨gw, 0, none⟩) n1 cw, .slice p2 n2 c2, .slice p3 n3 c3, .slice (some ⟨b48, 0, none⟩) 1 1, .string xe, .slice p5 n5 c5]), (fun w9 v => ∃ (b9 : Nat), v = .slice (some ⟨b9, 0, none⟩) 1 1 ∧ w9.heap[b9]? = some (.cells #[.string xn, .slice (some ⟨gw, 0, none⟩) n1 cw, .slice p2 n2 c2, .slice p3 n3 c3, .slice (some ⟨b48, 0, none⟩) 1 1, .string xe, .slice p5 n5 c5] 35 (0, 0)) ∧ wz.heap.size ≤ b9), (fun w9 v => v = .pointer (some ⟨bx, 1, none⟩)), (fun w9 v => v = .slice (some ⟨g, 0, none⟩) R rc), (fun w9 v => v = .slice (if rc = 1 then some ⟨g, 0, none⟩ else some ⟨g, 7, none⟩) (R - 1) (rc - 1)), (fun w9 v => True), (fun w9 v => v = .pointer (some ⟨bx, 1, none⟩))] : List (World → Value → Prop)).getD i (fun _ _ => True) w9 v) (fun W => Below wz.heap.size wz W) 5 7 (fun w9 v => ∃ (p' : Option Addr) (c' : Nat) (Wp : World) (b9 : Nat), v = .slice p' (R - 1 + 1) c' ∧ Below wz.heap.size wz Wp ∧ Wp.grownBy w9 (some b9) ∧ wz.heap.size ≤ b9 ∧ RwT w9 (b + 5) isR 35 7 (.slice p' (R - 1 + 1) c') (encR { x with k := [⟨txt [120], [⟨1, 0, -1⟩], zz⟩] } :: (r.map encR))) 65 rfl rfl (by decide) [some 54, some 55, some 56, some 57, some 58, some 59, some 60] (by kernel_rfl) 24 (.tmp 60) (.tmp 59) (by rfl) (by rfl) (by kernel_rfl) (by kernel_rfl) (by kernel_rfl) (fun W W' => Below W.heap.size W W') ?hmon ?hpi (Below.drew (Below.refl _ _)) (AllOps.cons ?o0 (AllOps.cons ?o1 (AllOps.cons ?o2 (AllOps.cons ?o3 (AllOps.cons ?o4 (AllOps.cons ?o5 (AllOps.cons ?o6 (AllOps.cons ?o7 AllOps.nil)))))))) ?hS ?hend
       case hmon =>
         intro q W W' v hb h
         rcases q with _ | _ | _ | _ | _ | _ | _ | q
         . exact h
         . obtain ⟨b9, e, h1, h2⟩ := h; exact ⟨b9, e, (hb.block _ (blk_lt h1)).trans h1, h2⟩
         . exact h
         . exact h
         . exact h
         . exact h
         . exact h
         . exact h
       case hpi =>
         intro q W W' v hq h
         rcases q with _ | _ | _ | _ | _ | _ | _ | _ | q
         . exact absurd hq (by decide)
         . exact absurd hq (by decide)
         . exact absurd hq (by decide)
         . exact absurd hq (by decide)
         . exact absurd hq (by decide)
         . exact absurd hq (by decide)
         . exact h
         . exact h
         . exact h
       case o0 =>
         intro _ _ a W hB hd ho
         replace hB := hB (by decide)
         have e6 : a.eval (.tmp 6) = .pointer (some ⟨by_, 0, none⟩) := ho 6 (by kernel_rfl)
         exact op_ld 35 _ rfl by_ 0 e6 [.string xn, .slice (some ⟨gw, 0, none⟩) n1 cw, .slice p2 n2 c2, .slice p3 n3 c3, .slice (some ⟨b48, 0, none⟩) 1 1, .string xe, .slice p5 n5 c5] _ (range_blk ((hB.block _ (blk_lt HYz.out)).trans HYz.out)) Tryd.underlying35 rfl (by kernel_rfl) ⟨_, rfl, rfl, fun _ => hB, fun _ => Below.refl _ _, fun _ => rfl⟩
       case o1 =>
         intro _ _ a W hB hd ho
         replace hB := hB (by decide)
         have e54 : a.eval (.tmp 54) = .agg #[.string xn, .slice (some ⟨gw, 0, none⟩) n1 cw, .slice p2 n2 c2, .slice p3 n3 c3, .slice (some ⟨b48, 0, none⟩) 1 1, .string xe, .slice p5 n5 c5] := hd 0 54 (by kernel_rfl) (by decide)
         have hal : Below W.heap.size W (W.alloc (.cells #[.string xn, .slice (some ⟨gw, 0, none⟩) n1 cw, .slice p2 n2 c2, .slice p3 n3 c3, .slice (some ⟨b48, 0, none⟩) 1 1, .string xe, .slice p5 n5 c5] 35)) := (Below.refl _ _).alloc (Nat.le_refl _) _
         refine op_bs 24 1 _ rfl #[(0, .agg #[.string xn, .slice (some ⟨gw, 0, none⟩) n1 cw, .slice p2 n2 c2, .slice p3 n3 c3, .slice (some ⟨b48, 0, none⟩) 1 1, .string xe, .slice p5 n5 c5])] (by simp [ev_c, e54]) (.slice (some ⟨W.heap.size, 0, none⟩) 1 1) (W.alloc (.cells #[.string xn, .slice (some ⟨gw, 0, none⟩) n1 cw, .slice p2 n2 c2, .slice p3 n3 c3, .slice (some ⟨b48, 0, none⟩) 1 1, .string xe, .slice p5 n5 c5] 35)) (by kernel_rfl) ⟨_, rfl, ⟨W.heap.size, rfl, heap_alloc_new _ _, hB.size⟩, fun _ => below_trans hB hal hB.size, fun _ => hal, fun h9 => absurd h9 (by decide)⟩
       case o2 =>
         intro _ _ a W hB hd ho
         replace hB := hB (by decide)
         have e5 : a.eval (.tmp 5) = .pointer (some ⟨bx, 0, none⟩) := ho 5 (by kernel_rfl)
         exact op_val (.pointer (some ⟨bx, 1, none⟩)) (by unfold execOp; simp only [ev_c, e5]; go_simp) ⟨_, rfl, rfl, fun _ => hB, fun _ => Below.refl _ _, fun _ => rfl⟩
       case o3 =>
         intro _ _ a W hB hd ho
         replace hB := hB (by decide)
         have e56 : a.eval (.tmp 56) = .pointer (some ⟨bx, 1, none⟩) := hd 2 56 (by kernel_rfl) (by decide)
         have c9 : W.cell? ⟨bx, 1, none⟩ = some (.slice (some ⟨g, 0, none⟩) R rc) := by
           rw [cell_of_blk ((hB.block _ (blk_lt HXz.out)).trans HXz.out)]
           rfl
         exact op_val (.slice (some ⟨g, 0, none⟩) R rc) (by unfold execOp; simp only [ev_c, e56]; go_simp) ⟨_, rfl, rfl, fun _ => hB, fun _ => Below.refl _ _, fun _ => rfl⟩
       case o4 =>
         intro _ _ a W hB hd ho
         replace hB := hB (by decide)
         have e57 : a.eval (.tmp 57) = .slice (some ⟨g, 0, none⟩) R rc := hd 3 57 (by kernel_rfl) (by decide)
         exact op_val (.slice (if rc = 1 then some ⟨g, 0, none⟩ else some ⟨g, 7, none⟩) (R - 1) (rc - 1)) (by unfold execOp; simp only [ev_c, List.map_toArray, List.map_cons, List.map_nil, Option.map_some, Option.map_none, e57]; go_simp) ⟨_, rfl, rfl, fun _ => hB, fun _ => Below.refl _ _, fun _ => rfl⟩
       case o5 =>
         intro h9; exact absurd rfl h9
       case o6 =>
         intro _ _ a W hB hd ho
         have e5 : a.eval (.tmp 5) = .pointer (some ⟨bx, 0, none⟩) := ho 5 (by kernel_rfl)
         exact op_val (.pointer (some ⟨bx, 1, none⟩)) (by unfold execOp; simp only [ev_c, e5]; go_simp) ⟨_, rfl, rfl, fun h9 => absurd h9 (by decide), fun h9 => absurd h9 (by decide), fun _ => rfl⟩
       case o7 =>
         intro _ h9; exact absurd rfl h9
       case hS =>
         intro a W vs hB hT hd hout
         have e4 : vs 4 = .slice (if rc = 1 then some ⟨g, 0, none⟩ else some ⟨g, 7, none⟩) (R - 1) (rc - 1) := hT 4 (by decide)
         obtain ⟨b9, e1, h9, h9b⟩ : ∃ (b9 : Nat), vs 1 = .slice (some ⟨b9, 0, none⟩) 1 1 ∧ W.heap[b9]? = some (.cells #[.string xn, .slice (some ⟨gw, 0, none⟩) n1 cw, .slice p2 n2 c2, .slice p3 n3 c3, .slice (some ⟨b48, 0, none⟩) 1 1, .string xe, .slice p5 n5 c5] 35 (0, 0)) ∧ wz.heap.size ≤ b9 := hT 1 (by decide)
         obtain ⟨o9, e5, hr9⟩ : ∃ o9, (if rc = 1 then (some ⟨g, 0, none⟩ : Option Addr) else some ⟨g, 7, none⟩) = some ⟨g, o9, none⟩ ∧ W.rangeAt g o9 ur := by
           by_cases h1 : rc = 1
           . refine ⟨0, by rw [if_pos h1], fun j u hj => ?_⟩
             have h2 : ur = [] := List.eq_nil_of_length_eq_zero (by have := HUR.out.1; have := HUR.out.2.2.1; omega)
             rw [h2] at hj
             simp at hj
           . exact ⟨7, by rw [if_neg h1], range_same HG7z.out (hB.block g HGLz.out)⟩
         rw [e5] at e4
         refine op_appR _ _ 24 rfl (b + 5) isR 35 7 152 ir _ Tryd.underlying24 HIR.out.1 HIR.out.2.1 HIR.out.2.2.1 HIR.out.2.2.2 rfl (by omega) (by decide) b9 [.string xn, .slice (some ⟨gw, 0, none⟩) n1 cw, .slice p2 n2 c2, .slice p3 n3 c3, .slice (some ⟨b48, 0, none⟩) 1 1, .string xe, .slice p5 n5 c5] ((hd 1 55 (by kernel_rfl)).trans e1) h9 (by rfl) (Nat.le_trans HNz.out h9b) g o9 (R - 1) (rc - 1) ur ((hd 4 58 (by kernel_rfl)).trans e4) hr9 (by have := HUR.out.1; have := HUR.out.2.2.2; rw [this, HUR.out.1]; simp) HUR.out.2.1 (encR { x with k := [⟨txt [120], [⟨1, 0, -1⟩], zz⟩] }) (r.map encR) (by rw [List.length_map]; have := HUR.out.2.2.2; omega) (HPz.out.below hB) (by decide) (by have := HUR.out.2.2.2; have := HRL.out; omega) ?_
         intro p' c' W' k1 k2
         exact ⟨_, rfl, p', c', W, b9, rfl, hB, k2, h9b, k1⟩
       case hend =>
         intro vs W hB2 hT
         obtain ⟨p', c', Wp, b9, e5, k1, k2, h9b, k4⟩ := hB2
         have e6 : vs 6 = .pointer (some ⟨bx, 1, none⟩) := hT 6 (by decide) (by decide)
         have hXp := (k1.block _ (blk_lt HXz.out)).trans HXz.out
         have hX7 := (k2.block _ (blk_lt hXp) (fun e9 => by have h8 := blk_lt HXz.out; simp only [Option.some.injEq] at e9; omega)).trans hXp
         have hB7 : Below w.heap.size w W := (below_trans HBz.out k1 HBz.out.size).grown k2 (below_trans HBz.out k1 HBz.out.size).size (fun i hi => by simp only [Option.some.injEq] at hi; have := HBz.out.size; omega)
         have hTYp : Tys Wp b := HTYz.out.later (fun i o hi _ _ => (k1.block _ (blk_lt hi)).trans hi)
         have hTY7 : Tys W b := hTYp.later (fun i o hi _ hb2 => (k2.block _ (blk_lt hi) (fun e9 => by simp only [Option.some.injEq] at e9; have := HNz.out; omega)).trans hi)
         refine ⟨bx, 1, [.slice (some ⟨b + 4, 0, none⟩) 5 5, .slice (some ⟨g, 0, none⟩) R rc], 26, .slice p' (R - 1 + 1) c', [.slice p' (R - 1 + 1) c'], Eq.trans (b := vs 6) (by kernel_rfl) e6, Eq.trans (b := vs 5) (by kernel_rfl) e5, rfl, hX7, by simp, by kernel_rfl, rfl, ?_⟩
         intro w8 hq1 hq2
         have HU8 := hid hq1
         have HB8 : Hid (Below w.heap.size w w8) := below_fr hB7 hq2 HBX.out
         have HTY8 : Hid (Tys w8 b) := hTY7.later (fun i o hi _ hb2 => (hq2.block _ (blk_lt hi) (by have := HBb.out; show i ≠ bx; omega)).trans hi)
         have HR8 := hid (k4.set hq2 ⟨_, hX7⟩ (by decide) (by decide))
         have c0 : w8.cell? ⟨bx, 0, none⟩ = some (.slice (some ⟨b + 4, 0, none⟩) 5 5) := (by rw [cell_of_blk HU8.out]; rfl)
         have c1' : w8.cell? ⟨bx, 1, none⟩ = some (.slice p' (R - 1 + 1) c') := (by rw [cell_of_blk HU8.out]; rfl)
         clear hq1 hq2 k1 k2 k4 hT hXp hX7 hB7 hTYp hTY7
         simp only [putsD, Act.put, List.setIfInBounds_toArray, e5, e6]
         simp only [set_c20]
         simp only [List.set_cons_zero, List.set_cons_succ]
         clear e5 e6
         generalize vs 0 = v0
         generalize vs 1 = v1
         generalize vs 2 = v2
         generalize vs 3 = v3
         generalize vs 4 = v4
         clear vs
         go_wp2_with fail
         refine (HCK.out ({ x with k := [⟨txt [120], [⟨1, 0, -1⟩], zz⟩] } :: r) HSZ.out _ _ w8 HB8.out HTY8.out.rd HR8.out.rd).mono ?_
         rintro e w9 ⟨rfl, hb9⟩
         rw [HBO.out]
         have HB9 := hid (below_trans HB8.out hb9 HB8.out.size)
         clear hb9 c0 c1'
         go_wp2_with fail
         go_ret
         exact ⟨ret_bool (by simp), HB9.out⟩
     . skip
       by_cases hp3 : pk = 3
       . subst hp3
         clear hp2 hp0 hp1 hp2'
         go_upto_region 16 with (first
           | (go_at_call 6; refine (HPK.out _).mono ?_; rintro e w7 ⟨rfl, rfl⟩)
           | ((with_reducible show wpList _ _ _ (Oper.mk (some 52) _ _ _ _ _ :: _) _ _); refine wp_bdq (by rfl) 33 _ (by rfl) #[(0, .string ⟨#[122, 122]⟩)] (by simp [Act.eval, Act.put]) (.agg #[.string ⟨#[122, 122]⟩, .slice none 0 0]) (fun w => by kernel_rfl) ?_)
           | ((with_reducible show wpList _ _ _ (Oper.mk _ (.store 33 _ _) _ _ _ _ :: _) _ _); refine wp_st (by rfl) 33 _ _ (by rfl) by_ 5 [.string xn, .slice (some ⟨gw, 0, none⟩) n1 cw, .slice p2 n2 c2, .slice p3 n3 c3, .slice p4 n4 c4, .string xe, .slice p5 n5 c5] 35 (.agg #[.string ⟨#[122, 122]⟩, .slice none 0 0]) [.string ⟨#[122, 122]⟩, .slice none 0 0] (by rfl) (by rfl) (by rfl) HU7.out (by simp) (by kernel_rfl) (by rfl) ?_; intro wz hq1 hq2; have HYz : Hid (wz.heap[by_]? = some (.cells #[.string xn, .slice (some ⟨gw, 0, none⟩) n1 cw, .slice p2 n2 c2, .slice p3 n3 c3, .slice p4 n4 c4, .string ⟨#[122, 122]⟩, .slice none 0 0] 35 (0, 0))) := hq1; have HWz := hid (blk_set HW.out hq2 (TB.ne ⟨_, HW.out⟩ ⟨_, HU7.out⟩ (by decide))); have HXz := hid (blk_set HX.out hq2 HYX.out); have HFz := hid (HF7.out.stored hq2 (.inr (Nat.le_of_eq HBY.out))); clear hq1 hq2))
         have HKTz := HKT.out.fr HFz.out ⟨_, HU3.out⟩ (by decide)
         have HKQz := HKQ.out.fr HFz.out ⟨_, HU3.out⟩ (by decide)
         have HKYz := HKY.out.fr HFz.out ⟨_, HU3.out⟩ (by decide)
         have HKX : Hid (KT wz (b + 5) isR (encR { x with e := ⟨zz, []⟩ }) [.string xn, .slice (some ⟨gw, 0, none⟩) n1 cw, .slice p2 n2 c2, .slice p3 n3 c3, .slice p4 n4 c4, .string ⟨#[122, 122]⟩, .slice none 0 0]) := fun W hW => by
           have h9 := (rdl_rl (HKTz W hW) (show Rd W (.row 46 18 ((q :: rq).map encP)) (.slice (some ⟨gw, 0, none⟩) n1 cw) from by rw [HNQ.out.1]; exact rd_heads (us := [.string a1, .string a2, .int .i64 k1, .slice sp sn sc, .int .i64 k2, .int .i64 k3, .int .i64 k4, .string a3, .string a4, .string a5, .int .i64 k5, .int .i64 k6, .int .i64 k7, .string a6, .string a7, .string a8, .int .i64 k8, .int .i64 k9]) ((hW gw 46 (Nat.le_trans HN3.out HGW'.out) (by decide) ⟨_, HWz.out⟩).trans HWz.out) (HKQz W hW) (HKYz W hW) (by have h8 := HNQ.out.1; have h9 := HCW.out.1; omega) HCW.out.2)).2.2 zz
           rw [← HWQ.out] at h9
           exact h9
         have HRC : Hid (rck kts { x with e := ⟨zz, []⟩ } = 6) := rck_emit HRX.out
         have HSP : Hid (Szr { x with e := ⟨zz, []⟩ }) := szr_emit HSX.out
         clear HKTz HKQz HKYz
         have HKRz := HKR.out.fr HFz.out ⟨_, HU3.out⟩ (by decide)
         have HPz : Hid (KT wz (b + 5) isR (encR { x with e := ⟨zz, []⟩ } ++ (r.map encR).flatten) ([.string xn, .slice (some ⟨gw, 0, none⟩) n1 cw, .slice p2 n2 c2, .slice p3 n3 c3, .slice p4 n4 c4, .string ⟨#[122, 122]⟩, .slice none 0 0] ++ ur)) := HKX.out.app HKRz
         have HBO : Hid (bok kts ({ x with e := ⟨zz, []⟩ } :: r) = 6) := bok_first HRC.out (by decide) HRL.out
         have HSZ : Hid (∀ y, y ∈ { x with e := ⟨zz, []⟩ } :: r → Szr y) := fun y hy => by
           rcases List.mem_cons.1 hy with rfl | hy
           . exact HSP.out
           . exact szr_bk l y (by rw [HBKC.out]; exact List.mem_cons_of_mem _ hy)
         have HG7z : Hid (wz.rangeAt g 7 ur) := HRG7.out wz (HFz.out.block g HGB.out.lt (TB.ne HGB.out ⟨_, HU3.out⟩ (by decide)))
         have HGLz : Hid (g < wz.heap.size) := Nat.lt_of_lt_of_le HGB.out.lt HFz.out.size
         have HNz : Hid (b + 5 ≤ wz.heap.size) := Nat.le_trans HN3.out HFz.out.size
         have HTYz : Hid (Tys wz b) := HTY3.out.later (fun i o hi _ hb2 => (HFz.out.block i (blk_lt hi) (by have := HBb.out; show i ≠ bx; omega)).trans hi)
         have HBz : Hid (Below w.heap.size w wz) := below_fr HB3.out HFz.out HBX.out
         have hR1 : (1 : Int) ≤ (R : Int) := by have := HRR.out; omega
         clear HKRz y1
         refine wp_region_two (by kernel_rfl) (fun i w9 v => ([(fun w9 v => v = .agg #[.string xn, .slice (some ⟨gw, 0, none⟩) n1 cw, .slice p2 n2 c2, .slice p3 n3 c3, .slice p4 n4 c4, .string ⟨#[122, 122]⟩, .slice none 0 0]), (fun w9 v => ∃ (b9 : Nat), v = .slice (some ⟨b9, 0, none⟩) 1 1 ∧ w9.heap[b9]? = some (.cells #[.string xn, .slice (some ⟨gw, 0, none⟩) n1 cw, .slice p2 n2 c2, .slice p3 n3 c3, .slice p4 n4 c4, .string ⟨#[122, 122]⟩, .slice none 0 0] 35 (0, 0)) ∧ wz.heap.size ≤ b9), (fun w9 v => v = .pointer (some ⟨bx, 1, none⟩)), (fun w9 v => v = .slice (some ⟨g, 0, none⟩) R rc), (fun w9 v => v = .slice (if rc = 1 then some ⟨g, 0, none⟩ else some ⟨g, 7, none⟩) (R - 1) (rc - 1)), (fun w9 v => True), (fun w9 v => v = .pointer (some ⟨bx, 1, none⟩))] : List (World → Value → Prop)).getD i (fun _ _ => True) w9 v) (fun W => Below wz.heap.size wz W) 5 7 (fun w9 v => ∃ (p' : Option Addr) (c' : Nat) (Wp : World) (b9 : Nat), v = .slice p' (R - 1 + 1) c' ∧ Below wz.heap.size wz Wp ∧ Wp.grownBy w9 (some b9) ∧ wz.heap.size ≤ b9 ∧ RwT w9 (b + 5) isR 35 7 (.slice p' (R - 1 + 1) c') (encR { x with e := ⟨zz, []⟩ } :: (r.map encR))) 65 rfl rfl (by decide) [some 54, some 55, some 56, some 57, some 58, some 59, some 60] (by kernel_rfl) 24 (.tmp 60) (.tmp 59) (by rfl) (by rfl) (by kernel_rfl) (by kernel_rfl) (by kernel_rfl) (fun W W' => Below W.heap.size W W') ?hmon ?hpi (Below.drew (Below.refl _ _)) (AllOps.cons ?o0 (AllOps.cons ?o1 (AllOps.cons ?o2 (AllOps.cons ?o3 (AllOps.cons ?o4 (AllOps.cons ?o5 (AllOps.cons ?o6 (AllOps.cons ?o7 AllOps.nil)))))))) ?hS ?hend
         case hmon =>
           intro q W W' v hb h
           rcases q with _ | _ | _ | _ | _ | _ | _ | q
           . exact h
           . obtain ⟨b9, e, h1, h2⟩ := h; exact ⟨b9, e, (hb.block _ (blk_lt h1)).trans h1, h2⟩
           . exact h
           . exact h
           . exact h
           . exact h
           . exact h
           . exact h
         case hpi =>
           intro q W W' v hq h
           rcases q with _ | _ | _ | _ | _ | _ | _ | _ | q
           . exact absurd hq (by decide)
           . exact absurd hq (by decide)
           . exact absurd hq (by decide)
           . exact absurd hq (by decide)
           . exact absurd hq (by decide)
           . exact absurd hq (by decide)
           . exact h
           . exact h
           . exact h
         case o0 =>
           intro _ _ a W hB hd ho
           replace hB := hB (by decide)
           have e6 : a.eval (.tmp 6) = .pointer (some ⟨by_, 0, none⟩) := ho 6 (by kernel_rfl)
           exact op_ld 35 _ rfl by_ 0 e6 [.string xn, .slice (some ⟨gw, 0, none⟩) n1 cw, .slice p2 n2 c2, .slice p3 n3 c3, .slice p4 n4 c4, .string ⟨#[122, 122]⟩, .slice none 0 0] _ (range_blk ((hB.block _ (blk_lt HYz.out)).trans HYz.out)) Tryd.underlying35 rfl (by kernel_rfl) ⟨_, rfl, rfl, fun _ => hB, fun _ => Below.refl _ _, fun _ => rfl⟩
         case o1 =>
           intro _ _ a W hB hd ho
           replace hB := hB (by decide)
           have e54 : a.eval (.tmp 54) = .agg #[.string xn, .slice (some ⟨gw, 0, none⟩) n1 cw, .slice p2 n2 c2, .slice p3 n3 c3, .slice p4 n4 c4, .string ⟨#[122, 122]⟩, .slice none 0 0] := hd 0 54 (by kernel_rfl) (by decide)
           have hal : Below W.heap.size W (W.alloc (.cells #[.string xn, .slice (some ⟨gw, 0, none⟩) n1 cw, .slice p2 n2 c2, .slice p3 n3 c3, .slice p4 n4 c4, .string ⟨#[122, 122]⟩, .slice none 0 0] 35)) := (Below.refl _ _).alloc (Nat.le_refl _) _
           refine op_bs 24 1 _ rfl #[(0, .agg #[.string xn, .slice (some ⟨gw, 0, none⟩) n1 cw, .slice p2 n2 c2, .slice p3 n3 c3, .slice p4 n4 c4, .string ⟨#[122, 122]⟩, .slice none 0 0])] (by simp [ev_c, e54]) (.slice (some ⟨W.heap.size, 0, none⟩) 1 1) (W.alloc (.cells #[.string xn, .slice (some ⟨gw, 0, none⟩) n1 cw, .slice p2 n2 c2, .slice p3 n3 c3, .slice p4 n4 c4, .string ⟨#[122, 122]⟩, .slice none 0 0] 35)) (by kernel_rfl) ⟨_, rfl, ⟨W.heap.size, rfl, heap_alloc_new _ _, hB.size⟩, fun _ => below_trans hB hal hB.size, fun _ => hal, fun h9 => absurd h9 (by decide)⟩
         case o2 =>
           intro _ _ a W hB hd ho
           replace hB := hB (by decide)
           have e5 : a.eval (.tmp 5) = .pointer (some ⟨bx, 0, none⟩) := ho 5 (by kernel_rfl)
           exact op_val (.pointer (some ⟨bx, 1, none⟩)) (by unfold execOp; simp only [ev_c, e5]; go_simp) ⟨_, rfl, rfl, fun _ => hB, fun _ => Below.refl _ _, fun _ => rfl⟩
         case o3 =>
           intro _ _ a W hB hd ho
           replace hB := hB (by decide)
           have e56 : a.eval (.tmp 56) = .pointer (some ⟨bx, 1, none⟩) := hd 2 56 (by kernel_rfl) (by decide)
           have c9 : W.cell? ⟨bx, 1, none⟩ = some (.slice (some ⟨g, 0, none⟩) R rc) := by
             rw [cell_of_blk ((hB.block _ (blk_lt HXz.out)).trans HXz.out)]
             rfl
           exact op_val (.slice (some ⟨g, 0, none⟩) R rc) (by unfold execOp; simp only [ev_c, e56]; go_simp) ⟨_, rfl, rfl, fun _ => hB, fun _ => Below.refl _ _, fun _ => rfl⟩
         case o4 =>
           intro _ _ a W hB hd ho
           replace hB := hB (by decide)
           have e57 : a.eval (.tmp 57) = .slice (some ⟨g, 0, none⟩) R rc := hd 3 57 (by kernel_rfl) (by decide)
           exact op_val (.slice (if rc = 1 then some ⟨g, 0, none⟩ else some ⟨g, 7, none⟩) (R - 1) (rc - 1)) (by unfold execOp; simp only [ev_c, List.map_toArray, List.map_cons, List.map_nil, Option.map_some, Option.map_none, e57]; go_simp) ⟨_, rfl, rfl, fun _ => hB, fun _ => Below.refl _ _, fun _ => rfl⟩
         case o5 =>
           intro h9; exact absurd rfl h9
         case o6 =>
           intro _ _ a W hB hd ho
           have e5 : a.eval (.tmp 5) = .pointer (some ⟨bx, 0, none⟩) := ho 5 (by kernel_rfl)
           exact op_val (.pointer (some ⟨bx, 1, none⟩)) (by unfold execOp; simp only [ev_c, e5]; go_simp) ⟨_, rfl, rfl, fun h9 => absurd h9 (by decide), fun h9 => absurd h9 (by decide), fun _ => rfl⟩
         case o7 =>
           intro _ h9; exact absurd rfl h9
         case hS =>
           intro a W vs hB hT hd hout
           have e4 : vs 4 = .slice (if rc = 1 then some ⟨g, 0, none⟩ else some ⟨g, 7, none⟩) (R - 1) (rc - 1) := hT 4 (by decide)
           obtain ⟨b9, e1, h9, h9b⟩ : ∃ (b9 : Nat), vs 1 = .slice (some ⟨b9, 0, none⟩) 1 1 ∧ W.heap[b9]? = some (.cells #[.string xn, .slice (some ⟨gw, 0, none⟩) n1 cw, .slice p2 n2 c2, .slice p3 n3 c3, .slice p4 n4 c4, .string ⟨#[122, 122]⟩, .slice none 0 0] 35 (0, 0)) ∧ wz.heap.size ≤ b9 := hT 1 (by decide)
           obtain ⟨o9, e5, hr9⟩ : ∃ o9, (if rc = 1 then (some ⟨g, 0, none⟩ : Option Addr) else some ⟨g, 7, none⟩) = some ⟨g, o9, none⟩ ∧ W.rangeAt g o9 ur := by
             by_cases h1 : rc = 1
             . refine ⟨0, by rw [if_pos h1], fun j u hj => ?_⟩
               have h2 : ur = [] := List.eq_nil_of_length_eq_zero (by have := HUR.out.1; have := HUR.out.2.2.1; omega)
               rw [h2] at hj
               simp at hj
             . exact ⟨7, by rw [if_neg h1], range_same HG7z.out (hB.block g HGLz.out)⟩
           rw [e5] at e4
           refine op_appR _ _ 24 rfl (b + 5) isR 35 7 152 ir _ Tryd.underlying24 HIR.out.1 HIR.out.2.1 HIR.out.2.2.1 HIR.out.2.2.2 rfl (by omega) (by decide) b9 [.string xn, .slice (some ⟨gw, 0, none⟩) n1 cw, .slice p2 n2 c2, .slice p3 n3 c3, .slice p4 n4 c4, .string ⟨#[122, 122]⟩, .slice none 0 0] ((hd 1 55 (by kernel_rfl)).trans e1) h9 (by rfl) (Nat.le_trans HNz.out h9b) g o9 (R - 1) (rc - 1) ur ((hd 4 58 (by kernel_rfl)).trans e4) hr9 (by have := HUR.out.1; have := HUR.out.2.2.2; rw [this, HUR.out.1]; simp) HUR.out.2.1 (encR { x with e := ⟨zz, []⟩ }) (r.map encR) (by rw [List.length_map]; have := HUR.out.2.2.2; omega) (HPz.out.below hB) (by decide) (by have := HUR.out.2.2.2; have := HRL.out; omega) ?_
           intro p' c' W' k1 k2
           exact ⟨_, rfl, p', c', W, b9, rfl, hB, k2, h9b, k1⟩
         case hend =>
           intro vs W hB2 hT
           obtain ⟨p', c', Wp, b9, e5, k1, k2, h9b, k4⟩ := hB2
           have e6 : vs 6 = .pointer (some ⟨bx, 1, none⟩) := hT 6 (by decide) (by decide)
           have hXp := (k1.block _ (blk_lt HXz.out)).trans HXz.out
           have hX7 := (k2.block _ (blk_lt hXp) (fun e9 => by have h8 := blk_lt HXz.out; simp only [Option.some.injEq] at e9; omega)).trans hXp
           have hB7 : Below w.heap.size w W := (below_trans HBz.out k1 HBz.out.size).grown k2 (below_trans HBz.out k1 HBz.out.size).size (fun i hi => by simp only [Option.some.injEq] at hi; have := HBz.out.size; omega)
           have hTYp : Tys Wp b := HTYz.out.later (fun i o hi _ _ => (k1.block _ (blk_lt hi)).trans hi)
           have hTY7 : Tys W b := hTYp.later (fun i o hi _ hb2 => (k2.block _ (blk_lt hi) (fun e9 => by simp only [Option.some.injEq] at e9; have := HNz.out; omega)).trans hi)
           refine ⟨bx, 1, [.slice (some ⟨b + 4, 0, none⟩) 5 5, .slice (some ⟨g, 0, none⟩) R rc], 26, .slice p' (R - 1 + 1) c', [.slice p' (R - 1 + 1) c'], Eq.trans (b := vs 6) (by kernel_rfl) e6, Eq.trans (b := vs 5) (by kernel_rfl) e5, rfl, hX7, by simp, by kernel_rfl, rfl, ?_⟩
           intro w8 hq1 hq2
           have HU8 := hid hq1
           have HB8 : Hid (Below w.heap.size w w8) := below_fr hB7 hq2 HBX.out
           have HTY8 : Hid (Tys w8 b) := hTY7.later (fun i o hi _ hb2 => (hq2.block _ (blk_lt hi) (by have := HBb.out; show i ≠ bx; omega)).trans hi)
           have HR8 := hid (k4.set hq2 ⟨_, hX7⟩ (by decide) (by decide))
           have c0 : w8.cell? ⟨bx, 0, none⟩ = some (.slice (some ⟨b + 4, 0, none⟩) 5 5) := (by rw [cell_of_blk HU8.out]; rfl)
           have c1' : w8.cell? ⟨bx, 1, none⟩ = some (.slice p' (R - 1 + 1) c') := (by rw [cell_of_blk HU8.out]; rfl)
           clear hq1 hq2 k1 k2 k4 hT hXp hX7 hB7 hTYp hTY7
           simp only [putsD, Act.put, List.setIfInBounds_toArray, e5, e6]
           simp only [set_c20]
           simp only [List.set_cons_zero, List.set_cons_succ]
           clear e5 e6
           generalize vs 0 = v0
           generalize vs 1 = v1
           generalize vs 2 = v2
           generalize vs 3 = v3
           generalize vs 4 = v4
           clear vs
           go_wp2_with fail
           refine (HCK.out ({ x with e := ⟨zz, []⟩ } :: r) HSZ.out _ _ w8 HB8.out HTY8.out.rd HR8.out.rd).mono ?_
           rintro e w9 ⟨rfl, hb9⟩
           rw [HBO.out]
           have HB9 := hid (below_trans HB8.out hb9 HB8.out.size)
           clear hb9 c0 c1'
           go_wp2_with fail
           go_ret
           exact ⟨ret_bool (by simp), HB9.out⟩
       . skip
         have g0 : (pk == 0) = false := by simpa using hp0
         have g1 : (pk == 1) = false := by simpa using hp1
         have g2 : (pk == 2) = false := by simpa using hp2'
         have g3 : (pk == 3) = false := by simpa using hp3
         clear hp0 hp1 hp2' hp3 hp2
         go_upto_region 6 with (go_at_call 6; refine (HPK.out _).mono ?_; rintro e w7 ⟨rfl, rfl⟩)
         refine wp_region_st (by kernel_rfl) (fun i w9 v => ([(fun w9 v => v = .pointer (some ⟨by_, 1, none⟩)), (fun w9 v => v = .slice (some ⟨gw, 0, none⟩) n1 cw), (fun w9 v => v = opV nO), (fun w9 v => v = .agg #[.int .i64 2, .int .i64 0, .string ⟨#[]⟩]), (fun w9 v => v = opV twoO), (fun w9 v => v = cnV 4 (.slice none 0 0) nO twoO), (fun w9 v => v = .agg #[.string ⟨#[120]⟩, .string ⟨#[97]⟩, .int .i64 4, .slice none 0 0, .int .i64 2, .int .i64 0, .int .i64 0, .string ⟨#[]⟩, .string ⟨#[]⟩, .string ⟨#[110]⟩, .int .i64 1, .int .i64 2, .int .i64 0, .string ⟨#[]⟩, .string ⟨#[]⟩, .string ⟨#[]⟩, .int .i64 0, .int .i64 0]), (fun w9 v => v = .pointer (some ⟨gw, 0, none⟩))] : List (World → Value → Prop)).getD i (fun _ _ => True) w9 v) (fun W => Below w7.heap.size w7 W) 65 8 rfl rfl [some 20, some 21, some 22, some 23, some 24, some 25, some 26, some 27] (by kernel_rfl) 46 (.tmp 27) (.tmp 26) (by rfl) (by rfl) (by kernel_rfl) (by kernel_rfl) (fun W W' => Below W.heap.size W W') ?hmon (Below.drew (Below.refl _ _)) (AllOps.cons ?o0 (AllOps.cons ?o1 (AllOps.cons ?o2 (AllOps.cons ?o3 (AllOps.cons ?o4 (AllOps.cons ?o5 (AllOps.cons ?o6 (AllOps.cons ?o7 AllOps.nil)))))))) ?hend
         case hmon =>
           intro q W W' v hb h
           rcases q with _ | _ | _ | _ | _ | _ | _ | _ | q
           . exact h
           . exact h
           . exact h
           . exact h
           . exact h
           . exact h
           . exact h
           . exact h
           . exact h
         case o0 =>
           intro a W hB hd ho
           have e6 : a.eval (.tmp 6) = .pointer (some ⟨by_, 0, none⟩) := ho 6 (by kernel_rfl)
           exact op_val (.pointer (some ⟨by_, 1, none⟩)) (by unfold execOp; simp only [ev_c, e6]; go_simp) ⟨_, rfl, rfl, hB, Below.refl _ _⟩
         case o1 =>
           intro a W hB hd ho
           have e20 : a.eval (.tmp 20) = .pointer (some ⟨by_, 1, none⟩) := hd 0 20 (by kernel_rfl)
           have c9 : W.cell? ⟨by_, 1, none⟩ = some (.slice (some ⟨gw, 0, none⟩) n1 cw) := by
             rw [cell_of_blk ((hB.block _ (blk_lt HU7.out)).trans HU7.out)]
             rfl
           exact op_val (.slice (some ⟨gw, 0, none⟩) n1 cw) (by unfold execOp; simp only [ev_c, e20]; go_simp) ⟨_, rfl, rfl, hB, Below.refl _ _⟩
         case o2 =>
           intro a W hB hd ho
           refine op_cl 8 ent_own _ _ rfl #[.string ⟨#[110]⟩] (by simp [ev_c]) _ (own_any (txt [110]) W) ?_
           rintro e W' ⟨rfl, hal⟩
           exact ⟨_, rfl, _, rfl, rfl, below_trans hB hal hB.size, hal⟩
         case o3 =>
           intro a W hB hd ho
           exact op_bd 40 _ rfl #[(0, .int .i64 2)] (by simp [ev_c]) (.agg #[.int .i64 2, .int .i64 0, .string ⟨#[]⟩]) (by kernel_rfl) ⟨_, rfl, rfl, hB, Below.refl _ _⟩
         case o4 =>
           intro a W hB hd ho
           have e23 : a.eval (.tmp 23) = .agg #[.int .i64 2, .int .i64 0, .string ⟨#[]⟩] := hd 3 23 (by kernel_rfl)
           exact op_bd 42 _ rfl #[(0, .int .i64 1), (1, .agg #[.int .i64 2, .int .i64 0, .string ⟨#[]⟩])] (by simp [ev_c, e23]) (opV twoO) (by kernel_rfl) ⟨_, rfl, rfl, hB, Below.refl _ _⟩
         case o5 =>
           intro a W hB hd ho
           have e22 : a.eval (.tmp 22) = opV nO := hd 2 22 (by kernel_rfl)
           have e24 : a.eval (.tmp 24) = opV twoO := hd 4 24 (by kernel_rfl)
           refine op_cl 7 ent_cmp _ _ rfl #[.int .i64 4, opV nO, opV twoO] (by simp [ev_c, e22, e24]) _ (compare_any 4 nO twoO W) ?_
           rintro e W' ⟨rfl, hal⟩
           exact ⟨_, rfl, _, rfl, rfl, below_trans hB hal hB.size, hal⟩
         case o6 =>
           intro a W hB hd ho
           have e25 : a.eval (.tmp 25) = cnV 4 (.slice none 0 0) nO twoO := hd 5 25 (by kernel_rfl)
           exact op_bd 46 _ rfl #[(0, .string ⟨#[120]⟩), (1, .string ⟨#[97]⟩), (2, cnV 4 (.slice none 0 0) nO twoO)] (by simp [ev_c, e25]) (.agg #[.string ⟨#[120]⟩, .string ⟨#[97]⟩, .int .i64 4, .slice none 0 0, .int .i64 2, .int .i64 0, .int .i64 0, .string ⟨#[]⟩, .string ⟨#[]⟩, .string ⟨#[110]⟩, .int .i64 1, .int .i64 2, .int .i64 0, .string ⟨#[]⟩, .string ⟨#[]⟩, .string ⟨#[]⟩, .int .i64 0, .int .i64 0]) (by kernel_rfl) ⟨_, rfl, rfl, hB, Below.refl _ _⟩
         case o7 =>
           intro a W hB hd ho
           have e21 : a.eval (.tmp 21) = .slice (some ⟨gw, 0, none⟩) n1 cw := hd 1 21 (by kernel_rfl)
           exact op_val (.pointer (some ⟨gw, 0, none⟩)) (by unfold execOp; simp only [ev_c, e21]; go_simp; intro h0; exact absurd h0 (by have := HN1.out.1; omega)) ⟨_, rfl, rfl, hB, Below.refl _ _⟩
         case hend =>
           intro vs W hB hT
           have eV : vs 6 = .agg #[.string ⟨#[120]⟩, .string ⟨#[97]⟩, .int .i64 4, .slice none 0 0, .int .i64 2, .int .i64 0, .int .i64 0, .string ⟨#[]⟩, .string ⟨#[]⟩, .string ⟨#[110]⟩, .int .i64 1, .int .i64 2, .int .i64 0, .string ⟨#[]⟩, .string ⟨#[]⟩, .string ⟨#[]⟩, .int .i64 0, .int .i64 0] := hT 6 (by decide)
           have eP : vs 7 = .pointer (some ⟨gw, 0, none⟩) := hT 7 (by decide)
           have hW8 := (hB.block _ (blk_lt HW.out)).trans HW.out
           have hU8 := (hB.block _ (blk_lt HU7.out)).trans HU7.out
           have hX8 := (hB.block _ (blk_lt HX.out)).trans HX.out
           have hF8 := fr_below HF7.out hB
           refine ⟨gw, 0, ([.string a1, .string a2, .int .i64 k1, .slice sp sn sc, .int .i64 k2, .int .i64 k3, .int .i64 k4, .string a3, .string a4, .string a5, .int .i64 k5, .int .i64 k6, .int .i64 k7, .string a6, .string a7, .string a8, .int .i64 k8, .int .i64 k9] ++ (ys ++ tl)), 46, .agg #[.string ⟨#[120]⟩, .string ⟨#[97]⟩, .int .i64 4, .slice none 0 0, .int .i64 2, .int .i64 0, .int .i64 0, .string ⟨#[]⟩, .string ⟨#[]⟩, .string ⟨#[110]⟩, .int .i64 1, .int .i64 2, .int .i64 0, .string ⟨#[]⟩, .string ⟨#[]⟩, .string ⟨#[]⟩, .int .i64 0, .int .i64 0], [.string ⟨#[120]⟩, .string ⟨#[97]⟩, .int .i64 4, .slice none 0 0, .int .i64 2, .int .i64 0, .int .i64 0, .string ⟨#[]⟩, .string ⟨#[]⟩, .string ⟨#[110]⟩, .int .i64 1, .int .i64 2, .int .i64 0, .string ⟨#[]⟩, .string ⟨#[]⟩, .string ⟨#[]⟩, .int .i64 0, .int .i64 0], Eq.trans (b := vs 7) (by kernel_rfl) eP, Eq.trans (b := vs 6) (by kernel_rfl) eV, rfl, hW8, by simp <;> omega, by kernel_rfl, rfl, ?_⟩
           intro wz hq1 hq2
           have HWz : Hid (wz.heap[gw]? = some (.cells (([.string ⟨#[120]⟩, .string ⟨#[97]⟩, .int .i64 4, .slice none 0 0, .int .i64 2, .int .i64 0, .int .i64 0, .string ⟨#[]⟩, .string ⟨#[]⟩, .string ⟨#[110]⟩, .int .i64 1, .int .i64 2, .int .i64 0, .string ⟨#[]⟩, .string ⟨#[]⟩, .string ⟨#[]⟩, .int .i64 0, .int .i64 0] : List Value) ++ (ys ++ tl)).toArray 46 (0, 0))) := hq1
           have HFz := hid (hF8.stored hq2 (.inr HGW'.out))
           have HYz := hid (blk_set hU8 hq2 (TB.ne ⟨_, hU8⟩ ⟨_, hW8⟩ (by decide)))
           have HXz := hid (blk_set hX8 hq2 (TB.ne ⟨_, hX8⟩ ⟨_, hW8⟩ (by decide)))
           clear hq1 hq2 hW8 hU8 hX8 hF8 hT hB
           simp only [putsD, Act.put, List.setIfInBounds_toArray, eV, eP]
           simp only [set_c20]
           simp only [List.set_cons_zero, List.set_cons_succ]
           clear eV eP
           generalize vs 0 = v0
           generalize vs 1 = v1
           generalize vs 2 = v2
           generalize vs 3 = v3
           generalize vs 4 = v4
           generalize vs 5 = v5
           clear vs
           go_upto_region 16 with fail
           have HKTz := HKT.out.fr HFz.out ⟨_, HU3.out⟩ (by decide)
           have HKQz := HKQ.out.fr HFz.out ⟨_, HU3.out⟩ (by decide)
           have HKYz := HKY.out.fr HFz.out ⟨_, HU3.out⟩ (by decide)
           have HKX : Hid (KT wz (b + 5) isR (encR { x with w := ⟨txt [120], txt [97], cmpC 4 nO twoO, 0, 0⟩ :: rq }) [.string xn, .slice (some ⟨gw, 0, none⟩) n1 cw, .slice p2 n2 c2, .slice p3 n3 c3, .slice p4 n4 c4, .string xe, .slice p5 n5 c5]) := fun W hW => (rdl_rl (HKTz W hW) (show Rd W (.row 46 18 ((⟨txt [120], txt [97], cmpC 4 nO twoO, 0, 0⟩ :: rq).map encP)) (.slice (some ⟨gw, 0, none⟩) n1 cw) from by rw [HNQ.out.1]; exact rd_heads (us := [.string ⟨#[120]⟩, .string ⟨#[97]⟩, .int .i64 4, .slice none 0 0, .int .i64 2, .int .i64 0, .int .i64 0, .string ⟨#[]⟩, .string ⟨#[]⟩, .string ⟨#[110]⟩, .int .i64 1, .int .i64 2, .int .i64 0, .string ⟨#[]⟩, .string ⟨#[]⟩, .string ⟨#[]⟩, .int .i64 0, .int .i64 0]) ((hW gw 46 (Nat.le_trans HN3.out HGW'.out) (by decide) ⟨_, HWz.out⟩).trans HWz.out) (.cons (.lit _) (.cons (.lit _) (rdl_app (rdc_cmp W 4 nO twoO) (rdl_lits [.int .i64 0, .int .i64 0])))) (HKYz W hW) (by have h8 := HNQ.out.1; have h9 := HCW.out.1; omega) HCW.out.2)).1
           have HRC : Hid (rck kts { x with w := ⟨txt [120], txt [97], cmpC 4 nO twoO, 0, 0⟩ :: rq } = 13) := rck_head HRX.out HWQ.out pck_var (by decide)
           have HSP : Hid (Szr { x with w := ⟨txt [120], txt [97], cmpC 4 nO twoO, 0, 0⟩ :: rq }) := szr_head HSX.out HWQ.out (wsz_cmp (by show (txt []).size ≤ maxLen; decide) (by show (txt []).size ≤ maxLen; decide))
           clear HKTz HKQz HKYz
           have HKRz := HKR.out.fr HFz.out ⟨_, HU3.out⟩ (by decide)
           have HPz : Hid (KT wz (b + 5) isR (encR { x with w := ⟨txt [120], txt [97], cmpC 4 nO twoO, 0, 0⟩ :: rq } ++ (r.map encR).flatten) ([.string xn, .slice (some ⟨gw, 0, none⟩) n1 cw, .slice p2 n2 c2, .slice p3 n3 c3, .slice p4 n4 c4, .string xe, .slice p5 n5 c5] ++ ur)) := HKX.out.app HKRz
           have HBO : Hid (bok kts ({ x with w := ⟨txt [120], txt [97], cmpC 4 nO twoO, 0, 0⟩ :: rq } :: r) = 13) := bok_first HRC.out (by decide) HRL.out
           have HSZ : Hid (∀ y, y ∈ { x with w := ⟨txt [120], txt [97], cmpC 4 nO twoO, 0, 0⟩ :: rq } :: r → Szr y) := fun y hy => by
             rcases List.mem_cons.1 hy with rfl | hy
             . exact HSP.out
             . exact szr_bk l y (by rw [HBKC.out]; exact List.mem_cons_of_mem _ hy)
           have HG7z : Hid (wz.rangeAt g 7 ur) := HRG7.out wz (HFz.out.block g HGB.out.lt (TB.ne HGB.out ⟨_, HU3.out⟩ (by decide)))
           have HGLz : Hid (g < wz.heap.size) := Nat.lt_of_lt_of_le HGB.out.lt HFz.out.size
           have HNz : Hid (b + 5 ≤ wz.heap.size) := Nat.le_trans HN3.out HFz.out.size
           have HTYz : Hid (Tys wz b) := HTY3.out.later (fun i o hi _ hb2 => (HFz.out.block i (blk_lt hi) (by have := HBb.out; show i ≠ bx; omega)).trans hi)
           have HBz : Hid (Below w.heap.size w wz) := below_fr HB3.out HFz.out HBX.out
           have hR1 : (1 : Int) ≤ (R : Int) := by have := HRR.out; omega
           clear HKRz y1
           refine wp_region_two (by kernel_rfl) (fun i w9 v => ([(fun w9 v => v = .agg #[.string xn, .slice (some ⟨gw, 0, none⟩) n1 cw, .slice p2 n2 c2, .slice p3 n3 c3, .slice p4 n4 c4, .string xe, .slice p5 n5 c5]), (fun w9 v => ∃ (b9 : Nat), v = .slice (some ⟨b9, 0, none⟩) 1 1 ∧ w9.heap[b9]? = some (.cells #[.string xn, .slice (some ⟨gw, 0, none⟩) n1 cw, .slice p2 n2 c2, .slice p3 n3 c3, .slice p4 n4 c4, .string xe, .slice p5 n5 c5] 35 (0, 0)) ∧ wz.heap.size ≤ b9), (fun w9 v => v = .pointer (some ⟨bx, 1, none⟩)), (fun w9 v => v = .slice (some ⟨g, 0, none⟩) R rc), (fun w9 v => v = .slice (if rc = 1 then some ⟨g, 0, none⟩ else some ⟨g, 7, none⟩) (R - 1) (rc - 1)), (fun w9 v => True), (fun w9 v => v = .pointer (some ⟨bx, 1, none⟩))] : List (World → Value → Prop)).getD i (fun _ _ => True) w9 v) (fun W => Below wz.heap.size wz W) 5 7 (fun w9 v => ∃ (p' : Option Addr) (c' : Nat) (Wp : World) (b9 : Nat), v = .slice p' (R - 1 + 1) c' ∧ Below wz.heap.size wz Wp ∧ Wp.grownBy w9 (some b9) ∧ wz.heap.size ≤ b9 ∧ RwT w9 (b + 5) isR 35 7 (.slice p' (R - 1 + 1) c') (encR { x with w := ⟨txt [120], txt [97], cmpC 4 nO twoO, 0, 0⟩ :: rq } :: (r.map encR))) 65 rfl rfl (by decide) [some 54, some 55, some 56, some 57, some 58, some 59, some 60] (by kernel_rfl) 24 (.tmp 60) (.tmp 59) (by rfl) (by rfl) (by kernel_rfl) (by kernel_rfl) (by kernel_rfl) (fun W W' => Below W.heap.size W W') ?hmon ?hpi (Below.drew (Below.refl _ _)) (AllOps.cons ?o0 (AllOps.cons ?o1 (AllOps.cons ?o2 (AllOps.cons ?o3 (AllOps.cons ?o4 (AllOps.cons ?o5 (AllOps.cons ?o6 (AllOps.cons ?o7 AllOps.nil)))))))) ?hS ?hend
           case hmon =>
             intro q W W' v hb h
             rcases q with _ | _ | _ | _ | _ | _ | _ | q
             . exact h
             . obtain ⟨b9, e, h1, h2⟩ := h; exact ⟨b9, e, (hb.block _ (blk_lt h1)).trans h1, h2⟩
             . exact h
             . exact h
             . exact h
             . exact h
             . exact h
             . exact h
           case hpi =>
             intro q W W' v hq h
             rcases q with _ | _ | _ | _ | _ | _ | _ | _ | q
             . exact absurd hq (by decide)
             . exact absurd hq (by decide)
             . exact absurd hq (by decide)
             . exact absurd hq (by decide)
             . exact absurd hq (by decide)
             . exact absurd hq (by decide)
             . exact h
             . exact h
             . exact h
           case o0 =>
             intro _ _ a W hB hd ho
             replace hB := hB (by decide)
             have e6 : a.eval (.tmp 6) = .pointer (some ⟨by_, 0, none⟩) := ho 6 (by kernel_rfl)
             exact op_ld 35 _ rfl by_ 0 e6 [.string xn, .slice (some ⟨gw, 0, none⟩) n1 cw, .slice p2 n2 c2, .slice p3 n3 c3, .slice p4 n4 c4, .string xe, .slice p5 n5 c5] _ (range_blk ((hB.block _ (blk_lt HYz.out)).trans HYz.out)) Tryd.underlying35 rfl (by kernel_rfl) ⟨_, rfl, rfl, fun _ => hB, fun _ => Below.refl _ _, fun _ => rfl⟩
           case o1 =>
             intro _ _ a W hB hd ho
             replace hB := hB (by decide)
             have e54 : a.eval (.tmp 54) = .agg #[.string xn, .slice (some ⟨gw, 0, none⟩) n1 cw, .slice p2 n2 c2, .slice p3 n3 c3, .slice p4 n4 c4, .string xe, .slice p5 n5 c5] := hd 0 54 (by kernel_rfl) (by decide)
             have hal : Below W.heap.size W (W.alloc (.cells #[.string xn, .slice (some ⟨gw, 0, none⟩) n1 cw, .slice p2 n2 c2, .slice p3 n3 c3, .slice p4 n4 c4, .string xe, .slice p5 n5 c5] 35)) := (Below.refl _ _).alloc (Nat.le_refl _) _
             refine op_bs 24 1 _ rfl #[(0, .agg #[.string xn, .slice (some ⟨gw, 0, none⟩) n1 cw, .slice p2 n2 c2, .slice p3 n3 c3, .slice p4 n4 c4, .string xe, .slice p5 n5 c5])] (by simp [ev_c, e54]) (.slice (some ⟨W.heap.size, 0, none⟩) 1 1) (W.alloc (.cells #[.string xn, .slice (some ⟨gw, 0, none⟩) n1 cw, .slice p2 n2 c2, .slice p3 n3 c3, .slice p4 n4 c4, .string xe, .slice p5 n5 c5] 35)) (by kernel_rfl) ⟨_, rfl, ⟨W.heap.size, rfl, heap_alloc_new _ _, hB.size⟩, fun _ => below_trans hB hal hB.size, fun _ => hal, fun h9 => absurd h9 (by decide)⟩
           case o2 =>
             intro _ _ a W hB hd ho
             replace hB := hB (by decide)
             have e5 : a.eval (.tmp 5) = .pointer (some ⟨bx, 0, none⟩) := ho 5 (by kernel_rfl)
             exact op_val (.pointer (some ⟨bx, 1, none⟩)) (by unfold execOp; simp only [ev_c, e5]; go_simp) ⟨_, rfl, rfl, fun _ => hB, fun _ => Below.refl _ _, fun _ => rfl⟩
           case o3 =>
             intro _ _ a W hB hd ho
             replace hB := hB (by decide)
             have e56 : a.eval (.tmp 56) = .pointer (some ⟨bx, 1, none⟩) := hd 2 56 (by kernel_rfl) (by decide)
             have c9 : W.cell? ⟨bx, 1, none⟩ = some (.slice (some ⟨g, 0, none⟩) R rc) := by
               rw [cell_of_blk ((hB.block _ (blk_lt HXz.out)).trans HXz.out)]
               rfl
             exact op_val (.slice (some ⟨g, 0, none⟩) R rc) (by unfold execOp; simp only [ev_c, e56]; go_simp) ⟨_, rfl, rfl, fun _ => hB, fun _ => Below.refl _ _, fun _ => rfl⟩
           case o4 =>
             intro _ _ a W hB hd ho
             replace hB := hB (by decide)
             have e57 : a.eval (.tmp 57) = .slice (some ⟨g, 0, none⟩) R rc := hd 3 57 (by kernel_rfl) (by decide)
             exact op_val (.slice (if rc = 1 then some ⟨g, 0, none⟩ else some ⟨g, 7, none⟩) (R - 1) (rc - 1)) (by unfold execOp; simp only [ev_c, List.map_toArray, List.map_cons, List.map_nil, Option.map_some, Option.map_none, e57]; go_simp) ⟨_, rfl, rfl, fun _ => hB, fun _ => Below.refl _ _, fun _ => rfl⟩
           case o5 =>
             intro h9; exact absurd rfl h9
           case o6 =>
             intro _ _ a W hB hd ho
             have e5 : a.eval (.tmp 5) = .pointer (some ⟨bx, 0, none⟩) := ho 5 (by kernel_rfl)
             exact op_val (.pointer (some ⟨bx, 1, none⟩)) (by unfold execOp; simp only [ev_c, e5]; go_simp) ⟨_, rfl, rfl, fun h9 => absurd h9 (by decide), fun h9 => absurd h9 (by decide), fun _ => rfl⟩
           case o7 =>
             intro _ h9; exact absurd rfl h9
           case hS =>
             intro a W vs hB hT hd hout
             have e4 : vs 4 = .slice (if rc = 1 then some ⟨g, 0, none⟩ else some ⟨g, 7, none⟩) (R - 1) (rc - 1) := hT 4 (by decide)
             obtain ⟨b9, e1, h9, h9b⟩ : ∃ (b9 : Nat), vs 1 = .slice (some ⟨b9, 0, none⟩) 1 1 ∧ W.heap[b9]? = some (.cells #[.string xn, .slice (some ⟨gw, 0, none⟩) n1 cw, .slice p2 n2 c2, .slice p3 n3 c3, .slice p4 n4 c4, .string xe, .slice p5 n5 c5] 35 (0, 0)) ∧ wz.heap.size ≤ b9 := hT 1 (by decide)
             obtain ⟨o9, e5, hr9⟩ : ∃ o9, (if rc = 1 then (some ⟨g, 0, none⟩ : Option Addr) else some ⟨g, 7, none⟩) = some ⟨g, o9, none⟩ ∧ W.rangeAt g o9 ur := by
               by_cases h1 : rc = 1
               . refine ⟨0, by rw [if_pos h1], fun j u hj => ?_⟩
                 have h2 : ur = [] := List.eq_nil_of_length_eq_zero (by have := HUR.out.1; have := HUR.out.2.2.1; omega)
                 rw [h2] at hj
                 simp at hj
               . exact ⟨7, by rw [if_neg h1], range_same HG7z.out (hB.block g HGLz.out)⟩
             rw [e5] at e4
             refine op_appR _ _ 24 rfl (b + 5) isR 35 7 152 ir _ Tryd.underlying24 HIR.out.1 HIR.out.2.1 HIR.out.2.2.1 HIR.out.2.2.2 rfl (by omega) (by decide) b9 [.string xn, .slice (some ⟨gw, 0, none⟩) n1 cw, .slice p2 n2 c2, .slice p3 n3 c3, .slice p4 n4 c4, .string xe, .slice p5 n5 c5] ((hd 1 55 (by kernel_rfl)).trans e1) h9 (by rfl) (Nat.le_trans HNz.out h9b) g o9 (R - 1) (rc - 1) ur ((hd 4 58 (by kernel_rfl)).trans e4) hr9 (by have := HUR.out.1; have := HUR.out.2.2.2; rw [this, HUR.out.1]; simp) HUR.out.2.1 (encR { x with w := ⟨txt [120], txt [97], cmpC 4 nO twoO, 0, 0⟩ :: rq }) (r.map encR) (by rw [List.length_map]; have := HUR.out.2.2.2; omega) (HPz.out.below hB) (by decide) (by have := HUR.out.2.2.2; have := HRL.out; omega) ?_
             intro p' c' W' k1 k2
             exact ⟨_, rfl, p', c', W, b9, rfl, hB, k2, h9b, k1⟩
           case hend =>
             intro vs W hB2 hT
             obtain ⟨p', c', Wp, b9, e5, k1, k2, h9b, k4⟩ := hB2
             have e6 : vs 6 = .pointer (some ⟨bx, 1, none⟩) := hT 6 (by decide) (by decide)
             have hXp := (k1.block _ (blk_lt HXz.out)).trans HXz.out
             have hX7 := (k2.block _ (blk_lt hXp) (fun e9 => by have h8 := blk_lt HXz.out; simp only [Option.some.injEq] at e9; omega)).trans hXp
             have hB7 : Below w.heap.size w W := (below_trans HBz.out k1 HBz.out.size).grown k2 (below_trans HBz.out k1 HBz.out.size).size (fun i hi => by simp only [Option.some.injEq] at hi; have := HBz.out.size; omega)
             have hTYp : Tys Wp b := HTYz.out.later (fun i o hi _ _ => (k1.block _ (blk_lt hi)).trans hi)
             have hTY7 : Tys W b := hTYp.later (fun i o hi _ hb2 => (k2.block _ (blk_lt hi) (fun e9 => by simp only [Option.some.injEq] at e9; have := HNz.out; omega)).trans hi)
             refine ⟨bx, 1, [.slice (some ⟨b + 4, 0, none⟩) 5 5, .slice (some ⟨g, 0, none⟩) R rc], 26, .slice p' (R - 1 + 1) c', [.slice p' (R - 1 + 1) c'], Eq.trans (b := vs 6) (by kernel_rfl) e6, Eq.trans (b := vs 5) (by kernel_rfl) e5, rfl, hX7, by simp, by kernel_rfl, rfl, ?_⟩
             intro w8 hq1 hq2
             have HU8 := hid hq1
             have HB8 : Hid (Below w.heap.size w w8) := below_fr hB7 hq2 HBX.out
             have HTY8 : Hid (Tys w8 b) := hTY7.later (fun i o hi _ hb2 => (hq2.block _ (blk_lt hi) (by have := HBb.out; show i ≠ bx; omega)).trans hi)
             have HR8 := hid (k4.set hq2 ⟨_, hX7⟩ (by decide) (by decide))
             have c0 : w8.cell? ⟨bx, 0, none⟩ = some (.slice (some ⟨b + 4, 0, none⟩) 5 5) := (by rw [cell_of_blk HU8.out]; rfl)
             have c1' : w8.cell? ⟨bx, 1, none⟩ = some (.slice p' (R - 1 + 1) c') := (by rw [cell_of_blk HU8.out]; rfl)
             clear hq1 hq2 k1 k2 k4 hT hXp hX7 hB7 hTYp hTY7
             simp only [putsD, Act.put, List.setIfInBounds_toArray, e5, e6]
             simp only [set_c20]
             simp only [List.set_cons_zero, List.set_cons_succ]
             clear e5 e6
             generalize vs 0 = v0
             generalize vs 1 = v1
             generalize vs 2 = v2
             generalize vs 3 = v3
             generalize vs 4 = v4
             clear vs
             go_wp2_with fail
             refine (HCK.out ({ x with w := ⟨txt [120], txt [97], cmpC 4 nO twoO, 0, 0⟩ :: rq } :: r) HSZ.out _ _ w8 HB8.out HTY8.out.rd HR8.out.rd).mono ?_
             rintro e w9 ⟨rfl, hb9⟩
             rw [HBO.out]
             have HB9 := hid (below_trans HB8.out hb9 HB8.out.size)
             clear hb9 c0 c1'
             go_wp2_with fail
             go_ret
             exact ⟨ret_bool (by simp), HB9.out⟩
end Go.Proofs.YtdihklfaiiclgaaDoor.Chk
