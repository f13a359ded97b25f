/-
  What is looked at of a tuple: whether it is fired. What is looked at of a tuple: whether it is fired, where there is no not and no many names a field. Events as they came. Whether a tuple is fired: what is asked ahead of it. Matrices in plain words, and what they are in memory. Rows that a call builds by append; a copy of a matrix, and a free one, by the reference. A copy of a matrix, by the reference. A free matrix, by the program. The closure that tells what one point less another is at most. What an upright relation says of the points. Upright relations, and what lies apart. What an option tells. Options that may be, and what each of them tells. Least ways in plain words: what is reckoned in place is what is reckoned at once; two rounds of the reference are enough. Two rounds of the reference are enough; what it finds. What matrices may be: by the program and by the reference. What matrices may be, by the reference; rows that are the same. Two matrices joined, bound by bound. Close, by the program and by the reference. The reference's rounds. Close, by the program. Close and Closed, whole. Options: the program. The bounds of options lie within 2^31 of 0, in plain words. Free matrices, by the program and by the reference. The reference: a point lies ahead of another one. The reference's bounds of an option. The reference's bounds of an option. The reference's bounds of an option. Two matrices joined, bound by bound.
-/
import Derived.BigQuiet
import Derived.Test.YtnlmknbhppdliaaGreatDoorRows
import Derived.Handy
import Derived.WalkSmall
import Derived.Deep.QuietTactic
import Derived.Deep.RegionHeld3
import Derived.Deep.AppendLies
import Derived.Deep.RegionLaw
import Derived.Deep.LoopGhost
import Derived.Deep.OwnRows
import Derived.OwnWalk
import Derived.Maps.OwnSet
import Derived.Maps.AppendAt
import Derived.Laws.OwnMore
import Derived.BigRegion
import Derived.Deep.MidRow
import Derived.Lib.LazyBuf
import Derived.Test.YtnlmknbhppdliaaGreatDoorXm
import Derived.Test.YtnlmknbhppdliaaGreatDoorRa
import Derived.Test.YtnlmknbhppdliaaGreatDoorV4K
import Derived.Test.YtnlmknbhppdliaaGreatDoorDt
set_option maxHeartbeats 64000000
namespace Go.Proofs.YtnlmknbhppdliaaGreatDoor.Chk
open Go.ChangeShapes Go.WideShapes Go.ChangeAt Go.RowKit Go.Maps
set_option linter.unusedVariables false
set_option linter.unusedSimpArgs false
set_option maxRecDepth 20000
theorem ent_sum : ∀ args w, (callFunc 108 args).run Tryz.prog w = .ok (.enter 108 args) w := enters_of Tryz.func108 (by kernel_rfl) rfl
theorem zER (mn : Mn) (en_ s : Int) (rn rt : ByteArray) (tp : Option Addr) (tn tc : Nat) (a1 : Option Addr) (a2 a3 : Nat) (b1 : Option Addr) (b2 b3 : Nat) (d1 : Option Addr) (d2 d3 : Nat) (f1 : Option Addr) (f2 f3 : Nat) (g1 : Option Addr) (g2 g3 : Nat) (kp : Option Addr) (kn2 kc : Nat) (lp : Option Addr) (ln lc : Nat) (bC bN bL : Nat) (A : List Value) (w : World) (hA : RdL w (encM mn) A) (hC : w.heap[bC]? = some (.cells #[.slice tp tn tc, .string rn, .slice a1 a2 a3, .slice b1 b2 b3, .slice d1 d2 d3, .slice f1 f2 f3, .string rt, .slice g1 g2 g3, .slice kp kn2 kc] 114 (0, 0))) (hN : w.heap[bN]? = some (.cells #[.int .i64 en_] 3 (0, 0))) (hL : w.heap[bL]? = some (.cells #[.slice lp ln lc] 82 (0, 0)))
  (hsm : ∀ W, Below w.heap.size w W → Calls Tryz.prog 108 #[.agg #[.slice tp tn tc, .string rn, .slice a1 a2 a3, .slice b1 b2 b3, .slice d1 d2 d3, .slice f1 f2 f3, .string rt, .slice g1 g2 g3, .slice kp kn2 kc], .agg A.toArray, .int .i64 en_, .slice lp ln lc] W fun e w' => e = .returned (.int .i64 s) ∧ Below W.heap.size W w') :
  Calls Tryz.prog 107 #[.agg A.toArray, .pointer (some ⟨bC, 0, none⟩), .pointer (some ⟨bN, 0, none⟩), .pointer (some ⟨bL, 0, none⟩)] w fun e w' => e = .returned (.bool (decide (s < mn.c))) ∧ Below w.heap.size w w' := by
 have o1' : RdL w (encP mn.p) (A.drop 2) := RdL.drop 2 hA
 obtain ⟨vc', zz, o2⟩ := rdP o1'
 obtain ⟨up, un, uc, hu⟩ := zAB o2
 rw [hu] at zz
 obtain ⟨u0, r0, hAa, hu0, o3⟩ := RdL.one hA
 obtain ⟨u1, r2, hA1, hu1, o4⟩ := RdL.one o3
 have hd2 : r2 = A.drop 2 := by rw [hAa, hA1]; rfl
 have z1 : A = .int .i64 mn.c :: .string mn.f :: ptC mn.p.va mn.p.ty mn.p.c.k (.slice up un uc) mn.p.c.l mn.p.c.r mn.p.w mn.p.n := by
  rw [hAa, hA1, hd2, zz, zAI hu0, zAI hu1]
 obtain ⟨mc, hmc⟩ : ∃ z, mn.c = z := ⟨_, rfl⟩
 obtain ⟨mf, hmf⟩ : ∃ z, mn.f = z := ⟨_, rfl⟩
 obtain ⟨va, hva⟩ : ∃ z, mn.p.va = z := ⟨_, rfl⟩
 obtain ⟨ty, hty⟩ : ∃ z, mn.p.ty = z := ⟨_, rfl⟩
 obtain ⟨ck, hck⟩ : ∃ z, mn.p.c.k = z := ⟨_, rfl⟩
 obtain ⟨ol, hol⟩ : ∃ z, mn.p.c.l = z := ⟨_, rfl⟩
 obtain ⟨or_, hor_⟩ : ∃ z, mn.p.c.r = z := ⟨_, rfl⟩
 obtain ⟨pw, hpw⟩ : ∃ z, mn.p.w = z := ⟨_, rfl⟩
 obtain ⟨pn, hpn⟩ : ∃ z, mn.p.n = z := ⟨_, rfl⟩
 rw [hmc, hmf, hva, hty, hck, hol, hor_, hpw, hpn] at z1
 rw [hmc]
 subst z1
 obtain ⟨VC, hVC⟩ : ∃ v, Value.agg #[.slice tp tn tc, .string rn, .slice a1 a2 a3, .slice b1 b2 b3, .slice d1 d2 d3, .slice f1 f2 f3, .string rt, .slice g1 g2 g3, .slice kp kn2 kc] = v := ⟨_, rfl⟩
 obtain ⟨VM, hVM⟩ : ∃ v, Value.agg (.int .i64 mc :: .string mf :: ptC va ty ck (.slice up un uc) ol or_ pw pn).toArray = v := ⟨_, rfl⟩
 have HVC := hid hVC
 have HVM := hid hVM
 have HSM := hid (fun W hW => by have h9 := hsm W hW; rw [hVC, hVM] at h9; exact h9)
 obtain ⟨W0, hW0⟩ : ∃ W, w.alloc (.cells (.int .i64 mc :: .string mf :: ptC va ty ck (.slice up un uc) ol or_ pw pn).toArray 78) = W := ⟨_, rfl⟩
 have hA0 : Below w.heap.size w W0 := by rw [← hW0]; exact (Below.refl _ _).alloc (Nat.le_refl _) _
 have HM : Hid (W0.heap[w.heap.size]? = some (.cells (.int .i64 mc :: .string mf :: ptC va ty ck (.slice up un uc) ol or_ pw pn).toArray 78 (0, 0))) := by rw [← hW0]; exact heap_alloc_new _ _
 have HW0 := hid hA0
 have HC := hid ((hA0.block _ (zAH hC)).trans hC)
 have HN := hid ((hA0.block _ (zAH hN)).trans hN)
 have HL := hid ((hA0.block _ (zAH hL)).trans hL)
 clear hmc hmf hva hty hck hol hor_ hpw hpn o1' zz o2 hu hAa hu0 o3 hA1 hu1 o4 hd2 hA hC hN hL hsm hA0 hVC hVM
 go_enter Tryz.func107, Tryz.ntmps107
 go_upto_region 1 with fail
 clear hW0
 refine zEA (by kernel_rfl) (fun i9 w9 v => ([(fun w9 v => v = VC), (fun w9 v => v = VM), (fun w9 v => v = .int .i64 en_), (fun w9 v => v = .slice lp ln lc), (fun w9 v => v = .int .i64 s), (fun w9 v => v = .pointer (some ⟨w.heap.size, 0, none⟩)), (fun w9 v => v = .int .i64 mc), (fun w9 v => v = .bool (decide (s < mc))), (fun w9 v => v = .bool (decide (s < mc)))] : List (World → Value → Prop)).getD i9 (fun _ _ => True) w9 v) (fun W => Below W0.heap.size W0 W) 14 rfl (by kernel_rfl) (fun W W' => Below W.heap.size W W') ?hmon (Below.drew (Below.refl _ _)) (zAL.cons ?o0 (zAL.cons ?o1 (zAL.cons ?o2 (zAL.cons ?o3 (zAL.cons ?o4 (zAL.cons ?o5 (zAL.cons ?o6 (zAL.cons ?o7 (zAL.cons ?o8 zAL.nil))))))))) ?hend
 case hmon =>
  intro q W W' v hb h
  rcases q with _ | _ | _ | _ | _ | _ | _ | _ | _ | q
  . exact h
  . exact h
  . exact h
  . exact h
  . exact h
  . exact h
  . exact h
  . exact h
  . exact h
  . exact h
 case o0 =>
  intro a W hB hd ho
  have e1 : a.eval (.tmp 1) = .pointer (some ⟨bC, 0, none⟩) := ho 1 (by kernel_rfl)
  exact op_ld 114 _ rfl bC 0 e1 [.slice tp tn tc, .string rn, .slice a1 a2 a3, .slice b1 b2 b3, .slice d1 d2 d3, .slice f1 f2 f3, .string rt, .slice g1 g2 g3, .slice kp kn2 kc] _ (zAE ((hB.block _ (zAH HC.out)).trans HC.out)) Tryz.underlying114 rfl (by kernel_rfl) ⟨_, rfl, HVC.out, hB, Below.refl _ _⟩
 case o1 =>
  intro a W hB hd ho
  have e4 : a.eval (.tmp 4) = .pointer (some ⟨w.heap.size, 0, none⟩) := ho 4 (by kernel_rfl)
  exact op_ld 78 _ rfl w.heap.size 0 e4 (.int .i64 mc :: .string mf :: ptC va ty ck (.slice up un uc) ol or_ pw pn) _ (zAE ((hB.block _ (zAH HM.out)).trans HM.out)) Tryz.underlying78 rfl (by kernel_rfl) ⟨_, rfl, HVM.out, hB, Below.refl _ _⟩
 case o2 =>
  intro a W hB hd ho
  have e2 : a.eval (.tmp 2) = .pointer (some ⟨bN, 0, none⟩) := ho 2 (by kernel_rfl)
  have c9 : W.cell? ⟨bN, 0, none⟩ = some (.int .i64 en_) := by
    rw [zAC ((hB.block _ (zAH HN.out)).trans HN.out)]
    rfl
  exact zAY (.int .i64 en_) (by unfold execOp; simp only [ev_c, e2]; go_simp) ⟨_, rfl, rfl, hB, Below.refl _ _⟩
 case o3 =>
  intro a W hB hd ho
  have e3 : a.eval (.tmp 3) = .pointer (some ⟨bL, 0, none⟩) := ho 3 (by kernel_rfl)
  have c9 : W.cell? ⟨bL, 0, none⟩ = some (.slice lp ln lc) := by
    rw [zAC ((hB.block _ (zAH HL.out)).trans HL.out)]
    rfl
  exact zAY (.slice lp ln lc) (by unfold execOp; simp only [ev_c, e3]; go_simp) ⟨_, rfl, rfl, hB, Below.refl _ _⟩
 case o4 =>
  intro a W hB hd ho
  have e6 : a.eval (.tmp 6) = VC := hd 0 6 (by kernel_rfl)
  have e7 : a.eval (.tmp 7) = VM := hd 1 7 (by kernel_rfl)
  have e8 : a.eval (.tmp 8) = .int .i64 en_ := hd 2 8 (by kernel_rfl)
  have e9 : a.eval (.tmp 9) = .slice lp ln lc := hd 3 9 (by kernel_rfl)
  refine op_cl 108 ent_sum _ _ rfl #[VC, VM, .int .i64 en_, .slice lp ln lc] (by simp [ev_c, e6, e7, e8, e9]) _ (HSM.out W (zAA HW0.out hB HW0.out.size)) ?_
  rintro e W' ⟨rfl, hb⟩
  exact ⟨_, rfl, _, rfl, rfl, zAA hB hb hB.size, hb⟩
 case o5 =>
  intro a W hB hd ho
  have e4 : a.eval (.tmp 4) = .pointer (some ⟨w.heap.size, 0, none⟩) := ho 4 (by kernel_rfl)
  exact zAY (.pointer (some ⟨w.heap.size, 0, none⟩)) (by unfold execOp; simp only [ev_c, e4]; go_simp) ⟨_, rfl, rfl, hB, Below.refl _ _⟩
 case o6 =>
  intro a W hB hd ho
  have e11 : a.eval (.tmp 11) = .pointer (some ⟨w.heap.size, 0, none⟩) := hd 5 11 (by kernel_rfl)
  have c9 : W.cell? ⟨w.heap.size, 0, none⟩ = some (.int .i64 mc) := by
    rw [zAC ((hB.block _ (zAH HM.out)).trans HM.out)]
    rfl
  exact zAY (.int .i64 mc) (by unfold execOp; simp only [ev_c, e11]; go_simp) ⟨_, rfl, rfl, hB, Below.refl _ _⟩
 case o7 =>
  intro a W hB hd ho
  have e10 : a.eval (.tmp 10) = .int .i64 s := hd 4 10 (by kernel_rfl)
  have e12 : a.eval (.tmp 12) = .int .i64 mc := hd 6 12 (by kernel_rfl)
  exact zAY (.bool (decide (s < mc))) (by unfold execOp; simp only [ev_c, e10, e12]; go_simp) ⟨_, rfl, rfl, hB, Below.refl _ _⟩
 case o8 =>
  intro a W hB hd ho
  have e13 : a.eval (.tmp 13) = .bool (decide (s < mc)) := hd 7 13 (by kernel_rfl)
  exact op_mv _ (by simp) _ e13 ⟨_, rfl, rfl, hB, Below.refl _ _⟩
 case hend =>
  intro vs W hB hT
  have e0 : vs 0 = VC := hT 0 (by decide)
  have e1 : vs 1 = VM := hT 1 (by decide)
  have e2 : vs 2 = .int .i64 en_ := hT 2 (by decide)
  have e3 : vs 3 = .slice lp ln lc := hT 3 (by decide)
  have e4 : vs 4 = .int .i64 s := hT 4 (by decide)
  have e5 : vs 5 = .pointer (some ⟨w.heap.size, 0, none⟩) := hT 5 (by decide)
  have e6 : vs 6 = .int .i64 mc := hT 6 (by decide)
  have e7 : vs 7 = .bool (decide (s < mc)) := hT 7 (by decide)
  have e8 : vs 8 = .bool (decide (s < mc)) := hT 8 (by decide)
  simp only [List.toList_toArray, fill, if_true, Act.put, List.setIfInBounds_toArray, List.set_cons_zero, List.set_cons_succ, e0, e1, e2, e3, e4, e5, e6, e7, e8]
  have HBW := hid (zAA HW0.out hB HW0.out.size)
  clear hB hT e0 e1 e2 e3 e4 e5 e6 e7 e8
  clear vs
  go_wp2_with fail
  go_ret
  exact ⟨rfl, HBW.out⟩
def few (ts : List Tp) (ws : List Pt) (kn l : List Ev) (wg : Mn → Ev → Int) (m : Mn) : Bool := decide (smK (fun x => wth (ledK kn kn.length) m.p.n x && tkb ts ws x kn m.p) (wg m) l l.length < m.c)
structure Cnd (w : World) (ts : List Tp) (ws : List Pt) (kn l : List Ev) (ms : List Mn) (wg : Mn → Ev → Int) (tv wv kv mv lv : Value) : Prop where
  hd : Dst ts
  hk : ∀ x, x ∈ l → Sok ts ws x kn
  hp : ∀ m, m ∈ ms → Pok ts ws m.p
  hw : ∀ m, m ∈ ms → Wsz m.p.c
  rt : Rd w (.row 59 2 (ts.map encY)) tv
  rw : Rd w (.row 48 18 (ws.map encP)) wv
  rk : Rd w (.row 35 5 (kn.map encX)) kv
  rm : Rd w (.row 78 20 (ms.map encM)) mv
  rl : Rd w (.row 35 5 (l.map encX)) lv
  len : l.length ≤ 120
  en : ∀ x, x ∈ l → 0 ≤ x.en ∧ x.en ≤ 1099511627776
  ek : ∀ x, x ∈ kn → 0 ≤ x.en ∧ x.en ≤ 1099511627776
  wt : ∀ m, m ∈ ms → ∀ x, x ∈ l → -1125899906842624 ≤ wg m x ∧ wg m x ≤ 1125899906842624
theorem Cnd.later {w W : World} {ts : List Tp} {ws : List Pt} {kn l : List Ev} {ms : List Mn} {wg : Mn → Ev → Int} {tv wv kv mv lv : Value} (h : Cnd w ts ws kn l ms wg tv wv kv mv lv) (hb : Below w.heap.size w W) : Cnd W ts ws kn l ms wg tv wv kv mv lv :=
  ⟨h.hd, h.hk, h.hp, h.hw, h.rt.later hb, h.rw.later hb, h.rk.later hb, h.rm.later hb, h.rl.later hb, h.len, h.en, h.ek, h.wt⟩
theorem zDE (ts : List Tp) (ws : List Pt) (kn l : List Ev) (ms : List Mn) (wg : Mn → Ev → Int) (rn rt : ByteArray) (tp : Option Addr) (tn tc : Nat) (a1 : Option Addr) (a2 a3 : Nat) (b1 : Option Addr) (b2 b3 : Nat) (d1 : Option Addr) (d2 d3 : Nat) (f1 : Option Addr) (f2 f3 : Nat) (g1 : Option Addr) (g2 g3 : Nat) (kp : Option Addr) (kn2 kc : Nat) (lp : Option Addr) (ln lc : Nat) (w : World) (hc : Cnd w ts ws kn l ms wg (.slice tp tn tc) (.slice a1 a2 a3) (.slice kp kn2 kc) (.slice d1 d2 d3) (.slice lp ln lc))
  (hwg : ∀ m, m ∈ ms → ∀ x, x ∈ l → tkb ts ws x kn m.p = true → ∀ (M : List Value) W ov, Below w.heap.size w W → RdL W (encM m) M → Rd W (.row 42 3 (x.v.map encV)) ov → Calls Tryz.prog 143 #[.agg #[.slice tp tn tc, .string rn, .slice a1 a2 a3, .slice b1 b2 b3, .slice d1 d2 d3, .slice f1 f2 f3, .string rt, .slice g1 g2 g3, .slice kp kn2 kc], .agg M.toArray, evV x ov] W fun e w' => e = .returned (.int .i64 (wg m x)) ∧ Below W.heap.size W w') :
  Calls Tryz.prog 65 #[.agg #[.slice tp tn tc, .string rn, .slice a1 a2 a3, .slice b1 b2 b3, .slice d1 d2 d3, .slice f1 f2 f3, .string rt, .slice g1 g2 g3, .slice kp kn2 kc], .slice lp ln lc] w fun e w' => e = .returned (.bool (!(ms.any (few ts ws kn l wg)))) ∧ Below w.heap.size w w' := by
 obtain ⟨W0, hW0⟩ : ∃ W, (w.alloc (.cells #[.slice tp tn tc, .string rn, .slice a1 a2 a3, .slice b1 b2 b3, .slice d1 d2 d3, .slice f1 f2 f3, .string rt, .slice g1 g2 g3, .slice kp kn2 kc] 114)).alloc (.cells #[.slice lp ln lc] 82) = W := ⟨_, rfl⟩
 have hbx := bxs2 w [.slice tp tn tc, .string rn, .slice a1 a2 a3, .slice b1 b2 b3, .slice d1 d2 d3, .slice f1 f2 f3, .string rt, .slice g1 g2 g3, .slice kp kn2 kc] [.slice lp ln lc] 114 82
 rw [hW0] at hbx
 have HB0 := hid hbx.bel
 have HC0 : Hid (W0.heap[w.heap.size]? = some (.cells #[.slice tp tn tc, .string rn, .slice a1 a2 a3, .slice b1 b2 b3, .slice d1 d2 d3, .slice f1 f2 f3, .string rt, .slice g1 g2 g3, .slice kp kn2 kc] 114 (0, 0))) := hbx.b 0 (by simp)
 have HL0 : Hid (W0.heap[w.heap.size + 1]? = some (.cells #[.slice lp ln lc] 82 (0, 0))) := hbx.b 1 (by simp)
 have HLE := hid (zDB kn rn rt tp tn tc a1 a2 a3 b1 b2 b3 d1 d2 d3 f1 f2 f3 g1 g2 g3 kp kn2 kc W0 (hc.rk.later hbx.bel))
 have hin := zG5 kn hc.ek kn.length (Nat.le_refl _)
 have HAll := hid (fun (bC bN bL : Nat) (W : World) (hb : Below w.heap.size w W) (hC : W.heap[bC]? = some (.cells #[.slice tp tn tc, .string rn, .slice a1 a2 a3, .slice b1 b2 b3, .slice d1 d2 d3, .slice f1 f2 f3, .string rt, .slice g1 g2 g3, .slice kp kn2 kc] 114 (0, 0))) (hN : W.heap[bN]? = some (.cells #[.int .i64 (ledK kn kn.length)] 3 (0, 0))) (hL : W.heap[bL]? = some (.cells #[.slice lp ln lc] 82 (0, 0))) =>
  zB0 ms (few ts ws kn l wg) bC bN bL (.slice d1 d2 d3) W (hc.rm.later hb) (fun m hm A X hX hA => by
   have hbX := zAA hb hX hb.size
   have hcX := hc.later hbX
   exact zER m (ledK kn kn.length) _ rn rt tp tn tc a1 a2 a3 b1 b2 b3 d1 d2 d3 f1 f2 f3 g1 g2 g3 kp kn2 kc lp ln lc bC bN bL A X hA ((hX.block _ (zAH hC)).trans hC) ((hX.block _ (zAH hN)).trans hN) ((hX.block _ (zAH hL)).trans hL) (fun Y hY => sum_any ts ws kn l m (ledK kn kn.length) (wg m) rn rt tp tn tc a1 a2 a3 b1 b2 b3 d1 d2 d3 f1 f2 f3 g1 g2 g3 kp kn2 kc A (.slice lp ln lc) Y hcX.hd hcX.hk (hcX.hp m hm) (hcX.hw m hm) (hcX.rt.later hY) (hcX.rw.later hY) (hcX.rk.later hY) (hcX.rl.later hY) (hA.below hY) hcX.len hin hcX.en (hcX.wt m hm) (fun x hx ht Z ov hZ hov => hwg m hm x hx ht A Z ov (zAA (zAA hbX hY hbX.size) hZ (zAA hbX hY hbX.size).size) ((hA.below hY).below hZ) hov))))
 obtain ⟨E, hE⟩ : ∃ z, ledK kn kn.length = z := ⟨_, rfl⟩
 obtain ⟨R, hR⟩ : ∃ z, ms.any (few ts ws kn l wg) = z := ⟨_, rfl⟩
 rw [hE] at HLE
 rw [hE, hR] at HAll
 rw [hR]
 clear hwg hin hE hR hbx hc
 go_enter Tryz.func65, Tryz.ntmps65
 go_upto_region 1 with fail
 clear hW0
 go_upto_region 2 with (first
  | ((with_reducible show wpList _ _ _ (Oper.mk _ (.load 114 _) _ _ _ _ :: _) _ _); refine wpList_load_mid (by rfl) 114 _ (by rfl) w.heap.size 0 (by rfl) [.slice tp tn tc, .string rn, .slice a1 a2 a3, .slice b1 b2 b3, .slice d1 d2 d3, .slice f1 f2 f3, .string rt, .slice g1 g2 g3, .slice kp kn2 kc] _ (zAE HC0.out) Tryz.underlying114 rfl (by kernel_rfl) ?_)
  | (go_at_call 105; refine HLE.out.mono ?_; rintro e w2 ⟨rfl, hb2⟩; have HB2 := hid hb2; clear hb2)
  | ((with_reducible show wpList _ _ _ (Oper.mk _ (.store 3 _ _) _ _ _ _ :: _) _ _); refine wp_sq 3 w2.heap.size 0 [.int .i64 0] 3 (.int .i64 E) [.int .i64 E] (heap_alloc_new _ _) ?_; intro w4 hq1 hq2; have HN4 : Hid (w4.heap[w2.heap.size]? = some (.cells #[.int .i64 E] 3 (0, 0))) := hq1; have HB24 : Hid (Below w2.heap.size w2 w4) := zAP ((Below.refl _ _).alloc (Nat.le_refl _) (.cells #[.int .i64 0] 3)) hq2 (Nat.le_refl _); clear hq1 hq2))
 have HB04 := hid (zAA HB2.out HB24.out HB2.out.size)
 have HBw4 := hid (zAA HB0.out HB04.out HB0.out.size)
 have HC4 := hid ((HB04.out.block _ (zAH HC0.out)).trans HC0.out)
 have HL4 := hid ((HB04.out.block _ (zAH HL0.out)).trans HL0.out)
 have HCM := hid (HAll.out w.heap.size w2.heap.size (w.heap.size + 1) w4 HBw4.out HC4.out HN4.out HL4.out)
 have c4 : w4.cell? ⟨w.heap.size, 4, none⟩ = some (.slice d1 d2 d3) := by rw [zAC HC4.out]; rfl
 clear HAll HB2 HB24 HB04 HC0 HL0 HC4 HL4 HN4 HLE
 go_wp2_with (go_at_call 106; refine HCM.out.mono ?_; rintro e w5 ⟨rfl, hb5⟩; have HB5 := hid (zAA HBw4.out hb5 HBw4.out.size); clear hb5)
 go_ret
 exact ⟨rfl, HB5.out⟩
theorem weight0 (mn : Mn) (hf : mn.f = ByteArray.empty) (x : Ev) (ov : Value) (cs : List Value) (M : List Value) (w : World) (hM : RdL w (encM mn) M) :
  Calls Tryz.prog 143 #[.agg cs.toArray, .agg M.toArray, evV x ov] w fun e w' => e = .returned (.int .i64 1) ∧ Below w.heap.size w w' := by
 have o1' : RdL w (encP mn.p) (M.drop 2) := RdL.drop 2 hM
 obtain ⟨vc', zz, o2⟩ := rdP o1'
 obtain ⟨up, un, uc, hu⟩ := zAB o2
 rw [hu] at zz
 obtain ⟨u0, r0, hA0, hu0, o3⟩ := RdL.one hM
 obtain ⟨u1, r2, hA1, hu1, o4⟩ := RdL.one o3
 have hd2 : r2 = M.drop 2 := by rw [hA0, hA1]; rfl
 have z1 : M = .int .i64 mn.c :: .string mn.f :: ptC mn.p.va mn.p.ty mn.p.c.k (.slice up un uc) mn.p.c.l mn.p.c.r mn.p.w mn.p.n := by
  rw [hA0, hA1, hd2, zz, zAI hu0, zAI hu1]
 rw [hf] at z1
 obtain ⟨mc, hmc⟩ : ∃ z, mn.c = z := ⟨_, rfl⟩
 obtain ⟨va, hva⟩ : ∃ z, mn.p.va = z := ⟨_, rfl⟩
 obtain ⟨ty, hty⟩ : ∃ z, mn.p.ty = z := ⟨_, rfl⟩
 obtain ⟨ck, hck⟩ : ∃ z, mn.p.c.k = z := ⟨_, rfl⟩
 obtain ⟨ol, hol⟩ : ∃ z, mn.p.c.l = z := ⟨_, rfl⟩
 obtain ⟨or_, hor_⟩ : ∃ z, mn.p.c.r = z := ⟨_, rfl⟩
 obtain ⟨pw, hpw⟩ : ∃ z, mn.p.w = z := ⟨_, rfl⟩
 obtain ⟨pn, hpn⟩ : ∃ z, mn.p.n = z := ⟨_, rfl⟩
 rw [hmc, hva, hty, hck, hol, hor_, hpw, hpn] at z1
 subst z1
 obtain ⟨on, hon⟩ : ∃ z, x.n = z := ⟨_, rfl⟩
 obtain ⟨ot, hot⟩ : ∃ z, x.t = z := ⟨_, rfl⟩
 obtain ⟨ost, host⟩ : ∃ z, x.st = z := ⟨_, rfl⟩
 obtain ⟨oen, hoen⟩ : ∃ z, x.en = z := ⟨_, rfl⟩
 simp only [evV, hon, hot, host, hoen]
 clear hM hf o1' zz o2 hu hA0 hu0 o3 hA1 hu1 o4 hd2 hmc hva hty hck hol hor_ hpw hpn hon hot host hoen
 obtain ⟨W0, hW0⟩ : ∃ W, ((w.alloc (.cells cs.toArray 114)).alloc (.cells (.int .i64 mc :: .string ByteArray.empty :: ptC va ty ck (.slice up un uc) ol or_ pw pn).toArray 78)).alloc (.cells #[.int .i64 on, .int .i64 ot, .int .i64 ost, .int .i64 oen, ov] 35) = W := ⟨_, rfl⟩
 have hbx := bxs2 w cs (.int .i64 mc :: .string ByteArray.empty :: ptC va ty ck (.slice up un uc) ol or_ pw pn) 114 78
 have hA0 : Below w.heap.size w W0 := by rw [← hW0]; exact hbx.bel.alloc hbx.bel.size _
 have hM0 := hbx.b 1 (by simp)
 obtain ⟨W1, hW1⟩ : ∃ W, (w.alloc (.cells cs.toArray 114)).alloc (.cells (.int .i64 mc :: .string ByteArray.empty :: ptC va ty ck (.slice up un uc) ol or_ pw pn).toArray 78) = W := ⟨_, rfl⟩
 rw [hW1] at hM0
 have hM1 : W0.heap[w.heap.size + 1]? = some (.cells (.int .i64 mc :: .string ByteArray.empty :: ptC va ty ck (.slice up un uc) ol or_ pw pn).toArray 78 (0, 0)) := by
  rw [← hW0, hW1]; exact ((((Below.refl W1.heap.size W1).alloc (Nat.le_refl _) _).block _ (zAH hM0))).trans hM0
 have c1 : W0.cell? ⟨w.heap.size + 1, 1, none⟩ = some (.string ByteArray.empty) := by rw [zAC hM1]; rfl
 clear hbx hM0 hM1 hW1
 have HA0 := hid hA0
 clear hA0
 go_enter Tryz.func143, Tryz.ntmps143
 go_upto_region 1 with fail
 clear hW0
 go_wp2_with fail
 go_ret
 exact ⟨rfl, HA0.out⟩
theorem zFZ (fv : Value) (p : Option Addr) (c : Nat) (w : World) :
  Calls Tryz.prog 116 #[.slice p 0 c, fv] w fun e w' => e = .returned (.int .i64 (-1)) ∧ Below w.heap.size w w' := by
 go_enter Tryz.func116, Tryz.ntmps116
 go_wp2_with fail
 go_loopg [8] 1 (fun gg i wr => gg = 1 ∧ i = .int .i64 0 ∧ Below w.heap.size w wr)
 case atStart => exact ⟨rfl, rfl, Below.refl _ _⟩
 case round =>
  obtain ⟨rfl, rfl, hB⟩ := hrel
  go_wp2_with fail
  go_ret
  exact ⟨rfl, hB⟩
theorem zDD (fv : Value) (p : Option Addr) (c : Nat) (w : World) :
  Calls Tryz.prog 97 #[.slice p 0 c, fv] w fun e w' => e = .returned (.bool false) ∧ Below w.heap.size w w' := by
 have HIX := hid (zFZ fv p c w)
 go_enter Tryz.func97, Tryz.ntmps97
 go_wp2_with (go_at_call 116; refine HIX.out.mono ?_; rintro e w2 ⟨rfl, hb2⟩; have HB2 := hid hb2; clear hb2)
 go_ret
 exact ⟨rfl, HB2.out⟩
theorem zEK (rn rt : ByteArray) (tp : Option Addr) (tn tc : Nat) (a1 : Option Addr) (a2 a3 : Nat) (b1 : Option Addr) (b3 : Nat) (d1 : Option Addr) (d2 d3 : Nat) (f1 : Option Addr) (f2 f3 : Nat) (g1 : Option Addr) (g2 g3 : Nat) (kp : Option Addr) (kn2 kc : Nat) (lp : Option Addr) (ln lc : Nat) (w : World) :
  Calls Tryz.prog 64 #[.agg #[.slice tp tn tc, .string rn, .slice a1 a2 a3, .slice b1 0 b3, .slice d1 d2 d3, .slice f1 f2 f3, .string rt, .slice g1 g2 g3, .slice kp kn2 kc], .slice lp ln lc] w fun e w' => e = .returned (.bool false) ∧ Below w.heap.size w w' := by
 obtain ⟨W0, hW0⟩ : ∃ W, (w.alloc (.cells #[.slice tp tn tc, .string rn, .slice a1 a2 a3, .slice b1 0 b3, .slice d1 d2 d3, .slice f1 f2 f3, .string rt, .slice g1 g2 g3, .slice kp kn2 kc] 114)).alloc (.cells #[.slice lp ln lc] 82) = W := ⟨_, rfl⟩
 have hbx := bxs2 w [.slice tp tn tc, .string rn, .slice a1 a2 a3, .slice b1 0 b3, .slice d1 d2 d3, .slice f1 f2 f3, .string rt, .slice g1 g2 g3, .slice kp kn2 kc] [.slice lp ln lc] 114 82
 rw [hW0] at hbx
 have HB0 := hid hbx.bel
 have HC0 : Hid (W0.heap[w.heap.size]? = some (.cells #[.slice tp tn tc, .string rn, .slice a1 a2 a3, .slice b1 0 b3, .slice d1 d2 d3, .slice f1 f2 f3, .string rt, .slice g1 g2 g3, .slice kp kn2 kc] 114 (0, 0))) := hbx.b 0 (by simp)
 have c3 : W0.cell? ⟨w.heap.size, 3, none⟩ = some (.slice b1 0 b3) := by rw [zAC HC0.out]; rfl
 have HCF := hid (fun fv => zDD fv b1 b3 W0)
 clear hbx HC0
 go_enter Tryz.func64, Tryz.ntmps64
 go_upto_region 1 with fail
 clear hW0
 go_wp2_with (go_at_call 97; refine (HCF.out _).mono ?_; rintro e w2 ⟨rfl, hb2⟩; have HB2 := hid (zAA HB0.out hb2 HB0.out.size); clear hb2)
 go_ret
 exact ⟨rfl, HB2.out⟩
theorem zFR (rn rt : ByteArray) (tp : Option Addr) (tn tc : Nat) (a1 : Option Addr) (a2 a3 : Nat) (b1 : Option Addr) (b3 : Nat) (d1 : Option Addr) (d2 d3 : Nat) (f1 : Option Addr) (f2 f3 : Nat) (g1 : Option Addr) (g2 g3 : Nat) (kp : Option Addr) (kn2 kc : Nat) (lp : Option Addr) (ln lc : Nat) (R : Bool) (w : World) (hen : ∀ W, Below w.heap.size w W → Calls Tryz.prog 65 #[.agg #[.slice tp tn tc, .string rn, .slice a1 a2 a3, .slice b1 0 b3, .slice d1 d2 d3, .slice f1 f2 f3, .string rt, .slice g1 g2 g3, .slice kp kn2 kc], .slice lp ln lc] W fun e w' => e = .returned (.bool R) ∧ Below W.heap.size W w') :
  Calls Tryz.prog 37 #[.agg #[.slice tp tn tc, .string rn, .slice a1 a2 a3, .slice b1 0 b3, .slice d1 d2 d3, .slice f1 f2 f3, .string rt, .slice g1 g2 g3, .slice kp kn2 kc], .slice lp ln lc] w fun e w' => e = .returned (.bool R) ∧ Below w.heap.size w w' := by
 obtain ⟨W0, hW0⟩ : ∃ W, w.alloc (.cells #[.slice tp tn tc, .string rn, .slice a1 a2 a3, .slice b1 0 b3, .slice d1 d2 d3, .slice f1 f2 f3, .string rt, .slice g1 g2 g3, .slice kp kn2 kc] 114) = W := ⟨_, rfl⟩
 have hA0 : Below w.heap.size w W0 := by rw [← hW0]; exact (Below.refl _ _).alloc (Nat.le_refl _) _
 have HA0 := hid hA0
 have HC0 : Hid (W0.heap[w.heap.size]? = some (.cells #[.slice tp tn tc, .string rn, .slice a1 a2 a3, .slice b1 0 b3, .slice d1 d2 d3, .slice f1 f2 f3, .string rt, .slice g1 g2 g3, .slice kp kn2 kc] 114 (0, 0))) := by rw [← hW0]; exact heap_alloc_new _ _
 have HBL := hid (zEK rn rt tp tn tc a1 a2 a3 b1 b3 d1 d2 d3 f1 f2 f3 g1 g2 g3 kp kn2 kc lp ln lc W0)
 have HEN := hid hen
 clear hen hA0
 go_enter Tryz.func37, Tryz.ntmps37
 go_upto_region 1 with fail
 clear hW0
 go_wp2_with (first
  | ((with_reducible show wpList _ _ _ (Oper.mk _ (.load 114 _) _ _ _ _ :: _) _ _); refine wpList_load_mid (by rfl) 114 _ (by rfl) w.heap.size 0 (by rfl) [.slice tp tn tc, .string rn, .slice a1 a2 a3, .slice b1 0 b3, .slice d1 d2 d3, .slice f1 f2 f3, .string rt, .slice g1 g2 g3, .slice kp kn2 kc] _ (zAE HC0.out) Tryz.underlying114 rfl (by kernel_rfl) ?_)
  | (go_at_call 64; refine HBL.out.mono ?_; rintro e w2 ⟨rfl, hb2⟩; have HB2 := hid (zAA HA0.out hb2 HA0.out.size); have HC2 := hid (show w2.heap[w.heap.size]? = some (.cells #[.slice tp tn tc, .string rn, .slice a1 a2 a3, .slice b1 0 b3, .slice d1 d2 d3, .slice f1 f2 f3, .string rt, .slice g1 g2 g3, .slice kp kn2 kc] 114 (0, 0)) from (hb2.block _ (zAH HC0.out)).trans HC0.out); have HE2 := hid (HEN.out w2 HB2.out); have k0 : w2.cell? ⟨w.heap.size, 0, none⟩ = some (.slice tp tn tc) := (by rw [zAC HC2.out]; rfl); have k1 : w2.cell? ⟨w.heap.size, 1, none⟩ = some (.string rn) := (by rw [zAC HC2.out]; rfl); have k2 : w2.cell? ⟨w.heap.size, 2, none⟩ = some (.slice a1 a2 a3) := (by rw [zAC HC2.out]; rfl); have k3 : w2.cell? ⟨w.heap.size, 3, none⟩ = some (.slice b1 0 b3) := (by rw [zAC HC2.out]; rfl); have k4 : w2.cell? ⟨w.heap.size, 4, none⟩ = some (.slice d1 d2 d3) := (by rw [zAC HC2.out]; rfl); have k5 : w2.cell? ⟨w.heap.size, 5, none⟩ = some (.slice f1 f2 f3) := (by rw [zAC HC2.out]; rfl); have k6 : w2.cell? ⟨w.heap.size, 6, none⟩ = some (.string rt) := (by rw [zAC HC2.out]; rfl); have k7 : w2.cell? ⟨w.heap.size, 7, none⟩ = some (.slice g1 g2 g3) := (by rw [zAC HC2.out]; rfl); have k8 : w2.cell? ⟨w.heap.size, 8, none⟩ = some (.slice kp kn2 kc) := (by rw [zAC HC2.out]; rfl); clear hb2)
  | (go_at_call 65; refine HE2.out.mono ?_; rintro e w3 ⟨rfl, hb3⟩; have HB3 := hid (zAA HB2.out hb3 HB2.out.size); clear hb3))
 go_ret
 exact ⟨rfl, HB3.out⟩
def prv (l : List Ev) (k : Nat) : Option Ev := if k = 0 then none else l[k - 1]?
def bhd (p : Option Ev) (x : Ev) : Bool := match p with | none => false | some a => decide (x.n ≤ a.n) || decide (x.en < a.en)
theorem zFA (a x : Ev) : bhd (some a) x = (decide (x.n ≤ a.n) || decide (x.en < a.en)) := rfl
def jes (ts : List Tp) : Option Ev → List Ev → Int
  | _, [] => 0
  | p, x :: r => if evk ts x ≠ 0 then evk ts x else if bhd p x = true then 9 else jes ts (some x) r
def jek (ts : List Tp) (rs : List Rl) (l : List Ev) : Int := if bok ts rs ≠ 0 then bok ts rs else if 120 < l.length then 1 else jes ts none l
theorem zE3 (l : List Ev) (k : Nat) (hk : k < l.length) : prv l (k + 1) = some l[k] := by
  unfold prv
  rw [if_neg (by omega), Nat.add_sub_cancel, List.getElem?_eq_getElem hk]
theorem jes_at (ts : List Tp) (l : List Ev) (k : Nat) (hk : k < l.length) : jes ts (prv l k) (l.drop k) = if evk ts l[k] ≠ 0 then evk ts l[k] else if bhd (prv l k) l[k] = true then 9 else jes ts (prv l (k + 1)) (l.drop (k + 1)) := by
  rw [List.drop_eq_getElem_cons hk, jes, zE3 l k hk]
theorem jes_end (ts : List Tp) (p : Option Ev) (l : List Ev) (k : Nat) (hk : l.length ≤ k) : jes ts p (l.drop k) = 0 := by
  rw [List.drop_of_length_le hk, jes]
theorem zDW (x a : Ev) (u v : Value) (A B : List Value) (w : World) (hA : A = [.int .i64 x.n, .int .i64 x.t, .int .i64 x.st, .int .i64 x.en, u]) (hB : B = [.int .i64 a.n, .int .i64 a.t, .int .i64 a.st, .int .i64 a.en, v]) :
   Calls Tryz.prog 63 #[.agg A.toArray, .agg B.toArray] w fun e w' => e = .returned (.bool (!bhd (some a) x)) ∧ Below w.heap.size w w' := by
 have hX : BlkT w (w.alloc (.cells A.toArray 35)) A 35 := BlkT.start w _ _
 have hY : Below w.heap.size w ((w.alloc (.cells A.toArray 35)).alloc (.cells B.toArray 35)) := zAA hX.bel ((Below.refl _ _).alloc (Nat.le_refl _) _) hX.bel.size
 have hZ := hX.next ((Below.refl _ _).alloc (Nat.le_refl _) (.cells B.toArray 35))
 have hV : ((w.alloc (.cells A.toArray 35)).alloc (.cells B.toArray 35)).heap[w.heap.size + 1]? = some (.cells B.toArray 35 (0, 0)) := by
   have h := heap_alloc_new (w.alloc (.cells A.toArray 35)) (.cells B.toArray 35)
   simpa using h
 have c0 : ((w.alloc (.cells A.toArray 35)).alloc (.cells B.toArray 35)).cell? ⟨w.heap.size, 0, none⟩ = some (.int .i64 x.n) := by rw [hZ.c 0, hA]; rfl
 have c3 : ((w.alloc (.cells A.toArray 35)).alloc (.cells B.toArray 35)).cell? ⟨w.heap.size, 3, none⟩ = some (.int .i64 x.en) := by rw [hZ.c 3, hA]; rfl
 have d0 : ((w.alloc (.cells A.toArray 35)).alloc (.cells B.toArray 35)).cell? ⟨w.heap.size + 1, 0, none⟩ = some (.int .i64 a.n) := by rw [zAC hV 0, hB]; rfl
 have d3 : ((w.alloc (.cells A.toArray 35)).alloc (.cells B.toArray 35)).cell? ⟨w.heap.size + 1, 3, none⟩ = some (.int .i64 a.en) := by rw [zAC hV 3, hB]; rfl
 obtain ⟨xn, xt, xs, xe, xv⟩ := x
 obtain ⟨an, at_, as_, ae, av⟩ := a
 simp only at c0 c3 d0 d3
 have HB := hid hY
 clear hX hY hZ hV hA hB
 unfold bhd
 simp only
 by_cases h1 : an < xn
 . have g1 : decide (xn > an) = true := by simpa using h1
   have g2 : decide (xn ≤ an) = false := by simp; omega
   rw [g2]
   clear h1
   go_enter Tryz.func63, Tryz.ntmps63
   go_wp2_with fail
   go_ret
   exact ⟨zAO (by rw [Bool.eq_iff_iff]; simp), HB.out⟩
 . have g1 : decide (xn > an) = false := by simp; omega
   have g2 : decide (xn ≤ an) = true := by simp; omega
   rw [g2]
   clear h1
   go_enter Tryz.func63, Tryz.ntmps63
   go_wp2_with fail
   go_ret
   exact ⟨zAO (by simp), HB.out⟩
theorem ent_mf : ∀ args w, (callFunc 63 args).run Tryz.prog w = .ok (.enter 63 args) w := enters_of Tryz.func63 (by kernel_rfl) rfl
theorem cev_any (ts : List Tp) (rs : List Rl) (hzz : ∀ r, r ∈ rs → Szr r) (tv rv : Value) (l : List Ev) (lv : Value) (w : World) (hT : Rd w (.row 59 2 (ts.map encY)) tv) (hR : Rd w (.row 56 7 (rs.map encR)) rv) (hL : Rd w (.row 35 5 (l.map encX)) lv) (htk : Tab w 0 kpl) (htr : Tab w 1 rll) :
   Calls Tryz.prog 36 #[.agg #[tv, rv], lv] w fun e w' => e = .returned (.int .i64 (jek ts rs l)) ∧ Below w.heap.size w w' := by
 have HCH := hid (fun W (hW : Below w.heap.size w W) => check_any ts rs hzz tv rv W (hT.later hW) (hR.later hW) (zAF htk hW) (zAF htr hW))
 have HCK := hid (fun (y : Ev) (yv : Value) W (hW : Below w.heap.size w W) (hy : Rd W (.row 42 3 (y.v.map encV)) yv) => zBZ ts y tv yv W (hT.later hW) hy)
 obtain ⟨E0, hE0⟩ : ∃ E, bok ts rs = E := ⟨_, rfl⟩
 unfold jek
 rw [hE0] at HCH ⊢
 obtain ⟨tp, tn, tc, rfl⟩ := zAB hT
 obtain ⟨rp, rn, rc, rfl⟩ := zAB hR
 obtain ⟨lp, lc, rfl, hmx, hat⟩ := zAG lenX hL
 have HAT : Hid (At encX 5 w lp l) := hat
 obtain ⟨n, hnl⟩ : ∃ n, l.length = n := ⟨_, rfl⟩
 have HN := hid hnl
 rw [hnl] at hmx ⊢
 obtain ⟨R, hRR⟩ : ∃ R, jes ts none l = R := ⟨_, rfl⟩
 have HR : Hid (jes ts (prv l 0) (l.drop 0) = R) := hRR
 rw [hRR]
 have hT0 : BlkT w (w.alloc (.cells [.slice tp tn tc, .slice rp rn rc].toArray 28)) [.slice tp tn tc, .slice rp rn rc] 28 := BlkT.start w _ _
 have HT0 := hid hT0
 clear hT hR hL hat hnl hRR hE0 hT0 hzz
 clear htk htr
 by_cases hz : E0 = 0
 . rw [if_neg (fun c => c hz)]
   subst hz
   by_cases hn : 120 < n
   . rw [if_pos hn]
     have d1 : decide ((n : Int) > 120) = true := by simp; omega
     have d2 : (120 : Int) < (n : Int) := by omega
     have d3 : (120 < n) = True := by simp; omega
     go_enter Tryz.func36, Tryz.ntmps36
     go_wp2_with fail
     refine (HCH.out _ HT0.out.bel).mono ?_
     rintro e w1 ⟨rfl, hb1⟩
     have HT1 := hid (HT0.out.next hb1)
     clear hb1
     go_wp2_with fail
     go_ret
     exact ⟨rfl, HT1.out.bel⟩
   . rw [if_neg hn]
     have d1 : decide ((n : Int) > 120) = false := by simp; omega
     have d2 : ¬ (120 : Int) < (n : Int) := by omega
     have d3 : (120 < n) = False := by simp; omega
     go_enter Tryz.func36, Tryz.ntmps36
     go_wp2_with fail
     refine (HCH.out _ HT0.out.bel).mono ?_
     rintro e w1 ⟨rfl, hb1⟩
     have HT1 := hid (HT0.out.next hb1)
     clear hb1
     go_wp2_with fail
     clear d1 d2 d3
     go_loopg [19] (n + 1) (fun gg i wr => ∃ k : Nat, k ≤ n ∧ gg = n + 1 - k ∧ i = .int .i64 (k : Nat) ∧ jes ts (prv l k) (l.drop k) = R ∧ BlkT w wr [.slice tp tn tc, .slice rp rn rc] 28)
     case atStart => exact ⟨0, by omega, by omega, rfl, HR.out, HT1.out⟩
     case round =>
      obtain ⟨k, hk, rfl, rfl, hev, hT⟩ := hrel
      have HT := hid hT
      by_cases hlt : k < n
      . have hkc : k < l.length := by have := HN.out; omega
        obtain ⟨g, off, e03, hrd⟩ := HAT.out (by omega)
        obtain ⟨A, r1, o1⟩ := hrd wr hT.bel k hkc
        obtain ⟨yv, z1, o2⟩ := rdX o1
        obtain ⟨a1, a2, a3, hu1⟩ := zAB o2
        subst e03
        have hAz : A.length = 5 := o1.1.symm
        rw [jes_at ts l k hkc] at hev
        have hcall := fun W (hW : Below wr.heap.size wr W) => HCK.out l[k] yv W (zAA hT.bel hW hT.bel.size) (o2.later hW)
        obtain ⟨e9, he9⟩ : ∃ e9, evk ts l[k] = e9 := ⟨_, rfl⟩
        rw [he9] at hcall hev
        have HCM : Hid (∀ W, Below wr.heap.size wr W → Calls Tryz.prog 24 #[.slice tp tn tc, .agg A.toArray] W fun e w' => e = .returned (.int .i64 e9) ∧ Below W.heap.size W w') := fun W hW => by rw [z1]; exact hcall W hW
        have HAO : Hid (A.all (·.oneCell') = true) := by show _ = _; rw [z1, hu1]; rfl
        have ZA : Hid ((Tryz.prog.info? 35).map (·.size) = some A.length) := by show _ = _; rw [hAz]; kernel_rfl
        have HAL := hid hAz
        have HAZ := hid z1
        have X1_ := hid r1
        have HEV := hid hev
        have HRD := hid hrd
        have i1 : (0 : Int) ≤ (k : Int) := by omega
        have i2 : (k : Int) < (n : Int) := by omega
        clear hT hrd r1 o1 hAz hev hcall he9 z1 hu1 o2
        go_wp2_with (first
          | ((with_reducible refine gLq ?_); refine wpList_load_mid (by rfl) 35 _ (by rfl) g (off + k * 5) (by rfl) A _ X1_.out Tryz.underlying35 rfl ZA.out ?_)
          | ((with_reducible refine gSq ?_); refine zA7 (by rfl) 35 _ _ (by rfl) wr.heap.size 0 _ 35 (.agg A.toArray) A (by rfl) (by rfl) (by rfl) (heap_alloc_new _ _) (by have := HAL.out; simp; omega) ZA.out HAO.out ?_; intro w1 hblk hfr; rw [zAT (by rw [HAL.out]; rfl)] at hblk; have XB : Hid (w1.rangeAt wr.heap.size 0 A) := zAE hblk; have HBK := hid hblk; have HBW : Hid (Below wr.heap.size wr w1) := zAM hfr; have c0 : w1.cell? ⟨w.heap.size, 0, none⟩ = some (.slice tp tn tc) := (HT.out.next HBW.out).c 0; clear hblk hfr)
          | ((with_reducible refine gLq ?_); refine wpList_load_mid (by rfl) 35 _ (by rfl) wr.heap.size 0 (by rfl) A _ XB.out Tryz.underlying35 rfl ZA.out ?_))
        refine (HCM.out _ HBW.out).mono ?_
        rintro e w2 ⟨rfl, hb2⟩
        have HB2 := hid (zAA HBW.out hb2 HBW.out.size)
        have HT2 := hid (HT.out.next HB2.out)
        have XB2 := hid (zAK XB.out hb2)
        clear hb2 c0 XB
        by_cases hz : e9 = 0
        . have HE2 := HEV.out
          rw [if_neg (fun c => c hz)] at HE2
          have HE3 := hid HE2
          subst hz
          clear HE2 HEV
          by_cases h0 : k = 0
          . subst h0
            have HE4 : Hid (jes ts (prv l 1) (l.drop 1) = R) := by have h := HE3.out; rw [if_neg (by simp [prv, bhd])] at h; exact h
            have d1 : decide (((0 : Nat) : Int) > 0) = false := by simp
            go_wp2_with fail
            go_quiet (fail)
            go_wp2_with fail
            go_roundg (n + 1 - (0 + 1))
            case rel => exact ⟨1, by omega, rfl, by go_num, HE4.out, HT2.out.next (zAJ (Below.refl _ _) _)⟩
            case measure => omega
          . obtain ⟨j, hj⟩ : ∃ j, j + 1 = k := ⟨k - 1, by omega⟩
            have hjl : j < l.length := by omega
            obtain ⟨B, r3, o3⟩ := HRD.out wr HT.out.bel j hjl
            obtain ⟨bv, z3, o4⟩ := rdX o3
            have hBz : B.length = 5 := o3.1.symm
            have ZB : Hid ((Tryz.prog.info? 35).map (·.size) = some B.length) := by show _ = _; rw [hBz]; kernel_rfl
            have XJ := hid r3
            have hmf := fun W => zDW l[k] l[j] yv bv A B W HAZ.out z3
            have hp : prv l k = some l[j] := by rw [← hj]; exact zE3 l j hjl
            have HE4 := HE3.out
            rw [hp] at HE4
            obtain ⟨q9, hq9⟩ : ∃ q, (!bhd (some l[j]) l[k]) = q := ⟨_, rfl⟩
            rw [hq9] at hmf
            have hq8 : bhd (some l[j]) l[k] = !q9 := by rw [← hq9]; simp
            rw [hq8] at HE4
            have HE5 := hid HE4
            have HMF := hid hmf
            have HS : Hid (∀ W, Below w2.heap.size w2 W → (W.rangeAt wr.heap.size 0 A ∧ W.rangeAt g (off + j * 5) B)) := fun W hW => ⟨zAK XB2.out hW, zAK XJ.out (zAA HB2.out hW HB2.out.size)⟩
            have d1 : decide ((k : Int) > 0) = true := by simp; omega
            have d1b : (0 < k) = True := by simp; omega
            have d1c : decide (0 < k) = true := by simp; omega
            have d5 : wrap64 ((k : Int) - 1) = ((j : Nat) : Int) := by unfold wrap64; omega
            have d5b : IntKind.i64.wrap ((k : Int) - 1) = ((j : Nat) : Int) := (IntWalk.i64_left _).trans d5
            have i3 : (0 : Int) ≤ ((j : Nat) : Int) := by omega
            have i4 : ((j : Nat) : Int) < (n : Int) := by omega
            clear r3 o3 z3 o4 hBz hmf hp HE4 HE3 hq9 hq8 hj hjl h0
            go_wp2_with fail
            refine zBC (S := (fun w' => w'.rangeAt wr.heap.size 0 A ∧ w'.rangeAt g (off + j * 5) B)) 12 #[false, false, false, false, false, false, false, false, false, false, false, false] rfl rfl (by kernel_rfl) (HS.out _ (Below.drew (Below.refl _ _))) (fun hHeld => ?_)
            refine tkq (i := 0) (v := ?v1) rfl ?hy1 ?rest1; (case hy1 => intro w0 hSw; (try dsimp only at hSw); go_simp <;> (try (with_reducible rfl))); (try simp only [puts])
            refine tkq (i := 1) (v := ?v2) rfl ?hy2 ?rest2; (case hy2 => intro w0 hSw; (try dsimp only at hSw); go_simp <;> (try (with_reducible rfl))); (try simp only [puts])
            refine tkq (i := 2) (v := ?v3) rfl ?hy3 ?rest3; (case hy3 => intro w0 hSw; (try dsimp only at hSw); go_simp <;> (try (with_reducible rfl))); (try simp only [puts])
            refine tkq (i := 4) (v := ?v4) rfl ?hy4 ?rest4; (case hy4 => intro w0 hSw; (try dsimp only at hSw); go_simp <;> (try (with_reducible rfl))); (try simp only [puts])
            refine tkq (i := 5) (v := ?v5) rfl ?hy5 ?rest5; (case hy5 => intro w0 hSw; (try dsimp only at hSw); go_simp <;> (try (with_reducible rfl))); (try simp only [puts])
            refine tkq (i := 6) (v := ?v6) rfl ?hy6 ?rest6; (case hy6 => intro w0 hSw; (try dsimp only at hSw); go_simp <;> (try (with_reducible rfl))); (try simp only [puts])
            refine tkq (i := 7) (v := ?v7) rfl ?hy7 ?rest7; (case hy7 => intro w0 hSw; (try dsimp only at hSw); go_simp <;> (try (with_reducible rfl))); (try simp only [puts])
            refine tlq (i := 3) rfl (yieldsIf_load_mid (by rfl) 35 _ rfl wr.heap.size (0) (by rfl) A _ (fun _ h => h.1) Tryz.underlying35 rfl ZA.out) ?_
            (try simp only [puts])
            refine tlq (i := 8) rfl (yieldsIf_load_mid (by rfl) 35 _ rfl g (off + j * 5) (by rfl) B _ (fun _ h => h.2) Tryz.underlying35 rfl ZB.out) ?_
            (try simp only [puts])
            refine wpAnyH_ready (rs := [9]) (by kernel_rfl) (by simp) ?_
            refine zAV rfl (fun K hK => ?_) AllReadyH.nil
            refine zAX 63 ent_mf (by rfl) _ _ _ (by rfl) (.agg A.toArray) (.agg B.toArray) (by rfl) (by rfl) _ (HMF.out _) ?_
            rintro e w3 ⟨rfl, hb3⟩
            refine ⟨_, rfl, ?_⟩
            have HB3 : Hid (Below w2.heap.size w2 w3) := zAA (Below.drew (Below.refl _ _)) hb3 (Nat.le_refl _)
            clear hb3
            refine hK.out _ _ (HS.out _ HB3.out) (fun hHeld => ?_)
            clear hK K
            (try simp only [puts])
            refine tkq (i := 10) (v := ?v8) rfl ?hy8 ?rest8; (case hy8 => intro w0 hSw; (try dsimp only at hSw); go_simp <;> (try (with_reducible rfl))); (try simp only [puts])
            refine tkq (i := 11) (v := ?v9) rfl ?hy9 ?rest9; (case hy9 => intro w0 hSw; (try dsimp only at hSw); go_simp <;> (try (with_reducible rfl))); (try simp only [puts])
            refine wpAnyH_done (by kernel_rfl) ?_ _
            have HT3 := hid (HT2.out.next HB3.out)
            clear HS HMF
            cases q9 with
            | true =>
             have HE6 : Hid (jes ts (prv l (k + 1)) (l.drop (k + 1)) = R) := by have h := HE5.out; rw [if_neg (by decide)] at h; exact h
             go_wp2_with fail
             go_roundg (n + 1 - (k + 1))
             case rel => exact ⟨k + 1, by omega, rfl, by go_num, HE6.out, HT3.out⟩
             case measure => omega
            | false =>
             have HE6 : Hid (R = 9) := by have h := HE5.out; rw [if_pos (by decide)] at h; exact h.symm
             go_wp2_with fail
             go_ret
             exact ⟨zAD HE6.out.symm, HT3.out.bel⟩
        . have HE2 : Hid (R = e9) := by have h := HEV.out; rw [if_pos hz] at h; exact h.symm
          have d9 : (e9 != 0) = true := by simpa using hz
          clear hz
          go_wp2_with fail
          go_ret
          exact ⟨zAD HE2.out.symm, HT2.out.bel⟩
      . obtain rfl : k = n := by omega
        have HE2 : Hid (R = 0) := by rw [jes_end ts _ l k (by have := HN.out; omega)] at hev; exact hev.symm
        clear hev hT
        go_wp2_with fail
        go_ret
        exact ⟨zAD HE2.out.symm, HT.out.bel⟩
 . rw [if_pos hz]
   have d9 : (E0 != 0) = true := by simpa using hz
   clear hz
   go_enter Tryz.func36, Tryz.ntmps36
   go_wp2_with fail
   refine (HCH.out _ HT0.out.bel).mono ?_
   rintro e w1 ⟨rfl, hb1⟩
   have HT1 := hid (HT0.out.next hb1)
   clear hb1
   go_wp2_with fail
   go_ret
   exact ⟨rfl, HT1.out.bel⟩
theorem zEG (rs : List Rl) (i : Nat) (hi : i < rs.length) (tp : Option Addr) (tn tc : Nat) (kp : Option Addr) (kn2 kc : Nat) (lp : Option Addr) (ln lc : Nat) (rv : Value) (R : Bool) (w : World) (hR : Rd w (.row 56 7 (rs.map encR)) rv)
  (hCE : ∀ W, Below w.heap.size w W → Calls Tryz.prog 36 #[.agg #[.slice tp tn tc, rv], .slice lp ln lc] W fun e w' => e = .returned (.int .i64 0) ∧ Below W.heap.size W w')
  (hCK : ∀ W wv, Below w.heap.size w W → Rd W (.row 48 18 (rs[i].w.map encP)) wv → Calls Tryz.prog 26 #[.slice tp tn tc, wv, .slice kp kn2 kc] W fun e w' => e = .returned (.int .i64 0) ∧ Below W.heap.size W w')
  (hCF : ∀ W (rn rt : ByteArray) (a1 : Option Addr) (a2 a3 : Nat) (b1 : Option Addr) (b2 b3 : Nat) (d1 : Option Addr) (d2 d3 : Nat) (f1 : Option Addr) (f2 f3 : Nat) (g1 : Option Addr) (g2 g3 : Nat), Below w.heap.size w W → Rd W (.row 48 18 (rs[i].w.map encP)) (.slice a1 a2 a3) → Rd W (.row 48 18 (rs[i].t.map encP)) (.slice b1 b2 b3) → Rd W (.row 78 20 (rs[i].m.map encM)) (.slice d1 d2 d3) → Calls Tryz.prog 37 #[.agg #[.slice tp tn tc, .string rn, .slice a1 a2 a3, .slice b1 b2 b3, .slice d1 d2 d3, .slice f1 f2 f3, .string rt, .slice g1 g2 g3, .slice kp kn2 kc], .slice lp ln lc] W fun e w' => e = .returned (.bool R) ∧ Below W.heap.size W w') :
  Calls Tryz.prog 17 #[.agg #[.slice tp tn tc, rv], .int .i64 (i : Nat), .slice kp kn2 kc, .slice lp ln lc] w fun e w' => e = .returned (.tuple #[.bool R, .int .i64 0]) ∧ Below w.heap.size w w' := by
 obtain ⟨p, rcap, rfl, hmx, hat⟩ := zAG lenR hR
 obtain ⟨gr, off, rfl, hrd⟩ := hat (by omega)
 have HRD := hid hrd
 obtain ⟨X, hX⟩ : ∃ X, rs[i] = X := ⟨_, rfl⟩
 rw [hX] at hCK hCF
 have HX := hid hX
 have HI := hid hi
 obtain ⟨nr, hnr⟩ : ∃ z, rs.length = z := ⟨_, rfl⟩
 rw [hnr] at hCE hmx ⊢
 have i0 : (0 : Int) ≤ (i : Int) := by omega
 have i1 : (i : Int) < (nr : Int) := by omega
 have i2 : decide ((i : Int) < 0) = false := by simp
 have i3 : decide ((i : Int) ≥ (nr : Int)) = false := by simp; omega
 have i4 : decide ((nr : Int) ≤ (i : Int)) = false := by simp; omega
 have HCE := hid hCE
 have HCK := hid hCK
 have HCF := hid hCF
 obtain ⟨W0, hW0⟩ : ∃ W, w.alloc (.cells #[.slice tp tn tc, .slice (some ⟨gr, off, none⟩) nr rcap] 28) = W := ⟨_, rfl⟩
 have hA0 : Below w.heap.size w W0 := by rw [← hW0]; exact (Below.refl _ _).alloc (Nat.le_refl _) _
 have HA0 := hid hA0
 have HU0 : Hid (W0.heap[w.heap.size]? = some (.cells #[.slice tp tn tc, .slice (some ⟨gr, off, none⟩) nr rcap] 28 (0, 0))) := by rw [← hW0]; exact heap_alloc_new _ _
 have HC0 := hid (hCE W0 hA0)
 clear hR hat hrd hX hnr hCE hCK hCF hA0
 go_enter Tryz.func17, Tryz.ntmps17
 go_upto_region 1 with fail
 clear hW0
 go_upto_region 4 with (first
  | ((with_reducible show wpList _ _ _ (Oper.mk _ (.load 28 _) _ _ _ _ :: _) _ _); refine wpList_load_mid (by rfl) 28 _ (by rfl) w.heap.size 0 (by rfl) [.slice tp tn tc, .slice (some ⟨gr, off, none⟩) nr rcap] _ (zAE HU0.out) Tryz.underlying28 rfl (by kernel_rfl) ?_)
  | (go_at_call 36; refine HC0.out.mono ?_; rintro e w2 ⟨rfl, hb2⟩; have HB2 := hid (zAA HA0.out hb2 HA0.out.size); have HU2 := hid ((hb2.block _ (zAH HU0.out)).trans HU0.out); clear hb2))
 have c0 : w2.cell? ⟨w.heap.size, 0, none⟩ = some (.slice tp tn tc) := by rw [zAC HU2.out]; rfl
 have c1 : w2.cell? ⟨w.heap.size, 1, none⟩ = some (.slice (some ⟨gr, off, none⟩) nr rcap) := by rw [zAC HU2.out]; rfl
 go_upto_region 6 with fail
 obtain ⟨A, r1, o1⟩ := HRD.out w2 HB2.out i hi
 rw [HX.out] at o1
 obtain ⟨v1, v2, v3, v4, v5, rfl, q1, q2, q3, q4, q5⟩ := rdR o1
 obtain ⟨a1, a2, a3, rfl⟩ := zAB q1
 obtain ⟨b1, b2, b3, rfl⟩ := zAB q2
 obtain ⟨d1, d2, d3, rfl⟩ := zAB q3
 obtain ⟨f1, f2, f3, rfl⟩ := zAB q4
 obtain ⟨g1, g2, g3, rfl⟩ := zAB q5
 obtain ⟨rn, hrn⟩ : ∃ z, X.n = z := ⟨_, rfl⟩
 obtain ⟨rt, hrt⟩ : ∃ z, X.e.ty = z := ⟨_, rfl⟩
 rw [hrn, hrt] at r1
 have XA := hid r1
 have Q1 := hid q1
 have Q2 := hid q2
 have Q3 := hid q3
 clear r1 o1 q1 q2 q3 q4 q5 hrn hrt
 go_upto_region 7 with (first
  | ((with_reducible show wpList _ _ _ (Oper.mk _ (.load 56 _) _ _ _ _ :: _) _ _); refine wpList_load_mid (by rfl) 56 _ (by rfl) gr (off + i * 7) (by rfl) [.string rn, .slice a1 a2 a3, .slice b1 b2 b3, .slice d1 d2 d3, .slice f1 f2 f3, .string rt, .slice g1 g2 g3] _ XA.out Tryz.underlying56 rfl (by kernel_rfl) ?_)
  | ((with_reducible show wpList _ _ _ (Oper.mk _ (.store 56 _ _) _ _ _ _ :: _) _ _); refine zB9 56 w2.heap.size 0 [.string ⟨#[]⟩, .slice none 0 0, .slice none 0 0, .slice none 0 0, .slice none 0 0, .string ⟨#[]⟩, .slice none 0 0] 56 [.string rn, .slice a1 a2 a3, .slice b1 b2 b3, .slice d1 d2 d3, .slice f1 f2 f3, .string rt, .slice g1 g2 g3] (heap_alloc_new _ _) ?_; intro w6 hq1 hq2; have HX6 : Hid (w6.heap[w2.heap.size]? = some (.cells #[.string rn, .slice a1 a2 a3, .slice b1 b2 b3, .slice d1 d2 d3, .slice f1 f2 f3, .string rt, .slice g1 g2 g3] 56 (0, 0))) := hq1; have HB6 : Hid (Below w2.heap.size w2 w6) := zAP ((Below.refl _ _).alloc (Nat.le_refl _) (.cells #[.string ⟨#[]⟩, .slice none 0 0, .slice none 0 0, .slice none 0 0, .slice none 0 0, .string ⟨#[]⟩, .slice none 0 0] 56)) hq2 (Nat.le_refl _); clear hq1 hq2))
 obtain ⟨bx, hbx⟩ : ∃ x, w2.heap.size = x := ⟨_, rfl⟩
 have HB26 := hid (zAA HB2.out HB6.out HB2.out.size)
 have HU6 := hid ((HB6.out.block _ (zAH HU2.out)).trans HU2.out)
 have HK6 := hid (HCK.out w6 _ HB26.out (Q1.out.later HB6.out))
 rw [hbx] at HX6 ⊢
 clear hbx XA c0 c1
 have c0 : w6.cell? ⟨w.heap.size, 0, none⟩ = some (.slice tp tn tc) := by rw [zAC HU6.out]; rfl
 have c2 : w6.cell? ⟨bx, 1, none⟩ = some (.slice a1 a2 a3) := by rw [zAC HX6.out]; rfl
 go_upto_region 10 with (go_at_call 26; refine HK6.out.mono ?_; rintro e w7 ⟨rfl, hb7⟩; have HB7 := hid (zAA HB26.out hb7 HB26.out.size); have HB67 := hid (zAA HB6.out hb7 HB6.out.size); have HU7 := hid ((hb7.block _ (zAH HU6.out)).trans HU6.out); have HX7 := hid ((hb7.block _ (zAH HX6.out)).trans HX6.out); clear hb7)
 have HF7 := hid (HCF.out w7 rn rt a1 a2 a3 b1 b2 b3 d1 d2 d3 f1 f2 f3 g1 g2 g3 HB7.out (Q1.out.later HB67.out) (Q2.out.later HB67.out) (Q3.out.later HB67.out))
 clear c0 c2
 have c0 : w7.cell? ⟨w.heap.size, 0, none⟩ = some (.slice tp tn tc) := by rw [zAC HU7.out]; rfl
 go_wp2_with (first
  | ((with_reducible show wpList _ _ _ (Oper.mk _ (.load 56 _) _ _ _ _ :: _) _ _); refine wpList_load_mid (by rfl) 56 _ (by rfl) bx 0 (by rfl) [.string rn, .slice a1 a2 a3, .slice b1 b2 b3, .slice d1 d2 d3, .slice f1 f2 f3, .string rt, .slice g1 g2 g3] _ (zAE HX7.out) Tryz.underlying56 rfl (by kernel_rfl) ?_)
  | (go_at_call 37; refine HF7.out.mono ?_; rintro e w8 ⟨rfl, hb8⟩; have HB8 := hid (zAA HB7.out hb8 HB7.out.size); clear hb8))
 go_ret2
 exact ⟨rfl, HB8.out⟩
end Go.Proofs.YtnlmknbhppdliaaGreatDoor.Chk
namespace Go.Proofs.YtnlmknbhppdliaaGreatDoor.B8
open Go.ChangeShapes Go.WideShapes Go.ChangeAt Go.RowKit Go.Maps
set_option linter.unusedVariables false
set_option linter.unusedSimpArgs false
set_option maxRecDepth 20000
def invN (k : Nat) : Nat := if k = 13 then 13 else if k % 2 = 1 then k + 1 else k - 1
def Tab (w : World) : Prop := 3 < w.heap.size ∧ ∀ k, 1 ≤ k → k ≤ 13 → w.cell? ⟨3, k, none⟩ = some (.int .i64 (invN k : Nat))
end Go.Proofs.YtnlmknbhppdliaaGreatDoor.B8
namespace Go.Proofs.YtnlmknbhppdliaaGreatDoor.B8
set_option linter.unusedVariables false
set_option linter.unusedSimpArgs false
set_option maxRecDepth 20000
/-! ### The reference, in place -/
/-! ### Rows, and how small their bounds can be -/
/-! ### Nothing has changed -/
/-! ### What is closed stays below -/
/-! ### The whole -/
end Go.Proofs.YtnlmknbhppdliaaGreatDoor.B8
namespace Go.Proofs.YtnlmknbhppdliaaGreatDoor.B8
open Go.ChangeShapes Go.WideShapes Go.ChangeAt Go.RowKit Go.Maps
set_option linter.unusedVariables false
set_option linter.unusedSimpArgs false
set_option maxRecDepth 20000
end Go.Proofs.YtnlmknbhppdliaaGreatDoor.B8
namespace Go.Proofs.YtnlmknbhppdliaaGreatDoor.B8
set_option linter.unusedVariables false
set_option linter.unusedSimpArgs false
set_option maxRecDepth 20000
end Go.Proofs.YtnlmknbhppdliaaGreatDoor.B8
namespace Go.Proofs.YtnlmknbhppdliaaGreatDoor.B8
open Go.ChangeShapes Go.WideShapes Go.ChangeAt Go.RowKit Go.Maps
set_option linter.unusedVariables false
set_option linter.unusedSimpArgs false
set_option maxRecDepth 20000
end Go.Proofs.YtnlmknbhppdliaaGreatDoor.B8
