/-
  A link, by the reference.
-/
import Derived.Test.YthndlfdbmljkhaaGreatDoorCd
namespace Go.Proofs.YthndlfdbmljkhaaGreatDoor.Chk
open Go.ChangeShapes Go.WideShapes Go.ChangeAt Go.RowKit Go.Maps
set_option linter.unusedVariables false
set_option linter.unusedSimpArgs false
set_option maxRecDepth 20000
def ofs : List Op3 → Int
  | [] => 0
  | o :: r => if ock o.r o.lo o.hi ≠ 0 then ock o.r o.lo o.hi else ofs r
def lck (ws ns : List Pt) (kl kr : ByteArray) (os : List Op3) : Int :=
  if (ptq ws kl < 0 ∧ ptq ns kl < 0) ∨ (ptq ws kr < 0 ∧ ptq ns kr < 0) then 6
  else if seq kl kr = true ∨ (ptq ws kl < 0 ∧ ptq ws kr < 0) then 4
  else if ¬ (1 ≤ os.length ∧ os.length ≤ 6) then 1
  else ofs os
theorem rdQ {w : World} {o : Op3} {vs : List Value} (h : RdL w (encQ o) vs) : vs = [.int .i64 o.r, .int .i64 o.lo, .int .i64 o.hi] := by
  obtain ⟨v0, r0, rfl, h0, h⟩ := RdL.one h
  obtain ⟨v1, r1, rfl, h1, h⟩ := RdL.one h
  obtain ⟨v2, r2, rfl, h2, h⟩ := RdL.one h
  rw [rd_lit h0, rd_lit h1, rd_lit h2, RdL.none h]
set_option maxHeartbeats 32000000 in
theorem linkFault_any (ws ns : List Pt) (rn ety : ByteArray) (kl kr : ByteArray) (os : List Op3) (u1 u2 ov : Value) (q3 q4 q5 : Option Addr) (l3 l4 l5 j3 j4 j5 : Nat) (w : World) (hW : Rd w (.row 65 18 (ws.map encP)) u1) (hN : Rd w (.row 65 18 (ns.map encP)) u2) (hO : Rd w (.row 108 3 (os.map encQ)) ov) :
   Calls Tryz.prog 75 #[.agg #[.string rn, u1, u2, (.slice q3 l3 j3), (.slice q4 l4 j4), .string ety, (.slice q5 l5 j5)], .agg #[.string kl, ov, .string kr]] w fun e w' => e = .returned (.int .i64 (lck ws ns kl kr os)) ∧ Below w.heap.size w w' := by
 obtain ⟨q1, j1, e1, _, _⟩ := rd_row lenP hW
 obtain ⟨q2, j2, e2, _, _⟩ := rd_row lenP hN
 obtain ⟨op, oc, e3, hmo, hao⟩ := rd_row lenQ hO
 subst e1 e2 e3
 unfold lck
 obtain ⟨l1, hl1⟩ : ∃ l, ws.length = l := ⟨_, rfl⟩
 obtain ⟨l2, hl2⟩ : ∃ l, ns.length = l := ⟨_, rfl⟩
 obtain ⟨on, hon⟩ : ∃ l, os.length = l := ⟨_, rfl⟩
 rw [hl1] at hW
 rw [hl2] at hN
 rw [hon] at hmo
 rw [hl1, hl2, hon]
 have HAO : Hid (At encQ 3 w op os) := hao
 have HON := hid hon
 obtain ⟨a, hqa⟩ : ∃ a, ptq ws kl = a := ⟨_, rfl⟩
 obtain ⟨b, hqb⟩ : ∃ b, ptq ws kr = b := ⟨_, rfl⟩
 obtain ⟨c, hqc⟩ : ∃ c, ptq ns kl = c := ⟨_, rfl⟩
 obtain ⟨d, hqd⟩ : ∃ d, ptq ns kr = d := ⟨_, rfl⟩
 have HWL : Hid (∀ W, Below w.heap.size w W → Calls Tryz.prog 94 #[(.slice q1 l1 j1), .string kl] W fun e w' => e = .returned (.int .i64 a) ∧ Below W.heap.size W w') := fun W hW' => by rw [← hqa]; exact patternNamed_any ws _ kl W (hW.later hW')
 have HWR : Hid (∀ W, Below w.heap.size w W → Calls Tryz.prog 94 #[(.slice q1 l1 j1), .string kr] W fun e w' => e = .returned (.int .i64 b) ∧ Below W.heap.size W w') := fun W hW' => by rw [← hqb]; exact patternNamed_any ws _ kr W (hW.later hW')
 have HNL : Hid (∀ W, Below w.heap.size w W → Calls Tryz.prog 94 #[(.slice q2 l2 j2), .string kl] W fun e w' => e = .returned (.int .i64 c) ∧ Below W.heap.size W w') := fun W hW' => by rw [← hqc]; exact patternNamed_any ns _ kl W (hN.later hW')
 have HNR : Hid (∀ W, Below w.heap.size w W → Calls Tryz.prog 94 #[(.slice q2 l2 j2), .string kr] W fun e w' => e = .returned (.int .i64 d) ∧ Below W.heap.size W w') := fun W hW' => by rw [← hqd]; exact patternNamed_any ns _ kr W (hN.later hW')
 rw [hqa, hqb, hqc, hqd]
 obtain ⟨R, hR⟩ : ∃ R, (if (a < 0 ∧ c < 0) ∨ (b < 0 ∧ d < 0) then (6 : Int) else if seq kl kr = true ∨ (a < 0 ∧ b < 0) then 4 else if ¬ (1 ≤ on ∧ on ≤ 6) then 1 else ofs os) = R := ⟨_, rfl⟩
 rw [hR]
 have HR := hid hR
 have HB0 : Hid (Blk2 w ((w.alloc (.cells [.string rn, (.slice q1 l1 j1), (.slice q2 l2 j2), (.slice q3 l3 j3), (.slice q4 l4 j4), .string ety, (.slice q5 l5 j5)].toArray 49)).alloc (.cells [.string kl, .slice op on oc, .string kr].toArray 103)) [.string rn, (.slice q1 l1 j1), (.slice q2 l2 j2), (.slice q3 l3 j3), (.slice q4 l4 j4), .string ety, (.slice q5 l5 j5)] [.string kl, .slice op on oc, .string kr] 49 103) := Blk2.start w _ _ _ _
 clear hR hqa hqb hqc hqd hW hN hO hao hl1 hl2 hon
 by_cases ha : a < 0
 . by_cases hc : c < 0
   . have HR0 : Hid (6 = R) := by
       have h := HR.out
       rw [if_pos (by omega)] at h
       exact h
     clear HR
     go_enter Tryz.func75, Tryz.ntmps75
     go_wp2_with (first
       | (go_at_call_of 94 (Value.slice q2 l2 j2); refine (HNL.out _ HB2.out.bel).mono ?_; rintro e w3 ⟨rfl, hb_⟩; have HB3 : Hid _ := HB2.out.next hb_; have u1_w3 : w3.cell? ⟨w.heap.size, 1, none⟩ = some (.slice q1 l1 j1) := HB3.out.c1 1; have u2_w3 : w3.cell? ⟨w.heap.size, 2, none⟩ = some (.slice q2 l2 j2) := HB3.out.c1 2; have v0_w3 : w3.cell? ⟨w.heap.size + 1, 0, none⟩ = some (.string kl) := HB3.out.c2 0; have v1_w3 : w3.cell? ⟨w.heap.size + 1, 1, none⟩ = some (.slice op on oc) := HB3.out.c2 1; have v2_w3 : w3.cell? ⟨w.heap.size + 1, 2, none⟩ = some (.string kr) := HB3.out.c2 2; clear hb_)
       | (go_at_call_of 94 (Value.slice q1 l1 j1); refine (HWR.out _ HB1.out.bel).mono ?_; rintro e w2 ⟨rfl, hb_⟩; have HB2 : Hid _ := HB1.out.next hb_; have u1_w2 : w2.cell? ⟨w.heap.size, 1, none⟩ = some (.slice q1 l1 j1) := HB2.out.c1 1; have u2_w2 : w2.cell? ⟨w.heap.size, 2, none⟩ = some (.slice q2 l2 j2) := HB2.out.c1 2; have v0_w2 : w2.cell? ⟨w.heap.size + 1, 0, none⟩ = some (.string kl) := HB2.out.c2 0; have v1_w2 : w2.cell? ⟨w.heap.size + 1, 1, none⟩ = some (.slice op on oc) := HB2.out.c2 1; have v2_w2 : w2.cell? ⟨w.heap.size + 1, 2, none⟩ = some (.string kr) := HB2.out.c2 2; clear hb_)
       | (go_at_call_of 94 (Value.slice q1 l1 j1); refine (HWL.out _ HB0.out.bel).mono ?_; rintro e w1 ⟨rfl, hb_⟩; have HB1 : Hid _ := HB0.out.next hb_; have u1_w1 : w1.cell? ⟨w.heap.size, 1, none⟩ = some (.slice q1 l1 j1) := HB1.out.c1 1; have u2_w1 : w1.cell? ⟨w.heap.size, 2, none⟩ = some (.slice q2 l2 j2) := HB1.out.c1 2; have v0_w1 : w1.cell? ⟨w.heap.size + 1, 0, none⟩ = some (.string kl) := HB1.out.c2 0; have v1_w1 : w1.cell? ⟨w.heap.size + 1, 1, none⟩ = some (.slice op on oc) := HB1.out.c2 1; have v2_w1 : w1.cell? ⟨w.heap.size + 1, 2, none⟩ = some (.string kr) := HB1.out.c2 2; clear hb_))
     go_ret
     exact ⟨ret_int HR0.out, HB3.out.bel⟩
   . by_cases hb : b < 0
     . by_cases hd : d < 0
       . have HR0 : Hid (6 = R) := by
           have h := HR.out
           rw [if_pos (by omega)] at h
           exact h
         clear HR
         go_enter Tryz.func75, Tryz.ntmps75
         go_wp2_with (first
           | (go_at_call_of 94 (Value.slice q2 l2 j2); refine (HNR.out _ HB3.out.bel).mono ?_; rintro e w4 ⟨rfl, hb_⟩; have HB4 : Hid _ := HB3.out.next hb_; have u1_w4 : w4.cell? ⟨w.heap.size, 1, none⟩ = some (.slice q1 l1 j1) := HB4.out.c1 1; have u2_w4 : w4.cell? ⟨w.heap.size, 2, none⟩ = some (.slice q2 l2 j2) := HB4.out.c1 2; have v0_w4 : w4.cell? ⟨w.heap.size + 1, 0, none⟩ = some (.string kl) := HB4.out.c2 0; have v1_w4 : w4.cell? ⟨w.heap.size + 1, 1, none⟩ = some (.slice op on oc) := HB4.out.c2 1; have v2_w4 : w4.cell? ⟨w.heap.size + 1, 2, none⟩ = some (.string kr) := HB4.out.c2 2; clear hb_)
           | (go_at_call_of 94 (Value.slice q2 l2 j2); refine (HNL.out _ HB2.out.bel).mono ?_; rintro e w3 ⟨rfl, hb_⟩; have HB3 : Hid _ := HB2.out.next hb_; have u1_w3 : w3.cell? ⟨w.heap.size, 1, none⟩ = some (.slice q1 l1 j1) := HB3.out.c1 1; have u2_w3 : w3.cell? ⟨w.heap.size, 2, none⟩ = some (.slice q2 l2 j2) := HB3.out.c1 2; have v0_w3 : w3.cell? ⟨w.heap.size + 1, 0, none⟩ = some (.string kl) := HB3.out.c2 0; have v1_w3 : w3.cell? ⟨w.heap.size + 1, 1, none⟩ = some (.slice op on oc) := HB3.out.c2 1; have v2_w3 : w3.cell? ⟨w.heap.size + 1, 2, none⟩ = some (.string kr) := HB3.out.c2 2; clear hb_)
           | (go_at_call_of 94 (Value.slice q1 l1 j1); refine (HWR.out _ HB1.out.bel).mono ?_; rintro e w2 ⟨rfl, hb_⟩; have HB2 : Hid _ := HB1.out.next hb_; have u1_w2 : w2.cell? ⟨w.heap.size, 1, none⟩ = some (.slice q1 l1 j1) := HB2.out.c1 1; have u2_w2 : w2.cell? ⟨w.heap.size, 2, none⟩ = some (.slice q2 l2 j2) := HB2.out.c1 2; have v0_w2 : w2.cell? ⟨w.heap.size + 1, 0, none⟩ = some (.string kl) := HB2.out.c2 0; have v1_w2 : w2.cell? ⟨w.heap.size + 1, 1, none⟩ = some (.slice op on oc) := HB2.out.c2 1; have v2_w2 : w2.cell? ⟨w.heap.size + 1, 2, none⟩ = some (.string kr) := HB2.out.c2 2; clear hb_)
           | (go_at_call_of 94 (Value.slice q1 l1 j1); refine (HWL.out _ HB0.out.bel).mono ?_; rintro e w1 ⟨rfl, hb_⟩; have HB1 : Hid _ := HB0.out.next hb_; have u1_w1 : w1.cell? ⟨w.heap.size, 1, none⟩ = some (.slice q1 l1 j1) := HB1.out.c1 1; have u2_w1 : w1.cell? ⟨w.heap.size, 2, none⟩ = some (.slice q2 l2 j2) := HB1.out.c1 2; have v0_w1 : w1.cell? ⟨w.heap.size + 1, 0, none⟩ = some (.string kl) := HB1.out.c2 0; have v1_w1 : w1.cell? ⟨w.heap.size + 1, 1, none⟩ = some (.slice op on oc) := HB1.out.c2 1; have v2_w1 : w1.cell? ⟨w.heap.size + 1, 2, none⟩ = some (.string kr) := HB1.out.c2 2; clear hb_))
         go_ret
         exact ⟨ret_int HR0.out, HB4.out.bel⟩
       . have HR2 : Hid ((if seq kl kr = true ∨ (a < 0 ∧ b < 0) then 4 else if ¬ (1 ≤ on ∧ on ≤ 6) then 1 else ofs os) = R) := by
           have h := HR.out
           rw [if_neg (by omega)] at h
           exact h
         clear HR
         cases hsq : seq kl kr
         . have q9 : (kl.toList == kr.toList) = false := hsq
           have HR0 : Hid (4 = R) := by
             have h := HR2.out
             rw [if_pos (.inr ⟨ha, hb⟩)] at h
             exact h
           clear HR2
           go_enter Tryz.func75, Tryz.ntmps75
           go_wp2_with (first
             | (go_at_call_of 94 (Value.slice q2 l2 j2); refine (HNR.out _ HB3.out.bel).mono ?_; rintro e w4 ⟨rfl, hb_⟩; have HB4 : Hid _ := HB3.out.next hb_; have u1_w4 : w4.cell? ⟨w.heap.size, 1, none⟩ = some (.slice q1 l1 j1) := HB4.out.c1 1; have u2_w4 : w4.cell? ⟨w.heap.size, 2, none⟩ = some (.slice q2 l2 j2) := HB4.out.c1 2; have v0_w4 : w4.cell? ⟨w.heap.size + 1, 0, none⟩ = some (.string kl) := HB4.out.c2 0; have v1_w4 : w4.cell? ⟨w.heap.size + 1, 1, none⟩ = some (.slice op on oc) := HB4.out.c2 1; have v2_w4 : w4.cell? ⟨w.heap.size + 1, 2, none⟩ = some (.string kr) := HB4.out.c2 2; clear hb_)
             | (go_at_call_of 94 (Value.slice q2 l2 j2); refine (HNL.out _ HB2.out.bel).mono ?_; rintro e w3 ⟨rfl, hb_⟩; have HB3 : Hid _ := HB2.out.next hb_; have u1_w3 : w3.cell? ⟨w.heap.size, 1, none⟩ = some (.slice q1 l1 j1) := HB3.out.c1 1; have u2_w3 : w3.cell? ⟨w.heap.size, 2, none⟩ = some (.slice q2 l2 j2) := HB3.out.c1 2; have v0_w3 : w3.cell? ⟨w.heap.size + 1, 0, none⟩ = some (.string kl) := HB3.out.c2 0; have v1_w3 : w3.cell? ⟨w.heap.size + 1, 1, none⟩ = some (.slice op on oc) := HB3.out.c2 1; have v2_w3 : w3.cell? ⟨w.heap.size + 1, 2, none⟩ = some (.string kr) := HB3.out.c2 2; clear hb_)
             | (go_at_call_of 94 (Value.slice q1 l1 j1); refine (HWR.out _ HB1.out.bel).mono ?_; rintro e w2 ⟨rfl, hb_⟩; have HB2 : Hid _ := HB1.out.next hb_; have u1_w2 : w2.cell? ⟨w.heap.size, 1, none⟩ = some (.slice q1 l1 j1) := HB2.out.c1 1; have u2_w2 : w2.cell? ⟨w.heap.size, 2, none⟩ = some (.slice q2 l2 j2) := HB2.out.c1 2; have v0_w2 : w2.cell? ⟨w.heap.size + 1, 0, none⟩ = some (.string kl) := HB2.out.c2 0; have v1_w2 : w2.cell? ⟨w.heap.size + 1, 1, none⟩ = some (.slice op on oc) := HB2.out.c2 1; have v2_w2 : w2.cell? ⟨w.heap.size + 1, 2, none⟩ = some (.string kr) := HB2.out.c2 2; clear hb_)
             | (go_at_call_of 94 (Value.slice q1 l1 j1); refine (HWL.out _ HB0.out.bel).mono ?_; rintro e w1 ⟨rfl, hb_⟩; have HB1 : Hid _ := HB0.out.next hb_; have u1_w1 : w1.cell? ⟨w.heap.size, 1, none⟩ = some (.slice q1 l1 j1) := HB1.out.c1 1; have u2_w1 : w1.cell? ⟨w.heap.size, 2, none⟩ = some (.slice q2 l2 j2) := HB1.out.c1 2; have v0_w1 : w1.cell? ⟨w.heap.size + 1, 0, none⟩ = some (.string kl) := HB1.out.c2 0; have v1_w1 : w1.cell? ⟨w.heap.size + 1, 1, none⟩ = some (.slice op on oc) := HB1.out.c2 1; have v2_w1 : w1.cell? ⟨w.heap.size + 1, 2, none⟩ = some (.string kr) := HB1.out.c2 2; clear hb_))
           go_ret
           exact ⟨ret_int HR0.out, HB4.out.bel⟩
         . have q9 : (kl.toList == kr.toList) = true := hsq
           have HR0 : Hid (4 = R) := by
             have h := HR2.out
             rw [if_pos (.inl hsq)] at h
             exact h
           clear HR2
           go_enter Tryz.func75, Tryz.ntmps75
           go_wp2_with (first
             | (go_at_call_of 94 (Value.slice q2 l2 j2); refine (HNR.out _ HB3.out.bel).mono ?_; rintro e w4 ⟨rfl, hb_⟩; have HB4 : Hid _ := HB3.out.next hb_; have u1_w4 : w4.cell? ⟨w.heap.size, 1, none⟩ = some (.slice q1 l1 j1) := HB4.out.c1 1; have u2_w4 : w4.cell? ⟨w.heap.size, 2, none⟩ = some (.slice q2 l2 j2) := HB4.out.c1 2; have v0_w4 : w4.cell? ⟨w.heap.size + 1, 0, none⟩ = some (.string kl) := HB4.out.c2 0; have v1_w4 : w4.cell? ⟨w.heap.size + 1, 1, none⟩ = some (.slice op on oc) := HB4.out.c2 1; have v2_w4 : w4.cell? ⟨w.heap.size + 1, 2, none⟩ = some (.string kr) := HB4.out.c2 2; clear hb_)
             | (go_at_call_of 94 (Value.slice q2 l2 j2); refine (HNL.out _ HB2.out.bel).mono ?_; rintro e w3 ⟨rfl, hb_⟩; have HB3 : Hid _ := HB2.out.next hb_; have u1_w3 : w3.cell? ⟨w.heap.size, 1, none⟩ = some (.slice q1 l1 j1) := HB3.out.c1 1; have u2_w3 : w3.cell? ⟨w.heap.size, 2, none⟩ = some (.slice q2 l2 j2) := HB3.out.c1 2; have v0_w3 : w3.cell? ⟨w.heap.size + 1, 0, none⟩ = some (.string kl) := HB3.out.c2 0; have v1_w3 : w3.cell? ⟨w.heap.size + 1, 1, none⟩ = some (.slice op on oc) := HB3.out.c2 1; have v2_w3 : w3.cell? ⟨w.heap.size + 1, 2, none⟩ = some (.string kr) := HB3.out.c2 2; clear hb_)
             | (go_at_call_of 94 (Value.slice q1 l1 j1); refine (HWR.out _ HB1.out.bel).mono ?_; rintro e w2 ⟨rfl, hb_⟩; have HB2 : Hid _ := HB1.out.next hb_; have u1_w2 : w2.cell? ⟨w.heap.size, 1, none⟩ = some (.slice q1 l1 j1) := HB2.out.c1 1; have u2_w2 : w2.cell? ⟨w.heap.size, 2, none⟩ = some (.slice q2 l2 j2) := HB2.out.c1 2; have v0_w2 : w2.cell? ⟨w.heap.size + 1, 0, none⟩ = some (.string kl) := HB2.out.c2 0; have v1_w2 : w2.cell? ⟨w.heap.size + 1, 1, none⟩ = some (.slice op on oc) := HB2.out.c2 1; have v2_w2 : w2.cell? ⟨w.heap.size + 1, 2, none⟩ = some (.string kr) := HB2.out.c2 2; clear hb_)
             | (go_at_call_of 94 (Value.slice q1 l1 j1); refine (HWL.out _ HB0.out.bel).mono ?_; rintro e w1 ⟨rfl, hb_⟩; have HB1 : Hid _ := HB0.out.next hb_; have u1_w1 : w1.cell? ⟨w.heap.size, 1, none⟩ = some (.slice q1 l1 j1) := HB1.out.c1 1; have u2_w1 : w1.cell? ⟨w.heap.size, 2, none⟩ = some (.slice q2 l2 j2) := HB1.out.c1 2; have v0_w1 : w1.cell? ⟨w.heap.size + 1, 0, none⟩ = some (.string kl) := HB1.out.c2 0; have v1_w1 : w1.cell? ⟨w.heap.size + 1, 1, none⟩ = some (.slice op on oc) := HB1.out.c2 1; have v2_w1 : w1.cell? ⟨w.heap.size + 1, 2, none⟩ = some (.string kr) := HB1.out.c2 2; clear hb_))
           go_ret
           exact ⟨ret_int HR0.out, HB4.out.bel⟩
     . have HR2 : Hid ((if seq kl kr = true ∨ (a < 0 ∧ b < 0) then 4 else if ¬ (1 ≤ on ∧ on ≤ 6) then 1 else ofs os) = R) := by
         have h := HR.out
         rw [if_neg (by omega)] at h
         exact h
       clear HR
       cases hsq : seq kl kr
       . have q9 : (kl.toList == kr.toList) = false := hsq
         have HRR : Hid ((if ¬ (1 ≤ on ∧ on ≤ 6) then 1 else ofs os) = R) := by
           have h := HR2.out
           rw [if_neg (by rintro (c | c); rw [hsq] at c; cases c; omega)] at h
           exact h
         clear HR2
         by_cases hlen : 1 ≤ on ∧ on ≤ 6
         . have HIN : Hid (∀ W, Calls Tryz.prog 17 #[.int .i64 (on : Int), .int .i64 1, .int .i64 6] W fun e w' => e = .returned (.bool true) ∧ w' = W) := fun W => in_any (on : Int) _ _ true (say_true (by omega)) W
           have HR1 : Hid (ofs os = R) := by
             have h := HRR.out
             rw [if_neg (fun c => c hlen)] at h
             exact h
           clear HRR
           go_enter Tryz.func75, Tryz.ntmps75
           go_wp2_with (first
             | (go_at_call 17; refine (HIN.out _).mono ?_; rintro e w' ⟨rfl, rfl⟩)
             | (go_at_call_of 94 (Value.slice q2 l2 j2); refine (HNL.out _ HB2.out.bel).mono ?_; rintro e w3 ⟨rfl, hb_⟩; have HB3 : Hid _ := HB2.out.next hb_; have u1_w3 : w3.cell? ⟨w.heap.size, 1, none⟩ = some (.slice q1 l1 j1) := HB3.out.c1 1; have u2_w3 : w3.cell? ⟨w.heap.size, 2, none⟩ = some (.slice q2 l2 j2) := HB3.out.c1 2; have v0_w3 : w3.cell? ⟨w.heap.size + 1, 0, none⟩ = some (.string kl) := HB3.out.c2 0; have v1_w3 : w3.cell? ⟨w.heap.size + 1, 1, none⟩ = some (.slice op on oc) := HB3.out.c2 1; have v2_w3 : w3.cell? ⟨w.heap.size + 1, 2, none⟩ = some (.string kr) := HB3.out.c2 2; clear hb_)
             | (go_at_call_of 94 (Value.slice q1 l1 j1); refine (HWR.out _ HB1.out.bel).mono ?_; rintro e w2 ⟨rfl, hb_⟩; have HB2 : Hid _ := HB1.out.next hb_; have u1_w2 : w2.cell? ⟨w.heap.size, 1, none⟩ = some (.slice q1 l1 j1) := HB2.out.c1 1; have u2_w2 : w2.cell? ⟨w.heap.size, 2, none⟩ = some (.slice q2 l2 j2) := HB2.out.c1 2; have v0_w2 : w2.cell? ⟨w.heap.size + 1, 0, none⟩ = some (.string kl) := HB2.out.c2 0; have v1_w2 : w2.cell? ⟨w.heap.size + 1, 1, none⟩ = some (.slice op on oc) := HB2.out.c2 1; have v2_w2 : w2.cell? ⟨w.heap.size + 1, 2, none⟩ = some (.string kr) := HB2.out.c2 2; clear hb_)
             | (go_at_call_of 94 (Value.slice q1 l1 j1); refine (HWL.out _ HB0.out.bel).mono ?_; rintro e w1 ⟨rfl, hb_⟩; have HB1 : Hid _ := HB0.out.next hb_; have u1_w1 : w1.cell? ⟨w.heap.size, 1, none⟩ = some (.slice q1 l1 j1) := HB1.out.c1 1; have u2_w1 : w1.cell? ⟨w.heap.size, 2, none⟩ = some (.slice q2 l2 j2) := HB1.out.c1 2; have v0_w1 : w1.cell? ⟨w.heap.size + 1, 0, none⟩ = some (.string kl) := HB1.out.c2 0; have v1_w1 : w1.cell? ⟨w.heap.size + 1, 1, none⟩ = some (.slice op on oc) := HB1.out.c2 1; have v2_w1 : w1.cell? ⟨w.heap.size + 1, 2, none⟩ = some (.string kr) := HB1.out.c2 2; clear hb_))
           go_loopw [7, 8] (fun i _ wr => ∃ k : Nat, k ≤ on ∧ i = .int .i64 (k : Nat) ∧ ofs (os.drop k) = R ∧ Blk2 w wr [.string rn, (.slice q1 l1 j1), (.slice q2 l2 j2), (.slice q3 l3 j3), (.slice q4 l4 j4), .string ety, (.slice q5 l5 j5)] [.string kl, .slice op on oc, .string kr] 49 103) (fun i _ _ => on + 1 - (intOf i).toNat)
           case atStart => exact ⟨0, by omega, rfl, HR1.out, HB3.out⟩
           case round =>
             obtain ⟨k, hk, rfl, hof, hTr⟩ := hrel
             have HT : Hid (Blk2 w wr [.string rn, (.slice q1 l1 j1), (.slice q2 l2 j2), (.slice q3 l3 j3), (.slice q4 l4 j4), .string ety, (.slice q5 l5 j5)] [.string kl, .slice op on oc, .string kr] 49 103) := hTr
             have v1 : wr.cell? ⟨w.heap.size + 1, 1, none⟩ = some (.slice op on oc) := hTr.c2 1
             by_cases hlt : k < on
             . have hkc : k < os.length := by have := HON.out; omega
               obtain ⟨g, off, hp, hrd⟩ := HAO.out (by omega)
               rw [hp] at v1
               obtain ⟨us, r1, o1⟩ := hrd wr hTr.bel k hkc
               have z1 := rdQ o1
               clear o1
               subst z1
               rw [List.drop_eq_getElem_cons hkc, ofs] at hof
               obtain ⟨⟨xr, xl, xh⟩, hd⟩ : ∃ d, os[k] = d := ⟨_, rfl⟩
               rw [hd] at r1 hof
               simp only at r1 hof
               have n0 := r1 0 _ rfl
               have n1 := r1 1 _ rfl
               have n2 := r1 2 _ rfl
               simp only [Nat.add_zero] at n0
               obtain ⟨e0, he0⟩ : ∃ e0, ock xr xl xh = e0 := ⟨_, rfl⟩
               have HOP : Hid (∀ W, Calls Tryz.prog 124 #[.agg #[.int .i64 xr, .int .i64 xl, .int .i64 xh]] W fun e w' => e = .returned (.int .i64 e0) ∧ Below W.heap.size W w') := fun W => by rw [← he0]; exact optionFault_any xr xl xh W
               rw [he0] at hof
               have HOF := hid hof
               have i1 : (0 : Int) ≤ (k : Int) := by omega
               have i2 : (k : Int) < (on : Int) := by omega
               clear r1 hd hrd hTr hkc he0 hof hp
               by_cases hz : e0 = 0
               . have HOG : Hid (ofs (os.drop (k + 1)) = R) := by have h := HOF.out; rw [if_neg (fun c => c hz)] at h; exact h
                 subst hz
                 go_wp2_with (first
                  | (go_at_call 124; refine (HOP.out _).mono ?_; rintro e w8 ⟨rfl, hb_⟩; have HT8 : Hid _ := HT.out.next hb_; clear hb_))
                 go_roundw
                 case rel => exact ⟨k + 1, by omega, by go_num, HOG.out, HT8.out⟩
                 case measure => simp [intOf]; omega
               . have HOG : Hid (e0 = R) := by have h := HOF.out; rw [if_pos hz] at h; exact h
                 have b1 : (e0 != 0) = true := by simpa using hz
                 have b2 : (e0 == 0) = false := by simpa using hz
                 go_wp2_with (first
                  | (go_at_call 124; refine (HOP.out _).mono ?_; rintro e w8 ⟨rfl, hb_⟩; have HT8 : Hid _ := HT.out.next hb_; clear hb_))
                 go_ret
                 exact ⟨ret_int HOG.out, HT8.out.bel⟩
             . obtain rfl : on = k := by omega
               rw [List.drop_eq_nil_of_le (by have := HON.out; omega), ofs] at hof
               have HOF := hid hof
               clear hTr hof
               go_wp2_with fail
               go_ret
               exact ⟨ret_int HOF.out, HT.out.bel⟩
         . have HIN : Hid (∀ W, Calls Tryz.prog 17 #[.int .i64 (on : Int), .int .i64 1, .int .i64 6] W fun e w' => e = .returned (.bool false) ∧ w' = W) := fun W => in_any (on : Int) _ _ false (say_false (by omega)) W
           have HR0 : Hid (1 = R) := by
             have h := HRR.out
             rw [if_pos hlen] at h
             exact h
           clear HRR
           go_enter Tryz.func75, Tryz.ntmps75
           go_wp2_with (first
             | (go_at_call 17; refine (HIN.out _).mono ?_; rintro e w' ⟨rfl, rfl⟩)
             | (go_at_call_of 94 (Value.slice q2 l2 j2); refine (HNL.out _ HB2.out.bel).mono ?_; rintro e w3 ⟨rfl, hb_⟩; have HB3 : Hid _ := HB2.out.next hb_; have u1_w3 : w3.cell? ⟨w.heap.size, 1, none⟩ = some (.slice q1 l1 j1) := HB3.out.c1 1; have u2_w3 : w3.cell? ⟨w.heap.size, 2, none⟩ = some (.slice q2 l2 j2) := HB3.out.c1 2; have v0_w3 : w3.cell? ⟨w.heap.size + 1, 0, none⟩ = some (.string kl) := HB3.out.c2 0; have v1_w3 : w3.cell? ⟨w.heap.size + 1, 1, none⟩ = some (.slice op on oc) := HB3.out.c2 1; have v2_w3 : w3.cell? ⟨w.heap.size + 1, 2, none⟩ = some (.string kr) := HB3.out.c2 2; clear hb_)
             | (go_at_call_of 94 (Value.slice q1 l1 j1); refine (HWR.out _ HB1.out.bel).mono ?_; rintro e w2 ⟨rfl, hb_⟩; have HB2 : Hid _ := HB1.out.next hb_; have u1_w2 : w2.cell? ⟨w.heap.size, 1, none⟩ = some (.slice q1 l1 j1) := HB2.out.c1 1; have u2_w2 : w2.cell? ⟨w.heap.size, 2, none⟩ = some (.slice q2 l2 j2) := HB2.out.c1 2; have v0_w2 : w2.cell? ⟨w.heap.size + 1, 0, none⟩ = some (.string kl) := HB2.out.c2 0; have v1_w2 : w2.cell? ⟨w.heap.size + 1, 1, none⟩ = some (.slice op on oc) := HB2.out.c2 1; have v2_w2 : w2.cell? ⟨w.heap.size + 1, 2, none⟩ = some (.string kr) := HB2.out.c2 2; clear hb_)
             | (go_at_call_of 94 (Value.slice q1 l1 j1); refine (HWL.out _ HB0.out.bel).mono ?_; rintro e w1 ⟨rfl, hb_⟩; have HB1 : Hid _ := HB0.out.next hb_; have u1_w1 : w1.cell? ⟨w.heap.size, 1, none⟩ = some (.slice q1 l1 j1) := HB1.out.c1 1; have u2_w1 : w1.cell? ⟨w.heap.size, 2, none⟩ = some (.slice q2 l2 j2) := HB1.out.c1 2; have v0_w1 : w1.cell? ⟨w.heap.size + 1, 0, none⟩ = some (.string kl) := HB1.out.c2 0; have v1_w1 : w1.cell? ⟨w.heap.size + 1, 1, none⟩ = some (.slice op on oc) := HB1.out.c2 1; have v2_w1 : w1.cell? ⟨w.heap.size + 1, 2, none⟩ = some (.string kr) := HB1.out.c2 2; clear hb_))
           go_ret
           exact ⟨ret_int HR0.out, HB3.out.bel⟩
       . have q9 : (kl.toList == kr.toList) = true := hsq
         have HR0 : Hid (4 = R) := by
           have h := HR2.out
           rw [if_pos (.inl hsq)] at h
           exact h
         clear HR2
         go_enter Tryz.func75, Tryz.ntmps75
         go_wp2_with (first
           | (go_at_call_of 94 (Value.slice q2 l2 j2); refine (HNL.out _ HB2.out.bel).mono ?_; rintro e w3 ⟨rfl, hb_⟩; have HB3 : Hid _ := HB2.out.next hb_; have u1_w3 : w3.cell? ⟨w.heap.size, 1, none⟩ = some (.slice q1 l1 j1) := HB3.out.c1 1; have u2_w3 : w3.cell? ⟨w.heap.size, 2, none⟩ = some (.slice q2 l2 j2) := HB3.out.c1 2; have v0_w3 : w3.cell? ⟨w.heap.size + 1, 0, none⟩ = some (.string kl) := HB3.out.c2 0; have v1_w3 : w3.cell? ⟨w.heap.size + 1, 1, none⟩ = some (.slice op on oc) := HB3.out.c2 1; have v2_w3 : w3.cell? ⟨w.heap.size + 1, 2, none⟩ = some (.string kr) := HB3.out.c2 2; clear hb_)
           | (go_at_call_of 94 (Value.slice q1 l1 j1); refine (HWR.out _ HB1.out.bel).mono ?_; rintro e w2 ⟨rfl, hb_⟩; have HB2 : Hid _ := HB1.out.next hb_; have u1_w2 : w2.cell? ⟨w.heap.size, 1, none⟩ = some (.slice q1 l1 j1) := HB2.out.c1 1; have u2_w2 : w2.cell? ⟨w.heap.size, 2, none⟩ = some (.slice q2 l2 j2) := HB2.out.c1 2; have v0_w2 : w2.cell? ⟨w.heap.size + 1, 0, none⟩ = some (.string kl) := HB2.out.c2 0; have v1_w2 : w2.cell? ⟨w.heap.size + 1, 1, none⟩ = some (.slice op on oc) := HB2.out.c2 1; have v2_w2 : w2.cell? ⟨w.heap.size + 1, 2, none⟩ = some (.string kr) := HB2.out.c2 2; clear hb_)
           | (go_at_call_of 94 (Value.slice q1 l1 j1); refine (HWL.out _ HB0.out.bel).mono ?_; rintro e w1 ⟨rfl, hb_⟩; have HB1 : Hid _ := HB0.out.next hb_; have u1_w1 : w1.cell? ⟨w.heap.size, 1, none⟩ = some (.slice q1 l1 j1) := HB1.out.c1 1; have u2_w1 : w1.cell? ⟨w.heap.size, 2, none⟩ = some (.slice q2 l2 j2) := HB1.out.c1 2; have v0_w1 : w1.cell? ⟨w.heap.size + 1, 0, none⟩ = some (.string kl) := HB1.out.c2 0; have v1_w1 : w1.cell? ⟨w.heap.size + 1, 1, none⟩ = some (.slice op on oc) := HB1.out.c2 1; have v2_w1 : w1.cell? ⟨w.heap.size + 1, 2, none⟩ = some (.string kr) := HB1.out.c2 2; clear hb_))
         go_ret
         exact ⟨ret_int HR0.out, HB3.out.bel⟩
 . by_cases hb : b < 0
   . by_cases hd : d < 0
     . have HR0 : Hid (6 = R) := by
         have h := HR.out
         rw [if_pos (by omega)] at h
         exact h
       clear HR
       go_enter Tryz.func75, Tryz.ntmps75
       go_wp2_with (first
         | (go_at_call_of 94 (Value.slice q2 l2 j2); refine (HNR.out _ HB2.out.bel).mono ?_; rintro e w4 ⟨rfl, hb_⟩; have HB4 : Hid _ := HB2.out.next hb_; have u1_w4 : w4.cell? ⟨w.heap.size, 1, none⟩ = some (.slice q1 l1 j1) := HB4.out.c1 1; have u2_w4 : w4.cell? ⟨w.heap.size, 2, none⟩ = some (.slice q2 l2 j2) := HB4.out.c1 2; have v0_w4 : w4.cell? ⟨w.heap.size + 1, 0, none⟩ = some (.string kl) := HB4.out.c2 0; have v1_w4 : w4.cell? ⟨w.heap.size + 1, 1, none⟩ = some (.slice op on oc) := HB4.out.c2 1; have v2_w4 : w4.cell? ⟨w.heap.size + 1, 2, none⟩ = some (.string kr) := HB4.out.c2 2; clear hb_)
         | (go_at_call_of 94 (Value.slice q1 l1 j1); refine (HWR.out _ HB1.out.bel).mono ?_; rintro e w2 ⟨rfl, hb_⟩; have HB2 : Hid _ := HB1.out.next hb_; have u1_w2 : w2.cell? ⟨w.heap.size, 1, none⟩ = some (.slice q1 l1 j1) := HB2.out.c1 1; have u2_w2 : w2.cell? ⟨w.heap.size, 2, none⟩ = some (.slice q2 l2 j2) := HB2.out.c1 2; have v0_w2 : w2.cell? ⟨w.heap.size + 1, 0, none⟩ = some (.string kl) := HB2.out.c2 0; have v1_w2 : w2.cell? ⟨w.heap.size + 1, 1, none⟩ = some (.slice op on oc) := HB2.out.c2 1; have v2_w2 : w2.cell? ⟨w.heap.size + 1, 2, none⟩ = some (.string kr) := HB2.out.c2 2; clear hb_)
         | (go_at_call_of 94 (Value.slice q1 l1 j1); refine (HWL.out _ HB0.out.bel).mono ?_; rintro e w1 ⟨rfl, hb_⟩; have HB1 : Hid _ := HB0.out.next hb_; have u1_w1 : w1.cell? ⟨w.heap.size, 1, none⟩ = some (.slice q1 l1 j1) := HB1.out.c1 1; have u2_w1 : w1.cell? ⟨w.heap.size, 2, none⟩ = some (.slice q2 l2 j2) := HB1.out.c1 2; have v0_w1 : w1.cell? ⟨w.heap.size + 1, 0, none⟩ = some (.string kl) := HB1.out.c2 0; have v1_w1 : w1.cell? ⟨w.heap.size + 1, 1, none⟩ = some (.slice op on oc) := HB1.out.c2 1; have v2_w1 : w1.cell? ⟨w.heap.size + 1, 2, none⟩ = some (.string kr) := HB1.out.c2 2; clear hb_))
       go_ret
       exact ⟨ret_int HR0.out, HB4.out.bel⟩
     . have HR2 : Hid ((if seq kl kr = true ∨ (a < 0 ∧ b < 0) then 4 else if ¬ (1 ≤ on ∧ on ≤ 6) then 1 else ofs os) = R) := by
         have h := HR.out
         rw [if_neg (by omega)] at h
         exact h
       clear HR
       cases hsq : seq kl kr
       . have q9 : (kl.toList == kr.toList) = false := hsq
         have HRR : Hid ((if ¬ (1 ≤ on ∧ on ≤ 6) then 1 else ofs os) = R) := by
           have h := HR2.out
           rw [if_neg (by rintro (c | c); rw [hsq] at c; cases c; omega)] at h
           exact h
         clear HR2
         by_cases hlen : 1 ≤ on ∧ on ≤ 6
         . have HIN : Hid (∀ W, Calls Tryz.prog 17 #[.int .i64 (on : Int), .int .i64 1, .int .i64 6] W fun e w' => e = .returned (.bool true) ∧ w' = W) := fun W => in_any (on : Int) _ _ true (say_true (by omega)) W
           have HR1 : Hid (ofs os = R) := by
             have h := HRR.out
             rw [if_neg (fun c => c hlen)] at h
             exact h
           clear HRR
           go_enter Tryz.func75, Tryz.ntmps75
           go_wp2_with (first
             | (go_at_call 17; refine (HIN.out _).mono ?_; rintro e w' ⟨rfl, rfl⟩)
             | (go_at_call_of 94 (Value.slice q2 l2 j2); refine (HNR.out _ HB2.out.bel).mono ?_; rintro e w4 ⟨rfl, hb_⟩; have HB4 : Hid _ := HB2.out.next hb_; have u1_w4 : w4.cell? ⟨w.heap.size, 1, none⟩ = some (.slice q1 l1 j1) := HB4.out.c1 1; have u2_w4 : w4.cell? ⟨w.heap.size, 2, none⟩ = some (.slice q2 l2 j2) := HB4.out.c1 2; have v0_w4 : w4.cell? ⟨w.heap.size + 1, 0, none⟩ = some (.string kl) := HB4.out.c2 0; have v1_w4 : w4.cell? ⟨w.heap.size + 1, 1, none⟩ = some (.slice op on oc) := HB4.out.c2 1; have v2_w4 : w4.cell? ⟨w.heap.size + 1, 2, none⟩ = some (.string kr) := HB4.out.c2 2; clear hb_)
             | (go_at_call_of 94 (Value.slice q1 l1 j1); refine (HWR.out _ HB1.out.bel).mono ?_; rintro e w2 ⟨rfl, hb_⟩; have HB2 : Hid _ := HB1.out.next hb_; have u1_w2 : w2.cell? ⟨w.heap.size, 1, none⟩ = some (.slice q1 l1 j1) := HB2.out.c1 1; have u2_w2 : w2.cell? ⟨w.heap.size, 2, none⟩ = some (.slice q2 l2 j2) := HB2.out.c1 2; have v0_w2 : w2.cell? ⟨w.heap.size + 1, 0, none⟩ = some (.string kl) := HB2.out.c2 0; have v1_w2 : w2.cell? ⟨w.heap.size + 1, 1, none⟩ = some (.slice op on oc) := HB2.out.c2 1; have v2_w2 : w2.cell? ⟨w.heap.size + 1, 2, none⟩ = some (.string kr) := HB2.out.c2 2; clear hb_)
             | (go_at_call_of 94 (Value.slice q1 l1 j1); refine (HWL.out _ HB0.out.bel).mono ?_; rintro e w1 ⟨rfl, hb_⟩; have HB1 : Hid _ := HB0.out.next hb_; have u1_w1 : w1.cell? ⟨w.heap.size, 1, none⟩ = some (.slice q1 l1 j1) := HB1.out.c1 1; have u2_w1 : w1.cell? ⟨w.heap.size, 2, none⟩ = some (.slice q2 l2 j2) := HB1.out.c1 2; have v0_w1 : w1.cell? ⟨w.heap.size + 1, 0, none⟩ = some (.string kl) := HB1.out.c2 0; have v1_w1 : w1.cell? ⟨w.heap.size + 1, 1, none⟩ = some (.slice op on oc) := HB1.out.c2 1; have v2_w1 : w1.cell? ⟨w.heap.size + 1, 2, none⟩ = some (.string kr) := HB1.out.c2 2; clear hb_))
           go_loopw [7, 8] (fun i _ wr => ∃ k : Nat, k ≤ on ∧ i = .int .i64 (k : Nat) ∧ ofs (os.drop k) = R ∧ Blk2 w wr [.string rn, (.slice q1 l1 j1), (.slice q2 l2 j2), (.slice q3 l3 j3), (.slice q4 l4 j4), .string ety, (.slice q5 l5 j5)] [.string kl, .slice op on oc, .string kr] 49 103) (fun i _ _ => on + 1 - (intOf i).toNat)
           case atStart => exact ⟨0, by omega, rfl, HR1.out, HB4.out⟩
           case round =>
             obtain ⟨k, hk, rfl, hof, hTr⟩ := hrel
             have HT : Hid (Blk2 w wr [.string rn, (.slice q1 l1 j1), (.slice q2 l2 j2), (.slice q3 l3 j3), (.slice q4 l4 j4), .string ety, (.slice q5 l5 j5)] [.string kl, .slice op on oc, .string kr] 49 103) := hTr
             have v1 : wr.cell? ⟨w.heap.size + 1, 1, none⟩ = some (.slice op on oc) := hTr.c2 1
             by_cases hlt : k < on
             . have hkc : k < os.length := by have := HON.out; omega
               obtain ⟨g, off, hp, hrd⟩ := HAO.out (by omega)
               rw [hp] at v1
               obtain ⟨us, r1, o1⟩ := hrd wr hTr.bel k hkc
               have z1 := rdQ o1
               clear o1
               subst z1
               rw [List.drop_eq_getElem_cons hkc, ofs] at hof
               obtain ⟨⟨xr, xl, xh⟩, hd⟩ : ∃ d, os[k] = d := ⟨_, rfl⟩
               rw [hd] at r1 hof
               simp only at r1 hof
               have n0 := r1 0 _ rfl
               have n1 := r1 1 _ rfl
               have n2 := r1 2 _ rfl
               simp only [Nat.add_zero] at n0
               obtain ⟨e0, he0⟩ : ∃ e0, ock xr xl xh = e0 := ⟨_, rfl⟩
               have HOP : Hid (∀ W, Calls Tryz.prog 124 #[.agg #[.int .i64 xr, .int .i64 xl, .int .i64 xh]] W fun e w' => e = .returned (.int .i64 e0) ∧ Below W.heap.size W w') := fun W => by rw [← he0]; exact optionFault_any xr xl xh W
               rw [he0] at hof
               have HOF := hid hof
               have i1 : (0 : Int) ≤ (k : Int) := by omega
               have i2 : (k : Int) < (on : Int) := by omega
               clear r1 hd hrd hTr hkc he0 hof hp
               by_cases hz : e0 = 0
               . have HOG : Hid (ofs (os.drop (k + 1)) = R) := by have h := HOF.out; rw [if_neg (fun c => c hz)] at h; exact h
                 subst hz
                 go_wp2_with (first
                  | (go_at_call 124; refine (HOP.out _).mono ?_; rintro e w8 ⟨rfl, hb_⟩; have HT8 : Hid _ := HT.out.next hb_; clear hb_))
                 go_roundw
                 case rel => exact ⟨k + 1, by omega, by go_num, HOG.out, HT8.out⟩
                 case measure => simp [intOf]; omega
               . have HOG : Hid (e0 = R) := by have h := HOF.out; rw [if_pos hz] at h; exact h
                 have b1 : (e0 != 0) = true := by simpa using hz
                 have b2 : (e0 == 0) = false := by simpa using hz
                 go_wp2_with (first
                  | (go_at_call 124; refine (HOP.out _).mono ?_; rintro e w8 ⟨rfl, hb_⟩; have HT8 : Hid _ := HT.out.next hb_; clear hb_))
                 go_ret
                 exact ⟨ret_int HOG.out, HT8.out.bel⟩
             . obtain rfl : on = k := by omega
               rw [List.drop_eq_nil_of_le (by have := HON.out; omega), ofs] at hof
               have HOF := hid hof
               clear hTr hof
               go_wp2_with fail
               go_ret
               exact ⟨ret_int HOF.out, HT.out.bel⟩
         . have HIN : Hid (∀ W, Calls Tryz.prog 17 #[.int .i64 (on : Int), .int .i64 1, .int .i64 6] W fun e w' => e = .returned (.bool false) ∧ w' = W) := fun W => in_any (on : Int) _ _ false (say_false (by omega)) W
           have HR0 : Hid (1 = R) := by
             have h := HRR.out
             rw [if_pos hlen] at h
             exact h
           clear HRR
           go_enter Tryz.func75, Tryz.ntmps75
           go_wp2_with (first
             | (go_at_call 17; refine (HIN.out _).mono ?_; rintro e w' ⟨rfl, rfl⟩)
             | (go_at_call_of 94 (Value.slice q2 l2 j2); refine (HNR.out _ HB2.out.bel).mono ?_; rintro e w4 ⟨rfl, hb_⟩; have HB4 : Hid _ := HB2.out.next hb_; have u1_w4 : w4.cell? ⟨w.heap.size, 1, none⟩ = some (.slice q1 l1 j1) := HB4.out.c1 1; have u2_w4 : w4.cell? ⟨w.heap.size, 2, none⟩ = some (.slice q2 l2 j2) := HB4.out.c1 2; have v0_w4 : w4.cell? ⟨w.heap.size + 1, 0, none⟩ = some (.string kl) := HB4.out.c2 0; have v1_w4 : w4.cell? ⟨w.heap.size + 1, 1, none⟩ = some (.slice op on oc) := HB4.out.c2 1; have v2_w4 : w4.cell? ⟨w.heap.size + 1, 2, none⟩ = some (.string kr) := HB4.out.c2 2; clear hb_)
             | (go_at_call_of 94 (Value.slice q1 l1 j1); refine (HWR.out _ HB1.out.bel).mono ?_; rintro e w2 ⟨rfl, hb_⟩; have HB2 : Hid _ := HB1.out.next hb_; have u1_w2 : w2.cell? ⟨w.heap.size, 1, none⟩ = some (.slice q1 l1 j1) := HB2.out.c1 1; have u2_w2 : w2.cell? ⟨w.heap.size, 2, none⟩ = some (.slice q2 l2 j2) := HB2.out.c1 2; have v0_w2 : w2.cell? ⟨w.heap.size + 1, 0, none⟩ = some (.string kl) := HB2.out.c2 0; have v1_w2 : w2.cell? ⟨w.heap.size + 1, 1, none⟩ = some (.slice op on oc) := HB2.out.c2 1; have v2_w2 : w2.cell? ⟨w.heap.size + 1, 2, none⟩ = some (.string kr) := HB2.out.c2 2; clear hb_)
             | (go_at_call_of 94 (Value.slice q1 l1 j1); refine (HWL.out _ HB0.out.bel).mono ?_; rintro e w1 ⟨rfl, hb_⟩; have HB1 : Hid _ := HB0.out.next hb_; have u1_w1 : w1.cell? ⟨w.heap.size, 1, none⟩ = some (.slice q1 l1 j1) := HB1.out.c1 1; have u2_w1 : w1.cell? ⟨w.heap.size, 2, none⟩ = some (.slice q2 l2 j2) := HB1.out.c1 2; have v0_w1 : w1.cell? ⟨w.heap.size + 1, 0, none⟩ = some (.string kl) := HB1.out.c2 0; have v1_w1 : w1.cell? ⟨w.heap.size + 1, 1, none⟩ = some (.slice op on oc) := HB1.out.c2 1; have v2_w1 : w1.cell? ⟨w.heap.size + 1, 2, none⟩ = some (.string kr) := HB1.out.c2 2; clear hb_))
           go_ret
           exact ⟨ret_int HR0.out, HB4.out.bel⟩
       . have q9 : (kl.toList == kr.toList) = true := hsq
         have HR0 : Hid (4 = R) := by
           have h := HR2.out
           rw [if_pos (.inl hsq)] at h
           exact h
         clear HR2
         go_enter Tryz.func75, Tryz.ntmps75
         go_wp2_with (first
           | (go_at_call_of 94 (Value.slice q2 l2 j2); refine (HNR.out _ HB2.out.bel).mono ?_; rintro e w4 ⟨rfl, hb_⟩; have HB4 : Hid _ := HB2.out.next hb_; have u1_w4 : w4.cell? ⟨w.heap.size, 1, none⟩ = some (.slice q1 l1 j1) := HB4.out.c1 1; have u2_w4 : w4.cell? ⟨w.heap.size, 2, none⟩ = some (.slice q2 l2 j2) := HB4.out.c1 2; have v0_w4 : w4.cell? ⟨w.heap.size + 1, 0, none⟩ = some (.string kl) := HB4.out.c2 0; have v1_w4 : w4.cell? ⟨w.heap.size + 1, 1, none⟩ = some (.slice op on oc) := HB4.out.c2 1; have v2_w4 : w4.cell? ⟨w.heap.size + 1, 2, none⟩ = some (.string kr) := HB4.out.c2 2; clear hb_)
           | (go_at_call_of 94 (Value.slice q1 l1 j1); refine (HWR.out _ HB1.out.bel).mono ?_; rintro e w2 ⟨rfl, hb_⟩; have HB2 : Hid _ := HB1.out.next hb_; have u1_w2 : w2.cell? ⟨w.heap.size, 1, none⟩ = some (.slice q1 l1 j1) := HB2.out.c1 1; have u2_w2 : w2.cell? ⟨w.heap.size, 2, none⟩ = some (.slice q2 l2 j2) := HB2.out.c1 2; have v0_w2 : w2.cell? ⟨w.heap.size + 1, 0, none⟩ = some (.string kl) := HB2.out.c2 0; have v1_w2 : w2.cell? ⟨w.heap.size + 1, 1, none⟩ = some (.slice op on oc) := HB2.out.c2 1; have v2_w2 : w2.cell? ⟨w.heap.size + 1, 2, none⟩ = some (.string kr) := HB2.out.c2 2; clear hb_)
           | (go_at_call_of 94 (Value.slice q1 l1 j1); refine (HWL.out _ HB0.out.bel).mono ?_; rintro e w1 ⟨rfl, hb_⟩; have HB1 : Hid _ := HB0.out.next hb_; have u1_w1 : w1.cell? ⟨w.heap.size, 1, none⟩ = some (.slice q1 l1 j1) := HB1.out.c1 1; have u2_w1 : w1.cell? ⟨w.heap.size, 2, none⟩ = some (.slice q2 l2 j2) := HB1.out.c1 2; have v0_w1 : w1.cell? ⟨w.heap.size + 1, 0, none⟩ = some (.string kl) := HB1.out.c2 0; have v1_w1 : w1.cell? ⟨w.heap.size + 1, 1, none⟩ = some (.slice op on oc) := HB1.out.c2 1; have v2_w1 : w1.cell? ⟨w.heap.size + 1, 2, none⟩ = some (.string kr) := HB1.out.c2 2; clear hb_))
         go_ret
         exact ⟨ret_int HR0.out, HB4.out.bel⟩
   . have HR2 : Hid ((if seq kl kr = true ∨ (a < 0 ∧ b < 0) then 4 else if ¬ (1 ≤ on ∧ on ≤ 6) then 1 else ofs os) = R) := by
       have h := HR.out
       rw [if_neg (by omega)] at h
       exact h
     clear HR
     cases hsq : seq kl kr
     . have q9 : (kl.toList == kr.toList) = false := hsq
       have HRR : Hid ((if ¬ (1 ≤ on ∧ on ≤ 6) then 1 else ofs os) = R) := by
         have h := HR2.out
         rw [if_neg (by rintro (c | c); rw [hsq] at c; cases c; omega)] at h
         exact h
       clear HR2
       by_cases hlen : 1 ≤ on ∧ on ≤ 6
       . have HIN : Hid (∀ W, Calls Tryz.prog 17 #[.int .i64 (on : Int), .int .i64 1, .int .i64 6] W fun e w' => e = .returned (.bool true) ∧ w' = W) := fun W => in_any (on : Int) _ _ true (say_true (by omega)) W
         have HR1 : Hid (ofs os = R) := by
           have h := HRR.out
           rw [if_neg (fun c => c hlen)] at h
           exact h
         clear HRR
         go_enter Tryz.func75, Tryz.ntmps75
         go_wp2_with (first
           | (go_at_call 17; refine (HIN.out _).mono ?_; rintro e w' ⟨rfl, rfl⟩)
           | (go_at_call_of 94 (Value.slice q1 l1 j1); refine (HWR.out _ HB1.out.bel).mono ?_; rintro e w2 ⟨rfl, hb_⟩; have HB2 : Hid _ := HB1.out.next hb_; have u1_w2 : w2.cell? ⟨w.heap.size, 1, none⟩ = some (.slice q1 l1 j1) := HB2.out.c1 1; have u2_w2 : w2.cell? ⟨w.heap.size, 2, none⟩ = some (.slice q2 l2 j2) := HB2.out.c1 2; have v0_w2 : w2.cell? ⟨w.heap.size + 1, 0, none⟩ = some (.string kl) := HB2.out.c2 0; have v1_w2 : w2.cell? ⟨w.heap.size + 1, 1, none⟩ = some (.slice op on oc) := HB2.out.c2 1; have v2_w2 : w2.cell? ⟨w.heap.size + 1, 2, none⟩ = some (.string kr) := HB2.out.c2 2; clear hb_)
           | (go_at_call_of 94 (Value.slice q1 l1 j1); refine (HWL.out _ HB0.out.bel).mono ?_; rintro e w1 ⟨rfl, hb_⟩; have HB1 : Hid _ := HB0.out.next hb_; have u1_w1 : w1.cell? ⟨w.heap.size, 1, none⟩ = some (.slice q1 l1 j1) := HB1.out.c1 1; have u2_w1 : w1.cell? ⟨w.heap.size, 2, none⟩ = some (.slice q2 l2 j2) := HB1.out.c1 2; have v0_w1 : w1.cell? ⟨w.heap.size + 1, 0, none⟩ = some (.string kl) := HB1.out.c2 0; have v1_w1 : w1.cell? ⟨w.heap.size + 1, 1, none⟩ = some (.slice op on oc) := HB1.out.c2 1; have v2_w1 : w1.cell? ⟨w.heap.size + 1, 2, none⟩ = some (.string kr) := HB1.out.c2 2; clear hb_))
         go_loopw [7, 8] (fun i _ wr => ∃ k : Nat, k ≤ on ∧ i = .int .i64 (k : Nat) ∧ ofs (os.drop k) = R ∧ Blk2 w wr [.string rn, (.slice q1 l1 j1), (.slice q2 l2 j2), (.slice q3 l3 j3), (.slice q4 l4 j4), .string ety, (.slice q5 l5 j5)] [.string kl, .slice op on oc, .string kr] 49 103) (fun i _ _ => on + 1 - (intOf i).toNat)
         case atStart => exact ⟨0, by omega, rfl, HR1.out, HB2.out⟩
         case round =>
           obtain ⟨k, hk, rfl, hof, hTr⟩ := hrel
           have HT : Hid (Blk2 w wr [.string rn, (.slice q1 l1 j1), (.slice q2 l2 j2), (.slice q3 l3 j3), (.slice q4 l4 j4), .string ety, (.slice q5 l5 j5)] [.string kl, .slice op on oc, .string kr] 49 103) := hTr
           have v1 : wr.cell? ⟨w.heap.size + 1, 1, none⟩ = some (.slice op on oc) := hTr.c2 1
           by_cases hlt : k < on
           . have hkc : k < os.length := by have := HON.out; omega
             obtain ⟨g, off, hp, hrd⟩ := HAO.out (by omega)
             rw [hp] at v1
             obtain ⟨us, r1, o1⟩ := hrd wr hTr.bel k hkc
             have z1 := rdQ o1
             clear o1
             subst z1
             rw [List.drop_eq_getElem_cons hkc, ofs] at hof
             obtain ⟨⟨xr, xl, xh⟩, hd⟩ : ∃ d, os[k] = d := ⟨_, rfl⟩
             rw [hd] at r1 hof
             simp only at r1 hof
             have n0 := r1 0 _ rfl
             have n1 := r1 1 _ rfl
             have n2 := r1 2 _ rfl
             simp only [Nat.add_zero] at n0
             obtain ⟨e0, he0⟩ : ∃ e0, ock xr xl xh = e0 := ⟨_, rfl⟩
             have HOP : Hid (∀ W, Calls Tryz.prog 124 #[.agg #[.int .i64 xr, .int .i64 xl, .int .i64 xh]] W fun e w' => e = .returned (.int .i64 e0) ∧ Below W.heap.size W w') := fun W => by rw [← he0]; exact optionFault_any xr xl xh W
             rw [he0] at hof
             have HOF := hid hof
             have i1 : (0 : Int) ≤ (k : Int) := by omega
             have i2 : (k : Int) < (on : Int) := by omega
             clear r1 hd hrd hTr hkc he0 hof hp
             by_cases hz : e0 = 0
             . have HOG : Hid (ofs (os.drop (k + 1)) = R) := by have h := HOF.out; rw [if_neg (fun c => c hz)] at h; exact h
               subst hz
               go_wp2_with (first
                 | (go_at_call 124; refine (HOP.out _).mono ?_; rintro e w8 ⟨rfl, hb_⟩; have HT8 : Hid _ := HT.out.next hb_; clear hb_))
               go_roundw
               case rel => exact ⟨k + 1, by omega, by go_num, HOG.out, HT8.out⟩
               case measure => simp [intOf]; omega
             . have HOG : Hid (e0 = R) := by have h := HOF.out; rw [if_pos hz] at h; exact h
               have b1 : (e0 != 0) = true := by simpa using hz
               have b2 : (e0 == 0) = false := by simpa using hz
               go_wp2_with (first
                 | (go_at_call 124; refine (HOP.out _).mono ?_; rintro e w8 ⟨rfl, hb_⟩; have HT8 : Hid _ := HT.out.next hb_; clear hb_))
               go_ret
               exact ⟨ret_int HOG.out, HT8.out.bel⟩
           . obtain rfl : on = k := by omega
             rw [List.drop_eq_nil_of_le (by have := HON.out; omega), ofs] at hof
             have HOF := hid hof
             clear hTr hof
             go_wp2_with fail
             go_ret
             exact ⟨ret_int HOF.out, HT.out.bel⟩
       . have HIN : Hid (∀ W, Calls Tryz.prog 17 #[.int .i64 (on : Int), .int .i64 1, .int .i64 6] W fun e w' => e = .returned (.bool false) ∧ w' = W) := fun W => in_any (on : Int) _ _ false (say_false (by omega)) W
         have HR0 : Hid (1 = R) := by
           have h := HRR.out
           rw [if_pos hlen] at h
           exact h
         clear HRR
         go_enter Tryz.func75, Tryz.ntmps75
         go_wp2_with (first
           | (go_at_call 17; refine (HIN.out _).mono ?_; rintro e w' ⟨rfl, rfl⟩)
           | (go_at_call_of 94 (Value.slice q1 l1 j1); refine (HWR.out _ HB1.out.bel).mono ?_; rintro e w2 ⟨rfl, hb_⟩; have HB2 : Hid _ := HB1.out.next hb_; have u1_w2 : w2.cell? ⟨w.heap.size, 1, none⟩ = some (.slice q1 l1 j1) := HB2.out.c1 1; have u2_w2 : w2.cell? ⟨w.heap.size, 2, none⟩ = some (.slice q2 l2 j2) := HB2.out.c1 2; have v0_w2 : w2.cell? ⟨w.heap.size + 1, 0, none⟩ = some (.string kl) := HB2.out.c2 0; have v1_w2 : w2.cell? ⟨w.heap.size + 1, 1, none⟩ = some (.slice op on oc) := HB2.out.c2 1; have v2_w2 : w2.cell? ⟨w.heap.size + 1, 2, none⟩ = some (.string kr) := HB2.out.c2 2; clear hb_)
           | (go_at_call_of 94 (Value.slice q1 l1 j1); refine (HWL.out _ HB0.out.bel).mono ?_; rintro e w1 ⟨rfl, hb_⟩; have HB1 : Hid _ := HB0.out.next hb_; have u1_w1 : w1.cell? ⟨w.heap.size, 1, none⟩ = some (.slice q1 l1 j1) := HB1.out.c1 1; have u2_w1 : w1.cell? ⟨w.heap.size, 2, none⟩ = some (.slice q2 l2 j2) := HB1.out.c1 2; have v0_w1 : w1.cell? ⟨w.heap.size + 1, 0, none⟩ = some (.string kl) := HB1.out.c2 0; have v1_w1 : w1.cell? ⟨w.heap.size + 1, 1, none⟩ = some (.slice op on oc) := HB1.out.c2 1; have v2_w1 : w1.cell? ⟨w.heap.size + 1, 2, none⟩ = some (.string kr) := HB1.out.c2 2; clear hb_))
         go_ret
         exact ⟨ret_int HR0.out, HB2.out.bel⟩
     . have q9 : (kl.toList == kr.toList) = true := hsq
       have HR0 : Hid (4 = R) := by
         have h := HR2.out
         rw [if_pos (.inl hsq)] at h
         exact h
       clear HR2
       go_enter Tryz.func75, Tryz.ntmps75
       go_wp2_with (first
         | (go_at_call_of 94 (Value.slice q1 l1 j1); refine (HWR.out _ HB1.out.bel).mono ?_; rintro e w2 ⟨rfl, hb_⟩; have HB2 : Hid _ := HB1.out.next hb_; have u1_w2 : w2.cell? ⟨w.heap.size, 1, none⟩ = some (.slice q1 l1 j1) := HB2.out.c1 1; have u2_w2 : w2.cell? ⟨w.heap.size, 2, none⟩ = some (.slice q2 l2 j2) := HB2.out.c1 2; have v0_w2 : w2.cell? ⟨w.heap.size + 1, 0, none⟩ = some (.string kl) := HB2.out.c2 0; have v1_w2 : w2.cell? ⟨w.heap.size + 1, 1, none⟩ = some (.slice op on oc) := HB2.out.c2 1; have v2_w2 : w2.cell? ⟨w.heap.size + 1, 2, none⟩ = some (.string kr) := HB2.out.c2 2; clear hb_)
         | (go_at_call_of 94 (Value.slice q1 l1 j1); refine (HWL.out _ HB0.out.bel).mono ?_; rintro e w1 ⟨rfl, hb_⟩; have HB1 : Hid _ := HB0.out.next hb_; have u1_w1 : w1.cell? ⟨w.heap.size, 1, none⟩ = some (.slice q1 l1 j1) := HB1.out.c1 1; have u2_w1 : w1.cell? ⟨w.heap.size, 2, none⟩ = some (.slice q2 l2 j2) := HB1.out.c1 2; have v0_w1 : w1.cell? ⟨w.heap.size + 1, 0, none⟩ = some (.string kl) := HB1.out.c2 0; have v1_w1 : w1.cell? ⟨w.heap.size + 1, 1, none⟩ = some (.slice op on oc) := HB1.out.c2 1; have v2_w1 : w1.cell? ⟨w.heap.size + 1, 2, none⟩ = some (.string kr) := HB1.out.c2 2; clear hb_))
       go_ret
       exact ⟨ret_int HR0.out, HB2.out.bel⟩
end Go.Proofs.YthndlfdbmljkhaaGreatDoor.Chk
