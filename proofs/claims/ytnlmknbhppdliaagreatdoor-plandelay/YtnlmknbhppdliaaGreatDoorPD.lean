/-
  Who waits for what may come so much later waits so long: PlanDelay.
-/
import Derived.BigQuiet
import Derived.Test.YtnlmknbhppdliaaGreatDoorPw
import Derived.Test.YtnlmknbhppdliaaGreatDoorPb
import Derived.Test.YtnlmknbhppdliaaGreatDoorB8O5
set_option maxHeartbeats 64000000
namespace Go.Proofs.YtnlmknbhppdliaaGreatDoor.Chk
open Go.ChangeShapes Go.WideShapes Go.ChangeAt Go.RowKit Go.Maps
open B8 (Mx OwnM New zA5)
set_option linter.unusedVariables false
set_option linter.unusedSimpArgs false
set_option maxRecDepth 20000
theorem zCV {B : Nat} {w w1 : World} (h : Below B w w1) (n : Nat) : Below B w (w1.drewN n) := ⟨h.os, h.tape, h.output, h.size, h.block⟩
theorem planDelay_walk (low mo wi : Int) (l1 : -9223372036854775808 ≤ low) (l2 : low ≤ 9223372036854775807) (l3 : -9223372036854775808 ≤ mo) (l4 : mo ≤ 9223372036854775807) (l5 : -9223372036854775808 ≤ wi) (l6 : wi ≤ 9223372036854775807) (w : World) (htk : Tab w 0 kpl) (htr : Tab w 1 rll) (ht : B8.Tab w) : Calls Tryz.prog 5 #[.int .i64 low, .int .i64 mo, .int .i64 wi] w fun e w' => e = .returned (.bool true) ∧ Below w.heap.size w w' := by
 obtain ⟨low', hlow⟩ : ∃ z, low = z := ⟨_, rfl⟩
 have HP1 := hid (fun W => zCH low 1000 W l1 l2 (by decide) (by decide))
 have HP2 := hid (fun W => zCH mo 1000 W l3 l4 (by decide) (by decide))
 have HP3 := hid (fun W => zCH wi 1000 W l5 l6 (by decide) (by decide))
 have h1 := zIU low (m := 1000) (by decide)
 have h2 := zIU mo (m := 1000) (by decide)
 have h3 := zIU wi (m := 1000) (by decide)
 obtain ⟨g, hg9⟩ : ∃ z, pkd low 1000 = z := ⟨_, rfl⟩
 obtain ⟨m, hm9⟩ : ∃ z, pkd mo 1000 = z := ⟨_, rfl⟩
 obtain ⟨wn, hw9⟩ : ∃ z, pkd wi 1000 = z := ⟨_, rfl⟩
 rw [hg9] at HP1 h1
 rw [hm9] at HP2 h2
 rw [hw9] at HP3 h3
 obtain ⟨h, hh⟩ : ∃ z, g + m = z := ⟨_, rfl⟩
 have HG : Hid (0 ≤ g ∧ g ≤ h ∧ h ≤ 2000 ∧ 0 ≤ wn ∧ wn ≤ 1000) := by show _ ∧ _; omega
 have u1 : RowKit.wrap64 (g + m) = h := by unfold RowKit.wrap64; omega
 obtain ⟨s1, hs1⟩ : ∃ z, h + 1 = z := ⟨_, rfl⟩
 obtain ⟨mx, hmx⟩ : ∃ z, max g 1 = z := ⟨_, rfl⟩
 obtain ⟨s2, hs2⟩ : ∃ z, s1 - mx = z := ⟨_, rfl⟩
 have u2 : RowKit.wrap64 (h + 1) = s1 := by unfold RowKit.wrap64; omega
 have u3 : RowKit.wrap64 (s1 - mx) = s2 := by unfold RowKit.wrap64; omega
 have HS : Hid (h + 1 = s1 ∧ max g 1 = mx ∧ s1 - mx = s2) := ⟨hs1, hmx, hs2⟩
 have HTY := hid zH6
 clear hg9 hm9 hw9 h1 h2 h3 hh hs1 hmx hs2 l1 l2 l3 l4 l5 l6 hlow
 go_enter Tryz.func5, Tryz.ntmps5
 go_upto_region 4 with (first
   | (go_at_call_of 9 (Value.int IntKind.i64 low); refine (HP1.out _).mono ?_; rintro e w ⟨rfl, rfl⟩)
   | (go_at_call_of 9 (Value.int IntKind.i64 mo); refine (HP2.out _).mono ?_; rintro e w ⟨rfl, rfl⟩)
   | (go_at_call_of 9 (Value.int IntKind.i64 wi); refine (HP3.out _).mono ?_; rintro e w ⟨rfl, rfl⟩))
 have HPK := HP3
 clear HP1 HP2 HP3
 go_upto_region 5 with (first
   | (go_at_call 12; refine (HTY.out _).mono ?_; rintro e w1 ⟨b, rfl, hb1, hb2, hb3⟩; have HTB := hid hb2; have L0 := hid hb3; clear hb1 hb2 hb3)
   | ((with_reducible show wpList _ _ _ (Oper.mk (some 26) _ _ _ _ _ :: _) _ _); refine zFQ (by rfl) 49 1 _ (by rfl) #[(0, .agg #[.string ⟨#[120]⟩, .string ⟨#[97]⟩, .int .i64 0, .slice none 0 0, .int .i64 0, .int .i64 0, .int .i64 0, .string ⟨#[]⟩, .string ⟨#[]⟩, .string ⟨#[]⟩, .int .i64 0, .int .i64 0, .int .i64 0, .string ⟨#[]⟩, .string ⟨#[]⟩, .string ⟨#[]⟩, .int .i64 1, .int .i64 wn])] (by simp [Act.eval, Act.put]) [.string ⟨#[120]⟩, .string ⟨#[97]⟩, .int .i64 0, .slice none 0 0, .int .i64 0, .int .i64 0, .int .i64 0, .string ⟨#[]⟩, .string ⟨#[]⟩, .string ⟨#[]⟩, .int .i64 0, .int .i64 0, .int .i64 0, .string ⟨#[]⟩, .string ⟨#[]⟩, .string ⟨#[]⟩, .int .i64 1, .int .i64 wn] 48 (fun w => by kernel_rfl) ?_; intro b1 w2 hq1 hq2 hq3 hq4; have Kb1 := hid hq1; have Lw2 := hid hq2; have Zb1 := hid (And.intro hq3 hq4); clear hq1 hq2 hq3 hq4)
   | ((with_reducible show wpList _ _ _ (Oper.mk (some 28) _ _ _ _ _ :: _) _ _); refine zFQ (by rfl) 49 1 _ (by rfl) #[(0, .agg #[.string ⟨#[117]⟩, .string ⟨#[98]⟩, .int .i64 0, .slice none 0 0, .int .i64 0, .int .i64 0, .int .i64 0, .string ⟨#[]⟩, .string ⟨#[]⟩, .string ⟨#[]⟩, .int .i64 0, .int .i64 0, .int .i64 0, .string ⟨#[]⟩, .string ⟨#[]⟩, .string ⟨#[]⟩, .int .i64 0, .int .i64 0])] (by simp [Act.eval, Act.put]) [.string ⟨#[117]⟩, .string ⟨#[98]⟩, .int .i64 0, .slice none 0 0, .int .i64 0, .int .i64 0, .int .i64 0, .string ⟨#[]⟩, .string ⟨#[]⟩, .string ⟨#[]⟩, .int .i64 0, .int .i64 0, .int .i64 0, .string ⟨#[]⟩, .string ⟨#[]⟩, .string ⟨#[]⟩, .int .i64 0, .int .i64 0] 48 (fun w => by kernel_rfl) ?_; intro b2 w3 hq1 hq2 hq3 hq4; have Kb2 := hid hq1; have Lw3 := hid hq2; have Zb2 := hid (And.intro hq3 hq4); clear hq1 hq2 hq3 hq4)
   | ((with_reducible show wpList _ _ _ (Oper.mk (some 32) _ _ _ _ _ :: _) _ _); refine zFQ (by rfl) 64 1 _ (by rfl) #[(0, .agg #[.int .i64 7, .int .i64 g, .int .i64 h])] (by simp [Act.eval, Act.put]) [.int .i64 7, .int .i64 g, .int .i64 h] 63 (fun w => by kernel_rfl) ?_; intro b3 w4 hq1 hq2 hq3 hq4; have Kb3 := hid hq1; have Lw4 := hid hq2; have Zb3 := hid (And.intro hq3 hq4); clear hq1 hq2 hq3 hq4)
   | ((with_reducible show wpList _ _ _ (Oper.mk (some 34) _ _ _ _ _ :: _) _ _); refine zFQ (by rfl) 51 1 _ (by rfl) #[(0, .agg #[.string ⟨#[120]⟩, .slice (some ⟨b3, 0, none⟩) 1 1, .string ⟨#[117]⟩])] (by simp [Act.eval, Act.put]) [.string ⟨#[120]⟩, .slice (some ⟨b3, 0, none⟩) 1 1, .string ⟨#[117]⟩] 66 (fun w => by kernel_rfl) ?_; intro b4 w5 hq1 hq2 hq3 hq4; have Kb4 := hid hq1; have Lw5 := hid hq2; have Zb4 := hid (And.intro hq3 hq4); clear hq1 hq2 hq3 hq4)
   | ((with_reducible show wpList _ _ _ (Oper.mk (some 36) _ _ _ _ _ :: _) _ _); refine zFQ (by rfl) 26 1 _ (by rfl) #[(0, .agg #[.string ⟨#[114]⟩, .slice (some ⟨b1, 0, none⟩) 1 1, .slice (some ⟨b2, 0, none⟩) 1 1, .slice none 0 0, .slice (some ⟨b4, 0, none⟩) 1 1, .string ⟨#[]⟩, .slice none 0 0])] (by simp [Act.eval, Act.put]) [.string ⟨#[114]⟩, .slice (some ⟨b1, 0, none⟩) 1 1, .slice (some ⟨b2, 0, none⟩) 1 1, .slice none 0 0, .slice (some ⟨b4, 0, none⟩) 1 1, .string ⟨#[]⟩, .slice none 0 0] 56 (fun w => by kernel_rfl) ?_; intro b5 w6 hq1 hq2 hq3 hq4; have Kb5 := hid hq1; have Lw6 := hid hq2; have Zb5 := hid (And.intro hq3 hq4); clear hq1 hq2 hq3 hq4)
   | ((with_reducible show wpList _ _ _ (Oper.mk _ (.store 28 _ _) _ _ _ _ :: _) _ _); refine zBL 28 w6.heap.size 0 [.slice none 0 0, .slice none 0 0] 28 [.slice (some ⟨b + 4, 0, none⟩) 5 5, .slice (some ⟨b5, 0, none⟩) 1 1] (heap_alloc_new _ _) ?_; intro wz hq1 hq2; have HU := hid hq1; have LWz : Hid (Below w6.heap.size w6 wz) := zA4 ((Below.refl _ _).alloc (Nat.le_refl _) (.cells #[.slice none 0 0, .slice none 0 0] 28)) hq2 (Nat.le_refl _); clear hq1 hq2))
 have L5 := LWz.out
 have L4 := zAA Lw6.out L5 Lw6.out.size
 have L3 := zAA Lw5.out L4 Lw5.out.size
 have L2 := zAA Lw4.out L3 Lw4.out.size
 have L1 := zAA Lw3.out L2 Lw3.out.size
 have Lq0 := zAA Lw2.out L1 Lw2.out.size
 have HBW := hid (zAA L0.out Lq0 L0.out.size)
 have HK1 := hid ((L1.block _ (zAE Kb1.out)).trans Kb1.out)
 have HK2 := hid ((L2.block _ (zAE Kb2.out)).trans Kb2.out)
 have HK3 := hid ((L3.block _ (zAE Kb3.out)).trans Kb3.out)
 have HK4 := hid ((L4.block _ (zAE Kb4.out)).trans Kb4.out)
 have HK5 := hid ((L5.block _ (zAE Kb5.out)).trans Kb5.out)
 have HTR := hid (HTB.out.later (fun i o hi _ _ => (Lq0.block _ (zAE hi)).trans hi)).rd
 obtain ⟨bz, hbz⟩ : ∃ z, w6.heap.size = z := ⟨_, rfl⟩
 rw [hbz] at HU ⊢
 have HUU := HU
 clear hbz HU LWz HTB HPK HTY Lq0 L1 L2 L3 L4 L5 Lw2 Lw3 Lw4 Lw5 Lw6 Kb1 Zb1 Kb2 Zb2 Kb3 Zb3 Kb4 Zb4 Kb5 Zb5 L0
 have HRR : Hid (Rd wz (.row 56 7 ([dlR g h wn].map encR)) (.slice (some ⟨b5, 0, none⟩) 1 1)) := rd_r1 HK5.out (rd_p1 HK1.out) (rd_p1 HK2.out) (.nil _ _ none 0 (Nat.zero_le _)) (rd_k1 HK4.out HK3.out)
 have HCK := hid (rck_dl HG.out.1 HG.out.2.1 HG.out.2.2.1 HG.out.2.2.2.1 HG.out.2.2.2.2)
 have HPL := hid (plO_dl HG.out.1 HG.out.2.1 HG.out.2.2.1 HG.out.2.2.2.1 HG.out.2.2.2.2)
 have hszr := szr_dl g h wn
 clear HK1 HK2 HK3 HK4 HK5
 obtain ⟨P, hP⟩ : ∃ P, plO (dlR g h wn) = P := ⟨_, rfl⟩
 have hn := plO_ok (x := (dlR g h wn)) HPL.out.1
 rw [hP] at hn
 have hpl := HPL.out
 rw [hP] at hpl
 have hc0 : P.c = 0 := hpl.1
 have hn1 : P.n1 = 1 := hn.1
 have hn2 : P.n2 = 1 := hn.2.1
 have hn3 : P.n3 = 0 := hn.2.2
 have HRU := hid (fun (W : World) (hW : Below wz.heap.size wz W) => by
   have h9 := rule_any kts [(dlR g h wn)] (fun r hr => by rw [List.mem_singleton.1 hr]; exact hszr) _ _ W (HTR.out.later hW) (HRR.out.later hW) (zAH htk (zAA HBW.out hW HBW.out.size)) (zAH htr (zAA HBW.out hW HBW.out.size)) (ht.later (zAA HBW.out hW HBW.out.size)) 0
   have e : plR kts [(dlR g h wn)] 0 = P := by
     unfold plR
     rw [if_neg (fun q => q (zHY HCK.out rfl)), if_neg (fun q => q ⟨by decide, by simp⟩)]
     exact hP
   rw [e] at h9
   exact h9.mono fun e' w' h_9 => (show (∃ pa ca pb cb pc cc, e' = .returned (.tuple #[.agg #[.int .i64 P.x, .slice pa 1 ca, .slice pb 1 cb, .slice pc 0 cc], .int .i64 0]) ∧ RwI w' (.slice pa 1 ca) 1 P.z1 ∧ RwI w' (.slice pb 1 cb) 1 P.z2 ∧ RwI w' (.slice pc 0 cc) 0 P.z3) ∧ Below W.heap.size W w' from ⟨by
     obtain ⟨pa, ca, pb, cb, pc, cc, h1, h2, h3, h4⟩ := h_9.1
     rw [hn1] at h2
     rw [hn2] at h3
     rw [hn3] at h4
     rw [hn1, hn2, hn3, hc0] at h1
     exact ⟨pa, ca, pb, cb, pc, cc, h1, h2, h3, h4⟩, h_9.2⟩))
 have HOF := hid (fun (W : World) (hW : Below wz.heap.size wz W) => by
   have h9 := zGQ kts [(dlR g h wn)] (fun r hr => by rw [List.mem_singleton.1 hr]; exact hszr) _ _ W (HTR.out.later hW) (HRR.out.later hW) (zAH htk (zAA HBW.out hW HBW.out.size)) (zAH htr (zAA HBW.out hW HBW.out.size)) (ht.later (zAA HBW.out hW HBW.out.size))
   rw [ofR_one HCK.out rfl HPL.out.1, hP] at h9
   exact h9.mono fun e' w' h_9 => (show (∃ g_9, e' = .returned (.tuple #[.slice (some ⟨g_9, 0, none⟩) 5 5, .int .i64 0]) ∧ w'.rowIs g_9 3 5 (fun i => .int .i64 (rA kts (dlR g h wn) P (fun _ => 0) i))) ∧ Below W.heap.size W w' from ⟨h_9.1.2 rfl, h_9.2⟩))
 have HR3 := hid (rA_dl g h wn P)
 obtain ⟨px, hpx⟩ : ∃ z, P.x = z := ⟨_, rfl⟩
 rw [hpx] at HRU hpl
 have HV := hid (And.intro hpl.2.1 hpl.2.2)
 clear htk htr ht hpl hc0 hn1 hn2 hn3 hn hP HCK HPL hszr hpx
 go_upto_region 6 with (first
   | ((with_reducible show wpList _ _ _ (Oper.mk _ (.load 28 _) _ _ _ _ :: _) _ _); refine wpList_load_mid (by rfl) 28 _ (by rfl) bz 0 (by rfl) [.slice (some ⟨b + 4, 0, none⟩) 5 5, .slice (some ⟨b5, 0, none⟩) 1 1] _ (zAL HUU.out) Tryz.underlying28 rfl (by kernel_rfl) ?_)
   | (go_at_call 13; refine (HRU.out _ (Below.refl _ _)).mono ?_; rintro e wa ⟨⟨pa, ca, pb, cb, pc, cc, rfl, q1, q2, q3⟩, hb⟩; have HQ1 := hid q1; have HQ2 := hid q2; have HQ3 := hid q3; have La := hid hb; have HUa := hid ((hb.block _ (zAE HUU.out)).trans HUU.out); clear hb q1 q2 q3)
   | ((with_reducible show wpList _ _ _ (Oper.mk _ (.store 69 _ _) _ _ _ _ :: _) _ _); refine zBL 69 wa.heap.size 0 [.int .i64 0, .slice none 0 0, .slice none 0 0, .slice none 0 0] 69 [.int .i64 px, .slice pa 1 ca, .slice pb 1 cb, .slice pc 0 cc] (heap_alloc_new _ _) ?_; intro wb hq1 hq2; have HPb : Hid (wb.heap[wa.heap.size]? = some (.cells #[.int .i64 px, .slice pa 1 ca, .slice pb 1 cb, .slice pc 0 cc] 69 (0, 0))) := hq1; have Lb : Hid (Below wa.heap.size wa wb) := zA4 ((Below.refl _ _).alloc (Nat.le_refl _) (.cells #[.int .i64 0, .slice none 0 0, .slice none 0 0, .slice none 0 0] 69)) hq2 (Nat.le_refl _); clear hq1 hq2))
 have Lzb := hid (zAA La.out Lb.out La.out.size)
 have HUb := hid ((Lb.out.block _ (zAE HUa.out)).trans HUa.out)
 have HQ1b := hid (HQ1.out.later Lb.out)
 have HQ2b := hid (HQ2.out.later Lb.out)
 have HQ3b := hid (HQ3.out.later Lb.out)
 obtain ⟨bp, hbp⟩ : ∃ z, wa.heap.size = z := ⟨_, rfl⟩
 rw [hbp] at HPb ⊢
 clear hbp HUa La Lb HRU HQ1 HQ2 HQ3
 go_upto_region 7 with (first
   | ((with_reducible show wpList _ _ _ (Oper.mk _ (.load 28 _) _ _ _ _ :: _) _ _); refine wpList_load_mid (by rfl) 28 _ (by rfl) bz 0 (by rfl) [.slice (some ⟨b + 4, 0, none⟩) 5 5, .slice (some ⟨b5, 0, none⟩) 1 1] _ (zAL HUb.out) Tryz.underlying28 rfl (by kernel_rfl) ?_)
   | (go_at_call 14; refine (HOF.out _ Lzb.out).mono ?_; rintro e wc ⟨⟨go_, rfl, hr⟩, hb⟩; have HOR := hid hr; have Lbc := hid hb; clear hr hb))
 have Lzc := hid (zAA Lzb.out Lbc.out Lzb.out.size)
 have HBWc := hid (zAA HBW.out Lzc.out HBW.out.size)
 have HUc := hid ((Lbc.out.block _ (zAE HUb.out)).trans HUb.out)
 have HPc := hid ((Lbc.out.block _ (zAE HPb.out)).trans HPb.out)
 have HQ1c := hid (HQ1b.out.later Lbc.out)
 have HQ2c := hid (HQ2b.out.later Lbc.out)
 have HQ3c := hid (HQ3b.out.later Lbc.out)
 clear HOF HUb HPb HQ1b HQ2b HQ3b Lzb Lbc Lzc HBW HTR HRR
 have p0 : wc.cell? ⟨bp, 0, none⟩ = some (.int .i64 px) := by rw [zAB HPc.out]; rfl
 have p1 : wc.cell? ⟨bp, 1, none⟩ = some (.slice pa 1 ca) := by rw [zAB HPc.out]; rfl
 have p2 : wc.cell? ⟨bp, 2, none⟩ = some (.slice pb 1 cb) := by rw [zAB HPc.out]; rfl
 have t0 : wc.cell? ⟨bz, 0, none⟩ = some (.slice (some ⟨b + 4, 0, none⟩) 5 5) := by rw [zAB HUc.out]; rfl
 go_upto_region 9 with fail
 by_cases hh : h < 1
 . have hv := HV.out.1 hh
   have d1 : decide (h < 1) = true := by simpa using hh
   obtain ⟨q9, c9_, e9, m1b, m2b, hq9⟩ := HQ2c.out.1
   obtain ⟨gb, ob, rfl, hcb⟩ := hq9 (by decide)
   simp only [Value.slice.injEq] at e9
   obtain ⟨rfl, myb, rfl⟩ := e9
   have xb := hcb 0 (by decide)
   rw [hv.2, Nat.add_zero] at xb
   clear m1b m2b myb hcb hq9
   have hpx := hv.1
   subst hpx
   clear hv HV HR3 HS HOR HQ1c HQ3c
   go_wp2_with fail
   all_goals
     go_ret
     exact ⟨zA9 (by first | rfl | simp), HBWc.out⟩
 . have h1 : 1 ≤ h := by omega
   obtain ⟨hv1, hv2, hv3⟩ := HV.out.2 h1
   have d1 : decide (h < 1) = false := by simpa using hh
   have e1 : P.z1 0 = s1 := by rw [hv2]; exact HS.out.1
   have e2 : P.z2 0 = s2 := by rw [hv3, HS.out.1, HS.out.2.1]; exact HS.out.2.2
   have q1 : max 0 s1 = s1 := by have := HS.out.1; omega
   have q2 : max 0 s2 = s2 := by have a1 := HS.out.1; have a2 := HS.out.2.1; have a3 := HS.out.2.2; have a4 := HG.out.2.1; omega
   have r0 : wc.cell? ⟨go_, 0, none⟩ = some (.int .i64 s1) := by have h9 := HOR.out.cell (show 0 < 5 by decide); rw [HR3.out.1, e1, q1] at h9; exact h9
   have r1 : wc.cell? ⟨go_, 1, none⟩ = some (.int .i64 s2) := by have h9 := HOR.out.cell (show 1 < 5 by decide); rw [HR3.out.2.1, e2, q2] at h9; exact h9
   have r2 : wc.cell? ⟨go_, 2, none⟩ = some (.int .i64 0) := by have h9 := HOR.out.cell (show 2 < 5 by decide); rw [HR3.out.2.2] at h9; exact h9
   obtain ⟨q9, c9_, e9, m1a, m2a, hq9⟩ := HQ1c.out.1
   obtain ⟨ga, oa, rfl, hca⟩ := hq9 (by decide)
   simp only [Value.slice.injEq] at e9
   obtain ⟨rfl, mya, rfl⟩ := e9
   have xa := hca 0 (by decide)
   rw [e1, Nat.add_zero] at xa
   clear m1a m2a mya hca hq9
   obtain ⟨q9, c9_, e9, m1b, m2b, hq9⟩ := HQ2c.out.1
   obtain ⟨gb, ob, rfl, hcb⟩ := hq9 (by decide)
   simp only [Value.slice.injEq] at e9
   obtain ⟨rfl, myb, rfl⟩ := e9
   have xb := hcb 0 (by decide)
   rw [e2, Nat.add_zero] at xb
   clear m1b m2b myb hcb hq9
   subst hv1
   clear hv2 hv3 e1 e2 q1 q2 HV HR3 HOR HQ3c
   go_upto_region 11 with fail
   by_cases hg1 : g < 1
   . have hm : mx = 1 := by have := HS.out.2.1; omega
     subst hm
     clear HS HG
     go_quiet (fail)
     go_wp2_with fail
     all_goals
      go_ret
      exact ⟨zA9 (by first | rfl | simp), zCV HBWc.out _⟩
   . have hm : mx = g := by have := HS.out.2.1; omega
     subst hm
     clear HS HG
     go_quiet (fail)
     go_wp2_with fail
     all_goals
      go_ret
      exact ⟨zA9 (by first | rfl | simp), zCV HBWc.out _⟩
end Go.Proofs.YtnlmknbhppdliaaGreatDoor.Chk
