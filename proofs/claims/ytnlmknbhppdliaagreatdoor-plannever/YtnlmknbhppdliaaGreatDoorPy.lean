/-
  A rule that never can be, and one that waits without end: PlanNever. The tables that the program's text lays: what lies in memory. The tables that the program's text lays, three of them: what lies in memory.
-/
import Derived.BigQuiet
import Derived.Lib.SmallJoins
import Derived.Lib.LaidU8
import Derived.MakeChecks
import Derived.FnData
import Derived.Test.YtnlmknbhppdliaaGreatDoorPw
import Derived.Test.YtnlmknbhppdliaaGreatDoorPb
import Derived.Test.YtnlmknbhppdliaaGreatDoorB8O5
set_option maxHeartbeats 64000000
namespace Go.Proofs.YtnlmknbhppdliaaGreatDoor.Chk
open Go.ChangeShapes Go.WideShapes Go.ChangeAt Go.RowKit Go.Maps
open B8 (Mx OwnM New zA5)
set_option linter.unusedVariables false
set_option linter.unusedSimpArgs false
set_option maxRecDepth 20000
theorem zIJ {x : Rl} {c : Int} (h : rck kts x = 0) (he : x.e.ty = txt []) (hP : plO x = plE c) : plR kts [x] 0 = plE c := by
  unfold plR
  rw [if_neg (fun q => q (zES h he)), if_neg (fun q => q ⟨by decide, by simp⟩)]
  exact hP
theorem planNever_walk (low : Int) (wh : Bool) (l1 : -9223372036854775808 ≤ low) (l2 : low ≤ 9223372036854775807) (w : World) (htk : Tab w 0 kpl) (htr : Tab w 1 rll) (ht : B8.Tab w) : Calls Tryz.prog 4 #[.int .i64 low, .bool wh] w fun e w' => e = .returned (.bool true) ∧ Below w.heap.size w w' := by
 have HPK := hid (fun W => zHY low 1000 W l1 l2 (by decide) (by decide))
 have hg := pkd_in low (m := 1000) (by decide)
 obtain ⟨g, hg9⟩ : ∃ z, pkd low 1000 = z := ⟨_, rfl⟩
 rw [hg9] at HPK hg
 have HG := hid hg
 have HTY := hid zIB
 clear hg9 hg l1 l2
 go_enter Tryz.func4, Tryz.ntmps4
 go_upto_region 2 with (go_at_call 9; refine (HPK.out _).mono ?_; rintro e w ⟨rfl, rfl⟩)
 go_upto_region 3 with (first
   | (go_at_call 12; refine (HTY.out _).mono ?_; rintro e w1 ⟨b, rfl, hb1, hb2, hb3⟩; have HTB := hid hb2; have L0 := hid hb3; clear hb1 hb2 hb3)
   | ((with_reducible show wpList _ _ _ (Oper.mk (some 17) _ _ _ _ _ :: _) _ _); refine zCK (by rfl) 49 2 _ (by rfl) #[(0, .agg #[.string ⟨#[120]⟩, .string ⟨#[97]⟩, .int .i64 0, .slice none 0 0, .int .i64 0, .int .i64 0, .int .i64 0, .string ⟨#[]⟩, .string ⟨#[]⟩, .string ⟨#[]⟩, .int .i64 0, .int .i64 0, .int .i64 0, .string ⟨#[]⟩, .string ⟨#[]⟩, .string ⟨#[]⟩, .int .i64 0, .int .i64 0]), (1, .agg #[.string ⟨#[121]⟩, .string ⟨#[98]⟩, .int .i64 0, .slice none 0 0, .int .i64 0, .int .i64 0, .int .i64 0, .string ⟨#[]⟩, .string ⟨#[]⟩, .string ⟨#[]⟩, .int .i64 0, .int .i64 0, .int .i64 0, .string ⟨#[]⟩, .string ⟨#[]⟩, .string ⟨#[]⟩, .int .i64 0, .int .i64 0])] (by simp [Act.eval, Act.put]) [.string ⟨#[120]⟩, .string ⟨#[97]⟩, .int .i64 0, .slice none 0 0, .int .i64 0, .int .i64 0, .int .i64 0, .string ⟨#[]⟩, .string ⟨#[]⟩, .string ⟨#[]⟩, .int .i64 0, .int .i64 0, .int .i64 0, .string ⟨#[]⟩, .string ⟨#[]⟩, .string ⟨#[]⟩, .int .i64 0, .int .i64 0, .string ⟨#[121]⟩, .string ⟨#[98]⟩, .int .i64 0, .slice none 0 0, .int .i64 0, .int .i64 0, .int .i64 0, .string ⟨#[]⟩, .string ⟨#[]⟩, .string ⟨#[]⟩, .int .i64 0, .int .i64 0, .int .i64 0, .string ⟨#[]⟩, .string ⟨#[]⟩, .string ⟨#[]⟩, .int .i64 0, .int .i64 0] 48 (fun w => by kernel_rfl) ?_; intro b1 w2 hq1 hq2 hq3 hq4; have Kb1 := hid hq1; have Lw2 := hid hq2; have Zb1 := hid (And.intro hq3 hq4); clear hq1 hq2 hq3 hq4)
   | ((with_reducible show wpList _ _ _ (Oper.mk (some 20) _ _ _ _ _ :: _) _ _); refine zCK (by rfl) 64 1 _ (by rfl) #[(0, .agg #[.int .i64 1, .int .i64 g, .int .i64 (-1)])] (by simp [Act.eval, Act.put]) [.int .i64 1, .int .i64 g, .int .i64 (-1)] 63 (fun w => by kernel_rfl) ?_; intro b2 w3 hq1 hq2 hq3 hq4; have Kb2 := hid hq1; have Lw3 := hid hq2; have Zb2 := hid (And.intro hq3 hq4); clear hq1 hq2 hq3 hq4)
   | ((with_reducible show wpList _ _ _ (Oper.mk (some 23) _ _ _ _ _ :: _) _ _); refine zCK (by rfl) 64 1 _ (by rfl) #[(0, .agg #[.int .i64 1, .int .i64 0, .int .i64 (-1)])] (by simp [Act.eval, Act.put]) [.int .i64 1, .int .i64 0, .int .i64 (-1)] 63 (fun w => by kernel_rfl) ?_; intro b3 w4 hq1 hq2 hq3 hq4; have Kb3 := hid hq1; have Lw4 := hid hq2; have Zb3 := hid (And.intro hq3 hq4); clear hq1 hq2 hq3 hq4)
   | ((with_reducible show wpList _ _ _ (Oper.mk (some 25) _ _ _ _ _ :: _) _ _); refine zCK (by rfl) 51 2 _ (by rfl) #[(0, .agg #[.string ⟨#[120]⟩, .slice (some ⟨b2, 0, none⟩) 1 1, .string ⟨#[121]⟩]), (1, .agg #[.string ⟨#[121]⟩, .slice (some ⟨b3, 0, none⟩) 1 1, .string ⟨#[120]⟩])] (by simp [Act.eval, Act.put]) [.string ⟨#[120]⟩, .slice (some ⟨b2, 0, none⟩) 1 1, .string ⟨#[121]⟩, .string ⟨#[121]⟩, .slice (some ⟨b3, 0, none⟩) 1 1, .string ⟨#[120]⟩] 66 (fun w => by kernel_rfl) ?_; intro b4 w5 hq1 hq2 hq3 hq4; have Kb4 := hid hq1; have Lw5 := hid hq2; have Zb4 := hid (And.intro hq3 hq4); clear hq1 hq2 hq3 hq4)
   | ((with_reducible show wpList _ _ _ (Oper.mk (some 27) _ _ _ _ _ :: _) _ _); refine zCK (by rfl) 26 1 _ (by rfl) #[(0, .agg #[.string ⟨#[114]⟩, .slice (some ⟨b1, 0, none⟩) 2 2, .slice none 0 0, .slice none 0 0, .slice (some ⟨b4, 0, none⟩) 2 2, .string ⟨#[]⟩, .slice none 0 0])] (by simp [Act.eval, Act.put]) [.string ⟨#[114]⟩, .slice (some ⟨b1, 0, none⟩) 2 2, .slice none 0 0, .slice none 0 0, .slice (some ⟨b4, 0, none⟩) 2 2, .string ⟨#[]⟩, .slice none 0 0] 56 (fun w => by kernel_rfl) ?_; intro b5 w6 hq1 hq2 hq3 hq4; have Kb5 := hid hq1; have Lw6 := hid hq2; have Zb5 := hid (And.intro hq3 hq4); clear hq1 hq2 hq3 hq4)
   | ((with_reducible show wpList _ _ _ (Oper.mk _ (.store 28 _ _) _ _ _ _ :: _) _ _); refine zBH 28 w6.heap.size 0 [.slice none 0 0, .slice none 0 0] 28 [.slice (some ⟨b + 4, 0, none⟩) 5 5, .slice (some ⟨b5, 0, none⟩) 1 1] (heap_alloc_new _ _) ?_; intro wz hq1 hq2; have HU := hid hq1; have LWz : Hid (Below w6.heap.size w6 wz) := zA2 ((Below.refl _ _).alloc (Nat.le_refl _) (.cells #[.slice none 0 0, .slice none 0 0] 28)) hq2 (Nat.le_refl _); clear hq1 hq2))
 have L6 := LWz.out
 have L5 := zAA Lw6.out L6 Lw6.out.size
 have L4 := zAA Lw5.out L5 Lw5.out.size
 have L3 := zAA Lw4.out L4 Lw4.out.size
 have L2 := zAA Lw3.out L3 Lw3.out.size
 have L1 := zAA Lw2.out L2 Lw2.out.size
 have HBW := hid (zAA L0.out L1 L0.out.size)
 have k1 := (L2.block _ (zAD Kb1.out)).trans Kb1.out
 have k2 := (L3.block _ (zAD Kb2.out)).trans Kb2.out
 have k3 := (L4.block _ (zAD Kb3.out)).trans Kb3.out
 have k4 := (L5.block _ (zAD Kb4.out)).trans Kb4.out
 have k5 := (L6.block _ (zAD Kb5.out)).trans Kb5.out
 have hty : Tys wz b := HTB.out.later (fun i o hi _ _ => (L1.block _ (zAD hi)).trans hi)
 have HSZ : Hid (b + 4 < b5 ∧ b1 < b5 ∧ b2 < b5 ∧ b3 < b5 ∧ b4 < b5) := by
   have z0 := zAD HTB.out.2.2.2.2
   have z1 := Zb1.out
   have z2 := Zb2.out
   have z3 := Zb3.out
   have z4 := Zb4.out
   have z5 := Zb5.out
   have s2 := Lw2.out.size
   have s3 := Lw3.out.size
   have s4 := Lw4.out.size
   have s5 := Lw5.out.size
   show _ ∧ _
   omega
 have K1 := hid k1
 have K2 := hid k2
 have K3 := hid k3
 have K4 := hid k4
 have K5 := hid k5
 have HTZ := hid hty
 have HB5 : Hid (w.heap.size ≤ b5) := by have h0 := L0.out.size; have h1 := L1.size; have z5 := Zb5.out; have s2 := Lw2.out.size; have s3 := Lw3.out.size; have s4 := Lw4.out.size; have s5 := Lw5.out.size; show _ ≤ _; omega
 obtain ⟨bz, hbz⟩ : ∃ z, w6.heap.size = z := ⟨_, rfl⟩
 have HBZ : Hid (b5 < bz) := by show _ < _; rw [← hbz]; exact zAD Kb5.out
 rw [hbz] at HU ⊢
 clear hbz L6 L5 L4 L3 L2 L1 k1 k2 k3 k4 k5 hty LWz Lw6 Lw5 Lw4 Lw3 Lw2 L0 HTB Kb1 Kb2 Kb3 Kb4 Kb5 Zb1 Zb2 Zb3 Zb4 Zb5 HPK HTY
 cases wh
 . skip
   have HTR := hid HTZ.out.rd
   have HRR : Hid (Rd wz (.row 56 7 ([nvR g].map encR)) (.slice (some ⟨b5, 0, none⟩) 1 1)) := rd_r1 K5.out (rd_p2 K1.out) (.nil _ _ none 0 (Nat.zero_le _)) (.nil _ _ none 0 (Nat.zero_le _)) (rd_k2 K4.out K2.out K3.out)
   have HCK := hid (rck_nv HG.out.1 (by have := HG.out.2; omega))
   have HPL := hid (plO_nv HG.out.1 (by have := HG.out.2; omega))
   have hszr := szr_nv g
   have HUU := HU
   clear HU HTZ K1 K2 K3 K4 K5 HSZ HBZ HG
   go_upto_region 8 with fail
   have HRU := hid (fun (W : World) (hW : Below wz.heap.size wz W) => by
    have h9 := zG8 kts [nvR g] (fun r hr => by rw [List.mem_singleton.1 hr]; exact hszr) _ _ W (HTR.out.later hW) (HRR.out.later hW) (zAG htk (zAA HBW.out hW HBW.out.size)) (zAG htr (zAA HBW.out hW HBW.out.size)) (ht.later (zAA HBW.out hW HBW.out.size)) 0
    rw [zIJ HCK.out rfl HPL.out] at h9
    exact h9)
   have HOF := hid (fun (W : World) (hW : Below wz.heap.size wz W) => by
    have h9 := zC2 kts [nvR g] (fun r hr => by rw [List.mem_singleton.1 hr]; exact hszr) _ _ W (HTR.out.later hW) (HRR.out.later hW) (zAG htk (zAA HBW.out hW HBW.out.size)) (zAG htr (zAA HBW.out hW HBW.out.size)) (ht.later (zAA HBW.out hW HBW.out.size))
    have e := zJM HCK.out rfl (by rw [HPL.out]; decide)
    rw [HPL.out] at e
    exact h9.mono fun e' w' h => (show e' = .returned (.tuple #[.slice none 0 0, .int .i64 16]) ∧ Below W.heap.size W w' from ⟨by have h8 := h.1.1 (by rw [e]; decide); rw [e] at h8; exact h8, h.2⟩))
   have HCH := hid (fun (W : World) (hW : Below wz.heap.size wz W) => by
    have h9 := check_any kts [nvR g] (fun r hr => by rw [List.mem_singleton.1 hr]; exact hszr) _ _ W (HTR.out.later hW) (HRR.out.later hW) (zAG htk (zAA HBW.out hW HBW.out.size)) (zAG htr (zAA HBW.out hW HBW.out.size))
    rw [zES HCK.out rfl] at h9
    exact h9)
   clear htk htr ht
   go_upto_region 9 with (first
    | ((with_reducible show wpList _ _ _ (Oper.mk _ (.load 28 _) _ _ _ _ :: _) _ _); refine wpList_load_mid (by rfl) 28 _ (by rfl) bz 0 (by rfl) [.slice (some ⟨b + 4, 0, none⟩) 5 5, .slice (some ⟨b5, 0, none⟩) 1 1] _ (zAJ HUU.out) Tryz.underlying28 rfl (by kernel_rfl) ?_)
    | (go_at_call 13; refine (HRU.out _ (Below.refl _ _)).mono ?_; rintro e wa ⟨⟨pa, ca, pb, cb, pc, cc, rfl, _, _, _⟩, hb⟩; have La := hid hb; have HUa := hid ((hb.block _ (zAD HUU.out)).trans HUU.out); clear hb)
    | ((with_reducible show wpList _ _ _ (Oper.mk _ (.store 69 _ _) _ _ _ _ :: _) _ _); refine zBH 69 wa.heap.size 0 [.int .i64 0, .slice none 0 0, .slice none 0 0, .slice none 0 0] 69 [.int .i64 0, .slice pa 0 ca, .slice pb 0 cb, .slice pc 0 cc] (heap_alloc_new _ _) ?_; intro wb hq1 hq2; have Lb : Hid (Below wa.heap.size wa wb) := zA2 ((Below.refl _ _).alloc (Nat.le_refl _) (.cells #[.int .i64 0, .slice none 0 0, .slice none 0 0, .slice none 0 0] 69)) hq2 (Nat.le_refl _); clear hq1 hq2))
   have Lzb := hid (zAA La.out Lb.out La.out.size)
   have HUb := hid ((Lb.out.block _ (zAD HUa.out)).trans HUa.out)
   clear HUa La Lb HRU
   go_upto_region 10 with (first
    | ((with_reducible show wpList _ _ _ (Oper.mk _ (.load 28 _) _ _ _ _ :: _) _ _); refine wpList_load_mid (by rfl) 28 _ (by rfl) bz 0 (by rfl) [.slice (some ⟨b + 4, 0, none⟩) 5 5, .slice (some ⟨b5, 0, none⟩) 1 1] _ (zAJ HUb.out) Tryz.underlying28 rfl (by kernel_rfl) ?_)
    | (go_at_call 14; refine (HOF.out _ Lzb.out).mono ?_; rintro e wc ⟨rfl, hb⟩; have Lzc := hid (zAA Lzb.out hb Lzb.out.size); have HUc := hid ((hb.block _ (zAD HUb.out)).trans HUb.out); clear hb))
   clear HOF HUb Lzb
   go_wp2_with (first
    | ((with_reducible show wpList _ _ _ (Oper.mk _ (.load 28 _) _ _ _ _ :: _) _ _); refine wpList_load_mid (by rfl) 28 _ (by rfl) bz 0 (by rfl) [.slice (some ⟨b + 4, 0, none⟩) 5 5, .slice (some ⟨b5, 0, none⟩) 1 1] _ (zAJ HUc.out) Tryz.underlying28 rfl (by kernel_rfl) ?_)
    | (go_at_call 15; refine (HCH.out _ Lzc.out).mono ?_; rintro e wd ⟨rfl, hb⟩; have Lzd := hid (zAA Lzc.out hb Lzc.out.size); clear hb))
   go_ret
   exact ⟨zBA (by first | rfl | simp), zAA HBW.out Lzd.out HBW.out.size⟩
 . have c1 : wz.cell? ⟨bz, 1, none⟩ = some (.slice (some ⟨b5, 0, none⟩) 1 1) := by rw [zAB HU.out]; rfl
   go_upto_region 6 with (first
    | ((with_reducible show wpList _ _ _ (Oper.mk (some 34) _ _ _ _ _ :: _) _ _); refine zCK (by rfl) 64 1 _ (by rfl) #[(0, .agg #[.int .i64 2, .int .i64 g, .int .i64 (-1)])] (by simp [Act.eval, Act.put]) [.int .i64 2, .int .i64 g, .int .i64 (-1)] 63 (fun w => by kernel_rfl) ?_; intro b6 w7 hq1 hq2 hq3 hq4; have Kb6 := hid hq1; have Lw7 := hid hq2; have Zb6 := hid (And.intro hq3 hq4); clear hq1 hq2 hq3 hq4)
    | ((with_reducible show wpList _ _ _ (Oper.mk (some 36) _ _ _ _ _ :: _) _ _); refine zCK (by rfl) 51 1 _ (by rfl) #[(0, .agg #[.string ⟨#[117]⟩, .slice (some ⟨b6, 0, none⟩) 1 1, .string ⟨#[120]⟩])] (by simp [Act.eval, Act.put]) [.string ⟨#[117]⟩, .slice (some ⟨b6, 0, none⟩) 1 1, .string ⟨#[120]⟩] 66 (fun w => by kernel_rfl) ?_; intro b7 w8 hq1 hq2 hq3 hq4; have Kb7 := hid hq1; have Lw8 := hid hq2; have Zb7 := hid (And.intro hq3 hq4); clear hq1 hq2 hq3 hq4)
    | ((with_reducible show wpList _ _ _ (Oper.mk _ (.store 51 _ _) _ _ _ _ :: _) _ _); refine wp_sq 51 b5 4 [.string ⟨#[114]⟩, .slice (some ⟨b1, 0, none⟩) 2 2, .slice none 0 0, .slice none 0 0, .slice (some ⟨b4, 0, none⟩) 2 2, .string ⟨#[]⟩, .slice none 0 0] 56 (.slice (some ⟨b7, 0, none⟩) 1 1) [.slice (some ⟨b7, 0, none⟩) 1 1] (((zAA Lw7.out Lw8.out Lw7.out.size).block _ (zAD K5.out)).trans K5.out) ?_; intro w9 hq1 hq2; have HX9 : Hid (w9.heap[b5]? = some (.cells #[.string ⟨#[114]⟩, .slice (some ⟨b1, 0, none⟩) 2 2, .slice none 0 0, .slice none 0 0, .slice (some ⟨b7, 0, none⟩) 1 1, .string ⟨#[]⟩, .slice none 0 0] 56 (0, 0))) := hq1; have HF9 : Hid (Fr (fun i => i = b5) w8 w9) := hq2; clear hq1 hq2))
   have lz8 := zAA Lw7.out Lw8.out Lw7.out.size
   have HFz9 := hid ((Fr.of_below (X := fun i => i = b5) lz8).trans HF9.out)
   have HU9 := hid ((HFz9.out.block _ (zAD HU.out) (by have := HBZ.out; omega)).trans HU.out)
   have k6 := (Lw8.out.block _ (zAD Kb6.out)).trans Kb6.out
   have HN9 : Hid (b5 < b6 ∧ b5 < b7) := by have := zAD K5.out; have h6 := Zb6.out; have h7 := Zb7.out; have := Lw7.out.size; show _ ∧ _; omega
   have K6 := hid ((HF9.out.block _ (zAD k6) (by have := HN9.out; omega)).trans k6)
   have K7 := hid ((HF9.out.block _ (zAD Kb7.out) (by have := HN9.out; omega)).trans Kb7.out)
   clear lz8 k6 c1 Kb6 Kb7 Zb6 Zb7 Lw7 Lw8 HF9
   have c1 : w9.cell? ⟨bz, 1, none⟩ = some (.slice (some ⟨b5, 0, none⟩) 1 1) := by rw [zAB HU9.out]; rfl
   go_upto_region 8 with (first
    | ((with_reducible show wpList _ _ _ (Oper.mk (some 42) _ _ _ _ _ :: _) _ _); refine zCK (by rfl) 49 1 _ (by rfl) #[(0, .agg #[.string ⟨#[117]⟩, .string ⟨#[99]⟩, .int .i64 0, .slice none 0 0, .int .i64 0, .int .i64 0, .int .i64 0, .string ⟨#[]⟩, .string ⟨#[]⟩, .string ⟨#[]⟩, .int .i64 0, .int .i64 0, .int .i64 0, .string ⟨#[]⟩, .string ⟨#[]⟩, .string ⟨#[]⟩, .int .i64 0, .int .i64 0])] (by simp [Act.eval, Act.put]) [.string ⟨#[117]⟩, .string ⟨#[99]⟩, .int .i64 0, .slice none 0 0, .int .i64 0, .int .i64 0, .int .i64 0, .string ⟨#[]⟩, .string ⟨#[]⟩, .string ⟨#[]⟩, .int .i64 0, .int .i64 0, .int .i64 0, .string ⟨#[]⟩, .string ⟨#[]⟩, .string ⟨#[]⟩, .int .i64 0, .int .i64 0] 48 (fun w => by kernel_rfl) ?_; intro b8 w10 hq1 hq2 hq3 hq4; have Kb8 := hid hq1; have Lw10 := hid hq2; have Zb8 := hid (And.intro hq3 hq4); clear hq1 hq2 hq3 hq4)
    | ((with_reducible show wpList _ _ _ (Oper.mk _ (.store 49 _ _) _ _ _ _ :: _) _ _); refine wp_sq 49 b5 2 [.string ⟨#[114]⟩, .slice (some ⟨b1, 0, none⟩) 2 2, .slice none 0 0, .slice none 0 0, .slice (some ⟨b7, 0, none⟩) 1 1, .string ⟨#[]⟩, .slice none 0 0] 56 (.slice (some ⟨b8, 0, none⟩) 1 1) [.slice (some ⟨b8, 0, none⟩) 1 1] ((Lw10.out.block _ (zAD HX9.out)).trans HX9.out) ?_; intro w11 hq1 hq2; have K5x : Hid (w11.heap[b5]? = some (.cells #[.string ⟨#[114]⟩, .slice (some ⟨b1, 0, none⟩) 2 2, .slice (some ⟨b8, 0, none⟩) 1 1, .slice none 0 0, .slice (some ⟨b7, 0, none⟩) 1 1, .string ⟨#[]⟩, .slice none 0 0] 56 (0, 0))) := hq1; have HF11 : Hid (Fr (fun i => i = b5) w10 w11) := hq2; clear hq1 hq2))
   have hf := (Fr.of_below (X := fun i => i = b5) Lw10.out).trans HF11.out
   have hfz := HFz9.out.trans hf
   have HUU := hid ((hf.block _ (zAD HU9.out) (by have := HBZ.out; omega)).trans HU9.out)
   have K6x := hid ((hf.block _ (zAD K6.out) (by have := HN9.out; omega)).trans K6.out)
   have K7x := hid ((hf.block _ (zAD K7.out) (by have := HN9.out; omega)).trans K7.out)
   have K8x : Hid (w11.heap[b8]? = some (.cells #[.string ⟨#[117]⟩, .string ⟨#[99]⟩, .int .i64 0, .slice none 0 0, .int .i64 0, .int .i64 0, .int .i64 0, .string ⟨#[]⟩, .string ⟨#[]⟩, .string ⟨#[]⟩, .int .i64 0, .int .i64 0, .int .i64 0, .string ⟨#[]⟩, .string ⟨#[]⟩, .string ⟨#[]⟩, .int .i64 0, .int .i64 0] 48 (0, 0))) := (HF11.out.block _ (zAD Kb8.out) (by have := zAD HX9.out; have h8 := Zb8.out; omega)).trans Kb8.out
   have K1x := hid ((hfz.block _ (zAD K1.out) (by have := HSZ.out; omega)).trans K1.out)
   have HBW9 : Hid (Below w.heap.size w w11) := zAU HBW.out hfz (by have h5 := HBZ.out; have h1 := HSZ.out; have h0 := HB5.out; omega) (Nat.le_refl _)
   have HTR := hid (HTZ.out.later (fun i o hi _ h2 => (hfz.block _ (zAD hi) (by have := HSZ.out; show i ≠ b5; omega)).trans hi)).rd
   have HRR : Hid (Rd w11 (.row 56 7 ([ndR g].map encR)) (.slice (some ⟨b5, 0, none⟩) 1 1)) := rd_r1 K5x.out (rd_p2 K1x.out) (rd_p1 K8x.out) (.nil _ _ none 0 (Nat.zero_le _)) (rd_k1 K7x.out K6x.out)
   have HCK := hid (rck_nd HG.out.1 (by have := HG.out.2; omega))
   have HPL := hid (plO_nd HG.out.1 (by have := HG.out.2; omega))
   have hszr := szr_nd g
   have HBW := HBW9
   clear hf hfz HU HU9 HTZ K1 K2 K3 K4 K5 K6 K7 K5x K6x K7x K8x K1x Kb8 Zb8 HX9 HF11 HFz9 HN9 HSZ HBZ HG HBW9 c1 Lw10 HB5
   have HRU := hid (fun (W : World) (hW : Below w11.heap.size w11 W) => by
    have h9 := zG8 kts [ndR g] (fun r hr => by rw [List.mem_singleton.1 hr]; exact hszr) _ _ W (HTR.out.later hW) (HRR.out.later hW) (zAG htk (zAA HBW.out hW HBW.out.size)) (zAG htr (zAA HBW.out hW HBW.out.size)) (ht.later (zAA HBW.out hW HBW.out.size)) 0
    rw [zIJ HCK.out rfl HPL.out] at h9
    exact h9)
   have HOF := hid (fun (W : World) (hW : Below w11.heap.size w11 W) => by
    have h9 := zC2 kts [ndR g] (fun r hr => by rw [List.mem_singleton.1 hr]; exact hszr) _ _ W (HTR.out.later hW) (HRR.out.later hW) (zAG htk (zAA HBW.out hW HBW.out.size)) (zAG htr (zAA HBW.out hW HBW.out.size)) (ht.later (zAA HBW.out hW HBW.out.size))
    have e := zJM HCK.out rfl (by rw [HPL.out]; decide)
    rw [HPL.out] at e
    exact h9.mono fun e' w' h => (show e' = .returned (.tuple #[.slice none 0 0, .int .i64 15]) ∧ Below W.heap.size W w' from ⟨by have h8 := h.1.1 (by rw [e]; decide); rw [e] at h8; exact h8, h.2⟩))
   have HCH := hid (fun (W : World) (hW : Below w11.heap.size w11 W) => by
    have h9 := check_any kts [ndR g] (fun r hr => by rw [List.mem_singleton.1 hr]; exact hszr) _ _ W (HTR.out.later hW) (HRR.out.later hW) (zAG htk (zAA HBW.out hW HBW.out.size)) (zAG htr (zAA HBW.out hW HBW.out.size))
    rw [zES HCK.out rfl] at h9
    exact h9)
   clear htk htr ht
   go_upto_region 9 with (first
    | ((with_reducible show wpList _ _ _ (Oper.mk _ (.load 28 _) _ _ _ _ :: _) _ _); refine wpList_load_mid (by rfl) 28 _ (by rfl) bz 0 (by rfl) [.slice (some ⟨b + 4, 0, none⟩) 5 5, .slice (some ⟨b5, 0, none⟩) 1 1] _ (zAJ HUU.out) Tryz.underlying28 rfl (by kernel_rfl) ?_)
    | (go_at_call 13; refine (HRU.out _ (Below.refl _ _)).mono ?_; rintro e wa ⟨⟨pa, ca, pb, cb, pc, cc, rfl, _, _, _⟩, hb⟩; have La := hid hb; have HUa := hid ((hb.block _ (zAD HUU.out)).trans HUU.out); clear hb)
    | ((with_reducible show wpList _ _ _ (Oper.mk _ (.store 69 _ _) _ _ _ _ :: _) _ _); refine zBH 69 wa.heap.size 0 [.int .i64 0, .slice none 0 0, .slice none 0 0, .slice none 0 0] 69 [.int .i64 0, .slice pa 0 ca, .slice pb 0 cb, .slice pc 0 cc] (heap_alloc_new _ _) ?_; intro wb hq1 hq2; have Lb : Hid (Below wa.heap.size wa wb) := zA2 ((Below.refl _ _).alloc (Nat.le_refl _) (.cells #[.int .i64 0, .slice none 0 0, .slice none 0 0, .slice none 0 0] 69)) hq2 (Nat.le_refl _); clear hq1 hq2))
   have Lzb := hid (zAA La.out Lb.out La.out.size)
   have HUb := hid ((Lb.out.block _ (zAD HUa.out)).trans HUa.out)
   clear HUa La Lb HRU
   go_upto_region 10 with (first
    | ((with_reducible show wpList _ _ _ (Oper.mk _ (.load 28 _) _ _ _ _ :: _) _ _); refine wpList_load_mid (by rfl) 28 _ (by rfl) bz 0 (by rfl) [.slice (some ⟨b + 4, 0, none⟩) 5 5, .slice (some ⟨b5, 0, none⟩) 1 1] _ (zAJ HUb.out) Tryz.underlying28 rfl (by kernel_rfl) ?_)
    | (go_at_call 14; refine (HOF.out _ Lzb.out).mono ?_; rintro e wc ⟨rfl, hb⟩; have Lzc := hid (zAA Lzb.out hb Lzb.out.size); have HUc := hid ((hb.block _ (zAD HUb.out)).trans HUb.out); clear hb))
   clear HOF HUb Lzb
   go_wp2_with (first
    | ((with_reducible show wpList _ _ _ (Oper.mk _ (.load 28 _) _ _ _ _ :: _) _ _); refine wpList_load_mid (by rfl) 28 _ (by rfl) bz 0 (by rfl) [.slice (some ⟨b + 4, 0, none⟩) 5 5, .slice (some ⟨b5, 0, none⟩) 1 1] _ (zAJ HUc.out) Tryz.underlying28 rfl (by kernel_rfl) ?_)
    | (go_at_call 15; refine (HCH.out _ Lzc.out).mono ?_; rintro e wd ⟨rfl, hb⟩; have Lzd := hid (zAA Lzc.out hb Lzc.out.size); clear hb))
   go_ret
   exact ⟨zBA (by first | rfl | simp), zAA HBW.out Lzd.out HBW.out.size⟩
end Go.Proofs.YtnlmknbhppdliaaGreatDoor.Chk
namespace Go.Proofs.YtnlmknbhppdliaaGreatDoor
open Go.ChangeShapes Go.WideShapes Go.ChangeAt Go.RowKit Go.Joins
set_option linter.unusedVariables false
set_option linter.unusedSimpArgs false
theorem zFG {W : World} {l : List (String × DataW Unit)} {name : String} {D : DataW Unit} {g : Nat} {ty : TypeId} {n : Nat} (ws : List (List UInt8)) (hD : D = .agg (ws.map fun x => .lit (.string x))) (hn : ws.length = n) (h0 : 0 < ws.length)
  (hg : Tryz.prog.globalNamed name = some g) (ht : (Tryz.prog.globals[g]?).map (·.type) = some ty) (hu : Tryz.prog.underlying ty = some (.array n 9)) (hm : (name, D) ∈ l) (h : laidMet Tryz.prog l W) : Tab W g ws := by
 obtain ⟨g0, t0, cs0, f0, p0, hg0, ht0, hv0, hd0⟩ := Lib.laidMet.reads h hm
 obtain rfl := Option.some.inj (hg.symm.trans hg0)
 obtain rfl := Option.some.inj (ht.symm.trans ht0)
 have c9 : Tryz.prog.cellsOf 9 = 1 := by kernel_rfl
 obtain ⟨xs, m, rfl, hx, hlen, hnn, hel⟩ := DataW.trod_array hu hd0
 rw [hD] at hx
 simp only [Prod.mk.injEq, DataW.agg.injEq] at hx
 have hxl := hx.1
 have key : ∀ i : Nat, i < ws.length → W.cell? ⟨g, i, none⟩ = some (.string (txt (ws.getD i []))) := by
  intro i hi
  have he := hel i (by omega)
  rw [c9] at he
  have hlt : i < xs.length := by omega
  rw [List.getElem?_eq_getElem hlt] at he
  obtain ⟨k, e1, e2, _⟩ := DataW.trod_string Tryz.underlying9 he
  have hk := congrArg (fun q => q[i]?) hxl
  simp only [List.getElem?_map, List.getElem?_eq_getElem hlt, List.getElem?_eq_getElem hi, Option.map_some, e2, Option.some.injEq, DataW.lit.injEq, Lit.string.injEq] at hk
  have hc := World.var?_cell hg0 hv0 i
  rw [hc]
  have e4 : cs0.toList[i]? = some (.string k) := by
   have := congrArg (fun l => l[0]?) e1
   simpa using this
  rw [zC9 ws i hi, hk, txt_of]
  simpa using e4
 refine ⟨?_, key⟩
 have h00 := key 0 (by omega)
 exact World.block_lt_of_cell? _ _ h00
theorem zJE {W : World} {l : List (String × DataW Unit)} (hm : ("dotterel/parse.kept", Rows.laid_dotterel_parse_kept) ∈ l) (h : laidMet Tryz.prog l W) : Tab W 0 kpl :=
  zFG kpl rfl rfl (by decide) (by kernel_rfl) (by kernel_rfl) Tryz.underlying167 hm h
theorem laid_rel {W : World} {l : List (String × DataW Unit)} (hm : ("dotterel/parse.relations", Rows.laid_dotterel_parse_relations) ∈ l) (h : laidMet Tryz.prog l W) : Tab W 1 rll :=
  zFG rll rfl rfl (by decide) (by kernel_rfl) (by kernel_rfl) Tryz.underlying208 hm h
end Go.Proofs.YtnlmknbhppdliaaGreatDoor
namespace Go.Proofs.YtnlmknbhppdliaaGreatDoor
open Go.ChangeShapes Go.WideShapes Go.ChangeAt Go.RowKit Go.Joins
set_option linter.unusedVariables false
set_option linter.unusedSimpArgs false
set_option maxRecDepth 20000
theorem gInv : Tryz.prog.globalNamed "dotterel/tick.inverses" = some 3 := by kernel_rfl
theorem tInv : (Tryz.prog.globals[3]?).map (·.type) = some 257 := by kernel_rfl
theorem zJ0 (i : Nat) (h1 : 1 ≤ i) (hi : i < 14) : ([.lit (.int .i64 0), .lit (.int .i64 2), .lit (.int .i64 1), .lit (.int .i64 4), .lit (.int .i64 3), .lit (.int .i64 6), .lit (.int .i64 5), .lit (.int .i64 8), .lit (.int .i64 7), .lit (.int .i64 10), .lit (.int .i64 9), .lit (.int .i64 12), .lit (.int .i64 11), .lit (.int .i64 13)] : List (DataW Unit))[i]? = some (.lit (.int .i64 (B8.invN i : Nat))) := by
  rcases (by omega : i = 1 ∨ i = 2 ∨ i = 3 ∨ i = 4 ∨ i = 5 ∨ i = 6 ∨ i = 7 ∨ i = 8 ∨ i = 9 ∨ i = 10 ∨ i = 11 ∨ i = 12 ∨ i = 13) with rfl | rfl | rfl | rfl | rfl | rfl | rfl | rfl | rfl | rfl | rfl | rfl | rfl <;> rfl
theorem laid_inv {W : World} {l : List (String × DataW Unit)} (hm : ("dotterel/tick.inverses", Rows.laid_dotterel_tick_inverses) ∈ l) (h : laidMet Tryz.prog l W) : B8.Tab W := by
 obtain ⟨g0, t0, cs0, f0, p0, hg0, ht0, hv0, hd0⟩ := Lib.laidMet.reads h hm
 obtain rfl := Option.some.inj (gInv.symm.trans hg0)
 obtain rfl := Option.some.inj (tInv.symm.trans ht0)
 obtain ⟨xs, m, rfl, hx, hlen, hn, hel⟩ := DataW.trod_array Tryz.underlying257 hd0
 have c3 : Tryz.prog.cellsOf 3 = 1 := by kernel_rfl
 simp only [Prod.mk.injEq, Rows.laid_dotterel_tick_inverses, DataW.agg.injEq] at hx
 have hxl := hx.1
 have key : ∀ i : Nat, 1 ≤ i → i < 14 → W.cell? ⟨3, i, none⟩ = some (.int .i64 (B8.invN i : Nat)) := by
  intro i h1 hi
  have he := hel i hi
  rw [c3] at he
  have hlt : i < xs.length := by omega
  rw [List.getElem?_eq_getElem hlt] at he
  obtain ⟨k, e1, e2, _⟩ := DataW.trod_int Tryz.underlying3 he
  have hk := zJ0 i h1 hi
  rw [hxl, List.getElem?_map, List.getElem?_eq_getElem hlt] at hk
  simp only [Option.map_some, e2, Option.some.injEq, DataW.lit.injEq, Lit.int.injEq, true_and] at hk
  subst hk
  have hc := World.var?_cell hg0 hv0 i
  rw [hc]
  have e3 : (cs0.toList.drop (i * 1)).take 1 = [.int .i64 (B8.invN i : Nat)] := e1
  have e4 : cs0.toList[i]? = some (.int .i64 (B8.invN i : Nat)) := by
   have := congrArg (fun l => l[0]?) e3
   simpa using this
  simpa using e4
 exact ⟨World.block_lt_of_cell? _ _ (key 1 (by decide) (by decide)), fun k h1 h2 => key k h1 (by omega)⟩
theorem zHW {W : World} (h : laidMetH Tryz.prog [("dotterel/tick.inverses", Rows.laid_dotterel_tick_inverses), ("dotterel/parse.kept", Rows.laid_dotterel_parse_kept), ("dotterel/parse.relations", Rows.laid_dotterel_parse_relations)] W) : B8.Tab W := by
  rw [MakeChecks.laidMetH_plain _ _ _ (by kernel_rfl)] at h
  exact laid_inv (by simp) h
end Go.Proofs.YtnlmknbhppdliaaGreatDoor
