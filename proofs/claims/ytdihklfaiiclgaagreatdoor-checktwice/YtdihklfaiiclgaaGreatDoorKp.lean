/-
  A book of raw numbers. Rules that come of themselves: in plain words. The first rule of a book, and what is there twice: in plain words.
-/
import Derived.Test.YtdihklfaiiclgaaGreatDoorKn
import Derived.Test.YtdihklfaiiclgaaGreatDoorKc
namespace Go.Proofs.YtdihklfaiiclgaaGreatDoor.Chk
open Go.ChangeShapes Go.WideShapes Go.ChangeAt Go.RowKit Go.Maps
set_option linter.unusedVariables false
set_option linter.unusedSimpArgs false
set_option maxRecDepth 20000
theorem kt_hrd {W : World} {n b6 : Nat} (h : W.heap[b6]? = some (.cells #[.string ⟨#[120]⟩, .string ⟨#[101]⟩, .int .i64 6, .slice none 0 0, .int .i64 1, .int .i64 1, .int .i64 1, .string ⟨#[]⟩, .string ⟨#[]⟩, .string ⟨#[]⟩, .int .i64 2, .int .i64 0, .int .i64 0, .string ⟨#[]⟩, .string ⟨#[]⟩, .string ⟨#[110]⟩, .int .i64 1, .int .i64 3] 50 (0, 0))) (hn : n ≤ b6) : KT W n isR (encR hrd) [.string ⟨#[104, 101, 97, 114, 100]⟩, .slice (some ⟨b6, 0, none⟩) 1 1, .slice none 0 0, .slice none 0 0, .slice none 0 0, .string ⟨#[]⟩, .slice none 0 0] := fun W' hW => by
 have h' : W'.heap[b6]? = some (.cells #[.string ⟨#[120]⟩, .string ⟨#[101]⟩, .int .i64 6, .slice none 0 0, .int .i64 1, .int .i64 1, .int .i64 1, .string ⟨#[]⟩, .string ⟨#[]⟩, .string ⟨#[]⟩, .int .i64 2, .int .i64 0, .int .i64 0, .string ⟨#[]⟩, .string ⟨#[]⟩, .string ⟨#[110]⟩, .int .i64 1, .int .i64 3] 50 (0, 0)) := (hW b6 50 hn (by decide) ⟨_, h⟩).trans h
 have hc : RdL W' (encC (cmpC 6 (numO 1) nO)) [.int .i64 6, .slice none 0 0, .int .i64 1, .int .i64 1, .int .i64 1, .string ⟨#[]⟩, .string ⟨#[]⟩, .string ⟨#[]⟩, .int .i64 2, .int .i64 0, .int .i64 0, .string ⟨#[]⟩, .string ⟨#[]⟩, .string ⟨#[110]⟩] := .cons (.lit _) (.cons (.nil _ _ none 0 (Nat.zero_le _)) (rdl_lits [.int .i64 1, .int .i64 1, .int .i64 1, .string ⟨#[]⟩, .string ⟨#[]⟩, .string ⟨#[]⟩, .int .i64 2, .int .i64 0, .int .i64 0, .string ⟨#[]⟩, .string ⟨#[]⟩, .string ⟨#[110]⟩]))
 have hp : Rd W' (.row 50 18 ([(⟨txt [120], txt [101], cmpC 6 (numO 1) nO, 1, 3⟩ : Pt)].map encP)) (.slice (some ⟨b6, 0, none⟩) 1 1) :=
  rd_blk (l := [(⟨txt [120], txt [101], cmpC 6 (numO 1) nO, 1, 3⟩ : Pt)].map encP) h' (by decide) (by decide) (by
   show RdL W' (encP _ ++ []) _
   rw [List.append_nil]
   exact .cons (.lit _) (.cons (.lit _) (rdl_app hc (rdl_lits [.int .i64 1, .int .i64 3]))))
 exact .cons (.lit _) (.cons hp (.cons (.nil _ _ none 0 (Nat.zero_le _)) (.cons (.nil _ _ none 0 (Nat.zero_le _)) (.cons (.nil _ _ none 0 (Nat.zero_le _)) (.cons (.lit _) (.cons (.nil _ _ none 0 (Nat.zero_le _)) (RdL.nil _)))))))
set_option maxHeartbeats 64000000 in
theorem book_any (l : List Plt) (hok : ∀ p, p ∈ l → p.ok) (lv : Value) (w : World) (hl : Rd w (.row 72 5 (l.map encPl)) lv) :
  Calls Tryz.prog 5 #[lv] w fun e w' => ∃ (b : Nat) (rp : Option Addr) (rc : Nat), e = .returned (.agg #[.slice (some ⟨b + 4, 0, none⟩) 5 5, .slice rp (min l.length 4 + 1) rc]) ∧ w.heap.size ≤ b ∧ Tys w' b ∧ RwT w' (b + 5) isR 41 7 (.slice rp (min l.length 4 + 1) rc) ((pwBk l).map encR) ∧ Below w.heap.size w w' := by
 obtain ⟨lp, lc, rfl, hmx, hat⟩ := rd_row lenPl hl
 obtain ⟨L, hL⟩ : ∃ L, l.length = L := ⟨_, rfl⟩
 rw [hL]
 have hmx2 : (L : Int) ≤ 9223372036854775807 := by rw [hL] at hmx; first | exact hmx | (unfold maxLen at hmx; omega)
 obtain ⟨NN, hN⟩ : ∃ N, min L 4 = N := ⟨_, rfl⟩
 rw [hN]
 have hz : (w.alloc (.cells #[.slice none 0 0, .slice none 0 0] 26)).heap[w.heap.size]? = some (.cells #[.slice none 0 0, .slice none 0 0] 26 (0, 0)) := heap_alloc_new _ _
 have hbz : Below w.heap.size w (w.alloc (.cells #[.slice none 0 0, .slice none 0 0] 26)) := (Below.refl _ _).alloc (Nat.le_refl _) _
 have hsz : (w.alloc (.cells #[.slice none 0 0, .slice none 0 0] 26)).heap.size = w.heap.size + 1 := by simp
 obtain ⟨w0, hw0⟩ : ∃ x, w.alloc (.cells #[.slice none 0 0, .slice none 0 0] 26) = x := ⟨_, rfl⟩
 rw [hw0] at hz hbz hsz
 have HZ := hid hz
 have HBZ := hid hbz
 have HSZ := hid hsz
 obtain ⟨ir, ir1, ir2, ir3, ir4⟩ := inR
 have HIR := hid (And.intro ir1 (And.intro ir2 (And.intro ir3 ir4)))
 have HPB : Hid ((pwBk l).map encR = (pwRs l NN).map encR ++ [encR hrd]) := by show _ = _; unfold pwBk; rw [hL, hN, List.map_append]; rfl
 have HAT := hid hat
 have HOK := hid hok
 have HLL := hid hL
 have HNN := hid hN
 have HMX := hid hmx2
 clear hl hz hbz hsz ir1 ir2 ir3 ir4 hat hok hL hN hmx hmx2
 go_enter Tryz.func5, Tryz.ntmps5
 go_wp2_with (first
  | (go_at_call 11; refine (types_any _).mono ?_; rintro e w1 ⟨b, rfl, hbt, hty, hb1⟩; have HTY := hid hty; have HBT := hid hbt; have HB1 := hid hb1; clear hbt hty hb1)
  | ((with_reducible show wpList _ _ _ (Oper.mk (some 7) _ _ _ _ _ :: _) _ _); refine wp_bdq (by rfl) 26 _ (by rfl) #[(0, .slice (some ⟨b + 4, 0, none⟩) 5 5)] (by simp [Act.eval, Act.put]) (.agg #[.slice (some ⟨b + 4, 0, none⟩) 5 5, .slice none 0 0]) (fun w => by kernel_rfl) ?_)
  | ((with_reducible show wpList _ _ _ (Oper.mk _ (.store 26 _ _) _ _ _ _ :: _) _ _); refine wp_st (by rfl) 26 _ _ (by rfl) w1.heap.size 0 [.slice none 0 0, .slice none 0 0] 26 (.agg #[.slice (some ⟨b + 4, 0, none⟩) 5 5, .slice none 0 0]) [.slice (some ⟨b + 4, 0, none⟩) 5 5, .slice none 0 0] (by rfl) (by rfl) (by rfl) (heap_alloc_new _ _) (by simp) (by kernel_rfl) (by rfl) ?_; intro w2 hq1 hq2; have HU2 := hid hq1; have HF2 := hid hq2; clear hq1 hq2))
 obtain ⟨bb, hbb⟩ : ∃ x, w1.heap.size = x := ⟨_, rfl⟩
 have hsz1 : b + 4 < w1.heap.size := blk_lt HTY.out.2.2.2.2
 have hA1 : Below w1.heap.size w1 (w1.alloc (.cells #[.slice none 0 0, .slice none 0 0] 26)) := (Below.refl _ _).alloc (Nat.le_refl _) _
 have hn12 : Below w1.heap.size w1 w2 := below_fr hA1 HF2.out (Nat.le_refl _)
 have hBo : Bo w w2 b bb l 0 (.slice none 0 0) := by
  have h3 := HBT.out
  have h4 := HSZ.out
  refine ⟨below_trans (below_trans HBZ.out HB1.out HBZ.out.size) hn12 (Nat.le_trans HBZ.out.size HB1.out.size), ?_, HTY.out.later (fun i o hi _ _ => (hn12.block _ (blk_lt hi)).trans hi), by omega, by omega, by rw [← hbb]; exact HU2.out, RwT.nil _ _ _ _ _⟩
  have h5 := (HB1.out.block _ (blk_lt HZ.out)).trans HZ.out
  exact (hn12.block _ (blk_lt h5)).trans h5
 have HBO := hid hBo
 rw [hbb]
 clear hBo hbb hsz1 hA1 hn12 HTY HBT HB1 HU2 HF2 HZ HBZ HSZ
 refine book_l1 l HOK.out lp L lc HLL.out HMX.out w w2 b bb NN HNN.out HAT.out HBO.out _ _ _ _ _ _ _ _ _ _ _ _ _ _ _ _ _ _ _ _ _ _ _ _ _ _ _ _ _ _ _ _ _ _ _ _ _ _ _ _ _ _ ?_
 intro rp rc wr g5 g8 g9 g10 g11 g12 g13 g14 g15 g16 g17 g18 g19 g20 g21 g22 g23 g24 g25 g26 g27 g28 g29 g30 g31 g32 hR
 have HR := hid hR
 have HB5 : Hid (b + 5 ≤ wr.heap.size) := by have h1 := hR.b1; have h2 := hR.bl; show _ ≤ _; omega
 have HLW : Hid (((pwRs l NN).map encR).length ≤ 10) := by show _ ≤ 10; rw [List.length_map, len_pwRs]; have := HNN.out; omega
 have HLW1 : Hid (((pwRs l NN).map encR).length + 1 = NN + 1) := by show _ + 1 = _; rw [List.length_map, len_pwRs]
 clear hR HBO
 go_upto_region 7 with fail
 refine wp_region_two (by kernel_rfl) (fun i w9 v => ([(fun w9 v => v = .pointer (some ⟨bb, 1, none⟩)), (fun w9 v => v = .slice rp NN rc), (fun w9 v => v = opV (numO 1)), (fun w9 v => v = opV (ownO ⟨#[110]⟩)), (fun w9 v => v = cnV 6 (.slice none 0 0) (numO 1) (ownO ⟨#[110]⟩)), (fun w9 v => v = .agg #[.string ⟨#[120]⟩, .string ⟨#[101]⟩, .int .i64 6, .slice none 0 0, .int .i64 1, .int .i64 1, .int .i64 1, .string ⟨#[]⟩, .string ⟨#[]⟩, .string ⟨#[]⟩, .int .i64 2, .int .i64 0, .int .i64 0, .string ⟨#[]⟩, .string ⟨#[]⟩, .string ⟨#[110]⟩, .int .i64 1, .int .i64 3]), (fun w9 v => ∃ (b6 : Nat), v = .slice (some ⟨b6, 0, none⟩) 1 1 ∧ w9.heap[b6]? = some (.cells #[.string ⟨#[120]⟩, .string ⟨#[101]⟩, .int .i64 6, .slice none 0 0, .int .i64 1, .int .i64 1, .int .i64 1, .string ⟨#[]⟩, .string ⟨#[]⟩, .string ⟨#[]⟩, .int .i64 2, .int .i64 0, .int .i64 0, .string ⟨#[]⟩, .string ⟨#[]⟩, .string ⟨#[110]⟩, .int .i64 1, .int .i64 3] 50 (0, 0)) ∧ b + 5 ≤ b6), (fun w9 v => ∃ (b6 : Nat), v = .agg #[.string ⟨#[104, 101, 97, 114, 100]⟩, .slice (some ⟨b6, 0, none⟩) 1 1, .slice none 0 0, .slice none 0 0, .slice none 0 0, .string ⟨#[]⟩, .slice none 0 0] ∧ w9.heap[b6]? = some (.cells #[.string ⟨#[120]⟩, .string ⟨#[101]⟩, .int .i64 6, .slice none 0 0, .int .i64 1, .int .i64 1, .int .i64 1, .string ⟨#[]⟩, .string ⟨#[]⟩, .string ⟨#[]⟩, .int .i64 2, .int .i64 0, .int .i64 0, .string ⟨#[]⟩, .string ⟨#[]⟩, .string ⟨#[110]⟩, .int .i64 1, .int .i64 3] 50 (0, 0)) ∧ b + 5 ≤ b6), (fun w9 v => ∃ (b6 b8 : Nat), v = .slice (some ⟨b8, 0, none⟩) 1 1 ∧ w9.heap[b8]? = some (.cells #[.string ⟨#[104, 101, 97, 114, 100]⟩, .slice (some ⟨b6, 0, none⟩) 1 1, .slice none 0 0, .slice none 0 0, .slice none 0 0, .string ⟨#[]⟩, .slice none 0 0] 41 (0, 0)) ∧ w9.heap[b6]? = some (.cells #[.string ⟨#[120]⟩, .string ⟨#[101]⟩, .int .i64 6, .slice none 0 0, .int .i64 1, .int .i64 1, .int .i64 1, .string ⟨#[]⟩, .string ⟨#[]⟩, .string ⟨#[]⟩, .int .i64 2, .int .i64 0, .int .i64 0, .string ⟨#[]⟩, .string ⟨#[]⟩, .string ⟨#[110]⟩, .int .i64 1, .int .i64 3] 50 (0, 0)) ∧ b + 5 ≤ b6), (fun w9 v => True), (fun w9 v => v = .pointer (some ⟨bb, 1, none⟩))] : List (World → Value → Prop)).getD i (fun _ _ => True) w9 v) (fun W => Below wr.heap.size wr W) 9 11 (fun w9 v => ∃ (p' : Option Addr) (c' : Nat) (Wp : World), v = .slice p' (NN + 1) c' ∧ Below wr.heap.size wr Wp ∧ Wp.grownBy w9 (Value.slice rp NN rc).ownBlock ∧ RwT w9 (b + 5) isR 41 7 (.slice p' (NN + 1) c') ((pwRs l NN).map encR ++ [encR hrd])) 45 rfl rfl (by decide) [some 33, some 34, some 35, some 36, some 37, some 38, some 39, some 40, some 41, some 42, some 43] (by kernel_rfl) 24 (.tmp 43) (.tmp 42) (by rfl) (by rfl) (by kernel_rfl) (by kernel_rfl) (by kernel_rfl) (fun W W' => Below W.heap.size W W') ?hmon ?hpi (Below.drew (Below.refl _ _)) (AllOps.cons ?o0 (AllOps.cons ?o1 (AllOps.cons ?o2 (AllOps.cons ?o3 (AllOps.cons ?o4 (AllOps.cons ?o5 (AllOps.cons ?o6 (AllOps.cons ?o7 (AllOps.cons ?o8 (AllOps.cons ?o9 (AllOps.cons ?o10 (AllOps.cons ?o11 AllOps.nil)))))))))))) ?hS ?hend
 case hmon =>
  intro q W W' v hb h
  rcases q with _ | _ | _ | _ | _ | _ | _ | _ | _ | _ | _ | q
  . exact h
  . exact h
  . exact h
  . exact h
  . exact h
  . exact h
  . obtain ⟨b6, e, h1, h2⟩ := h; exact ⟨b6, e, (hb.block _ (blk_lt h1)).trans h1, h2⟩
  . obtain ⟨b6, e, h1, h2⟩ := h; exact ⟨b6, e, (hb.block _ (blk_lt h1)).trans h1, h2⟩
  . obtain ⟨b6, b8, e, h0, h1, h2⟩ := h; exact ⟨b6, b8, e, (hb.block _ (blk_lt h0)).trans h0, (hb.block _ (blk_lt h1)).trans h1, h2⟩
  . exact h
  . exact h
  . exact h
 case hpi =>
  intro q W W' v hq h
  rcases q with _ | _ | _ | _ | _ | _ | _ | _ | _ | _ | _ | _ | q
  . exact absurd hq (by decide)
  . exact absurd hq (by decide)
  . exact absurd hq (by decide)
  . exact absurd hq (by decide)
  . exact absurd hq (by decide)
  . exact absurd hq (by decide)
  . exact absurd hq (by decide)
  . exact absurd hq (by decide)
  . exact absurd hq (by decide)
  . exact absurd hq (by decide)
  . exact h
  . exact h
  . exact h
 case o0 =>
  intro _ _ a W hB hd ho
  replace hB := hB (by decide)
  have e3 : a.eval (.tmp 3) = .pointer (some ⟨bb, 0, none⟩) := ho 3 (by kernel_rfl)
  exact op_val (.pointer (some ⟨bb, 1, none⟩)) (by unfold execOp; simp only [ev_c, e3]; go_simp) ⟨_, rfl, rfl, fun _ => hB, fun _ => Below.refl _ _, fun _ => rfl⟩
 case o1 =>
  intro _ _ a W hB hd ho
  replace hB := hB (by decide)
  have e33 : a.eval (.tmp 33) = .pointer (some ⟨bb, 1, none⟩) := hd 0 33 (by kernel_rfl) (by decide)
  have c9 : W.cell? ⟨bb, 1, none⟩ = some (.slice rp NN rc) := by
    rw [cell_of_blk ((hB.block _ (blk_lt HR.out.ub)).trans HR.out.ub)]
    rfl
  exact op_val (.slice rp NN rc) (by unfold execOp; simp only [ev_c, e33]; go_simp) ⟨_, rfl, rfl, fun _ => hB, fun _ => Below.refl _ _, fun _ => rfl⟩
 case o2 =>
  intro _ _ a W hB hd ho
  replace hB := hB (by decide)
  refine op_cl 14 ent_num _ _ rfl #[.int .i64 1] (by simp [ev_c]) _ (number_any 1 W) ?_
  rintro e W' ⟨rfl, hal⟩
  exact ⟨_, rfl, _, rfl, rfl, fun _ => below_trans hB hal hB.size, fun _ => hal, fun h9 => absurd h9 (by decide)⟩
 case o3 =>
  intro _ _ a W hB hd ho
  replace hB := hB (by decide)
  refine op_cl 15 ent_own _ _ rfl #[.string ⟨#[110]⟩] (by simp [ev_c]) _ (own_any ⟨#[110]⟩ W) ?_
  rintro e W' ⟨rfl, hal⟩
  exact ⟨_, rfl, _, rfl, rfl, fun _ => below_trans hB hal hB.size, fun _ => hal, fun h9 => absurd h9 (by decide)⟩
 case o4 =>
  intro _ _ a W hB hd ho
  replace hB := hB (by decide)
  have e35 : a.eval (.tmp 35) = opV (numO 1) := hd 2 35 (by kernel_rfl) (by decide)
  have e36 : a.eval (.tmp 36) = opV (ownO ⟨#[110]⟩) := hd 3 36 (by kernel_rfl) (by decide)
  refine op_cl 13 ent_cmp _ _ rfl #[.int .i64 6, opV (numO 1), opV (ownO ⟨#[110]⟩)] (by simp [ev_c, e35, e36]) _ (compare_any 6 (numO 1) (ownO ⟨#[110]⟩) W) ?_
  rintro e W' ⟨rfl, hal⟩
  exact ⟨_, rfl, _, rfl, rfl, fun _ => below_trans hB hal hB.size, fun _ => hal, fun h9 => absurd h9 (by decide)⟩
 case o5 =>
  intro _ _ a W hB hd ho
  replace hB := hB (by decide)
  have e37 : a.eval (.tmp 37) = cnV 6 (.slice none 0 0) (numO 1) (ownO ⟨#[110]⟩) := hd 4 37 (by kernel_rfl) (by decide)
  exact op_bd 50 _ rfl #[(0, .string ⟨#[120]⟩), (1, .string ⟨#[101]⟩), (2, cnV 6 (.slice none 0 0) (numO 1) (ownO ⟨#[110]⟩)), (3, .int .i64 1), (4, .int .i64 3)] (by simp [ev_c, e37]) (.agg #[.string ⟨#[120]⟩, .string ⟨#[101]⟩, .int .i64 6, .slice none 0 0, .int .i64 1, .int .i64 1, .int .i64 1, .string ⟨#[]⟩, .string ⟨#[]⟩, .string ⟨#[]⟩, .int .i64 2, .int .i64 0, .int .i64 0, .string ⟨#[]⟩, .string ⟨#[]⟩, .string ⟨#[110]⟩, .int .i64 1, .int .i64 3]) (by kernel_rfl) ⟨_, rfl, rfl, fun _ => hB, fun _ => Below.refl _ _, fun _ => rfl⟩
 case o6 =>
  intro _ _ a W hB hd ho
  replace hB := hB (by decide)
  have e38 : a.eval (.tmp 38) = .agg #[.string ⟨#[120]⟩, .string ⟨#[101]⟩, .int .i64 6, .slice none 0 0, .int .i64 1, .int .i64 1, .int .i64 1, .string ⟨#[]⟩, .string ⟨#[]⟩, .string ⟨#[]⟩, .int .i64 2, .int .i64 0, .int .i64 0, .string ⟨#[]⟩, .string ⟨#[]⟩, .string ⟨#[110]⟩, .int .i64 1, .int .i64 3] := hd 5 38 (by kernel_rfl) (by decide)
  have hal : Below W.heap.size W (W.alloc (.cells #[.string ⟨#[120]⟩, .string ⟨#[101]⟩, .int .i64 6, .slice none 0 0, .int .i64 1, .int .i64 1, .int .i64 1, .string ⟨#[]⟩, .string ⟨#[]⟩, .string ⟨#[]⟩, .int .i64 2, .int .i64 0, .int .i64 0, .string ⟨#[]⟩, .string ⟨#[]⟩, .string ⟨#[110]⟩, .int .i64 1, .int .i64 3] 50)) := (Below.refl _ _).alloc (Nat.le_refl _) _
  refine op_bs 34 1 _ rfl #[(0, .agg #[.string ⟨#[120]⟩, .string ⟨#[101]⟩, .int .i64 6, .slice none 0 0, .int .i64 1, .int .i64 1, .int .i64 1, .string ⟨#[]⟩, .string ⟨#[]⟩, .string ⟨#[]⟩, .int .i64 2, .int .i64 0, .int .i64 0, .string ⟨#[]⟩, .string ⟨#[]⟩, .string ⟨#[110]⟩, .int .i64 1, .int .i64 3])] (by simp [ev_c, e38]) (.slice (some ⟨W.heap.size, 0, none⟩) 1 1) (W.alloc (.cells #[.string ⟨#[120]⟩, .string ⟨#[101]⟩, .int .i64 6, .slice none 0 0, .int .i64 1, .int .i64 1, .int .i64 1, .string ⟨#[]⟩, .string ⟨#[]⟩, .string ⟨#[]⟩, .int .i64 2, .int .i64 0, .int .i64 0, .string ⟨#[]⟩, .string ⟨#[]⟩, .string ⟨#[110]⟩, .int .i64 1, .int .i64 3] 50)) (by kernel_rfl) ⟨_, rfl, ⟨W.heap.size, rfl, heap_alloc_new _ _, Nat.le_trans HB5.out hB.size⟩, fun _ => below_trans hB hal hB.size, fun _ => hal, fun h9 => absurd h9 (by decide)⟩
 case o7 =>
  intro _ _ a W hB hd ho
  replace hB := hB (by decide)
  obtain ⟨b6, e39, h6⟩ : ∃ (b6 : Nat), a.eval (.tmp 39) = .slice (some ⟨b6, 0, none⟩) 1 1 ∧ W.heap[b6]? = some (.cells #[.string ⟨#[120]⟩, .string ⟨#[101]⟩, .int .i64 6, .slice none 0 0, .int .i64 1, .int .i64 1, .int .i64 1, .string ⟨#[]⟩, .string ⟨#[]⟩, .string ⟨#[]⟩, .int .i64 2, .int .i64 0, .int .i64 0, .string ⟨#[]⟩, .string ⟨#[]⟩, .string ⟨#[110]⟩, .int .i64 1, .int .i64 3] 50 (0, 0)) ∧ b + 5 ≤ b6 := hd 6 39 (by kernel_rfl) (by decide)
  exact op_bd 41 _ rfl #[(0, .string ⟨#[104, 101, 97, 114, 100]⟩), (1, .slice (some ⟨b6, 0, none⟩) 1 1)] (by simp [ev_c, e39]) (.agg #[.string ⟨#[104, 101, 97, 114, 100]⟩, .slice (some ⟨b6, 0, none⟩) 1 1, .slice none 0 0, .slice none 0 0, .slice none 0 0, .string ⟨#[]⟩, .slice none 0 0]) (by kernel_rfl) ⟨_, rfl, ⟨b6, rfl, h6⟩, fun _ => hB, fun _ => Below.refl _ _, fun _ => rfl⟩
 case o8 =>
  intro _ _ a W hB hd ho
  replace hB := hB (by decide)
  obtain ⟨b6, e40, h6, h6b⟩ : ∃ (b6 : Nat), a.eval (.tmp 40) = .agg #[.string ⟨#[104, 101, 97, 114, 100]⟩, .slice (some ⟨b6, 0, none⟩) 1 1, .slice none 0 0, .slice none 0 0, .slice none 0 0, .string ⟨#[]⟩, .slice none 0 0] ∧ W.heap[b6]? = some (.cells #[.string ⟨#[120]⟩, .string ⟨#[101]⟩, .int .i64 6, .slice none 0 0, .int .i64 1, .int .i64 1, .int .i64 1, .string ⟨#[]⟩, .string ⟨#[]⟩, .string ⟨#[]⟩, .int .i64 2, .int .i64 0, .int .i64 0, .string ⟨#[]⟩, .string ⟨#[]⟩, .string ⟨#[110]⟩, .int .i64 1, .int .i64 3] 50 (0, 0)) ∧ b + 5 ≤ b6 := hd 7 40 (by kernel_rfl) (by decide)
  have hal : Below W.heap.size W (W.alloc (.cells #[.string ⟨#[104, 101, 97, 114, 100]⟩, .slice (some ⟨b6, 0, none⟩) 1 1, .slice none 0 0, .slice none 0 0, .slice none 0 0, .string ⟨#[]⟩, .slice none 0 0] 41)) := (Below.refl _ _).alloc (Nat.le_refl _) _
  refine op_bs 24 1 _ rfl #[(0, .agg #[.string ⟨#[104, 101, 97, 114, 100]⟩, .slice (some ⟨b6, 0, none⟩) 1 1, .slice none 0 0, .slice none 0 0, .slice none 0 0, .string ⟨#[]⟩, .slice none 0 0])] (by simp [ev_c, e40]) (.slice (some ⟨W.heap.size, 0, none⟩) 1 1) (W.alloc (.cells #[.string ⟨#[104, 101, 97, 114, 100]⟩, .slice (some ⟨b6, 0, none⟩) 1 1, .slice none 0 0, .slice none 0 0, .slice none 0 0, .string ⟨#[]⟩, .slice none 0 0] 41)) (by kernel_rfl) ⟨_, rfl, ⟨b6, W.heap.size, rfl, heap_alloc_new _ _, (hal.block _ (blk_lt h6)).trans h6, h6b⟩, fun _ => below_trans hB hal hB.size, fun _ => hal, fun h9 => absurd h9 (by decide)⟩
 case o9 =>
  intro h9; exact absurd rfl h9
 case o10 =>
  intro _ _ a W hB hd ho
  have e3 : a.eval (.tmp 3) = .pointer (some ⟨bb, 0, none⟩) := ho 3 (by kernel_rfl)
  exact op_val (.pointer (some ⟨bb, 1, none⟩)) (by unfold execOp; simp only [ev_c, e3]; go_simp) ⟨_, rfl, rfl, fun h9 => absurd h9 (by decide), fun h9 => absurd h9 (by decide), fun _ => rfl⟩
 case o11 =>
  intro _ h9; exact absurd rfl h9
 case hS =>
  intro a W vs hB hT hd hout
  have e1 : vs 1 = .slice rp NN rc := hT 1 (by decide)
  obtain ⟨b6, b8, e8, h8, h6, h6b⟩ : ∃ (b6 b8 : Nat), vs 8 = .slice (some ⟨b8, 0, none⟩) 1 1 ∧ W.heap[b8]? = some (.cells #[.string ⟨#[104, 101, 97, 114, 100]⟩, .slice (some ⟨b6, 0, none⟩) 1 1, .slice none 0 0, .slice none 0 0, .slice none 0 0, .string ⟨#[]⟩, .slice none 0 0] 41 (0, 0)) ∧ W.heap[b6]? = some (.cells #[.string ⟨#[120]⟩, .string ⟨#[101]⟩, .int .i64 6, .slice none 0 0, .int .i64 1, .int .i64 1, .int .i64 1, .string ⟨#[]⟩, .string ⟨#[]⟩, .string ⟨#[]⟩, .int .i64 2, .int .i64 0, .int .i64 0, .string ⟨#[]⟩, .string ⟨#[]⟩, .string ⟨#[110]⟩, .int .i64 1, .int .i64 3] 50 (0, 0)) ∧ b + 5 ≤ b6 := hT 8 (by decide)
  refine op_appT _ _ 24 rfl (b + 5) isR 41 7 152 ir _ Tryz.underlying24 HIR.out.1 HIR.out.2.1 HIR.out.2.2.1 HIR.out.2.2.2 rfl (by omega) (by decide) (.slice rp NN rc) ((pwRs l NN).map encR) ((hd 1 34 (by kernel_rfl)).trans e1) (HR.out.r.below hB) (Nat.le_trans HB5.out hB.size) b8 [.string ⟨#[104, 101, 97, 114, 100]⟩, .slice (some ⟨b6, 0, none⟩) 1 1, .slice none 0 0, .slice none 0 0, .slice none 0 0, .string ⟨#[]⟩, .slice none 0 0] ((hd 8 41 (by kernel_rfl)).trans e8) h8 (by rfl) (by rfl) (encR hrd) (kt_hrd h6 h6b) (by decide) HLW.out (NN + 1) HLW1.out ?_
  intro p' c' W' k1 k2 k3
  exact ⟨_, rfl, p', c', W, rfl, hB, k2, k1⟩
 case hend =>
  intro vs W hB2 hT
  obtain ⟨p', c', Wp, e9, k1, k2, k4⟩ := hB2
  have e10 : vs 10 = .pointer (some ⟨bb, 1, none⟩) := hT 10 (by decide) (by decide)
  have hgg := (HR.out.below k1).grown k2
  refine ⟨bb, 1, [.slice (some ⟨b + 4, 0, none⟩) 5 5, .slice rp NN rc], 26, .slice p' (NN + 1) c', [.slice p' (NN + 1) c'], Eq.trans (b := vs 10) (by kernel_rfl) e10, Eq.trans (b := vs 9) (by kernel_rfl) e9, rfl, hgg.2.2.2, by simp, by kernel_rfl, rfl, ?_⟩
  intro w9 hq1 hq2
  have h1 := HR.out.tb
  have h2 := HR.out.b1
  have HU9 : Hid (w9.heap[bb]? = some (.cells #[.slice (some ⟨b + 4, 0, none⟩) 5 5, .slice p' (NN + 1) c'] 26 (0, 0))) := hq1
  have HB9 : Hid (Below w.heap.size w w9) := below_fr hgg.1 hq2 (by omega)
  have HZ9 : Hid (w9.heap[w.heap.size]? = some (.cells #[.slice none 0 0, .slice none 0 0] 26 (0, 0))) := (hq2.block _ (blk_lt hgg.2.1) (by show w.heap.size ≠ bb; omega)).trans hgg.2.1
  have HT9 : Hid (Tys w9 b) := hgg.2.2.1.later (fun i o hi _ hb2 => (hq2.block _ (blk_lt hi) (by show i ≠ bb; omega)).trans hi)
  have HR9 := hid (k4.set hq2 ⟨_, hgg.2.2.2⟩ (by decide) (by decide))
  clear hq1 hq2 k1 k2 k4 hT hgg h1 h2
  simp only [putsD, Act.put, List.setIfInBounds_toArray, e9, e10]
  simp only [set_c20]
  simp only [List.set_cons_zero, List.set_cons_succ]
  clear e9 e10
  generalize vs 0 = v0
  generalize vs 1 = v1
  generalize vs 2 = v2
  generalize vs 3 = v3
  generalize vs 4 = v4
  generalize vs 5 = v5
  generalize vs 6 = v6
  generalize vs 7 = v7
  generalize vs 8 = v8
  clear vs
  go_wp2_with (first
    | ((with_reducible show wpList _ _ _ (Oper.mk (some 44) _ _ _ _ _ :: _) _ _); refine wpList_load_mid (by rfl) 26 _ (by rfl) bb 0 (by rfl) [.slice (some ⟨b + 4, 0, none⟩) 5 5, .slice p' (NN + 1) c'] _ (range_blk HU9.out) Tryz.underlying26 rfl (by kernel_rfl) ?_)
    | ((with_reducible show wpList _ _ _ (Oper.mk _ (.store 26 _ _) _ _ _ _ :: _) _ _); refine wp_st (by rfl) 26 _ _ (by rfl) w.heap.size 0 [.slice none 0 0, .slice none 0 0] 26 (.agg #[.slice (some ⟨b + 4, 0, none⟩) 5 5, .slice p' (NN + 1) c']) [.slice (some ⟨b + 4, 0, none⟩) 5 5, .slice p' (NN + 1) c'] (by rfl) (by rfl) (by rfl) HZ9.out (by simp) (by kernel_rfl) (by rfl) ?_; intro wf hq1 hq2; have HF := hid hq1; have HFF := hid hq2; clear hq1 hq2))
  have hTB : TB w9 26 w.heap.size := ⟨_, HZ9.out⟩
  have h1 := HR.out.tb
  exact ret_loc w.heap.size [.slice (some ⟨b + 4, 0, none⟩) 5 5, .slice p' (NN + 1) c'] 26 _ HF.out rfl rfl (by rfl) Tryz.underlying26 rfl (by kernel_rfl) ⟨b, p', c', rfl, by omega, HT9.out.later (fun i o hi hb1 _ => (HFF.out.block _ (blk_lt hi) (by show i ≠ w.heap.size; omega)).trans hi), by rw [HPB.out]; exact HR9.out.set HFF.out hTB (by decide) (by decide), below_fr HB9.out HFF.out (Nat.le_refl _)⟩
theorem bk_cons (l : List Plt) : ∃ x r, pwBk l = x :: r ∧ rck kts x = 0 ∧ r.length ≤ 4 := by
 have h := len_bk l
 cases hb : pwBk l with
 | nil => rw [hb] at h; simp at h
 | cons x r =>
  refine ⟨x, r, rfl, rks_all (pwBk l) [] (rks_bk l) x (by rw [hb]; simp), ?_⟩
  rw [hb, List.length_cons] at h
  omega
theorem seq_self (a : ByteArray) : seq a a = true := by unfold seq; simp
theorem rck_first {x : Rl} (h : rck kts x = 0) : frn x.n = 0 ∧ szs x ∧ ∃ p r, x.w = p :: r ∧ pck kts [] [] p 0 = 0 := by
 have h1 : frn x.n = 0 := by
  refine Classical.byContradiction fun c => ?_
  unfold rck at h
  rw [if_pos c] at h
  exact c h
 obtain ⟨_, h2⟩ := rck_ok h
 refine ⟨h1, h2, ?_⟩
 rw [rck_parts kts x h1 h2] at h
 cases hw : x.w with
 | nil => have h3 := h2.1; rw [hw] at h3; simp at h3
 | cons p r =>
  refine ⟨p, r, rfl, Classical.byContradiction fun c => ?_⟩
  have e : wfs 0 kts [] x.w = pck kts [] [] p 0 := by rw [hw, wfs]; exact if_pos c
  rw [e, if_pos c] at h
  exact c h
theorem bok_first {x : Rl} {r : List Rl} {c : Int} (hc : rck kts x = c) (h0 : c ≠ 0) (hl : r.length ≤ 4) : bok kts (x :: r) = c := by
  unfold bok bkf
  have e : rks (rck kts) [] (x :: r) = c := by rw [rks, hc, if_pos h0]
  rw [e, if_neg (by rw [List.length_cons, show kts.length = 5 from rfl]; omega), show tks [] kts = 0 from by kernel_rfl]
  rw [if_neg (by decide), if_pos h0]
def kts2 : List Tp := kts ++ [⟨txt [97], [⟨txt [110], 1⟩]⟩]
theorem bok_twice0 {rs : List Rl} (hl : rs.length ≤ 5) : bok kts2 rs = 7 := by
  unfold bok bkf
  rw [if_neg (by rw [show kts2.length = 6 from rfl]; omega), show tks [] kts2 = 7 from by kernel_rfl, if_pos (by decide)]
theorem bok_twice1 {x : Rl} (h : rck kts x = 0) : bok kts [x, x] = 7 := by
 unfold bok bkf
 have e : rks (rck kts) [] [x, x] = 7 := by
  rw [rks, h, if_neg (by decide)]
  simp only [List.any_nil, Bool.false_eq_true, if_false, List.nil_append]
  rw [rks, h, if_neg (by decide)]
  simp [seq_self]
 rw [e, if_neg (by rw [show kts.length = 5 from rfl]; simp), show tks [] kts = 0 from by kernel_rfl]
 rfl
def twW (x : Rl) (p : Pt) : Rl := { x with w := [p, p], k := [] }
theorem rck_twice2 {x : Rl} {p : Pt} {r : List Pt} (h : rck kts x = 0) (hw : x.w = p :: r) (hp : pck kts [] [] p 0 = 0) : rck kts (twW x p) = 7 := by
 obtain ⟨h1, h2, _⟩ := rck_first h
 have h3 : szs (twW x p) := by
  unfold szs at h2 ⊢
  unfold twW
  simp
  omega
 have hv : frn p.va = 0 := by
  refine Classical.byContradiction fun c => ?_
  unfold pck at hp
  rw [if_pos c] at hp
  exact c hp
 rw [rck_parts kts (twW x p) h1 h3]
 have e : wfs 0 kts [] (twW x p).w = 7 := by
  show wfs 0 kts [] [p, p] = 7
  rw [wfs]
  rw [show pck kts [] (([] : List Pt).map Pt.va) p 0 = 0 from hp, if_neg (by decide)]
  rw [wfs]
  have e2 : pck kts ([] ++ [p]) (([] ++ [p]).map Pt.va) p 0 = 7 := by
   unfold pck
   rw [if_neg (fun c => c hv)]
   simp [seq_self]
  rw [e2, if_pos (by decide)]
 rw [e, if_pos (by decide)]
theorem szr_twW {x : Rl} {p : Pt} {r : List Pt} (h : Szr x) (hw : x.w = p :: r) : Szr (twW x p) := by
 refine ⟨fun t ht => ?_, h.t, h.m, fun t ht => (by cases ht), h.e⟩
 have e : t = p := by
  rw [show (twW x p).w = [p, p] from rfl] at ht
  simpa using ht
 rw [e]
 exact h.w p (by rw [hw]; simp)
theorem rdl_take {W : World} {a b : List Dat} {vs : List Value} (h : RdL W (a ++ b) vs) : RdL W a (vs.take a.length) := by
  obtain ⟨h1, h2⟩ := h
  have hl : a.length ≤ vs.length := by rw [← h1, List.length_append]; omega
  refine ⟨by rw [List.length_take]; omega, fun k hk => ?_⟩
  have h3 := h2 k (by rw [List.length_append]; omega)
  rw [List.getElem_append_left hk] at h3
  rw [List.getD_eq_getElem?_getD, List.getElem?_take, if_pos hk, ← List.getD_eq_getElem?_getD]
  exact h3
theorem RwT.first {w : World} {n e z : Nat} {τ : Nat → Prop} {v : Value} {x : List Dat} {r : List (List Dat)} (h : RwT w n τ e z v (x :: r)) (hx : x.length = z) : ∃ g c us, v = .slice (some ⟨g, 0, none⟩) (r.length + 1) c ∧ us.length = z ∧ (∀ W : World, W.heap[g]? = w.heap[g]? → W.rangeAt g 0 us) ∧ KT w n τ x us ∧ TB w e g ∧ n ≤ g := by
 obtain ⟨xs, h1, h2⟩ := h
 rcases h1.2 with ⟨h3, h4⟩ | ⟨g, cap, cur, h3, h4, h5, h6, h7, h8, h9⟩
 . simp at h4
 . have hxl : z ≤ xs.length := by
     rw [h1.1, List.length_cons, Nat.add_mul]; omega
   refine ⟨g, cap, xs.take z, h3, by rw [List.length_take]; omega, fun W hW j u hj => ?_, fun W hW => ?_, ⟨_, h5⟩, h4⟩
   . rw [List.getElem?_take] at hj
     split at hj
     . have h10 : W.heap[g]? = some (.cells cur e (0, 0)) := hW.trans h5
       rw [Nat.zero_add, cell_of_blk h10]
       rw [← h9, List.getElem?_take] at hj
       split at hj
       . simpa using hj
       . cases hj
     . cases hj
   . have h10 := h2 W hW
     rw [List.flatten_cons] at h10
     have := rdl_take h10
     rw [hx] at this
     exact this
end Go.Proofs.YtdihklfaiiclgaaGreatDoor.Chk
