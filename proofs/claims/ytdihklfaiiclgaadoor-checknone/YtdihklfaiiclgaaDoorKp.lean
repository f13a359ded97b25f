/-
  A book of raw numbers. Rules that come of themselves: in plain words. The first rule of a book, and what is there twice: in plain words. What is named that is not there, and what does not fit: in plain words. A rule copied, its whens copied and changed: what is read of it.
-/
import Derived.Test.YtdihklfaiiclgaaDoorKn
import Derived.Test.YtdihklfaiiclgaaDoorRe
namespace Go.Proofs.YtdihklfaiiclgaaDoor.Chk
open Go.ChangeShapes Go.WideShapes Go.ChangeAt Go.RowKit Go.Maps
set_option linter.unusedVariables false
set_option linter.unusedSimpArgs false
set_option maxRecDepth 20000
theorem kt_hrd {W : World} {n b6 : Nat} (h : W.heap[b6]? = some (.cells #[.string ⟨#[120]⟩, .string ⟨#[101]⟩, .int .i64 6, .slice none 0 0, .int .i64 1, .int .i64 1, .int .i64 1, .string ⟨#[]⟩, .string ⟨#[]⟩, .string ⟨#[]⟩, .int .i64 2, .int .i64 0, .int .i64 0, .string ⟨#[]⟩, .string ⟨#[]⟩, .string ⟨#[110]⟩, .int .i64 1, .int .i64 3] 46 (0, 0))) (hn : n ≤ b6) : KT W n isR (encR hrd) [.string ⟨#[104, 101, 97, 114, 100]⟩, .slice (some ⟨b6, 0, none⟩) 1 1, .slice none 0 0, .slice none 0 0, .slice none 0 0, .string ⟨#[]⟩, .slice none 0 0] := fun W' hW => by
 have h' : W'.heap[b6]? = some (.cells #[.string ⟨#[120]⟩, .string ⟨#[101]⟩, .int .i64 6, .slice none 0 0, .int .i64 1, .int .i64 1, .int .i64 1, .string ⟨#[]⟩, .string ⟨#[]⟩, .string ⟨#[]⟩, .int .i64 2, .int .i64 0, .int .i64 0, .string ⟨#[]⟩, .string ⟨#[]⟩, .string ⟨#[110]⟩, .int .i64 1, .int .i64 3] 46 (0, 0)) := (hW b6 46 hn (by decide) ⟨_, h⟩).trans h
 have hc : RdL W' (encC (cmpC 6 (numO 1) nO)) [.int .i64 6, .slice none 0 0, .int .i64 1, .int .i64 1, .int .i64 1, .string ⟨#[]⟩, .string ⟨#[]⟩, .string ⟨#[]⟩, .int .i64 2, .int .i64 0, .int .i64 0, .string ⟨#[]⟩, .string ⟨#[]⟩, .string ⟨#[110]⟩] := .cons (.lit _) (.cons (.nil _ _ none 0 (Nat.zero_le _)) (rdl_lits [.int .i64 1, .int .i64 1, .int .i64 1, .string ⟨#[]⟩, .string ⟨#[]⟩, .string ⟨#[]⟩, .int .i64 2, .int .i64 0, .int .i64 0, .string ⟨#[]⟩, .string ⟨#[]⟩, .string ⟨#[110]⟩]))
 have hp : Rd W' (.row 46 18 ([(⟨txt [120], txt [101], cmpC 6 (numO 1) nO, 1, 3⟩ : Pt)].map encP)) (.slice (some ⟨b6, 0, none⟩) 1 1) :=
  rd_blk (l := [(⟨txt [120], txt [101], cmpC 6 (numO 1) nO, 1, 3⟩ : Pt)].map encP) h' (by decide) (by decide) (by
   show RdL W' (encP _ ++ []) _
   rw [List.append_nil]
   exact .cons (.lit _) (.cons (.lit _) (rdl_app hc (rdl_lits [.int .i64 1, .int .i64 3]))))
 exact .cons (.lit _) (.cons hp (.cons (.nil _ _ none 0 (Nat.zero_le _)) (.cons (.nil _ _ none 0 (Nat.zero_le _)) (.cons (.nil _ _ none 0 (Nat.zero_le _)) (.cons (.lit _) (.cons (.nil _ _ none 0 (Nat.zero_le _)) (RdL.nil _)))))))
set_option maxHeartbeats 64000000 in
theorem book_any (l : List Plt) (hok : ∀ p, p ∈ l → p.ok) (lv : Value) (w : World) (hl : Rd w (.row 63 5 (l.map encPl)) lv) :
  Calls Tryd.prog 5 #[lv] w fun e w' => ∃ (b : Nat) (rp : Option Addr) (rc : Nat), e = .returned (.agg #[.slice (some ⟨b + 4, 0, none⟩) 5 5, .slice rp (min l.length 4 + 1) rc]) ∧ w.heap.size ≤ b ∧ Tys w' b ∧ RwT w' (b + 5) isR 35 7 (.slice rp (min l.length 4 + 1) rc) ((pwBk l).map encR) ∧ Below w.heap.size w w' := by
 obtain ⟨lp, lc, rfl, hmx, hat⟩ := rd_row lenPl hl
 obtain ⟨L, hL⟩ : ∃ L, l.length = L := ⟨_, rfl⟩
 rw [hL]
 have hmx2 : (L : Int) ≤ 9223372036854775807 := by rw [hL] at hmx; first | exact hmx | (unfold maxLen at hmx; omega)
 obtain ⟨NN, hN⟩ : ∃ N, min L 4 = N := ⟨_, rfl⟩
 rw [hN]
 have hz : (w.alloc (.cells #[.slice none 0 0, .slice none 0 0] 26)).heap[w.heap.size]? = some (.cells #[.slice none 0 0, .slice none 0 0] 26 (0, 0)) := heap_alloc_new _ _
 have hbz : Below w.heap.size w (w.alloc (.cells #[.slice none 0 0, .slice none 0 0] 26)) := (Below.refl _ _).alloc (Nat.le_refl _) _
 have hsz : (w.alloc (.cells #[.slice none 0 0, .slice none 0 0] 26)).heap.size = w.heap.size + 1 := by simp
 obtain ⟨w0, hw0⟩ : ∃ x, w.alloc (.cells #[.slice none 0 0, .slice none 0 0] 26) = x := ⟨_, rfl⟩
 rw [hw0] at hz hbz hsz
 have HZ := hid hz
 have HBZ := hid hbz
 have HSZ := hid hsz
 obtain ⟨ir, ir1, ir2, ir3, ir4⟩ := inR
 have HIR := hid (And.intro ir1 (And.intro ir2 (And.intro ir3 ir4)))
 have HPB : Hid ((pwBk l).map encR = (pwRs l NN).map encR ++ [encR hrd]) := by show _ = _; unfold pwBk; rw [hL, hN, List.map_append]; rfl
 have HAT := hid hat
 have HOK := hid hok
 have HLL := hid hL
 have HNN := hid hN
 have HMX := hid hmx2
 clear hl hz hbz hsz ir1 ir2 ir3 ir4 hat hok hL hN hmx hmx2
 go_enter Tryd.func5, Tryd.ntmps5
 go_wp2_with (first
  | (go_at_call 11; refine (types_any _).mono ?_; rintro e w1 ⟨b, rfl, hbt, hty, hb1⟩; have HTY := hid hty; have HBT := hid hbt; have HB1 := hid hb1; clear hbt hty hb1)
  | ((with_reducible show wpList _ _ _ (Oper.mk (some 7) _ _ _ _ _ :: _) _ _); refine wp_bdq (by rfl) 26 _ (by rfl) #[(0, .slice (some ⟨b + 4, 0, none⟩) 5 5)] (by simp [Act.eval, Act.put]) (.agg #[.slice (some ⟨b + 4, 0, none⟩) 5 5, .slice none 0 0]) (fun w => by kernel_rfl) ?_)
  | ((with_reducible show wpList _ _ _ (Oper.mk _ (.store 26 _ _) _ _ _ _ :: _) _ _); refine wp_st (by rfl) 26 _ _ (by rfl) w1.heap.size 0 [.slice none 0 0, .slice none 0 0] 26 (.agg #[.slice (some ⟨b + 4, 0, none⟩) 5 5, .slice none 0 0]) [.slice (some ⟨b + 4, 0, none⟩) 5 5, .slice none 0 0] (by rfl) (by rfl) (by rfl) (heap_alloc_new _ _) (by simp) (by kernel_rfl) (by rfl) ?_; intro w2 hq1 hq2; have HU2 := hid hq1; have HF2 := hid hq2; clear hq1 hq2))
 obtain ⟨bb, hbb⟩ : ∃ x, w1.heap.size = x := ⟨_, rfl⟩
 have hsz1 : b + 4 < w1.heap.size := blk_lt HTY.out.2.2.2.2
 have hA1 : Below w1.heap.size w1 (w1.alloc (.cells #[.slice none 0 0, .slice none 0 0] 26)) := (Below.refl _ _).alloc (Nat.le_refl _) _
 have hn12 : Below w1.heap.size w1 w2 := below_fr hA1 HF2.out (Nat.le_refl _)
 have hBo : Bo w w2 b bb l 0 (.slice none 0 0) := by
  have h3 := HBT.out
  have h4 := HSZ.out
  refine ⟨below_trans (below_trans HBZ.out HB1.out HBZ.out.size) hn12 (Nat.le_trans HBZ.out.size HB1.out.size), ?_, HTY.out.later (fun i o hi _ _ => (hn12.block _ (blk_lt hi)).trans hi), by omega, by omega, by rw [← hbb]; exact HU2.out, RwT.nil _ _ _ _ _⟩
  have h5 := (HB1.out.block _ (blk_lt HZ.out)).trans HZ.out
  exact (hn12.block _ (blk_lt h5)).trans h5
 have HBO := hid hBo
 rw [hbb]
 clear hBo hbb hsz1 hA1 hn12 HTY HBT HB1 HU2 HF2 HZ HBZ HSZ
 refine book_l1 l HOK.out lp L lc HLL.out HMX.out w w2 b bb NN HNN.out HAT.out HBO.out _ _ _ _ _ _ _ _ _ _ _ _ _ _ _ _ _ _ _ _ _ _ _ _ _ _ _ _ _ _ _ _ _ _ _ _ _ _ _ _ _ _ ?_
 intro rp rc wr g5 g8 g9 g10 g11 g12 g13 g14 g15 g16 g17 g18 g19 g20 g21 g22 g23 g24 g25 g26 g27 g28 g29 g30 g31 g32 hR
 have HR := hid hR
 have HB5 : Hid (b + 5 ≤ wr.heap.size) := by have h1 := hR.b1; have h2 := hR.bl; show _ ≤ _; omega
 have HLW : Hid (((pwRs l NN).map encR).length ≤ 10) := by show _ ≤ 10; rw [List.length_map, len_pwRs]; have := HNN.out; omega
 have HLW1 : Hid (((pwRs l NN).map encR).length + 1 = NN + 1) := by show _ + 1 = _; rw [List.length_map, len_pwRs]
 clear hR HBO
 go_upto_region 7 with fail
 refine wp_region_two (by kernel_rfl) (fun i w9 v => ([(fun w9 v => v = .pointer (some ⟨bb, 1, none⟩)), (fun w9 v => v = .slice rp NN rc), (fun w9 v => v = opV (numO 1)), (fun w9 v => v = opV (ownO ⟨#[110]⟩)), (fun w9 v => v = cnV 6 (.slice none 0 0) (numO 1) (ownO ⟨#[110]⟩)), (fun w9 v => v = .agg #[.string ⟨#[120]⟩, .string ⟨#[101]⟩, .int .i64 6, .slice none 0 0, .int .i64 1, .int .i64 1, .int .i64 1, .string ⟨#[]⟩, .string ⟨#[]⟩, .string ⟨#[]⟩, .int .i64 2, .int .i64 0, .int .i64 0, .string ⟨#[]⟩, .string ⟨#[]⟩, .string ⟨#[110]⟩, .int .i64 1, .int .i64 3]), (fun w9 v => ∃ (b6 : Nat), v = .slice (some ⟨b6, 0, none⟩) 1 1 ∧ w9.heap[b6]? = some (.cells #[.string ⟨#[120]⟩, .string ⟨#[101]⟩, .int .i64 6, .slice none 0 0, .int .i64 1, .int .i64 1, .int .i64 1, .string ⟨#[]⟩, .string ⟨#[]⟩, .string ⟨#[]⟩, .int .i64 2, .int .i64 0, .int .i64 0, .string ⟨#[]⟩, .string ⟨#[]⟩, .string ⟨#[110]⟩, .int .i64 1, .int .i64 3] 46 (0, 0)) ∧ b + 5 ≤ b6), (fun w9 v => ∃ (b6 : Nat), v = .agg #[.string ⟨#[104, 101, 97, 114, 100]⟩, .slice (some ⟨b6, 0, none⟩) 1 1, .slice none 0 0, .slice none 0 0, .slice none 0 0, .string ⟨#[]⟩, .slice none 0 0] ∧ w9.heap[b6]? = some (.cells #[.string ⟨#[120]⟩, .string ⟨#[101]⟩, .int .i64 6, .slice none 0 0, .int .i64 1, .int .i64 1, .int .i64 1, .string ⟨#[]⟩, .string ⟨#[]⟩, .string ⟨#[]⟩, .int .i64 2, .int .i64 0, .int .i64 0, .string ⟨#[]⟩, .string ⟨#[]⟩, .string ⟨#[110]⟩, .int .i64 1, .int .i64 3] 46 (0, 0)) ∧ b + 5 ≤ b6), (fun w9 v => ∃ (b6 b8 : Nat), v = .slice (some ⟨b8, 0, none⟩) 1 1 ∧ w9.heap[b8]? = some (.cells #[.string ⟨#[104, 101, 97, 114, 100]⟩, .slice (some ⟨b6, 0, none⟩) 1 1, .slice none 0 0, .slice none 0 0, .slice none 0 0, .string ⟨#[]⟩, .slice none 0 0] 35 (0, 0)) ∧ w9.heap[b6]? = some (.cells #[.string ⟨#[120]⟩, .string ⟨#[101]⟩, .int .i64 6, .slice none 0 0, .int .i64 1, .int .i64 1, .int .i64 1, .string ⟨#[]⟩, .string ⟨#[]⟩, .string ⟨#[]⟩, .int .i64 2, .int .i64 0, .int .i64 0, .string ⟨#[]⟩, .string ⟨#[]⟩, .string ⟨#[110]⟩, .int .i64 1, .int .i64 3] 46 (0, 0)) ∧ b + 5 ≤ b6), (fun w9 v => True), (fun w9 v => v = .pointer (some ⟨bb, 1, none⟩))] : List (World → Value → Prop)).getD i (fun _ _ => True) w9 v) (fun W => Below wr.heap.size wr W) 9 11 (fun w9 v => ∃ (p' : Option Addr) (c' : Nat) (Wp : World), v = .slice p' (NN + 1) c' ∧ Below wr.heap.size wr Wp ∧ Wp.grownBy w9 (Value.slice rp NN rc).ownBlock ∧ RwT w9 (b + 5) isR 35 7 (.slice p' (NN + 1) c') ((pwRs l NN).map encR ++ [encR hrd])) 45 rfl rfl (by decide) [some 33, some 34, some 35, some 36, some 37, some 38, some 39, some 40, some 41, some 42, some 43] (by kernel_rfl) 24 (.tmp 43) (.tmp 42) (by rfl) (by rfl) (by kernel_rfl) (by kernel_rfl) (by kernel_rfl) (fun W W' => Below W.heap.size W W') ?hmon ?hpi (Below.drew (Below.refl _ _)) (AllOps.cons ?o0 (AllOps.cons ?o1 (AllOps.cons ?o2 (AllOps.cons ?o3 (AllOps.cons ?o4 (AllOps.cons ?o5 (AllOps.cons ?o6 (AllOps.cons ?o7 (AllOps.cons ?o8 (AllOps.cons ?o9 (AllOps.cons ?o10 (AllOps.cons ?o11 AllOps.nil)))))))))))) ?hS ?hend
 case hmon =>
  intro q W W' v hb h
  rcases q with _ | _ | _ | _ | _ | _ | _ | _ | _ | _ | _ | q
  . exact h
  . exact h
  . exact h
  . exact h
  . exact h
  . exact h
  . obtain ⟨b6, e, h1, h2⟩ := h; exact ⟨b6, e, (hb.block _ (blk_lt h1)).trans h1, h2⟩
  . obtain ⟨b6, e, h1, h2⟩ := h; exact ⟨b6, e, (hb.block _ (blk_lt h1)).trans h1, h2⟩
  . obtain ⟨b6, b8, e, h0, h1, h2⟩ := h; exact ⟨b6, b8, e, (hb.block _ (blk_lt h0)).trans h0, (hb.block _ (blk_lt h1)).trans h1, h2⟩
  . exact h
  . exact h
  . exact h
 case hpi =>
  intro q W W' v hq h
  rcases q with _ | _ | _ | _ | _ | _ | _ | _ | _ | _ | _ | _ | q
  . exact absurd hq (by decide)
  . exact absurd hq (by decide)
  . exact absurd hq (by decide)
  . exact absurd hq (by decide)
  . exact absurd hq (by decide)
  . exact absurd hq (by decide)
  . exact absurd hq (by decide)
  . exact absurd hq (by decide)
  . exact absurd hq (by decide)
  . exact absurd hq (by decide)
  . exact h
  . exact h
  . exact h
 case o0 =>
  intro _ _ a W hB hd ho
  replace hB := hB (by decide)
  have e3 : a.eval (.tmp 3) = .pointer (some ⟨bb, 0, none⟩) := ho 3 (by kernel_rfl)
  exact op_val (.pointer (some ⟨bb, 1, none⟩)) (by unfold execOp; simp only [ev_c, e3]; go_simp) ⟨_, rfl, rfl, fun _ => hB, fun _ => Below.refl _ _, fun _ => rfl⟩
 case o1 =>
  intro _ _ a W hB hd ho
  replace hB := hB (by decide)
  have e33 : a.eval (.tmp 33) = .pointer (some ⟨bb, 1, none⟩) := hd 0 33 (by kernel_rfl) (by decide)
  have c9 : W.cell? ⟨bb, 1, none⟩ = some (.slice rp NN rc) := by
    rw [cell_of_blk ((hB.block _ (blk_lt HR.out.ub)).trans HR.out.ub)]
    rfl
  exact op_val (.slice rp NN rc) (by unfold execOp; simp only [ev_c, e33]; go_simp) ⟨_, rfl, rfl, fun _ => hB, fun _ => Below.refl _ _, fun _ => rfl⟩
 case o2 =>
  intro _ _ a W hB hd ho
  replace hB := hB (by decide)
  refine op_cl 9 ent_num _ _ rfl #[.int .i64 1] (by simp [ev_c]) _ (number_any 1 W) ?_
  rintro e W' ⟨rfl, hal⟩
  exact ⟨_, rfl, _, rfl, rfl, fun _ => below_trans hB hal hB.size, fun _ => hal, fun h9 => absurd h9 (by decide)⟩
 case o3 =>
  intro _ _ a W hB hd ho
  replace hB := hB (by decide)
  refine op_cl 8 ent_own _ _ rfl #[.string ⟨#[110]⟩] (by simp [ev_c]) _ (own_any ⟨#[110]⟩ W) ?_
  rintro e W' ⟨rfl, hal⟩
  exact ⟨_, rfl, _, rfl, rfl, fun _ => below_trans hB hal hB.size, fun _ => hal, fun h9 => absurd h9 (by decide)⟩
 case o4 =>
  intro _ _ a W hB hd ho
  replace hB := hB (by decide)
  have e35 : a.eval (.tmp 35) = opV (numO 1) := hd 2 35 (by kernel_rfl) (by decide)
  have e36 : a.eval (.tmp 36) = opV (ownO ⟨#[110]⟩) := hd 3 36 (by kernel_rfl) (by decide)
  refine op_cl 7 ent_cmp _ _ rfl #[.int .i64 6, opV (numO 1), opV (ownO ⟨#[110]⟩)] (by simp [ev_c, e35, e36]) _ (compare_any 6 (numO 1) (ownO ⟨#[110]⟩) W) ?_
  rintro e W' ⟨rfl, hal⟩
  exact ⟨_, rfl, _, rfl, rfl, fun _ => below_trans hB hal hB.size, fun _ => hal, fun h9 => absurd h9 (by decide)⟩
 case o5 =>
  intro _ _ a W hB hd ho
  replace hB := hB (by decide)
  have e37 : a.eval (.tmp 37) = cnV 6 (.slice none 0 0) (numO 1) (ownO ⟨#[110]⟩) := hd 4 37 (by kernel_rfl) (by decide)
  exact op_bd 46 _ rfl #[(0, .string ⟨#[120]⟩), (1, .string ⟨#[101]⟩), (2, cnV 6 (.slice none 0 0) (numO 1) (ownO ⟨#[110]⟩)), (3, .int .i64 1), (4, .int .i64 3)] (by simp [ev_c, e37]) (.agg #[.string ⟨#[120]⟩, .string ⟨#[101]⟩, .int .i64 6, .slice none 0 0, .int .i64 1, .int .i64 1, .int .i64 1, .string ⟨#[]⟩, .string ⟨#[]⟩, .string ⟨#[]⟩, .int .i64 2, .int .i64 0, .int .i64 0, .string ⟨#[]⟩, .string ⟨#[]⟩, .string ⟨#[110]⟩, .int .i64 1, .int .i64 3]) (by kernel_rfl) ⟨_, rfl, rfl, fun _ => hB, fun _ => Below.refl _ _, fun _ => rfl⟩
 case o6 =>
  intro _ _ a W hB hd ho
  replace hB := hB (by decide)
  have e38 : a.eval (.tmp 38) = .agg #[.string ⟨#[120]⟩, .string ⟨#[101]⟩, .int .i64 6, .slice none 0 0, .int .i64 1, .int .i64 1, .int .i64 1, .string ⟨#[]⟩, .string ⟨#[]⟩, .string ⟨#[]⟩, .int .i64 2, .int .i64 0, .int .i64 0, .string ⟨#[]⟩, .string ⟨#[]⟩, .string ⟨#[110]⟩, .int .i64 1, .int .i64 3] := hd 5 38 (by kernel_rfl) (by decide)
  have hal : Below W.heap.size W (W.alloc (.cells #[.string ⟨#[120]⟩, .string ⟨#[101]⟩, .int .i64 6, .slice none 0 0, .int .i64 1, .int .i64 1, .int .i64 1, .string ⟨#[]⟩, .string ⟨#[]⟩, .string ⟨#[]⟩, .int .i64 2, .int .i64 0, .int .i64 0, .string ⟨#[]⟩, .string ⟨#[]⟩, .string ⟨#[110]⟩, .int .i64 1, .int .i64 3] 46)) := (Below.refl _ _).alloc (Nat.le_refl _) _
  refine op_bs 28 1 _ rfl #[(0, .agg #[.string ⟨#[120]⟩, .string ⟨#[101]⟩, .int .i64 6, .slice none 0 0, .int .i64 1, .int .i64 1, .int .i64 1, .string ⟨#[]⟩, .string ⟨#[]⟩, .string ⟨#[]⟩, .int .i64 2, .int .i64 0, .int .i64 0, .string ⟨#[]⟩, .string ⟨#[]⟩, .string ⟨#[110]⟩, .int .i64 1, .int .i64 3])] (by simp [ev_c, e38]) (.slice (some ⟨W.heap.size, 0, none⟩) 1 1) (W.alloc (.cells #[.string ⟨#[120]⟩, .string ⟨#[101]⟩, .int .i64 6, .slice none 0 0, .int .i64 1, .int .i64 1, .int .i64 1, .string ⟨#[]⟩, .string ⟨#[]⟩, .string ⟨#[]⟩, .int .i64 2, .int .i64 0, .int .i64 0, .string ⟨#[]⟩, .string ⟨#[]⟩, .string ⟨#[110]⟩, .int .i64 1, .int .i64 3] 46)) (by kernel_rfl) ⟨_, rfl, ⟨W.heap.size, rfl, heap_alloc_new _ _, Nat.le_trans HB5.out hB.size⟩, fun _ => below_trans hB hal hB.size, fun _ => hal, fun h9 => absurd h9 (by decide)⟩
 case o7 =>
  intro _ _ a W hB hd ho
  replace hB := hB (by decide)
  obtain ⟨b6, e39, h6⟩ : ∃ (b6 : Nat), a.eval (.tmp 39) = .slice (some ⟨b6, 0, none⟩) 1 1 ∧ W.heap[b6]? = some (.cells #[.string ⟨#[120]⟩, .string ⟨#[101]⟩, .int .i64 6, .slice none 0 0, .int .i64 1, .int .i64 1, .int .i64 1, .string ⟨#[]⟩, .string ⟨#[]⟩, .string ⟨#[]⟩, .int .i64 2, .int .i64 0, .int .i64 0, .string ⟨#[]⟩, .string ⟨#[]⟩, .string ⟨#[110]⟩, .int .i64 1, .int .i64 3] 46 (0, 0)) ∧ b + 5 ≤ b6 := hd 6 39 (by kernel_rfl) (by decide)
  exact op_bd 35 _ rfl #[(0, .string ⟨#[104, 101, 97, 114, 100]⟩), (1, .slice (some ⟨b6, 0, none⟩) 1 1)] (by simp [ev_c, e39]) (.agg #[.string ⟨#[104, 101, 97, 114, 100]⟩, .slice (some ⟨b6, 0, none⟩) 1 1, .slice none 0 0, .slice none 0 0, .slice none 0 0, .string ⟨#[]⟩, .slice none 0 0]) (by kernel_rfl) ⟨_, rfl, ⟨b6, rfl, h6⟩, fun _ => hB, fun _ => Below.refl _ _, fun _ => rfl⟩
 case o8 =>
  intro _ _ a W hB hd ho
  replace hB := hB (by decide)
  obtain ⟨b6, e40, h6, h6b⟩ : ∃ (b6 : Nat), a.eval (.tmp 40) = .agg #[.string ⟨#[104, 101, 97, 114, 100]⟩, .slice (some ⟨b6, 0, none⟩) 1 1, .slice none 0 0, .slice none 0 0, .slice none 0 0, .string ⟨#[]⟩, .slice none 0 0] ∧ W.heap[b6]? = some (.cells #[.string ⟨#[120]⟩, .string ⟨#[101]⟩, .int .i64 6, .slice none 0 0, .int .i64 1, .int .i64 1, .int .i64 1, .string ⟨#[]⟩, .string ⟨#[]⟩, .string ⟨#[]⟩, .int .i64 2, .int .i64 0, .int .i64 0, .string ⟨#[]⟩, .string ⟨#[]⟩, .string ⟨#[110]⟩, .int .i64 1, .int .i64 3] 46 (0, 0)) ∧ b + 5 ≤ b6 := hd 7 40 (by kernel_rfl) (by decide)
  have hal : Below W.heap.size W (W.alloc (.cells #[.string ⟨#[104, 101, 97, 114, 100]⟩, .slice (some ⟨b6, 0, none⟩) 1 1, .slice none 0 0, .slice none 0 0, .slice none 0 0, .string ⟨#[]⟩, .slice none 0 0] 35)) := (Below.refl _ _).alloc (Nat.le_refl _) _
  refine op_bs 24 1 _ rfl #[(0, .agg #[.string ⟨#[104, 101, 97, 114, 100]⟩, .slice (some ⟨b6, 0, none⟩) 1 1, .slice none 0 0, .slice none 0 0, .slice none 0 0, .string ⟨#[]⟩, .slice none 0 0])] (by simp [ev_c, e40]) (.slice (some ⟨W.heap.size, 0, none⟩) 1 1) (W.alloc (.cells #[.string ⟨#[104, 101, 97, 114, 100]⟩, .slice (some ⟨b6, 0, none⟩) 1 1, .slice none 0 0, .slice none 0 0, .slice none 0 0, .string ⟨#[]⟩, .slice none 0 0] 35)) (by kernel_rfl) ⟨_, rfl, ⟨b6, W.heap.size, rfl, heap_alloc_new _ _, (hal.block _ (blk_lt h6)).trans h6, h6b⟩, fun _ => below_trans hB hal hB.size, fun _ => hal, fun h9 => absurd h9 (by decide)⟩
 case o9 =>
  intro h9; exact absurd rfl h9
 case o10 =>
  intro _ _ a W hB hd ho
  have e3 : a.eval (.tmp 3) = .pointer (some ⟨bb, 0, none⟩) := ho 3 (by kernel_rfl)
  exact op_val (.pointer (some ⟨bb, 1, none⟩)) (by unfold execOp; simp only [ev_c, e3]; go_simp) ⟨_, rfl, rfl, fun h9 => absurd h9 (by decide), fun h9 => absurd h9 (by decide), fun _ => rfl⟩
 case o11 =>
  intro _ h9; exact absurd rfl h9
 case hS =>
  intro a W vs hB hT hd hout
  have e1 : vs 1 = .slice rp NN rc := hT 1 (by decide)
  obtain ⟨b6, b8, e8, h8, h6, h6b⟩ : ∃ (b6 b8 : Nat), vs 8 = .slice (some ⟨b8, 0, none⟩) 1 1 ∧ W.heap[b8]? = some (.cells #[.string ⟨#[104, 101, 97, 114, 100]⟩, .slice (some ⟨b6, 0, none⟩) 1 1, .slice none 0 0, .slice none 0 0, .slice none 0 0, .string ⟨#[]⟩, .slice none 0 0] 35 (0, 0)) ∧ W.heap[b6]? = some (.cells #[.string ⟨#[120]⟩, .string ⟨#[101]⟩, .int .i64 6, .slice none 0 0, .int .i64 1, .int .i64 1, .int .i64 1, .string ⟨#[]⟩, .string ⟨#[]⟩, .string ⟨#[]⟩, .int .i64 2, .int .i64 0, .int .i64 0, .string ⟨#[]⟩, .string ⟨#[]⟩, .string ⟨#[110]⟩, .int .i64 1, .int .i64 3] 46 (0, 0)) ∧ b + 5 ≤ b6 := hT 8 (by decide)
  refine op_appT _ _ 24 rfl (b + 5) isR 35 7 152 ir _ Tryd.underlying24 HIR.out.1 HIR.out.2.1 HIR.out.2.2.1 HIR.out.2.2.2 rfl (by omega) (by decide) (.slice rp NN rc) ((pwRs l NN).map encR) ((hd 1 34 (by kernel_rfl)).trans e1) (HR.out.r.below hB) (Nat.le_trans HB5.out hB.size) b8 [.string ⟨#[104, 101, 97, 114, 100]⟩, .slice (some ⟨b6, 0, none⟩) 1 1, .slice none 0 0, .slice none 0 0, .slice none 0 0, .string ⟨#[]⟩, .slice none 0 0] ((hd 8 41 (by kernel_rfl)).trans e8) h8 (by rfl) (by rfl) (encR hrd) (kt_hrd h6 h6b) (by decide) HLW.out (NN + 1) HLW1.out ?_
  intro p' c' W' k1 k2 k3
  exact ⟨_, rfl, p', c', W, rfl, hB, k2, k1⟩
 case hend =>
  intro vs W hB2 hT
  obtain ⟨p', c', Wp, e9, k1, k2, k4⟩ := hB2
  have e10 : vs 10 = .pointer (some ⟨bb, 1, none⟩) := hT 10 (by decide) (by decide)
  have hgg := (HR.out.below k1).grown k2
  refine ⟨bb, 1, [.slice (some ⟨b + 4, 0, none⟩) 5 5, .slice rp NN rc], 26, .slice p' (NN + 1) c', [.slice p' (NN + 1) c'], Eq.trans (b := vs 10) (by kernel_rfl) e10, Eq.trans (b := vs 9) (by kernel_rfl) e9, rfl, hgg.2.2.2, by simp, by kernel_rfl, rfl, ?_⟩
  intro w9 hq1 hq2
  have h1 := HR.out.tb
  have h2 := HR.out.b1
  have HU9 : Hid (w9.heap[bb]? = some (.cells #[.slice (some ⟨b + 4, 0, none⟩) 5 5, .slice p' (NN + 1) c'] 26 (0, 0))) := hq1
  have HB9 : Hid (Below w.heap.size w w9) := below_fr hgg.1 hq2 (by omega)
  have HZ9 : Hid (w9.heap[w.heap.size]? = some (.cells #[.slice none 0 0, .slice none 0 0] 26 (0, 0))) := (hq2.block _ (blk_lt hgg.2.1) (by show w.heap.size ≠ bb; omega)).trans hgg.2.1
  have HT9 : Hid (Tys w9 b) := hgg.2.2.1.later (fun i o hi _ hb2 => (hq2.block _ (blk_lt hi) (by show i ≠ bb; omega)).trans hi)
  have HR9 := hid (k4.set hq2 ⟨_, hgg.2.2.2⟩ (by decide) (by decide))
  clear hq1 hq2 k1 k2 k4 hT hgg h1 h2
  simp only [putsD, Act.put, List.setIfInBounds_toArray, e9, e10]
  simp only [set_c20]
  simp only [List.set_cons_zero, List.set_cons_succ]
  clear e9 e10
  generalize vs 0 = v0
  generalize vs 1 = v1
  generalize vs 2 = v2
  generalize vs 3 = v3
  generalize vs 4 = v4
  generalize vs 5 = v5
  generalize vs 6 = v6
  generalize vs 7 = v7
  generalize vs 8 = v8
  clear vs
  go_wp2_with (first
    | ((with_reducible show wpList _ _ _ (Oper.mk (some 44) _ _ _ _ _ :: _) _ _); refine wpList_load_mid (by rfl) 26 _ (by rfl) bb 0 (by rfl) [.slice (some ⟨b + 4, 0, none⟩) 5 5, .slice p' (NN + 1) c'] _ (range_blk HU9.out) Tryd.underlying26 rfl (by kernel_rfl) ?_)
    | ((with_reducible show wpList _ _ _ (Oper.mk _ (.store 26 _ _) _ _ _ _ :: _) _ _); refine wp_st (by rfl) 26 _ _ (by rfl) w.heap.size 0 [.slice none 0 0, .slice none 0 0] 26 (.agg #[.slice (some ⟨b + 4, 0, none⟩) 5 5, .slice p' (NN + 1) c']) [.slice (some ⟨b + 4, 0, none⟩) 5 5, .slice p' (NN + 1) c'] (by rfl) (by rfl) (by rfl) HZ9.out (by simp) (by kernel_rfl) (by rfl) ?_; intro wf hq1 hq2; have HF := hid hq1; have HFF := hid hq2; clear hq1 hq2))
  have hTB : TB w9 26 w.heap.size := ⟨_, HZ9.out⟩
  have h1 := HR.out.tb
  exact ret_loc w.heap.size [.slice (some ⟨b + 4, 0, none⟩) 5 5, .slice p' (NN + 1) c'] 26 _ HF.out rfl rfl (by rfl) Tryd.underlying26 rfl (by kernel_rfl) ⟨b, p', c', rfl, by omega, HT9.out.later (fun i o hi hb1 _ => (HFF.out.block _ (blk_lt hi) (by show i ≠ w.heap.size; omega)).trans hi), by rw [HPB.out]; exact HR9.out.set HFF.out hTB (by decide) (by decide), below_fr HB9.out HFF.out (Nat.le_refl _)⟩
theorem bk_cons (l : List Plt) : ∃ x r, pwBk l = x :: r ∧ rck kts x = 0 ∧ r.length ≤ 4 := by
 have h := len_bk l
 cases hb : pwBk l with
 | nil => rw [hb] at h; simp at h
 | cons x r =>
  refine ⟨x, r, rfl, rks_all (pwBk l) [] (rks_bk l) x (by rw [hb]; simp), ?_⟩
  rw [hb, List.length_cons] at h
  omega
theorem rck_first {x : Rl} (h : rck kts x = 0) : frn x.n = 0 ∧ szs x ∧ ∃ p r, x.w = p :: r ∧ pck kts [] [] p 0 = 0 := by
 have h1 : frn x.n = 0 := by
  refine Classical.byContradiction fun c => ?_
  unfold rck at h
  rw [if_pos c] at h
  exact c h
 obtain ⟨_, h2⟩ := rck_ok h
 refine ⟨h1, h2, ?_⟩
 rw [rck_parts kts x h1 h2] at h
 cases hw : x.w with
 | nil => have h3 := h2.1; rw [hw] at h3; simp at h3
 | cons p r =>
  refine ⟨p, r, rfl, Classical.byContradiction fun c => ?_⟩
  have e : wfs 0 kts [] x.w = pck kts [] [] p 0 := by rw [hw, wfs]; exact if_pos c
  rw [e, if_pos c] at h
  exact c h
theorem bok_first {x : Rl} {r : List Rl} {c : Int} (hc : rck kts x = c) (h0 : c ≠ 0) (hl : r.length ≤ 4) : bok kts (x :: r) = c := by
  unfold bok bkf
  have e : rks (rck kts) [] (x :: r) = c := by rw [rks, hc, if_pos h0]
  rw [e, if_neg (by rw [List.length_cons, show kts.length = 5 from rfl]; omega), show tks [] kts = 0 from by kernel_rfl]
  rw [if_neg (by decide), if_pos h0]
theorem rdl_take {W : World} {a b : List Dat} {vs : List Value} (h : RdL W (a ++ b) vs) : RdL W a (vs.take a.length) := by
  obtain ⟨h1, h2⟩ := h
  have hl : a.length ≤ vs.length := by rw [← h1, List.length_append]; omega
  refine ⟨by rw [List.length_take]; omega, fun k hk => ?_⟩
  have h3 := h2 k (by rw [List.length_append]; omega)
  rw [List.getElem_append_left hk] at h3
  rw [List.getD_eq_getElem?_getD, List.getElem?_take, if_pos hk, ← List.getD_eq_getElem?_getD]
  exact h3
theorem RwT.first {w : World} {n e z : Nat} {τ : Nat → Prop} {v : Value} {x : List Dat} {r : List (List Dat)} (h : RwT w n τ e z v (x :: r)) (hx : x.length = z) : ∃ g c us, v = .slice (some ⟨g, 0, none⟩) (r.length + 1) c ∧ us.length = z ∧ (∀ W : World, W.heap[g]? = w.heap[g]? → W.rangeAt g 0 us) ∧ KT w n τ x us ∧ TB w e g ∧ n ≤ g := by
 obtain ⟨xs, h1, h2⟩ := h
 rcases h1.2 with ⟨h3, h4⟩ | ⟨g, cap, cur, h3, h4, h5, h6, h7, h8, h9⟩
 . simp at h4
 . have hxl : z ≤ xs.length := by
     rw [h1.1, List.length_cons, Nat.add_mul]; omega
   refine ⟨g, cap, xs.take z, h3, by rw [List.length_take]; omega, fun W hW j u hj => ?_, fun W hW => ?_, ⟨_, h5⟩, h4⟩
   . rw [List.getElem?_take] at hj
     split at hj
     . have h10 : W.heap[g]? = some (.cells cur e (0, 0)) := hW.trans h5
       rw [Nat.zero_add, cell_of_blk h10]
       rw [← h9, List.getElem?_take] at hj
       split at hj
       . simpa using hj
       . cases hj
     . cases hj
   . have h10 := h2 W hW
     rw [List.flatten_cons] at h10
     have := rdl_take h10
     rw [hx] at this
     exact this
def zz : ByteArray := txt [122, 122]
def twoO : Opd := ⟨1, 2, 0, txt [], txt [], txt []⟩
theorem rck_four {x : Rl} (h : rck kts x = 0) : wfs 0 kts [] x.w = 0 ∧ nfs 0 kts x.w (x.w.map Pt.va) x.t = 0 ∧ mfs 0 kts x.w (x.w.map Pt.va ++ x.t.map Pt.va) x.m = 0 ∧ lfs 0 x.w x.t x.k = 0 := by
  obtain ⟨h1, h2, _⟩ := rck_first h
  rw [rck_parts kts x h1 h2] at h
  have g1 : wfs 0 kts [] x.w = 0 := Classical.byContradiction fun c => by rw [if_pos c] at h; exact c h
  rw [if_neg (fun c => c g1)] at h
  have g2 : nfs 0 kts x.w (x.w.map Pt.va) x.t = 0 := Classical.byContradiction fun c => by rw [if_pos c] at h; exact c h
  rw [if_neg (fun c => c g2)] at h
  have g3 : mfs 0 kts x.w (x.w.map Pt.va ++ x.t.map Pt.va) x.m = 0 := Classical.byContradiction fun c => by rw [if_pos c] at h; exact c h
  rw [if_neg (fun c => c g3)] at h
  have g4 : lfs 0 x.w x.t x.k = 0 := Classical.byContradiction fun c => by rw [if_pos c] at h; exact c h
  exact ⟨g1, g2, g3, g4⟩
theorem rck_head {x : Rl} {p p' : Pt} {r : List Pt} {c : Int} (h : rck kts x = 0) (hw : x.w = p :: r) (hc : pck kts [] [] p' 0 = c) (h0 : c ≠ 0) : rck kts { x with w := p' :: r } = c := by
 obtain ⟨h1, h2, _⟩ := rck_first h
 have h3 : szs { x with w := p' :: r } := by
  unfold szs at h2 ⊢
  rw [hw] at h2
  exact h2
 rw [rck_parts kts { x with w := p' :: r } h1 h3]
 have e : wfs 0 kts [] (p' :: r) = c := by
  rw [wfs]
  rw [show pck kts [] (([] : List Pt).map Pt.va) p' 0 = c from hc, if_pos h0]
 show (if wfs 0 kts [] (p' :: r) ≠ 0 then wfs 0 kts [] (p' :: r) else _) = c
 rw [e, if_pos h0]
theorem pck_first {p : Pt} (hp : pck kts [] [] p 0 = 0) : frn p.va = 0 ∧ ¬ tyq kts p.ty < 0 ∧ ¬ wbad 0 p.w p.n ∧ ¬ rbad p.w p.n := by
  unfold pck at hp
  have g1 : frn p.va = 0 := Classical.byContradiction fun c => by rw [if_pos c] at hp; exact c hp
  rw [if_neg (fun c => c g1), if_neg (by simp)] at hp
  have g2 : ¬ tyq kts p.ty < 0 := fun c => by rw [if_pos c] at hp; exact absurd hp (by decide)
  rw [if_neg g2] at hp
  have g3 : ¬ wbad 0 p.w p.n := fun c => by rw [if_pos c] at hp; exact absurd hp (by decide)
  rw [if_neg g3] at hp
  have g4 : ¬ rbad p.w p.n := fun c => by rw [if_pos c] at hp; exact absurd hp (by decide)
  exact ⟨g1, g2, g3, g4⟩
theorem pck_zz {p : Pt} (hp : pck kts [] [] p 0 = 0) : pck kts [] [] { p with ty := zz } 0 = 6 := by
  obtain ⟨g1, _, _, _⟩ := pck_first hp
  unfold pck
  rw [if_neg (fun c => c g1), if_neg (by simp), if_pos (show tyq kts zz < 0 from by decide +kernel)]
theorem tyq_lt (n : ByteArray) : (tyq kts n).toNat < 5 := by
  unfold tyq kts
  simp only [ixq]
  repeat' split
  all_goals decide +kernel
theorem cdk_zz : ∀ k, k < 5 → (cdk kts [] (kts.getD k ⟨txt [], []⟩) 8 (cmpC 4 (ownO zz) (numO 1))).2 = 6 := by
  intro k hk
  rcases (by omega : k = 0 ∨ k = 1 ∨ k = 2 ∨ k = 3 ∨ k = 4) with rfl | rfl | rfl | rfl | rfl <;> kernel_rfl
theorem pck_cmp {p : Pt} (hp : pck kts [] [] p 0 = 0) : pck kts [] [] { p with c := cmpC 4 (ownO zz) (numO 1) } 0 = 6 := by
  obtain ⟨g1, g2, g3, g4⟩ := pck_first hp
  unfold pck
  rw [if_neg (fun c => c g1), if_neg (by simp), if_neg g2, if_neg g3, if_neg g4, if_neg (show ¬ noc (cmpC 4 (ownO zz) (numO 1)) = true from by decide +kernel)]
  exact cdk_zz _ (tyq_lt _)
theorem pck_var : pck kts [] [] ⟨txt [120], txt [97], cmpC 4 nO twoO, 0, 0⟩ 0 = 13 := by kernel_rfl
theorem rck_lnk {x : Rl} (h : rck kts x = 0) (h1 : ptq x.w zz < 0) (h2 : ptq x.t zz < 0) : rck kts { x with k := [⟨txt [120], [⟨1, 0, -1⟩], zz⟩] } = 6 := by
 obtain ⟨f1, f2, _⟩ := rck_first h
 obtain ⟨g1, g2, g3, _⟩ := rck_four h
 have f3 : szs { x with k := [⟨txt [120], [⟨1, 0, -1⟩], zz⟩] } := by
  unfold szs at f2 ⊢
  exact ⟨f2.1, f2.2.1, f2.2.2.1, f2.2.2.2.1, by show (1 : Nat) ≤ 6; decide⟩
 rw [rck_parts kts { x with k := [⟨txt [120], [⟨1, 0, -1⟩], zz⟩] } f1 f3]
 have e : lfs 0 x.w x.t [⟨txt [120], [⟨1, 0, -1⟩], zz⟩] = 6 := by
  have e2 : lck x.w x.t (txt [120]) zz [⟨1, 0, -1⟩] = 6 := by
   unfold lck
   rw [if_pos (.inr ⟨h1, h2⟩)]
  rw [lfs, e2, if_pos (by decide)]
 rw [if_neg (fun c => c g1), if_neg (fun c => c g2), if_neg (fun c => c g3)]
 show (if lfs 0 x.w x.t [⟨txt [120], [⟨1, 0, -1⟩], zz⟩] ≠ 0 then lfs 0 x.w x.t [⟨txt [120], [⟨1, 0, -1⟩], zz⟩] else _) = 6
 rw [e, if_pos (by decide)]
theorem rck_emit {x : Rl} (h : rck kts x = 0) : rck kts { x with e := ⟨zz, []⟩ } = 6 := by
  obtain ⟨f1, f2, _⟩ := rck_first h
  obtain ⟨g1, g2, g3, g4⟩ := rck_four h
  rw [rck_parts kts { x with e := ⟨zz, []⟩ } f1 f2, if_neg (fun c => c g1), if_neg (fun c => c g2), if_neg (fun c => c g3), if_neg (fun c => c g4)]
  show eck kts x.w zz [] = 6
  unfold eck
  rw [if_neg (by decide +kernel), if_pos (by decide +kernel)]
theorem vnm_zz (i : Nat) : seq (vnm i) zz = false := by
  unfold vnm
  repeat' split
  all_goals decide +kernel
theorem unm_zz (i : Nat) : seq (unm i) zz = false := by
  unfold unm
  repeat' split
  all_goals decide +kernel
theorem ws_zz (ws : List Cst) : ∀ n, (pwWs ws n).any (fun p => seq p.va zz) = false
 | 0 => rfl
 | n + 1 => by
  rw [pwWs, List.any_append, ws_zz ws n]
  show (false || (seq (vnm n) zz || false)) = false
  rw [vnm_zz]
  rfl
theorem ts_zz (ns : List Cst) (kn : List ByteArray) : ∀ n, (pwTs ns kn n).any (fun p => seq p.va zz) = false
 | 0 => rfl
 | n + 1 => by
  rw [pwTs, List.any_append, ts_zz ns kn n]
  show (false || (seq (unm n) zz || false)) = false
  rw [unm_zz]
  rfl
theorem ptq_none {l : List Pt} {n : ByteArray} (h : l.any (fun p => seq p.va n) = false) : ptq l n < 0 := by
  refine Classical.byContradiction fun c => ?_
  have h2 := (ixq_any (q := fun p : Pt => seq p.va n) l 0).1 (by show 0 ≤ ptq l n; omega)
  rw [h] at h2
  cases h2
theorem prs_zz (l : List Plt) : ∀ n, ∀ x, x ∈ pwRs l n → x.w.any (fun p => seq p.va zz) = false ∧ x.t.any (fun p => seq p.va zz) = false
 | 0, x, hx => by cases hx
 | n + 1, x, hx => by
  rw [pwRs] at hx
  rcases List.mem_append.1 hx with hx | hx
  . exact prs_zz l n x hx
  . rw [List.mem_singleton.1 hx]
    exact ⟨ws_zz _ _, ts_zz _ _ _⟩
theorem bk_zz (l : List Plt) : ∀ x, x ∈ pwBk l → ptq x.w zz < 0 ∧ ptq x.t zz < 0 := by
 intro x hx
 unfold pwBk at hx
 rcases List.mem_append.1 hx with hx | hx
 . exact ⟨ptq_none (prs_zz l _ x hx).1, ptq_none (prs_zz l _ x hx).2⟩
 . rw [List.mem_singleton.1 hx]
   exact ⟨by decide +kernel, by decide +kernel⟩
theorem szr_head {x : Rl} {p p' : Pt} {r : List Pt} (h : Szr x) (hw : x.w = p :: r) (hp : Wsz p'.c) : Szr { x with w := p' :: r } := by
  refine ⟨fun t ht => ?_, h.t, h.m, h.k, h.e⟩
  rcases List.mem_cons.1 ht with rfl | ht
  . exact hp
  . exact h.w t (by rw [hw]; exact List.mem_cons_of_mem _ ht)
theorem szr_lnk {x : Rl} (h : Szr x) : Szr { x with k := [⟨txt [120], [⟨1, 0, -1⟩], zz⟩] } := by
  refine ⟨h.w, h.t, h.m, fun t ht => ?_, h.e⟩
  rw [List.mem_singleton.1 ht]
  exact ⟨by show (txt [120]).size ≤ maxLen; decide, by show zz.size ≤ maxLen; decide +kernel⟩
theorem szr_emit {x : Rl} (h : Szr x) : Szr { x with e := ⟨zz, []⟩ } := ⟨h.w, h.t, h.m, h.k, fun o ho => by cases ho⟩
theorem fr_below {X : Nat → Prop} {a w w' : World} (h : Fr X a w) (hb : Below w.heap.size w w') : Fr X a w' := h.stored (b := w.heap.size) ⟨hb.os, hb.tape, hb.output, hb.size, fun k hk _ => hb.block k hk⟩ (.inr h.size)
theorem blk_set {w w' : World} {i j : Nat} {cs : Array Value} {t : TypeId} (h : w.heap[j]? = some (.cells cs t (0, 0))) (hf : Fr (fun k => k = i) w w') (hne : j ≠ i) : w'.heap[j]? = some (.cells cs t (0, 0)) := (hf.block _ (blk_lt h) hne).trans h
theorem one_pt {w : World} {p : Pt} {us : List Value} (h : RdL w (encP p) us) : us.all (·.oneCell') = true := by
  obtain ⟨v, rfl, hv⟩ := rdP h
  obtain ⟨a, b, c, rfl⟩ := rd_shape hv
  rfl
theorem one_rl {w : World} {r : Rl} {us : List Value} (h : RdL w (encR r) us) : us.all (·.oneCell') = true := by
  obtain ⟨_, _, _, _, _, _, _, _, _, _, _, _, _, _, _, rfl⟩ := kt_rule h
  rfl
theorem one_all {α : Type} {enc : α → List Dat} (h1 : ∀ {w : World} {x : α} {us : List Value}, RdL w (enc x) us → us.all (·.oneCell') = true) {w : World} : ∀ {l : List α} {us : List Value}, RdL w ((l.map enc).flatten) us → us.all (·.oneCell') = true
 | [], us, h => by rw [RdL.none h]; rfl
 | x :: r, us, h => by
  rw [List.map_cons, List.flatten_cons] at h
  obtain ⟨a, b, rfl, ha, hb⟩ := RdL.split h
  rw [List.all_append, h1 ha, one_all h1 hb]
  rfl
theorem rd_cells {α : Type} {enc : α → List Dat} {e z : Nat} (hz : ∀ x, (enc x).length = z) {w : World} {v : Value} {x : α} {r : List α} (h : Rd w (.row e z ((x :: r).map enc)) v) : ∃ g off cap xs, v = .slice (some ⟨g, off, none⟩) (r.length + 1) cap ∧ w.rangeAt g off xs ∧ RdL w (((x :: r).map enc).flatten) xs ∧ r.length + 1 ≤ cap ∧ cap ≤ maxLen := by
 generalize hd : Dat.row e z ((x :: r).map enc) = d at h
 cases h with
 | lit v => cases hd
 | nil e z p cap h1 =>
  simp only [Dat.row.injEq] at hd
  have := congrArg List.length hd.2.2
  simp at this
 | row e' z' l g off cap xs h1 h2 h3 h4 h5 h6 =>
  simp only [Dat.row.injEq] at hd
  obtain ⟨rfl, rfl, rfl⟩ := hd
  rw [List.length_map, List.length_cons] at h2
  exact ⟨g, off, cap, xs, by simp, h4, ⟨h5, h6⟩, h2, h3⟩
theorem flat_len {α : Type} {enc : α → List Dat} {z : Nat} (hz : ∀ x, (enc x).length = z) : ∀ l : List α, ((l.map enc).flatten).length = l.length * z
  | [] => by simp
  | x :: r => by rw [List.map_cons, List.flatten_cons, List.length_append, hz, flat_len hz r, List.length_cons, Nat.add_mul]; omega
theorem cell_sm {w W : World} {g i : Nat} (hb : W.heap[g]? = w.heap[g]?) : W.cell? ⟨g, i, none⟩ = w.cell? ⟨g, i, none⟩ := by
  unfold World.cell?
  simp only [hb]
theorem range_eq {w W : World} {g o : Nat} {us vs : List Value} (h : w.rangeAt g o us) (k : W.rangeAt g o vs) (hb : W.heap[g]? = w.heap[g]?) (hl : us.length = vs.length) : us = vs := by
  refine List.ext_getElem hl fun j h1 h2 => ?_
  have e1 := h j us[j] (List.getElem?_eq_getElem h1)
  have e2 := k j vs[j] (List.getElem?_eq_getElem h2)
  rw [cell_sm hb] at e2
  exact Option.some.inj (e1.symm.trans e2)
theorem kt_whens {w : World} {n : Nat} {x : Rl} {p : Pt} {r : List Pt} {xn xe : ByteArray} {p1 p2 p3 p4 p5 : Option Addr} {n1 n2 n3 n4 n5 c1 c2 c3 c4 c5 : Nat} (hw : x.w = p :: r) (h : KT w n isR (encR x) [.string xn, .slice p1 n1 c1, .slice p2 n2 c2, .slice p3 n3 c3, .slice p4 n4 c4, .string xe, .slice p5 n5 c5]) :
   ∃ (g off : Nat) (a1 a2 a3 a4 a5 a6 a7 a8 : ByteArray) (sp : Option Addr) (sn sc : Nat) (k1 k2 k3 k4 k5 k6 k7 k8 k9 : Int) (ys : List Value), p1 = some ⟨g, off, none⟩ ∧ n1 = r.length + 1 ∧ w.rangeAt g off ([.string a1, .string a2, .int .i64 k1, .slice sp sn sc, .int .i64 k2, .int .i64 k3, .int .i64 k4, .string a3, .string a4, .string a5, .int .i64 k5, .int .i64 k6, .int .i64 k7, .string a6, .string a7, .string a8, .int .i64 k8, .int .i64 k9] ++ ys) ∧ g < w.heap.size ∧ ys.length = r.length * 18 ∧ (([.string a1, .string a2, .int .i64 k1, .slice sp sn sc, .int .i64 k2, .int .i64 k3, .int .i64 k4, .string a3, .string a4, .string a5, .int .i64 k5, .int .i64 k6, .int .i64 k7, .string a6, .string a7, .string a8, .int .i64 k8, .int .i64 k9] : List Value) ++ ys).all (·.oneCell') = true ∧ KT w n isR (encP p) [.string a1, .string a2, .int .i64 k1, .slice sp sn sc, .int .i64 k2, .int .i64 k3, .int .i64 k4, .string a3, .string a4, .string a5, .int .i64 k5, .int .i64 k6, .int .i64 k7, .string a6, .string a7, .string a8, .int .i64 k8, .int .i64 k9] ∧ KT w n isR ((r.map encP).flatten) ys := by
 have hr : ∀ W : World, (∀ i t, n ≤ i → isR t → TB w t i → W.heap[i]? = w.heap[i]?) → Rd W (.row 46 18 ((p :: r).map encP)) (.slice p1 n1 c1) := fun W hW => by
   obtain ⟨v1, v2, v3, v4, v5, e, o1, _⟩ := rdR (h W hW)
   simp only [List.cons.injEq] at e
   rw [e.2.1, ← hw]
   exact o1
 have hat : ∀ W : World, (∀ i t, n ≤ i → isR t → TB w t i → W.heap[i]? = w.heap[i]?) → ∃ g off xs, Value.slice p1 n1 c1 = .slice (some ⟨g, off, none⟩) (r.length + 1) c1 ∧ W.rangeAt g off xs ∧ RdL W (((p :: r).map encP).flatten) xs := fun W hW => by
   obtain ⟨g, off, cap, xs, e, h1, h2, _⟩ := rd_cells lenP (hr W hW)
   simp only [Value.slice.injEq] at e
   exact ⟨g, off, xs, by rw [e.1, e.2.1], h1, h2⟩
 obtain ⟨g, off, xs, e0, hg, hxs⟩ := hat w (fun _ _ _ _ _ => rfl)
 simp only [Value.slice.injEq, and_true] at e0
 obtain ⟨rfl, rfl⟩ := e0
 have hone := one_all one_pt hxs
 have hlen : xs.length = (r.length + 1) * 18 := by rw [← hxs.1, flat_len lenP, List.length_cons]
 have hxs2 := hxs
 rw [List.map_cons, List.flatten_cons] at hxs2
 obtain ⟨us, ys, rfl, hus, hys⟩ := RdL.split hxs2
 obtain ⟨sv, eu, hs⟩ := rdP hus
 obtain ⟨sp, sn, sc, rfl⟩ := rd_shape hs
 have hl : us.length = 18 := by rw [eu]; rfl
 have hyl : ys.length = r.length * 18 := by rw [← hys.1, flat_len lenP]
 have hlt : g < w.heap.size := World.block_lt_of_cell? _ _ (hg 0 us[0] (by rw [List.getElem?_append_left (by omega)]; exact List.getElem?_eq_getElem (by omega)))
 have hp : ∃ t, n ≤ g ∧ isR t ∧ TB w t g := by
   refine Classical.byContradiction fun c => ?_
   obtain ⟨g', off', us', e, h1, h2⟩ := hat { w with heap := w.heap.setIfInBounds g (.cells #[] 0 (0, 0)) } (fun i t hi hq ht => by
    have hne : i ≠ g := fun e => c ⟨t, by rw [← e]; exact hi, hq, by rw [← e]; exact ht⟩
    simp only [Array.getElem?_setIfInBounds]
    rw [if_neg (fun e => hne e.symm)])
   simp only [Value.slice.injEq, Option.some.injEq, Addr.mk.injEq] at e
   obtain ⟨⟨rfl, rfl, _⟩, _⟩ := e
   have hl2 : 0 < us'.length := by rw [← h2.1, flat_len lenP, List.length_cons]; omega
   have h3 := h1 0 us'[0] (List.getElem?_eq_getElem hl2)
   rw [cell_of_blk (cs := #[]) (by simp only [Array.getElem?_setIfInBounds]; rw [if_pos trivial, if_pos hlt])] at h3
   simp at h3
 obtain ⟨t, t1, t2, t3⟩ := hp
 subst eu
 have hall : ∀ W : World, (∀ i t, n ≤ i → isR t → TB w t i → W.heap[i]? = w.heap[i]?) → RdL W (encP p ++ (r.map encP).flatten) (ptC p.va p.ty p.c.k (.slice sp sn sc) p.c.l p.c.r p.w p.n ++ ys) := fun W hW => by
   obtain ⟨g', off', us', e, h1, h2⟩ := hat W hW
   simp only [Value.slice.injEq, Option.some.injEq, Addr.mk.injEq] at e
   obtain ⟨⟨rfl, rfl, _⟩, _⟩ := e
   have e9 := range_eq hg h1 (hW g t t1 t2 t3) (by rw [← h2.1, flat_len lenP, List.length_cons, hlen])
   rw [List.map_cons, List.flatten_cons, ← e9] at h2
   exact h2
 refine ⟨g, off, _, _, _, _, _, _, _, _, _, _, _, _, _, _, _, _, _, _, _, _, ys, rfl, rfl, hg, hlt, hyl, hone, fun W hW => ?_, fun W hW => ?_⟩
 . have h9 := rdl_take (hall W hW)
   rw [show (encP p).length = 18 from lenP p] at h9
   exact h9
 . have h9 := RdL.drop 18 (hall W hW)
   rw [List.drop_left' (lenP p), List.drop_left' hl] at h9
   exact h9
theorem rd_heads {W : World} {gw cap : Nat} {us ys tl : List Value} {p : Pt} {r : List Pt} (h : W.heap[gw]? = some (.cells (us ++ (ys ++ tl)).toArray 46 (0, 0))) (hp : RdL W (encP p) us) (hr : RdL W ((r.map encP).flatten) ys) (h1 : r.length + 1 ≤ cap) (h2 : cap ≤ maxLen) : Rd W (.row 46 18 ((p :: r).map encP)) (.slice (some ⟨gw, 0, none⟩) (r.length + 1) cap) := by
  have hl := rdl_app hp hr
  have e : ((p :: r).map encP).length = r.length + 1 := by simp
  rw [← e]
  rw [← e] at h1
  have hf : ((p :: r).map encP).flatten = encP p ++ (r.map encP).flatten := by rw [List.map_cons, List.flatten_cons]
  refine .row _ _ _ gw 0 cap (us ++ ys) (by simp) h1 h2 (fun j u hj => ?_) (by rw [hf]; exact hl.1) (by rw [hf]; exact hl.2)
  rw [Nat.zero_add, cell_of_blk h]
  have hj2 : j < (us ++ ys).length := (List.getElem?_eq_some_iff.1 hj).1
  rw [← List.append_assoc, List.getElem?_toArray, List.getElem?_append_left hj2]
  exact hj
theorem wp_appC {P : Program} {ops : Array Oper} {rest : List Oper} {o : Oper} {a : Act} {W : World} {Q : Exit → Act → World → Prop} (hgd : o.guard = none) (s x : Operand) (T : TypeId) (ho : o.op = .call { callee := .builtin .append, args := #[s, x], argTypes := #[T, T] }) (e z bytes : Nat) (i0 : TypeInfo) (zv : Value) (hu : P.underlying T = some (.slice e)) (hi : P.info? e = some i0) (hz : i0.zero = some zv) (hz1 : i0.size = z) (hz2 : i0.bytes = bytes) (hzc : zv.cells.size = z) (hz0 : 0 < z) (hby : bytes ≤ 1000)
   (hs : a.eval s = .slice none 0 0) (g off m c : Nat) (us : List Value) (hx : a.eval x = .slice (some ⟨g, off, none⟩) m c) (hb : W.rangeAt g off us) (hl : us.length = m * z) (h1 : us.all (·.oneCell') = true) (h10 : m ≤ 10) (hm : 0 < m)
   (h : ∀ b cap tl W', W'.heap[b]? = some (.cells (us ++ tl).toArray e (0, 0)) → W.heap.size ≤ b → m ≤ cap → cap ≤ maxLen → Below W.heap.size W W' → wpList P ops Q rest (a.put o.dst (.slice (some ⟨b, 0, none⟩) m cap)) W') : wpList P ops Q (o :: rest) a W := by
 refine wpList_plain hgd fun K hK => ?_
 obtain ⟨v', w', q0, q1, q2, q3, q4⟩ := run_append_own_at (P := P) W W.heap.size T o.type e i0 zv z bytes hu hi hz hz1 hz2 hzc hz0 (.slice none 0 0) 0 [] (World.ownsRow_nil W W.heap.size e z) ⟨g, off, none⟩ m c us (by omega) (fun j u hj => by rw [Addr.add_mid]; exact hb j u hj) (List.all_eq_true.1 h1) (by unfold maxLen; omega) (by have : (0 + m) * bytes ≤ 10 * 1000 := Nat.mul_le_mul (by omega) hby; omega) (Nat.le_refl _)
 unfold Oper.wp execOp
 simp only [ho, resolve, invoke, builtin, Sem.run_bind, Sem.run_pure, Result.andThen_ok, List.map_toArray, List.map_cons, List.map_nil, hs, hx, q0]
 rw [Nat.zero_add, List.nil_append] at q1
 rcases q1.2 with ⟨rfl, h0⟩ | ⟨b, cap, cur, rfl, b1, b2, b3, b4, b5, b6⟩
 . omega
 . have e : cur = (us ++ cur.toList.drop (m * z)).toArray := by
    rw [← b6, List.take_append_drop, Array.toArray_toList]
   rw [e] at b2
   exact hK _ _ (h b cap _ w' b2 b1 b3 b4 ((Below.refl _ _).grown q2 (Nat.le_refl _) (fun k hk => by simp [Value.ownBlock] at hk)))
theorem op_appR {P : Program} {o : Oper} {a : Act} {W : World} {K : Act → World → Prop} {Q : Exit → Act → World → Prop} (s x : Operand) (T : TypeId) (ho : o.op = .call { callee := .builtin .append, args := #[s, x], argTypes := #[T, T] }) (n : Nat) (τ : Nat → Prop) (e z bytes : Nat) (i0 : TypeInfo) (zv : Value) (hu : P.underlying T = some (.slice e)) (hi : P.info? e = some i0) (hz : i0.zero = some zv) (hz1 : i0.size = z) (hz2 : i0.bytes = bytes) (hzc : zv.cells.size = z) (hz0 : 0 < z) (hby : bytes ≤ 1000)
  (b : Nat) (vs : List Value) (hs : a.eval s = .slice (some ⟨b, 0, none⟩) 1 1) (hb : W.heap[b]? = some (.cells vs.toArray e (0, 0))) (hvl : vs.length = z) (hnb : n ≤ b) (g off m c : Nat) (us : List Value) (hx : a.eval x = .slice (some ⟨g, off, none⟩) m c) (hr : W.rangeAt g off us) (hl : us.length = m * z) (h1 : us.all (·.oneCell') = true) (d : List Dat) (l : List (List Dat)) (hlm : l.length = m) (hd : KT W n τ (d ++ l.flatten) (vs ++ us)) (het : ¬ τ e) (h10 : m ≤ 10)
  (h : ∀ p' cap' W', RwT W' n τ e z (.slice p' (m + 1) cap') (d :: l) → W.grownBy W' (some b) → K (a.put o.dst (.slice p' (m + 1) cap')) W') : Oper.wp P o a W K Q := by
 have hbase : n ≤ W.heap.size := Nat.le_of_lt (Nat.lt_of_le_of_lt hnb (blk_lt hb))
 have r1 : W.ownsRow n e z (.slice (some ⟨b, 0, none⟩) 1 1) 1 vs := ⟨by omega, .inr ⟨b, 1, _, rfl, hnb, hb, Nat.le_refl _, by unfold maxLen; omega, by simpa using by omega, by rw [List.take_of_length_le (by simp; omega)]⟩⟩
 obtain ⟨v', w', q0, q1, q2, _, q4⟩ := run_append_own_at (P := P) W n T o.type e i0 zv z bytes hu hi hz hz1 hz2 hzc hz0 (.slice (some ⟨b, 0, none⟩) 1 1) 1 vs r1 ⟨g, off, none⟩ m c us (by omega) (fun j u hj => by rw [Addr.add_mid]; exact hr j u hj) (List.all_eq_true.1 h1) (by unfold maxLen; omega) (by have : (1 + m) * bytes ≤ 11 * 1000 := Nat.mul_le_mul (by omega) hby; omega) hbase
 unfold Oper.wp execOp
 simp only [ho, resolve, invoke, builtin, Sem.run_bind, Sem.run_pure, Result.andThen_ok, List.map_toArray, List.map_cons, List.map_nil, hs, hx, q0]
 have hrw : RwT w' n τ e z v' (d :: l) := by
  refine ⟨vs ++ us, by rw [List.length_cons, hlm, Nat.add_comm]; exact q1, ?_⟩
  rw [List.flatten_cons]
  exact hd.mono (Nat.le_refl _) fun i t _ hq ht => q2.block i ht.lt fun c => (own_TB r1 c.symm).1.ne ht (fun e9 => het (e9 ▸ hq)) rfl
 obtain ⟨p', cap', hv⟩ := hrw.shape
 rw [List.length_cons, hlm] at hv
 subst hv
 exact h p' cap' w' hrw q2
end Go.Proofs.YtdihklfaiiclgaaDoor.Chk
