/-
  A book of raw numbers. Rules that come of themselves: in plain words. The first rule of a book, and what is there twice: in plain words. What a book's pattern takes, of events of raw numbers: in plain words. A pattern takes events of its type alone. A book that came in: what lies in memory. Books of raw numbers that came in. An operation in raw numbers that came in.
-/
import Derived.BigQuiet
import Derived.Test.YtnlmknbhppdliaaGreatDoorKn
import Derived.Test.YtnlmknbhppdliaaGreatDoorXo
import Derived.Test.YtnlmknbhppdliaaGreatDoorXm
import Derived.Test.YtnlmknbhppdliaaGreatDoorDt
import Derived.Test.YtnlmknbhppdliaaGreatDoorS
set_option maxHeartbeats 64000000
namespace Go.Proofs.YtnlmknbhppdliaaGreatDoor.Chk
open Go.ChangeShapes Go.WideShapes Go.ChangeAt Go.RowKit Go.Maps
set_option linter.unusedVariables false
set_option linter.unusedSimpArgs false
set_option maxRecDepth 20000
theorem kt_hrd {W : World} {n b6 : Nat} (h : W.heap[b6]? = some (.cells #[.string ⟨#[120]⟩, .string ⟨#[101]⟩, .int .i64 6, .slice none 0 0, .int .i64 1, .int .i64 1, .int .i64 1, .string ⟨#[]⟩, .string ⟨#[]⟩, .string ⟨#[]⟩, .int .i64 2, .int .i64 0, .int .i64 0, .string ⟨#[]⟩, .string ⟨#[]⟩, .string ⟨#[110]⟩, .int .i64 1, .int .i64 3] 48 (0, 0))) (hn : n ≤ b6) : KT W n isR (encR hrd) [.string ⟨#[104, 101, 97, 114, 100]⟩, .slice (some ⟨b6, 0, none⟩) 1 1, .slice none 0 0, .slice none 0 0, .slice none 0 0, .string ⟨#[]⟩, .slice none 0 0] := fun W' hW => by
 have h' : W'.heap[b6]? = some (.cells #[.string ⟨#[120]⟩, .string ⟨#[101]⟩, .int .i64 6, .slice none 0 0, .int .i64 1, .int .i64 1, .int .i64 1, .string ⟨#[]⟩, .string ⟨#[]⟩, .string ⟨#[]⟩, .int .i64 2, .int .i64 0, .int .i64 0, .string ⟨#[]⟩, .string ⟨#[]⟩, .string ⟨#[110]⟩, .int .i64 1, .int .i64 3] 48 (0, 0)) := (hW b6 48 hn (by decide) ⟨_, h⟩).trans h
 have hc : RdL W' (encC (cmpC 6 (numO 1) nO)) [.int .i64 6, .slice none 0 0, .int .i64 1, .int .i64 1, .int .i64 1, .string ⟨#[]⟩, .string ⟨#[]⟩, .string ⟨#[]⟩, .int .i64 2, .int .i64 0, .int .i64 0, .string ⟨#[]⟩, .string ⟨#[]⟩, .string ⟨#[110]⟩] := .cons (.lit _) (.cons (.nil _ _ none 0 (Nat.zero_le _)) (zAX [.int .i64 1, .int .i64 1, .int .i64 1, .string ⟨#[]⟩, .string ⟨#[]⟩, .string ⟨#[]⟩, .int .i64 2, .int .i64 0, .int .i64 0, .string ⟨#[]⟩, .string ⟨#[]⟩, .string ⟨#[110]⟩]))
 have hp : Rd W' (.row 48 18 ([(⟨txt [120], txt [101], cmpC 6 (numO 1) nO, 1, 3⟩ : Pt)].map encP)) (.slice (some ⟨b6, 0, none⟩) 1 1) :=
  zB4 (l := [(⟨txt [120], txt [101], cmpC 6 (numO 1) nO, 1, 3⟩ : Pt)].map encP) h' (by decide) (by decide) (by
   show RdL W' (encP _ ++ []) _
   rw [List.append_nil]
   exact .cons (.lit _) (.cons (.lit _) (zBU hc (zAX [.int .i64 1, .int .i64 3]))))
 exact .cons (.lit _) (.cons hp (.cons (.nil _ _ none 0 (Nat.zero_le _)) (.cons (.nil _ _ none 0 (Nat.zero_le _)) (.cons (.nil _ _ none 0 (Nat.zero_le _)) (.cons (.lit _) (.cons (.nil _ _ none 0 (Nat.zero_le _)) (RdL.nil _)))))))
theorem book_any (l : List Plt) (hok : ∀ p, p ∈ l → p.ok) (lv : Value) (w : World) (hl : Rd w (.row 88 5 (l.map zFU)) lv) :
  Calls Tryz.prog 8 #[lv] w fun e w' => ∃ (b : Nat) (rp : Option Addr) (rc : Nat), e = .returned (.agg #[.slice (some ⟨b + 4, 0, none⟩) 5 5, .slice rp (min l.length 4 + 1) rc]) ∧ w.heap.size ≤ b ∧ Tys w' b ∧ RwT w' (b + 5) isR 56 7 (.slice rp (min l.length 4 + 1) rc) ((pwBk l).map encR) ∧ Below w.heap.size w w' := by
 obtain ⟨lp, lc, rfl, hmx, hat⟩ := zAL lenPl hl
 obtain ⟨L, hL⟩ : ∃ L, l.length = L := ⟨_, rfl⟩
 rw [hL]
 have hmx2 : (L : Int) ≤ 9223372036854775807 := by rw [hL] at hmx; first | exact hmx | (unfold maxLen at hmx; omega)
 obtain ⟨NN, hN⟩ : ∃ N, min L 4 = N := ⟨_, rfl⟩
 rw [hN]
 have hz : (w.alloc (.cells #[.slice none 0 0, .slice none 0 0] 28)).heap[w.heap.size]? = some (.cells #[.slice none 0 0, .slice none 0 0] 28 (0, 0)) := heap_alloc_new _ _
 have hbz : Below w.heap.size w (w.alloc (.cells #[.slice none 0 0, .slice none 0 0] 28)) := (Below.refl _ _).alloc (Nat.le_refl _) _
 have hsz : (w.alloc (.cells #[.slice none 0 0, .slice none 0 0] 28)).heap.size = w.heap.size + 1 := by simp
 obtain ⟨w0, hw0⟩ : ∃ x, w.alloc (.cells #[.slice none 0 0, .slice none 0 0] 28) = x := ⟨_, rfl⟩
 rw [hw0] at hz hbz hsz
 have HZ := hid hz
 have HBZ := hid hbz
 have HSZ := hid hsz
 obtain ⟨ir, ir1, ir2, ir3, ir4⟩ := inR
 have HIR := hid (And.intro ir1 (And.intro ir2 (And.intro ir3 ir4)))
 have HPB : Hid ((pwBk l).map encR = (pwRs l NN).map encR ++ [encR hrd]) := by show _ = _; unfold pwBk; rw [hL, hN, List.map_append]; rfl
 have HAT := hid hat
 have HOK := hid hok
 have HLL := hid hL
 have HNN := hid hN
 have HMX := hid hmx2
 clear hl hz hbz hsz ir1 ir2 ir3 ir4 hat hok hL hN hmx hmx2
 go_enter Tryz.func8, Tryz.ntmps8
 go_wp2_with (first
  | (go_at_call 12; refine (zJ7 _).mono ?_; rintro e w1 ⟨b, rfl, hbt, hty, hb1⟩; have HTY := hid hty; have HBT := hid hbt; have HB1 := hid hb1; clear hbt hty hb1)
  | ((with_reducible show wpList _ _ _ (Oper.mk (some 7) _ _ _ _ _ :: _) _ _); refine zBM (by rfl) 28 _ (by rfl) #[(0, .slice (some ⟨b + 4, 0, none⟩) 5 5)] (by simp [Act.eval, Act.put]) (.agg #[.slice (some ⟨b + 4, 0, none⟩) 5 5, .slice none 0 0]) (fun w => by kernel_rfl) ?_)
  | ((with_reducible show wpList _ _ _ (Oper.mk _ (.store 28 _ _) _ _ _ _ :: _) _ _); refine zAY 28 w1.heap.size 0 [.slice none 0 0, .slice none 0 0] 28 [.slice (some ⟨b + 4, 0, none⟩) 5 5, .slice none 0 0] (heap_alloc_new _ _) ?_; intro w2 hq1 hq2; have HU2 := hid hq1; have HF2 := hid hq2; clear hq1 hq2))
 obtain ⟨bb, hbb⟩ : ∃ x, w1.heap.size = x := ⟨_, rfl⟩
 have hsz1 : b + 4 < w1.heap.size := zAD HTY.out.2.2.2.2
 have hA1 : Below w1.heap.size w1 (w1.alloc (.cells #[.slice none 0 0, .slice none 0 0] 28)) := (Below.refl _ _).alloc (Nat.le_refl _) _
 have hn12 : Below w1.heap.size w1 w2 := zAG hA1 HF2.out (Nat.le_refl _)
 have hBo : Bo w w2 b bb l 0 (.slice none 0 0) := by
  have h3 := HBT.out
  have h4 := HSZ.out
  refine ⟨zAA (zAA HBZ.out HB1.out HBZ.out.size) hn12 (Nat.le_trans HBZ.out.size HB1.out.size), ?_, HTY.out.later (fun i o hi _ _ => (hn12.block _ (zAD hi)).trans hi), by omega, by omega, by rw [← hbb]; exact HU2.out, RwT.nil _ _ _ _ _⟩
  have h5 := (HB1.out.block _ (zAD HZ.out)).trans HZ.out
  exact (hn12.block _ (zAD h5)).trans h5
 have HBO := hid hBo
 rw [hbb]
 clear hBo hbb hsz1 hA1 hn12 HTY HBT HB1 HU2 HF2 HZ HBZ HSZ
 refine book_l1 l HOK.out lp L lc HLL.out HMX.out w w2 b bb NN HNN.out HAT.out HBO.out _ _ _ _ _ _ _ _ _ _ _ _ _ _ _ _ _ _ _ _ _ _ _ _ _ _ _ _ _ _ _ _ _ _ _ _ _ _ _ _ _ _ ?_
 intro rp rc wr g5 g8 g9 g10 g11 g12 g13 g14 g15 g16 g17 g18 g19 g20 g21 g22 g23 g24 g25 g26 g27 g28 g29 g30 g31 g32 hR
 have HR := hid hR
 have HB5 : Hid (b + 5 ≤ wr.heap.size) := by have h1 := hR.b1; have h2 := hR.bl; show _ ≤ _; omega
 have HLW : Hid (((pwRs l NN).map encR).length ≤ 10) := by show _ ≤ 10; rw [List.length_map, zBH]; have := HNN.out; omega
 have HLW1 : Hid (((pwRs l NN).map encR).length + 1 = NN + 1) := by show _ + 1 = _; rw [List.length_map, zBH]
 clear hR HBO
 go_upto_region 7 with fail
 refine zA2 (by kernel_rfl) (fun i w9 v => ([(fun w9 v => v = .pointer (some ⟨bb, 1, none⟩)), (fun w9 v => v = .slice rp NN rc), (fun w9 v => v = opV (numO 1)), (fun w9 v => v = opV (ownO ⟨#[110]⟩)), (fun w9 v => v = cnV 6 (.slice none 0 0) (numO 1) (ownO ⟨#[110]⟩)), (fun w9 v => v = .agg #[.string ⟨#[120]⟩, .string ⟨#[101]⟩, .int .i64 6, .slice none 0 0, .int .i64 1, .int .i64 1, .int .i64 1, .string ⟨#[]⟩, .string ⟨#[]⟩, .string ⟨#[]⟩, .int .i64 2, .int .i64 0, .int .i64 0, .string ⟨#[]⟩, .string ⟨#[]⟩, .string ⟨#[110]⟩, .int .i64 1, .int .i64 3]), (fun w9 v => ∃ (b6 : Nat), v = .slice (some ⟨b6, 0, none⟩) 1 1 ∧ w9.heap[b6]? = some (.cells #[.string ⟨#[120]⟩, .string ⟨#[101]⟩, .int .i64 6, .slice none 0 0, .int .i64 1, .int .i64 1, .int .i64 1, .string ⟨#[]⟩, .string ⟨#[]⟩, .string ⟨#[]⟩, .int .i64 2, .int .i64 0, .int .i64 0, .string ⟨#[]⟩, .string ⟨#[]⟩, .string ⟨#[110]⟩, .int .i64 1, .int .i64 3] 48 (0, 0)) ∧ b + 5 ≤ b6), (fun w9 v => ∃ (b6 : Nat), v = .agg #[.string ⟨#[104, 101, 97, 114, 100]⟩, .slice (some ⟨b6, 0, none⟩) 1 1, .slice none 0 0, .slice none 0 0, .slice none 0 0, .string ⟨#[]⟩, .slice none 0 0] ∧ w9.heap[b6]? = some (.cells #[.string ⟨#[120]⟩, .string ⟨#[101]⟩, .int .i64 6, .slice none 0 0, .int .i64 1, .int .i64 1, .int .i64 1, .string ⟨#[]⟩, .string ⟨#[]⟩, .string ⟨#[]⟩, .int .i64 2, .int .i64 0, .int .i64 0, .string ⟨#[]⟩, .string ⟨#[]⟩, .string ⟨#[110]⟩, .int .i64 1, .int .i64 3] 48 (0, 0)) ∧ b + 5 ≤ b6), (fun w9 v => ∃ (b6 b8 : Nat), v = .slice (some ⟨b8, 0, none⟩) 1 1 ∧ w9.heap[b8]? = some (.cells #[.string ⟨#[104, 101, 97, 114, 100]⟩, .slice (some ⟨b6, 0, none⟩) 1 1, .slice none 0 0, .slice none 0 0, .slice none 0 0, .string ⟨#[]⟩, .slice none 0 0] 56 (0, 0)) ∧ w9.heap[b6]? = some (.cells #[.string ⟨#[120]⟩, .string ⟨#[101]⟩, .int .i64 6, .slice none 0 0, .int .i64 1, .int .i64 1, .int .i64 1, .string ⟨#[]⟩, .string ⟨#[]⟩, .string ⟨#[]⟩, .int .i64 2, .int .i64 0, .int .i64 0, .string ⟨#[]⟩, .string ⟨#[]⟩, .string ⟨#[110]⟩, .int .i64 1, .int .i64 3] 48 (0, 0)) ∧ b + 5 ≤ b6), (fun w9 v => True), (fun w9 v => v = .pointer (some ⟨bb, 1, none⟩))] : List (World → Value → Prop)).getD i (fun _ _ => True) w9 v) (fun W => Below wr.heap.size wr W) 9 11 (fun w9 v => ∃ (p' : Option Addr) (c' : Nat) (Wp : World), v = .slice p' (NN + 1) c' ∧ Below wr.heap.size wr Wp ∧ Wp.grownBy w9 (Value.slice rp NN rc).ownBlock ∧ RwT w9 (b + 5) isR 56 7 (.slice p' (NN + 1) c') ((pwRs l NN).map encR ++ [encR hrd])) 45 rfl rfl (by decide) [some 33, some 34, some 35, some 36, some 37, some 38, some 39, some 40, some 41, some 42, some 43] (by kernel_rfl) 26 (.tmp 43) (.tmp 42) (by rfl) (by rfl) (by kernel_rfl) (by kernel_rfl) (by kernel_rfl) (fun W W' => Below W.heap.size W W') ?hmon ?hpi (Below.drew (Below.refl _ _)) (zAC.cons ?o0 (zAC.cons ?o1 (zAC.cons ?o2 (zAC.cons ?o3 (zAC.cons ?o4 (zAC.cons ?o5 (zAC.cons ?o6 (zAC.cons ?o7 (zAC.cons ?o8 (zAC.cons ?o9 (zAC.cons ?o10 (zAC.cons ?o11 zAC.nil)))))))))))) ?hS ?hend
 case hmon =>
  intro q W W' v hb h
  rcases q with _ | _ | _ | _ | _ | _ | _ | _ | _ | _ | _ | q
  . exact h
  . exact h
  . exact h
  . exact h
  . exact h
  . exact h
  . obtain ⟨b6, e, h1, h2⟩ := h; exact ⟨b6, e, (hb.block _ (zAD h1)).trans h1, h2⟩
  . obtain ⟨b6, e, h1, h2⟩ := h; exact ⟨b6, e, (hb.block _ (zAD h1)).trans h1, h2⟩
  . obtain ⟨b6, b8, e, h0, h1, h2⟩ := h; exact ⟨b6, b8, e, (hb.block _ (zAD h0)).trans h0, (hb.block _ (zAD h1)).trans h1, h2⟩
  . exact h
  . exact h
  . exact h
 case hpi =>
  intro q W W' v hq h
  rcases q with _ | _ | _ | _ | _ | _ | _ | _ | _ | _ | _ | _ | q
  . exact absurd hq (by decide)
  . exact absurd hq (by decide)
  . exact absurd hq (by decide)
  . exact absurd hq (by decide)
  . exact absurd hq (by decide)
  . exact absurd hq (by decide)
  . exact absurd hq (by decide)
  . exact absurd hq (by decide)
  . exact absurd hq (by decide)
  . exact absurd hq (by decide)
  . exact h
  . exact h
  . exact h
 case o0 =>
  intro _ _ a W hB hd ho
  replace hB := hB (by decide)
  have e3 : a.eval (.tmp 3) = .pointer (some ⟨bb, 0, none⟩) := ho 3 (by kernel_rfl)
  exact zAK (.pointer (some ⟨bb, 1, none⟩)) (by unfold execOp; simp only [ev_c, e3]; go_simp) ⟨_, rfl, rfl, fun _ => hB, fun _ => Below.refl _ _, fun _ => rfl⟩
 case o1 =>
  intro _ _ a W hB hd ho
  replace hB := hB (by decide)
  have e33 : a.eval (.tmp 33) = .pointer (some ⟨bb, 1, none⟩) := hd 0 33 (by kernel_rfl) (by decide)
  have c9 : W.cell? ⟨bb, 1, none⟩ = some (.slice rp NN rc) := by
    rw [zAB ((hB.block _ (zAD HR.out.ub)).trans HR.out.ub)]
    rfl
  exact zAK (.slice rp NN rc) (by unfold execOp; simp only [ev_c, e33]; go_simp) ⟨_, rfl, rfl, fun _ => hB, fun _ => Below.refl _ _, fun _ => rfl⟩
 case o2 =>
  intro _ _ a W hB hd ho
  replace hB := hB (by decide)
  refine zA0 20 zB8 _ _ rfl #[.int .i64 1] (by simp [ev_c]) _ (zAO 1 W) ?_
  rintro e W' ⟨rfl, hal⟩
  exact ⟨_, rfl, _, rfl, rfl, fun _ => zAA hB hal hB.size, fun _ => hal, fun h9 => absurd h9 (by decide)⟩
 case o3 =>
  intro _ _ a W hB hd ho
  replace hB := hB (by decide)
  refine zA0 21 ent_own _ _ rfl #[.string ⟨#[110]⟩] (by simp [ev_c]) _ (zA3 ⟨#[110]⟩ W) ?_
  rintro e W' ⟨rfl, hal⟩
  exact ⟨_, rfl, _, rfl, rfl, fun _ => zAA hB hal hB.size, fun _ => hal, fun h9 => absurd h9 (by decide)⟩
 case o4 =>
  intro _ _ a W hB hd ho
  replace hB := hB (by decide)
  have e35 : a.eval (.tmp 35) = opV (numO 1) := hd 2 35 (by kernel_rfl) (by decide)
  have e36 : a.eval (.tmp 36) = opV (ownO ⟨#[110]⟩) := hd 3 36 (by kernel_rfl) (by decide)
  refine zA0 19 zBS _ _ rfl #[.int .i64 6, opV (numO 1), opV (ownO ⟨#[110]⟩)] (by simp [ev_c, e35, e36]) _ (compare_any 6 (numO 1) (ownO ⟨#[110]⟩) W) ?_
  rintro e W' ⟨rfl, hal⟩
  exact ⟨_, rfl, _, rfl, rfl, fun _ => zAA hB hal hB.size, fun _ => hal, fun h9 => absurd h9 (by decide)⟩
 case o5 =>
  intro _ _ a W hB hd ho
  replace hB := hB (by decide)
  have e37 : a.eval (.tmp 37) = cnV 6 (.slice none 0 0) (numO 1) (ownO ⟨#[110]⟩) := hd 4 37 (by kernel_rfl) (by decide)
  exact zCC 48 _ rfl #[(0, .string ⟨#[120]⟩), (1, .string ⟨#[101]⟩), (2, cnV 6 (.slice none 0 0) (numO 1) (ownO ⟨#[110]⟩)), (3, .int .i64 1), (4, .int .i64 3)] (by simp [ev_c, e37]) (.agg #[.string ⟨#[120]⟩, .string ⟨#[101]⟩, .int .i64 6, .slice none 0 0, .int .i64 1, .int .i64 1, .int .i64 1, .string ⟨#[]⟩, .string ⟨#[]⟩, .string ⟨#[]⟩, .int .i64 2, .int .i64 0, .int .i64 0, .string ⟨#[]⟩, .string ⟨#[]⟩, .string ⟨#[110]⟩, .int .i64 1, .int .i64 3]) (by kernel_rfl) ⟨_, rfl, rfl, fun _ => hB, fun _ => Below.refl _ _, fun _ => rfl⟩
 case o6 =>
  intro _ _ a W hB hd ho
  replace hB := hB (by decide)
  have e38 : a.eval (.tmp 38) = .agg #[.string ⟨#[120]⟩, .string ⟨#[101]⟩, .int .i64 6, .slice none 0 0, .int .i64 1, .int .i64 1, .int .i64 1, .string ⟨#[]⟩, .string ⟨#[]⟩, .string ⟨#[]⟩, .int .i64 2, .int .i64 0, .int .i64 0, .string ⟨#[]⟩, .string ⟨#[]⟩, .string ⟨#[110]⟩, .int .i64 1, .int .i64 3] := hd 5 38 (by kernel_rfl) (by decide)
  have hal : Below W.heap.size W (W.alloc (.cells #[.string ⟨#[120]⟩, .string ⟨#[101]⟩, .int .i64 6, .slice none 0 0, .int .i64 1, .int .i64 1, .int .i64 1, .string ⟨#[]⟩, .string ⟨#[]⟩, .string ⟨#[]⟩, .int .i64 2, .int .i64 0, .int .i64 0, .string ⟨#[]⟩, .string ⟨#[]⟩, .string ⟨#[110]⟩, .int .i64 1, .int .i64 3] 48)) := (Below.refl _ _).alloc (Nat.le_refl _) _
  refine zBT 49 1 _ rfl #[(0, .agg #[.string ⟨#[120]⟩, .string ⟨#[101]⟩, .int .i64 6, .slice none 0 0, .int .i64 1, .int .i64 1, .int .i64 1, .string ⟨#[]⟩, .string ⟨#[]⟩, .string ⟨#[]⟩, .int .i64 2, .int .i64 0, .int .i64 0, .string ⟨#[]⟩, .string ⟨#[]⟩, .string ⟨#[110]⟩, .int .i64 1, .int .i64 3])] (by simp [ev_c, e38]) (.slice (some ⟨W.heap.size, 0, none⟩) 1 1) (W.alloc (.cells #[.string ⟨#[120]⟩, .string ⟨#[101]⟩, .int .i64 6, .slice none 0 0, .int .i64 1, .int .i64 1, .int .i64 1, .string ⟨#[]⟩, .string ⟨#[]⟩, .string ⟨#[]⟩, .int .i64 2, .int .i64 0, .int .i64 0, .string ⟨#[]⟩, .string ⟨#[]⟩, .string ⟨#[110]⟩, .int .i64 1, .int .i64 3] 48)) (by kernel_rfl) ⟨_, rfl, ⟨W.heap.size, rfl, heap_alloc_new _ _, Nat.le_trans HB5.out hB.size⟩, fun _ => zAA hB hal hB.size, fun _ => hal, fun h9 => absurd h9 (by decide)⟩
 case o7 =>
  intro _ _ a W hB hd ho
  replace hB := hB (by decide)
  obtain ⟨b6, e39, h6⟩ : ∃ (b6 : Nat), a.eval (.tmp 39) = .slice (some ⟨b6, 0, none⟩) 1 1 ∧ W.heap[b6]? = some (.cells #[.string ⟨#[120]⟩, .string ⟨#[101]⟩, .int .i64 6, .slice none 0 0, .int .i64 1, .int .i64 1, .int .i64 1, .string ⟨#[]⟩, .string ⟨#[]⟩, .string ⟨#[]⟩, .int .i64 2, .int .i64 0, .int .i64 0, .string ⟨#[]⟩, .string ⟨#[]⟩, .string ⟨#[110]⟩, .int .i64 1, .int .i64 3] 48 (0, 0)) ∧ b + 5 ≤ b6 := hd 6 39 (by kernel_rfl) (by decide)
  exact zCC 56 _ rfl #[(0, .string ⟨#[104, 101, 97, 114, 100]⟩), (1, .slice (some ⟨b6, 0, none⟩) 1 1)] (by simp [ev_c, e39]) (.agg #[.string ⟨#[104, 101, 97, 114, 100]⟩, .slice (some ⟨b6, 0, none⟩) 1 1, .slice none 0 0, .slice none 0 0, .slice none 0 0, .string ⟨#[]⟩, .slice none 0 0]) (by kernel_rfl) ⟨_, rfl, ⟨b6, rfl, h6⟩, fun _ => hB, fun _ => Below.refl _ _, fun _ => rfl⟩
 case o8 =>
  intro _ _ a W hB hd ho
  replace hB := hB (by decide)
  obtain ⟨b6, e40, h6, h6b⟩ : ∃ (b6 : Nat), a.eval (.tmp 40) = .agg #[.string ⟨#[104, 101, 97, 114, 100]⟩, .slice (some ⟨b6, 0, none⟩) 1 1, .slice none 0 0, .slice none 0 0, .slice none 0 0, .string ⟨#[]⟩, .slice none 0 0] ∧ W.heap[b6]? = some (.cells #[.string ⟨#[120]⟩, .string ⟨#[101]⟩, .int .i64 6, .slice none 0 0, .int .i64 1, .int .i64 1, .int .i64 1, .string ⟨#[]⟩, .string ⟨#[]⟩, .string ⟨#[]⟩, .int .i64 2, .int .i64 0, .int .i64 0, .string ⟨#[]⟩, .string ⟨#[]⟩, .string ⟨#[110]⟩, .int .i64 1, .int .i64 3] 48 (0, 0)) ∧ b + 5 ≤ b6 := hd 7 40 (by kernel_rfl) (by decide)
  have hal : Below W.heap.size W (W.alloc (.cells #[.string ⟨#[104, 101, 97, 114, 100]⟩, .slice (some ⟨b6, 0, none⟩) 1 1, .slice none 0 0, .slice none 0 0, .slice none 0 0, .string ⟨#[]⟩, .slice none 0 0] 56)) := (Below.refl _ _).alloc (Nat.le_refl _) _
  refine zBT 26 1 _ rfl #[(0, .agg #[.string ⟨#[104, 101, 97, 114, 100]⟩, .slice (some ⟨b6, 0, none⟩) 1 1, .slice none 0 0, .slice none 0 0, .slice none 0 0, .string ⟨#[]⟩, .slice none 0 0])] (by simp [ev_c, e40]) (.slice (some ⟨W.heap.size, 0, none⟩) 1 1) (W.alloc (.cells #[.string ⟨#[104, 101, 97, 114, 100]⟩, .slice (some ⟨b6, 0, none⟩) 1 1, .slice none 0 0, .slice none 0 0, .slice none 0 0, .string ⟨#[]⟩, .slice none 0 0] 56)) (by kernel_rfl) ⟨_, rfl, ⟨b6, W.heap.size, rfl, heap_alloc_new _ _, (hal.block _ (zAD h6)).trans h6, h6b⟩, fun _ => zAA hB hal hB.size, fun _ => hal, fun h9 => absurd h9 (by decide)⟩
 case o9 =>
  intro h9; exact absurd rfl h9
 case o10 =>
  intro _ _ a W hB hd ho
  have e3 : a.eval (.tmp 3) = .pointer (some ⟨bb, 0, none⟩) := ho 3 (by kernel_rfl)
  exact zAK (.pointer (some ⟨bb, 1, none⟩)) (by unfold execOp; simp only [ev_c, e3]; go_simp) ⟨_, rfl, rfl, fun h9 => absurd h9 (by decide), fun h9 => absurd h9 (by decide), fun _ => rfl⟩
 case o11 =>
  intro _ h9; exact absurd rfl h9
 case hS =>
  intro a W vs hB hT hd hout
  have e1 : vs 1 = .slice rp NN rc := hT 1 (by decide)
  obtain ⟨b6, b8, e8, h8, h6, h6b⟩ : ∃ (b6 b8 : Nat), vs 8 = .slice (some ⟨b8, 0, none⟩) 1 1 ∧ W.heap[b8]? = some (.cells #[.string ⟨#[104, 101, 97, 114, 100]⟩, .slice (some ⟨b6, 0, none⟩) 1 1, .slice none 0 0, .slice none 0 0, .slice none 0 0, .string ⟨#[]⟩, .slice none 0 0] 56 (0, 0)) ∧ W.heap[b6]? = some (.cells #[.string ⟨#[120]⟩, .string ⟨#[101]⟩, .int .i64 6, .slice none 0 0, .int .i64 1, .int .i64 1, .int .i64 1, .string ⟨#[]⟩, .string ⟨#[]⟩, .string ⟨#[]⟩, .int .i64 2, .int .i64 0, .int .i64 0, .string ⟨#[]⟩, .string ⟨#[]⟩, .string ⟨#[110]⟩, .int .i64 1, .int .i64 3] 48 (0, 0)) ∧ b + 5 ≤ b6 := hT 8 (by decide)
  refine zCI _ _ 26 rfl (b + 5) isR 56 7 152 ir _ Tryz.underlying26 HIR.out.1 HIR.out.2.1 HIR.out.2.2.1 HIR.out.2.2.2 rfl (by omega) (by decide) (.slice rp NN rc) ((pwRs l NN).map encR) ((hd 1 34 (by kernel_rfl)).trans e1) (HR.out.r.below hB) (Nat.le_trans HB5.out hB.size) b8 [.string ⟨#[104, 101, 97, 114, 100]⟩, .slice (some ⟨b6, 0, none⟩) 1 1, .slice none 0 0, .slice none 0 0, .slice none 0 0, .string ⟨#[]⟩, .slice none 0 0] ((hd 8 41 (by kernel_rfl)).trans e8) h8 (by rfl) (by rfl) (encR hrd) (kt_hrd h6 h6b) (by decide) HLW.out (NN + 1) HLW1.out ?_
  intro p' c' W' k1 k2 k3
  exact ⟨_, rfl, p', c', W, rfl, hB, k2, k1⟩
 case hend =>
  intro vs W hB2 hT
  obtain ⟨p', c', Wp, e9, k1, k2, k4⟩ := hB2
  have e10 : vs 10 = .pointer (some ⟨bb, 1, none⟩) := hT 10 (by decide) (by decide)
  have hgg := (HR.out.below k1).grown k2
  refine ⟨bb, 1, [.slice (some ⟨b + 4, 0, none⟩) 5 5, .slice rp NN rc], 28, .slice p' (NN + 1) c', [.slice p' (NN + 1) c'], Eq.trans (b := vs 10) (by kernel_rfl) e10, Eq.trans (b := vs 9) (by kernel_rfl) e9, rfl, hgg.2.2.2, by simp, by kernel_rfl, rfl, ?_⟩
  intro w9 hq1 hq2
  have h1 := HR.out.tb
  have h2 := HR.out.b1
  have HU9 : Hid (w9.heap[bb]? = some (.cells #[.slice (some ⟨b + 4, 0, none⟩) 5 5, .slice p' (NN + 1) c'] 28 (0, 0))) := hq1
  have HB9 : Hid (Below w.heap.size w w9) := zAG hgg.1 hq2 (by omega)
  have HZ9 : Hid (w9.heap[w.heap.size]? = some (.cells #[.slice none 0 0, .slice none 0 0] 28 (0, 0))) := (hq2.block _ (zAD hgg.2.1) (by show w.heap.size ≠ bb; omega)).trans hgg.2.1
  have HT9 : Hid (Tys w9 b) := hgg.2.2.1.later (fun i o hi _ hb2 => (hq2.block _ (zAD hi) (by show i ≠ bb; omega)).trans hi)
  have HR9 := hid (k4.set hq2 ⟨_, hgg.2.2.2⟩ (by decide) (by decide))
  clear hq1 hq2 k1 k2 k4 hT hgg h1 h2
  simp only [zB0, Act.put, List.setIfInBounds_toArray, e9, e10]
  simp only [zBJ]
  simp only [List.set_cons_zero, List.set_cons_succ]
  clear e9 e10
  generalize vs 0 = v0
  generalize vs 1 = v1
  generalize vs 2 = v2
  generalize vs 3 = v3
  generalize vs 4 = v4
  generalize vs 5 = v5
  generalize vs 6 = v6
  generalize vs 7 = v7
  generalize vs 8 = v8
  clear vs
  go_wp2_with (first
    | ((with_reducible show wpList _ _ _ (Oper.mk (some 44) _ _ _ _ _ :: _) _ _); refine wpList_load_mid (by rfl) 28 _ (by rfl) bb 0 (by rfl) [.slice (some ⟨b + 4, 0, none⟩) 5 5, .slice p' (NN + 1) c'] _ (zAJ HU9.out) Tryz.underlying28 rfl (by kernel_rfl) ?_)
    | ((with_reducible show wpList _ _ _ (Oper.mk _ (.store 28 _ _) _ _ _ _ :: _) _ _); refine zAY 28 w.heap.size 0 [.slice none 0 0, .slice none 0 0] 28 [.slice (some ⟨b + 4, 0, none⟩) 5 5, .slice p' (NN + 1) c'] HZ9.out ?_; intro wf hq1 hq2; have HF := hid hq1; have HFF := hid hq2; clear hq1 hq2))
  have hTB : TB w9 28 w.heap.size := ⟨_, HZ9.out⟩
  have h1 := HR.out.tb
  exact zAR w.heap.size [.slice (some ⟨b + 4, 0, none⟩) 5 5, .slice p' (NN + 1) c'] 28 _ HF.out rfl rfl (by rfl) Tryz.underlying28 rfl (by kernel_rfl) ⟨b, p', c', rfl, by omega, HT9.out.later (fun i o hi hb1 _ => (HFF.out.block _ (zAD hi) (by show i ≠ w.heap.size; omega)).trans hi), by rw [HPB.out]; exact HR9.out.set HFF.out hTB (by decide) (by decide), zAG HB9.out HFF.out (Nat.le_refl _)⟩
theorem zK8 {x : Rl} (h : rck kts x = 0) : frn x.n = 0 ∧ szs x ∧ ∃ p r, x.w = p :: r ∧ pck kts [] [] p 0 = 0 := by
 have h1 : frn x.n = 0 := by
  refine Classical.byContradiction fun c => ?_
  unfold rck at h
  rw [if_pos c] at h
  exact c h
 obtain ⟨_, h2⟩ := zEG h
 refine ⟨h1, h2, ?_⟩
 rw [zCJ kts x h1 h2] at h
 cases hw : x.w with
 | nil => have h3 := h2.1; rw [hw] at h3; simp at h3
 | cons p r =>
  refine ⟨p, r, rfl, Classical.byContradiction fun c => ?_⟩
  have e : wfs 0 kts [] x.w = pck kts [] [] p 0 := by rw [hw, wfs]; exact if_pos c
  rw [e, if_pos c] at h
  exact c h
theorem zJ9 (l : List Plt) {k : Nat} (hk : k < (pwBk l).length) (x : Ev) (hx : evk kts x = 0) : ∃ p r, (pwBk l)[k].w = p :: r ∧ tkr kts (pwBk l) (k : Nat) 0 0 x [] = (tkb kts [] x [] p, 0) := by
  obtain ⟨_, _, p, r, hw, _⟩ := zK8 (zDB (pwBk l) [] (rks_bk l) _ (List.getElem_mem hk))
  refine ⟨p, r, hw, ?_⟩
  unfold tkr
  rw [if_neg (fun c => c (bok_pw l)), if_neg (fun c => c ⟨by omega, by omega⟩), Int.toNat_natCast, zA5 hk]
  have e1 : prt 0 (pwBk l)[k] = p :: r := by unfold prt; rw [if_pos rfl, hw]
  have e2 : asq 0 (0 : Int).toNat (pwBk l)[k].w = [] := by unfold asq; rw [if_pos rfl]; rfl
  rw [e1, e2, if_neg (fun c => c ⟨by omega, by rw [List.length_cons]; omega⟩), if_neg (fun c => c hx), if_neg (fun c => c rfl), if_neg (fun c => c rfl)]
  rfl
theorem zJX (l : List Plt) {k : Nat} (hk : k < (pwBk l).length) (x : Ev) : tkr kts (pwBk l) (k : Nat) 3 0 x [] = (false, 2) := by
  unfold tkr
  rw [if_neg (fun c => c (bok_pw l)), if_neg (fun c => c ⟨by omega, by omega⟩), Int.toNat_natCast, zA5 hk]
  have e1 : prt 3 (pwBk l)[k] = [] := by unfold prt; rw [if_neg (by decide), if_neg (by decide), if_neg (by decide)]
  rw [e1, if_pos (fun c => by have := c.2; simp at this)]
theorem tkb_mine (x : Ev) (p : Pt) {ok mine : Bool} (h1 : tkb kts [] x [] p = ok) (h2 : seq (kts.getD x.t.toNat dT).n p.ty = mine) : (ok = true → mine = true) ∧ (p.c.k = 0 → ok = mine) := by
 unfold tkb at h1
 rw [h2] at h1
 refine ⟨fun h => ?_, fun h => ?_⟩
 . rw [h] at h1
   exact (Bool.and_eq_true_iff.1 h1).1
 . have e : hld kts [] x [] 8 p.c = true := by unfold hld; rw [if_pos h]
   rw [e, Bool.and_true] at h1
   exact h1.symm
theorem zGH {B : Nat} {w w1 : World} (h : Below B w w1) (n : Nat) : Below B w (w1.drewN n) := ⟨h.os, h.tape, h.output, h.size, h.block⟩
theorem takesType_walk (l : List Plt) (hok : ∀ p, p ∈ l → p.ok) (lv : Value) (at_ : Int) (ha1 : -9223372036854775808 ≤ at_) (ha2 : at_ ≤ 9223372036854775807) (ki ty lo n de : Int) (tx : ByteArray) (co : Bool) (ht1 : -9223372036854775808 ≤ ty) (ht2 : ty ≤ 9223372036854775807) (hl1 : -9223372036854775808 ≤ lo) (hl2 : lo ≤ 9223372036854775807) (hn1 : -9223372036854775808 ≤ n) (hn2 : n ≤ 9223372036854775807) (hs : tx.size ≤ maxLen) (w : World) (hl : Rd w (.row 88 5 (l.map zFU  )) lv) (htk : Tab w 0 kpl) (htr : Tab w 1 rll) :
    Calls Tryz.prog 3 #[lv, .int .i64 at_, .agg #[.int .i64 ki, .int .i64 ty, .int .i64 lo, .int .i64 n, .int .i64 de, .string tx, .bool co]] w fun e w' => e = .returned (.bool true) ∧ Below w.heap.size w w' := by
  obtain ⟨W0, hW0⟩ : ∃ W, w.alloc (.cells #[.int .i64 ki, .int .i64 ty, .int .i64 lo, .int .i64 n, .int .i64 de, .string tx, .bool co] 24) = W := ⟨_, rfl⟩
  have hA0 : Below w.heap.size w W0 := by rw [← hW0]; exact (Below.refl _ _).alloc (Nat.le_refl _) _
  have HD0 : Hid (W0.heap[w.heap.size]? = some (.cells #[.int .i64 ki, .int .i64 ty, .int .i64 lo, .int .i64 n, .int .i64 de, .string tx, .bool co] 24 (0, 0))) := by rw [← hW0]; exact heap_alloc_new _ _
  have HA0 := hid hA0
  have HBK := hid (book_any l hok lv W0 (hl.later hA0))
  obtain ⟨R, hR⟩ : ∃ R, min l.length 4 + 1 = R := ⟨_, rfl⟩
  rw [hR] at HBK
  have hRl : (pwBk l).length = R := by rw [len_bk, hR]
  have hR1 : 1 ≤ R ∧ R ≤ 5 := by omega
  have HPK := hid (fun W => zAF at_ (R : Int) W ha1 ha2 (by omega) (by omega))
  have hpk := zAQ at_ (m := (R : Int)) (by omega)
  obtain ⟨k, hk⟩ : ∃ k : Nat, pkd at_ (R : Int) = (k : Int) := ⟨(pkd at_ (R : Int)).toNat, by omega⟩
  rw [hk] at HPK hpk
  have hkR : k < R := by omega
  have hkl : k < (pwBk l).length := by rw [hRl]; exact hkR
  have HON := hid (fun W => one_any ki ty lo n de tx co 1 ht1 ht2 hl1 hl2 hn1 hn2 hs W)
  obtain ⟨X, hX⟩ : ∃ X, oneE 1 ty lo n tx = X := ⟨_, rfl⟩
  have hev : evk kts X = 0 := by rw [← hX]; exact evk_one 1 ty lo n tx (by decide) (by decide)
  have hXe : X.n = 1 ∧ X.t = pkd ty 4 ∧ X.st = insM lo 20 ∧ X.en = 20 ∧ X.v = insV ty n tx := by rw [← hX]; exact ⟨rfl, rfl, rfl, rfl, rfl⟩
  have hpt := zAQ ty (m := 4) (by decide)
  obtain ⟨tq, htq⟩ : ∃ z, pkd ty 4 = z := ⟨_, rfl⟩
  obtain ⟨M, hM⟩ : ∃ z, insM lo 20 = z := ⟨_, rfl⟩
  rw [htq, hM] at HON
  rw [htq, hM] at hXe
  rw [htq] at hpt
  rw [← hXe.2.2.2.2] at HON
  obtain ⟨t, rfl⟩ : ∃ t : Nat, tq = (t : Int) := ⟨tq.toNat, by omega⟩
  have ht5 : t < kts.length := by show t < 5; omega
  obtain ⟨p, pr, hw, htk1⟩ := zJ9 l hkl X hev
  have htk3 := zJX l hkl X
  obtain ⟨ok, hok1⟩ : ∃ z, tkb kts [] X [] p = z := ⟨_, rfl⟩
  obtain ⟨mine, hmine⟩ : ∃ z, seq (kts.getD X.t.toNat dT).n p.ty = z := ⟨_, rfl⟩
  have HFIN := hid (tkb_mine X p hok1 hmine)
  rw [hXe.2.1, Int.toNat_natCast, zA5 ht5] at hmine
  rw [hok1] at htk1
  have HTK := hid (fun (tv rv u : Value) (W : World) (hb : Below w.heap.size w W) (hT : Rd W (.row 59 2 (kts.map encY)) tv) (hR : Rd W (.row 56 7 ((pwBk l).map encR)) rv) (hu : Rd W (.row 42 3 (X.v.map encV)) u) => by
    have h9 := zEI kts (pwBk l) (szr_bk l) tv rv (k : Nat) 0 0 X u [] (.slice none 0 0) W hT hR (zAM htk hb) (zAM htr hb) hu (.nil _ _ none 0 (Nat.zero_le _))
    rw [htk1] at h9
    unfold evV at h9
    rw [hXe.1, hXe.2.1, hXe.2.2.1, hXe.2.2.2.1] at h9
    exact h9)
  have HT3 := hid (fun (tv rv u : Value) (W : World) (hb : Below w.heap.size w W) (hT : Rd W (.row 59 2 (kts.map encY)) tv) (hR : Rd W (.row 56 7 ((pwBk l).map encR)) rv) (hu : Rd W (.row 42 3 (X.v.map encV)) u) => by
    have h9 := zEI kts (pwBk l) (szr_bk l) tv rv (k : Nat) 3 0 X u [] (.slice none 0 0) W hT hR (zAM htk hb) (zAM htr hb) hu (.nil _ _ none 0 (Nat.zero_le _))
    rw [htk3] at h9
    unfold evV at h9
    rw [hXe.1, hXe.2.1, hXe.2.2.1, hXe.2.2.2.1] at h9
    exact h9)
  obtain ⟨tn, htn⟩ : ∃ z, kts[t].n = z := ⟨_, rfl⟩
  rw [htn] at hmine
  have HTN := hid (fun (h : t < kts.length) => (show kts[t].n = tn from htn))
  have HMI := hid hmine
  have HW := hid (fun (h : k < (pwBk l).length) => (show (pwBk l)[k].w = p :: pr from hw))
  have HKP := hid hkl
  have HTI := hid ht5
  obtain ⟨XV, hXV⟩ : ∃ z, X.v.map encV = z := ⟨_, rfl⟩
  rw [hXV] at HON HTK HT3
  obtain ⟨lp, L, lc, rfl⟩ := zAE hl
  have i1 : (0 : Int) ≤ (k : Int) := by omega
  have i2 : (k : Int) < (R : Int) := by omega
  have i3 : (0 : Int) ≤ (t : Int) := by omega
  have i4 : (t : Int) < (5 : Int) := by omega
  clear hl htk htr hok ha1 ha2 hR hpk hk hkR hkl hX hev hXe hpt htq hM ht5 hw htk1 htk3 hok1 hmine htn hXV ht1 ht2 hl1 hl2 hn1 hn2 hs hA0 hRl hR1
  go_enter Tryz.func3, Tryz.ntmps3
  go_upto_region 1 with fail
  clear hW0
  go_upto_region 2 with (first
    | (go_at_call 8; refine HBK.out.mono ?_; rintro e w1 ⟨b, rp, rc, rfl, hb, hty, hr, hbl⟩; have HB0 := hid hb; have HTY := hid hty; have HRW := hid hr.rd; have HBL := hid hbl; clear hb hty hr hbl)
    | ((with_reducible show wpList _ _ _ (Oper.mk _ (.store 28 _ _) _ _ _ _ :: _) _ _); refine zAY 28 w1.heap.size 0 [.slice none 0 0, .slice none 0 0] 28 [.slice (some ⟨b + 4, 0, none⟩) 5 5, .slice rp R rc] (heap_alloc_new _ _) ?_; intro w3 hq1 hq2; have HU2 := hid hq1; have HF2 := hid hq2; clear hq1 hq2))
  obtain ⟨bx, hbx⟩ : ∃ x, w1.heap.size = x := ⟨_, rfl⟩
  have hA1 : Below w1.heap.size w1 (w1.alloc (.cells #[.slice none 0 0, .slice none 0 0] 28)) := (Below.refl _ _).alloc (Nat.le_refl _) _
  have hn12 : Below w1.heap.size w1 w3 := zAG hA1 HF2.out (Nat.le_refl _)
  have hB01 := zAA HA0.out HBL.out HA0.out.size
  have HB3 := hid (zAA hB01 hn12 hB01.size)
  have HTY3 : Hid (Rd w3 (.row 59 2 (kts.map encY)) (.slice (some ⟨b + 4, 0, none⟩) 5 5)) := HTY.out.rd.later hn12
  have HRW3 := hid (HRW.out.later hn12)
  have HD3 : Hid (w3.heap[w.heap.size]? = some (.cells #[.int .i64 ki, .int .i64 ty, .int .i64 lo, .int .i64 n, .int .i64 de, .string tx, .bool co] 24 (0, 0))) := (hn12.block _ (Nat.lt_of_lt_of_le (zAD HD0.out) HBL.out.size)).trans ((HBL.out.block _ (zAD HD0.out)).trans HD0.out)
  have HU3 := hid HU2.out
  rw [hbx] at HU3 ⊢
  have hkl := HKP.out
  have hwk := HW.out hkl
  obtain ⟨rq, rd, er, mx1, hat⟩ := zAL lenR HRW3.out
  simp only [Value.slice.injEq] at er
  obtain ⟨rfl, hRl, rfl⟩ := er
  obtain ⟨g, off, rfl, hrd⟩ := hat (by omega)
  obtain ⟨A, r1, o1⟩ := hrd w3 (Below.refl _ _) k hkl
  obtain ⟨v1, v2, v3, v4, v5, z1, o2, oo1⟩ := rdR o1
  rw [hwk] at o2
  obtain ⟨q1, c1_, e1, hm1, hat1⟩ := zAL lenP o2
  obtain ⟨g2, off2, rfl, hrd2⟩ := hat1 (by simp)
  obtain ⟨B, r2, o3⟩ := hrd2 w3 (Below.refl _ _) 0 (by simp)
  obtain ⟨v6, z2, o4⟩ := rdP o3
  obtain ⟨sp, sn, sc, rfl⟩ := zAE o4
  simp only [List.getElem_cons_zero, Nat.zero_mul, Nat.add_zero] at z2 r2
  have HLK : Hid (∀ W, Below w3.heap.size w3 W → W.cell? ⟨g, off + k * 7 + 1, none⟩ = some v1) := fun W hW => (zAP r1 hW) 1 v1 (by rw [z1]; rfl)
  obtain ⟨a1, ha1⟩ : ∃ z, p.va = z := ⟨_, rfl⟩
  obtain ⟨a2, ha2⟩ : ∃ z, p.ty = z := ⟨_, rfl⟩
  obtain ⟨k1, hk1⟩ : ∃ z, p.c.k = z := ⟨_, rfl⟩
  obtain ⟨ol, hol⟩ : ∃ z, p.c.l = z := ⟨_, rfl⟩
  obtain ⟨or_, hor⟩ : ∃ z, p.c.r = z := ⟨_, rfl⟩
  obtain ⟨k8, hk8⟩ : ∃ z, p.w = z := ⟨_, rfl⟩
  obtain ⟨k9, hk9⟩ : ∃ z, p.n = z := ⟨_, rfl⟩
  rw [ha1, ha2, hk1, hol, hor, hk8, hk9] at z2
  subst z2
  have HR2 := hid r2
  obtain ⟨n1, hn1⟩ : ∃ z, (p :: pr).length = z := ⟨_, rfl⟩
  have hn0 : (0 : Int) < (n1 : Int) := by rw [← hn1, List.length_cons]; omega
  rw [hn1] at e1
  subst e1
  rw [ha2] at HMI
  have HF9 := HFIN.out
  rw [hk1] at HF9
  have HFI := hid HF9
  obtain ⟨yp, yc, ey, mx2, haty⟩ := zAL lenY HTY3.out
  simp only [Value.slice.injEq] at ey
  obtain ⟨rfl, my, rfl⟩ := ey
  obtain ⟨g3, off3, e3, hrd3⟩ := haty (by decide)
  simp only [Option.some.injEq, Addr.mk.injEq] at e3
  obtain ⟨rfl, rfl, m3⟩ := e3
  obtain ⟨Y, r4, o5⟩ := hrd3 w3 (Below.refl _ _) t HTI.out
  obtain ⟨v7, z3, oo2⟩ := rdY o5
  rw [HTN.out HTI.out] at z3
  have HYN : Hid (∀ W, Below w3.heap.size w3 W → W.cell? ⟨b + 4, t * 2, none⟩ = some (.string tn)) := fun W hW => by
    have h9 := (zAP r4 hW) 0 (.string tn) (by rw [z3]; rfl)
    simpa using h9
  have HBX : Hid (w.heap.size ≤ bx ∧ bx < w3.heap.size) := ⟨by rw [← hbx]; exact hB01.size, zAD HU3.out⟩
  have c1 : w3.cell? ⟨bx, 1, none⟩ = some (.slice (some ⟨g, off, none⟩) R rc) := by rw [zAB HU3.out]; rfl
  have HRL := hid hRl
  clear hRl mx1 oo1 mx2 my m3 oo2 hbx hA1 hn12 HF2 HBL HTY HRW HU2 HBK hB01 hkl hwk hat hrd r1 o1 z1 o2 hm1 hat1 hrd2 o3 o4 r2 ha1 ha2 hk1 hol hor hk8 hk9 hn1 HF9 haty hrd3 r4 o5 z3 HFIN HW HTN HA0 HD0
  go_upto_region 3 with (go_at_call 9; refine (HPK.out _).mono ?_; rintro e w3 ⟨rfl, rfl⟩)
  have d0 : w3.cell? ⟨w.heap.size, 0, none⟩ = some (.int .i64 ki) := by rw [zAB HD3.out]; rfl
  have d1 : w3.cell? ⟨w.heap.size, 1, none⟩ = some (.int .i64 ty) := by rw [zAB HD3.out]; rfl
  have d2 : w3.cell? ⟨w.heap.size, 2, none⟩ = some (.int .i64 lo) := by rw [zAB HD3.out]; rfl
  have d3 : w3.cell? ⟨w.heap.size, 3, none⟩ = some (.int .i64 n) := by rw [zAB HD3.out]; rfl
  have d4 : w3.cell? ⟨w.heap.size, 4, none⟩ = some (.int .i64 de) := by rw [zAB HD3.out]; rfl
  have d5 : w3.cell? ⟨w.heap.size, 5, none⟩ = some (.string tx) := by rw [zAB HD3.out]; rfl
  have d6 : w3.cell? ⟨w.heap.size, 6, none⟩ = some (.bool co) := by rw [zAB HD3.out]; rfl
  go_upto_region 4 with (first
    | (go_at_call 10; refine (HON.out _).mono ?_; rintro e w4 ⟨v, rfl, hrd, hb4⟩; obtain ⟨up, un, uc, rfl⟩ := zAE hrd; have HRD := hid hrd; have HB34 := hid hb4; clear hrd hb4)
    | ((with_reducible show wpList _ _ _ (Oper.mk _ (.store 35 _ _) _ _ _ _ :: _) _ _); refine zAY 35 w4.heap.size 0 [.int .i64 0, .int .i64 0, .int .i64 0, .int .i64 0, .slice none 0 0] 35 [.int .i64 1, .int .i64 (t : Nat), .int .i64 M, .int .i64 20, .slice up un uc] (heap_alloc_new _ _) ?_; intro w5 hq1 hq2; have HE5 : Hid (w5.heap[w4.heap.size]? = some (.cells #[.int .i64 1, .int .i64 (t : Nat), .int .i64 M, .int .i64 20, .slice up un uc] 35 (0, 0))) := hq1; have HF5 := hid hq2; clear hq1 hq2))
  have hn45 : Below w4.heap.size w4 w5 := zAG ((Below.refl _ _).alloc (Nat.le_refl _) (.cells #[.int .i64 0, .int .i64 0, .int .i64 0, .int .i64 0, .slice none 0 0] 35)) HF5.out (Nat.le_refl _)
  have HB35 := hid (zAA HB34.out hn45 HB34.out.size)
  have HRD5 := hid (HRD.out.later hn45)
  obtain ⟨by_, hby⟩ : ∃ x, w4.heap.size = x := ⟨_, rfl⟩
  rw [hby] at HE5 ⊢
  clear hby hn45 HRD HB34 HF5 d0 d1 d2 d3 d4 d5 d6 c1
  have HU5 : Hid (w5.heap[bx]? = some (.cells #[.slice (some ⟨b + 4, 0, none⟩) 5 5, .slice (some ⟨g, off, none⟩) R rc] 28 (0, 0))) := (HB35.out.block _ HBX.out.2).trans HU3.out
  have HT5 := hid (HTY3.out.later HB35.out)
  have HR5 : Hid (Rd w5 (.row 56 7 ((pwBk l).map encR)) (.slice (some ⟨g, off, none⟩) R rc)) := HRW3.out.later HB35.out
  have HBW5 := hid (zAA HB3.out HB35.out HB3.out.size)
  go_upto_region 5 with (first
    | ((with_reducible show wpList _ _ _ (Oper.mk _ (.load 28 _) _ _ _ _ :: _) _ _); refine wpList_load_mid (by rfl) 28 _ (by rfl) bx 0 (by rfl) [.slice (some ⟨b + 4, 0, none⟩) 5 5, .slice (some ⟨g, off, none⟩) R rc] _ (zAJ HU5.out) Tryz.underlying28 rfl (by kernel_rfl) ?_)
    | ((with_reducible show wpList _ _ _ (Oper.mk _ (.load 35 _) _ _ _ _ :: _) _ _); refine wpList_load_mid (by rfl) 35 _ (by rfl) by_ 0 (by rfl) [.int .i64 1, .int .i64 (t : Nat), .int .i64 M, .int .i64 20, .slice up un uc] _ (zAJ HE5.out) Tryz.underlying35 rfl (by kernel_rfl) ?_)
    | (go_at_call 11; refine (HTK.out _ _ _ _ HBW5.out HT5.out HR5.out HRD5.out).mono ?_; rintro e w6 ⟨rfl, hb6⟩; have HB56 := hid hb6; clear hb6))
  have HU6 : Hid (w6.heap[bx]? = some (.cells #[.slice (some ⟨b + 4, 0, none⟩) 5 5, .slice (some ⟨g, off, none⟩) R rc] 28 (0, 0))) := (HB56.out.block _ (zAD HU5.out)).trans HU5.out
  have HE6 := hid ((HB56.out.block _ (zAD HE5.out)).trans HE5.out)
  have HT6 := hid (HT5.out.later HB56.out)
  have HR6 := hid (HR5.out.later HB56.out)
  have HRD6 := hid (HRD5.out.later HB56.out)
  have HB36 := hid (zAA HB35.out HB56.out HB35.out.size)
  have HBW6 := hid (zAA HB3.out HB36.out HB3.out.size)
  clear HU5 HE5 HT5 HR5 HRD5 HB35 HB56 HBW5 HTK
  go_upto_region 6 with (first
    | ((with_reducible show wpList _ _ _ (Oper.mk _ (.load 28 _) _ _ _ _ :: _) _ _); refine wpList_load_mid (by rfl) 28 _ (by rfl) bx 0 (by rfl) [.slice (some ⟨b + 4, 0, none⟩) 5 5, .slice (some ⟨g, off, none⟩) R rc] _ (zAJ HU6.out) Tryz.underlying28 rfl (by kernel_rfl) ?_)
    | ((with_reducible show wpList _ _ _ (Oper.mk _ (.load 35 _) _ _ _ _ :: _) _ _); refine wpList_load_mid (by rfl) 35 _ (by rfl) by_ 0 (by rfl) [.int .i64 1, .int .i64 (t : Nat), .int .i64 M, .int .i64 20, .slice up un uc] _ (zAJ HE6.out) Tryz.underlying35 rfl (by kernel_rfl) ?_)
    | (go_at_call 11; refine (HT3.out _ _ _ _ HBW6.out HT6.out HR6.out HRD6.out).mono ?_; rintro e w7 ⟨rfl, hb7⟩; have HB67 := hid hb7; clear hb7))
  have HU7 : Hid (w7.heap[bx]? = some (.cells #[.slice (some ⟨b + 4, 0, none⟩) 5 5, .slice (some ⟨g, off, none⟩) R rc] 28 (0, 0))) := (HB67.out.block _ (zAD HU6.out)).trans HU6.out
  have HE7 := hid ((HB67.out.block _ (zAD HE6.out)).trans HE6.out)
  have HB37 := hid (zAA HB36.out HB67.out HB36.out.size)
  have XP := hid (zAP HR2.out HB37.out)
  have c1 : w7.cell? ⟨bx, 1, none⟩ = some (.slice (some ⟨g, off, none⟩) R rc) := by rw [zAB HU7.out]; rfl
  have c2 := HLK.out w7 HB37.out
  clear HU6 HE6 HT6 HR6 HRD6 HB36 HB67 HBW6 HT3 HR2
  go_upto_region 7 with (first
    | ((with_reducible show wpList _ _ _ (Oper.mk _ (.load 48 _) _ _ _ _ :: _) _ _); refine wpList_load_mid (by rfl) 48 _ (by rfl) g2 off2 (by rfl) (ptC a1 a2 k1 (.slice sp sn sc) ol or_ k8 k9) _ XP.out Tryz.underlying48 rfl (by kernel_rfl) ?_)
    | ((with_reducible show wpList _ _ _ (Oper.mk _ (.store 48 _ _) _ _ _ _ :: _) _ _); refine zAY 48 w7.heap.size 0 pt0 48 (ptC a1 a2 k1 (.slice sp sn sc) ol or_ k8 k9) (heap_alloc_new _ _) ?_ (hl := Nat.le_refl 18); intro w8 hq1 hq2; have HP8 : Hid (w8.heap[w7.heap.size]? = some (.cells (ptC a1 a2 k1 (.slice sp sn sc) ol or_ k8 k9).toArray 48 (0, 0))) := hq1; have HF8 := hid hq2; clear hq1 hq2))
  have hn78 : Below w7.heap.size w7 w8 := zAG ((Below.refl _ _).alloc (Nat.le_refl _) (.cells (pt0 : List Value).toArray 48)) HF8.out (Nat.le_refl _)
  have HB38 := hid (zAA HB37.out hn78 HB37.out.size)
  have HBW8 := hid (zAA HB3.out HB38.out HB3.out.size)
  obtain ⟨bp, hbp⟩ : ∃ x, w7.heap.size = x := ⟨_, rfl⟩
  rw [hbp] at HP8 ⊢
  have b0 : w8.cell? ⟨bx, 0, none⟩ = some (.slice (some ⟨b + 4, 0, none⟩) 5 5) := by rw [zAB ((hn78.block _ (zAD HU7.out)).trans HU7.out)]; rfl
  have e1 : w8.cell? ⟨by_, 1, none⟩ = some (.int .i64 (t : Nat)) := by rw [zAB ((hn78.block _ (zAD HE7.out)).trans HE7.out)]; rfl
  have y1 : w8.cell? ⟨bp, 1, none⟩ = some (.string a2) := by rw [zAB HP8.out]; rfl
  have y2 : w8.cell? ⟨bp, 2, none⟩ = some (.int .i64 k1) := by rw [zAB HP8.out]; rfl
  have tn0 := HYN.out w8 HB38.out
  clear hbp hn78 HU7 HE7 HB37 XP c1 c2 HF8 HP8 HLK HYN
  have hq : (tn.toList == a2.toList) = mine := HMI.out
  obtain ⟨hf1, hf2⟩ := HFI.out
  clear HMI HFI
  have j1 : (0 : Int) ≤ (t : Int) := by omega
  go_upto_region 9 with fail
  go_quiet (fail)
  go_wp2_with fail
  all_goals
    go_ret
    refine ⟨zAZ ?_, zGH HBW8.out _⟩
    first
      | rfl
      | (have e9 := hf2 (by assumption)
         cases mine <;> cases ok <;> first | rfl | (cases e9; done) | exact absurd rfl (by assumption))
end Go.Proofs.YtnlmknbhppdliaaGreatDoor.Chk
namespace Go.Proofs.YtnlmknbhppdliaaGreatDoor.Chk
open Go.Deep Go.ChangeShapes Go.WideShapes Go.ChangeAt Go.RowKit Go.Maps
set_option linter.unusedVariables false
set_option linter.unusedSimpArgs false
set_option maxRecDepth 20000
variable {H : Type} {enc : TypeId × Value → H} {W : World} {base b0 : Nat} {r : Reach} {spare : Nat → Bool} {held : Bool} {v : Value} {d : DataW H} {p : List MemPlace}
def Tr (enc : TypeId × Value → H) (W : World) (base : Nat) (spare : Nat → Bool) (held : Bool) (n : Nat) (t : TypeId) (cs : List Value) : Prop := ∃ x, DataW.trod enc Tryz.prog W base spare held n t cs = some x
theorem tr_str {n : Nat} {cs : List Value} (h : Tr enc W base spare held n 9 cs) : ∃ s : ByteArray, cs = [.string s] ∧ s.size ≤ maxLen := by
  obtain ⟨x, h⟩ := h
  obtain ⟨a, e, _, h2⟩ := DataW.trod_string Tryz.underlying9 h
  exact ⟨a, e, h2⟩
theorem zH1 {n : Nat} {t : TypeId} {fs : Array Field} {cs : List Value} (ht : Tryz.prog.underlying t = some (.struct fs)) (h : Tr enc W base spare held n t cs) : ∃ m, n = m + 1 ∧ cs.length = Tryz.prog.cellsOf t ∧ ∀ (i : Nat) (f : Field), fs[i]? = some f → Tr enc W base spare held m f.type ((cs.drop f.offset).take (Tryz.prog.cellsOf f.type)) := by
  obtain ⟨x, h⟩ := h
  obtain ⟨xs, m, e, _, hl, hlen, hf⟩ := DataW.trod_struct ht h
  refine ⟨m, e, hl, fun i f hfi => ?_⟩
  have h1 := hf i f hfi
  have hi : i < xs.length := by rw [hlen]; exact (Array.getElem?_eq_some_iff.1 hfi).1
  rw [List.getElem?_eq_getElem hi] at h1
  exact ⟨_, h1⟩
theorem zF8 {a : Addr} {z : Nat} {cs : List Value} (h : W.cells? base a z = some cs) : cs.length = z ∧ ∀ j, j < z → W.cell? (a.add j) = cs[j]? := by
  unfold World.cells? at h
  split at h
  . exact ⟨by simpa using mapM_some_length h, fun j hj => mapM_some_get h j j (by rw [List.getElem?_range hj])⟩
  . cases h
theorem zJB {w : World} {g o : Nat} {xs ys : List Value} (h : w.rangeAt g o xs) (k : w.rangeAt g (o + xs.length) ys) : w.rangeAt g o (xs ++ ys) := fun j u hu => by
 by_cases c : j < xs.length
 . rw [List.getElem?_append_left c] at hu
   exact h j u hu
 . rw [List.getElem?_append_right (by omega)] at hu
   have := k (j - xs.length) u hu
   rw [show o + xs.length + (j - xs.length) = o + j by omega] at this
   exact this
theorem zIX {α : Type} {enc : α → List Dat} {z g off : Nat} {Q : α → Prop} : ∀ (len : Nat), (∀ i, i < len → ∃ x, Q x ∧ ∃ cs : List Value, cs.length = z ∧ W.rangeAt g (off + i * z) cs ∧ RdL W (enc x) cs) →
  ∃ (l : List α) (xs : List Value), l.length = len ∧ xs.length = len * z ∧ W.rangeAt g off xs ∧ RdL W (l.map enc).flatten xs ∧ ∀ x, x ∈ l → Q x
 | 0, _ => ⟨[], [], rfl, by simp, fun j u hu => by simp at hu, RdL.nil _, fun x hx => by cases hx⟩
 | n + 1, h => by
  obtain ⟨l, xs, h1, h2, h3, h4, h5⟩ := zIX n (fun i hi => h i (by omega))
  obtain ⟨x, hq, cs, c1, c2, c3⟩ := h n (by omega)
  refine ⟨l ++ [x], xs ++ cs, by simp [h1], by rw [List.length_append, h2, c1, Nat.add_mul, Nat.one_mul], zJB h3 (by rw [h2]; exact c2), ?_, fun y hy => ?_⟩
  . rw [List.map_append, List.flatten_append]
    exact zBU h4 (by simpa using c3)
  . rcases List.mem_append.1 hy with hy | hy
    . exact h5 y hy
    . rw [List.mem_singleton.1 hy]; exact hq
theorem zFZ {α : Type} {ec : α → List Dat} {z : Nat} {t e : TypeId} {n : Nat} {cs : List Value} {Q : α → Prop} (hu : Tryz.prog.underlying t = some (.slice e)) (hc : Tryz.prog.cellsOf e = z) (hz : 0 < z) (h : Tr enc W base spare held n t cs)
   (hel : ∀ m, m < n → ∀ cs', Tr enc W base spare held m e cs' → ∃ x, Q x ∧ RdL W (ec x) cs') : ∃ (v : Value) (l : List α), cs = [v] ∧ Rd W (.row e z (l.map ec)) v ∧ ∀ x, x ∈ l → Q x := by
 obtain ⟨x, h⟩ := h
 rcases DataW.trod_slice hu h with ⟨rfl, _⟩ | ⟨a, len, cap, elems, rest, m, hm, rfl, _, _, hl, hmx, hlen, hg, _, _⟩
 . exact ⟨_, [], rfl, .nil e z none 0 (Nat.zero_le _), fun x hx => by cases hx⟩
 . have each : ∀ i, i < len → ∃ cs', W.cells? base (a.add (i * z)) z = some cs' ∧ Tr enc W base spare held m e cs' := fun i hi => by
     have h1 := hg i hi
     rw [hc, List.getElem?_eq_getElem (by omega)] at h1
     cases hq : W.cells? base (a.add (i * z)) z with
     | none => rw [hq] at h1; cases h1
     | some cs' => rw [hq] at h1; exact ⟨cs', rfl, _, h1⟩
   by_cases h0 : len = 0
   . subst h0
     exact ⟨_, [], rfl, .nil e z (some a) cap hmx, fun x hx => by cases hx⟩
   . have hsp : a.spot = none := by
      obtain ⟨cs', h1, _⟩ := each 0 (by omega)
      obtain ⟨h2, h3⟩ := zF8 h1
      have h4 := h3 0 (by omega)
      rw [List.getElem?_eq_getElem (by omega)] at h4
      have h5 := zI8 h4
      cases hxs : a.spot with
      | none => rfl
      | some q =>
       exfalso
       cases a
       simp at hxs
       subst hxs
       revert h5
       simp [Addr.add]
     obtain ⟨g, off, rfl⟩ : ∃ g off, a = ⟨g, off, none⟩ := ⟨a.block, a.off, by cases a; simp at hsp; subst hsp; rfl⟩
     obtain ⟨l, xs, l1, l2, l3, l4, l5⟩ := zIX (W := W) (enc := ec) (z := z) (g := g) (off := off) (Q := Q) len (fun i hi => by
      obtain ⟨cs', h1, h2⟩ := each i hi
      obtain ⟨h3, h4⟩ := zF8 h1
      obtain ⟨x, hx, hr⟩ := hel m (by omega) cs' h2
      refine ⟨x, hx, cs', h3, fun j u hj => ?_, hr⟩
      have hjl : j < z := by rw [← h3]; exact (List.getElem?_eq_some_iff.1 hj).1
      have h5 := h4 j hjl
      rw [Addr.add_mid, Addr.add_mid, hj] at h5
      exact h5)
     refine ⟨_, l, rfl, ?_, l5⟩
     have := Rd.row (w := W) e z (l.map ec) g off cap xs (by simp; omega) (by simp; omega) hmx l3 l4.1 l4.2
     rw [List.length_map, l1] at this
     exact this
/-! Fields, one behind the other. -/
theorem zA8 {ds es : List Dat} {cs : List Value} {a z b : Nat} (h : RdL W ds ((cs.drop a).take z)) (hb : a + z = b) (k : RdL W es (cs.drop b)) : RdL W (ds ++ es) (cs.drop a) := by
  subst hb
  have e : cs.drop a = (cs.drop a).take z ++ cs.drop (a + z) := by rw [← List.drop_drop, List.take_append_drop]
  rw [e]
  exact zBU h k
theorem zG7 {cs : List Value} {n : Nat} (h : cs.length = n) : RdL W [] (cs.drop n) := by
  rw [List.drop_of_length_le (by omega)]
  exact RdL.nil _
theorem zBK {v : Value} {cs : List Value} (h : cs = [v]) : RdL W [.lit v] cs := by subst h; exact RdL.cons (.lit _) (RdL.nil _)
theorem zER {d : Dat} {v : Value} {cs : List Value} (h : cs = [v]) (k : Rd W d v) : RdL W [d] cs := by subst h; exact RdL.cons k (RdL.nil _)
theorem k3 : Tryz.prog.cellsOf 3 = 1 := by kernel_rfl
theorem k9 : Tryz.prog.cellsOf 9 = 1 := by kernel_rfl
section
variable {H : Type} {enc : TypeId × Value → H} {W : World} {base b0 : Nat} {r : Reach} {spare : Nat → Bool} {held : Bool} {v : Value} {d : DataW H} {p : List MemPlace}
theorem zA6 {n : Nat} {cs : List Value} (h : Tr enc W base spare held n 3 cs) : ∃ a, cs = [.int .i64 a] ∧ zBE a := by
  obtain ⟨x, h⟩ := h
  obtain ⟨a, e, _, hw⟩ := DataW.trod_int Tryz.underlying3 h
  exact ⟨a, e, bounds_i64 hw⟩
theorem kCa : Tryz.prog.cellsOf 117 = 5 := by kernel_rfl
theorem kBd : Tryz.prog.cellsOf 122 = 6 := by kernel_rfl
theorem kPl : Tryz.prog.cellsOf 88 = 5 := by kernel_rfl
theorem ksCa : Tryz.prog.cellsOf 85 = 1 := by kernel_rfl
theorem ksBd : Tryz.prog.cellsOf 86 = 1 := by kernel_rfl
theorem zG8 {n : Nat} {cs : List Value} (h : Tr enc W base spare held n 117 cs) : ∃ c : Cst, c.ok ∧ RdL W (zBC c) cs := by
  obtain ⟨m, hm, hl, hf⟩ := zH1 Tryz.underlying117 h
  rw [kCa] at hl
  have h0 : Tr enc W base spare held m 3 ((cs.drop 0).take (Tryz.prog.cellsOf 3)) := hf 0 _ rfl
  rw [k3] at h0
  obtain ⟨a0, e0, q0⟩ := zA6 h0
  have h1 : Tr enc W base spare held m 3 ((cs.drop 1).take (Tryz.prog.cellsOf 3)) := hf 1 _ rfl
  rw [k3] at h1
  obtain ⟨a1, e1, q1⟩ := zA6 h1
  have h2 : Tr enc W base spare held m 3 ((cs.drop 2).take (Tryz.prog.cellsOf 3)) := hf 2 _ rfl
  rw [k3] at h2
  obtain ⟨a2, e2, q2⟩ := zA6 h2
  have h3 : Tr enc W base spare held m 3 ((cs.drop 3).take (Tryz.prog.cellsOf 3)) := hf 3 _ rfl
  rw [k3] at h3
  obtain ⟨a3, e3, q3⟩ := zA6 h3
  have h4 : Tr enc W base spare held m 3 ((cs.drop 4).take (Tryz.prog.cellsOf 3)) := hf 4 _ rfl
  rw [k3] at h4
  obtain ⟨a4, e4, q4⟩ := zA6 h4
  exact ⟨⟨a0, a1, a2, a3, a4⟩, ⟨q0, q1, q2, q3, q4⟩, zA8 (a := 0) (z := 1) (zBK e0) rfl (zA8 (z := 1) (zBK e1) rfl (zA8 (z := 1) (zBK e2) rfl (zA8 (z := 1) (zBK e3) rfl (zA8 (z := 1) (zBK e4) rfl (zG7 hl)))))⟩
theorem tr_bond {n : Nat} {cs : List Value} (h : Tr enc W base spare held n 122 cs) : ∃ c : Bd6, c.ok ∧ RdL W (zDG c) cs := by
  obtain ⟨m, hm, hl, hf⟩ := zH1 Tryz.underlying122 h
  rw [kBd] at hl
  have h0 : Tr enc W base spare held m 3 ((cs.drop 0).take (Tryz.prog.cellsOf 3)) := hf 0 _ rfl
  rw [k3] at h0
  obtain ⟨a0, e0, q0⟩ := zA6 h0
  have h1 : Tr enc W base spare held m 3 ((cs.drop 1).take (Tryz.prog.cellsOf 3)) := hf 1 _ rfl
  rw [k3] at h1
  obtain ⟨a1, e1, q1⟩ := zA6 h1
  have h2 : Tr enc W base spare held m 3 ((cs.drop 2).take (Tryz.prog.cellsOf 3)) := hf 2 _ rfl
  rw [k3] at h2
  obtain ⟨a2, e2, q2⟩ := zA6 h2
  have h3 : Tr enc W base spare held m 3 ((cs.drop 3).take (Tryz.prog.cellsOf 3)) := hf 3 _ rfl
  rw [k3] at h3
  obtain ⟨a3, e3, q3⟩ := zA6 h3
  have h4 : Tr enc W base spare held m 3 ((cs.drop 4).take (Tryz.prog.cellsOf 3)) := hf 4 _ rfl
  rw [k3] at h4
  obtain ⟨a4, e4, q4⟩ := zA6 h4
  have h5 : Tr enc W base spare held m 3 ((cs.drop 5).take (Tryz.prog.cellsOf 3)) := hf 5 _ rfl
  rw [k3] at h5
  obtain ⟨a5, e5, q5⟩ := zA6 h5
  exact ⟨⟨a0, a1, a2, a3, a4, a5⟩, ⟨q0, q1, q2, q3, q4, q5⟩, zA8 (a := 0) (z := 1) (zBK e0) rfl (zA8 (z := 1) (zBK e1) rfl (zA8 (z := 1) (zBK e2) rfl (zA8 (z := 1) (zBK e3) rfl (zA8 (z := 1) (zBK e4) rfl (zA8 (z := 1) (zBK e5) rfl (zG7 hl))))))⟩
theorem tr_plot {n : Nat} {cs : List Value} (h : Tr enc W base spare held n 88 cs) : ∃ c : Plt, c.ok ∧ RdL W (zFU c) cs := by
  obtain ⟨m, hm, hl, hf⟩ := zH1 Tryz.underlying88 h
  rw [kPl] at hl
  have h0 : Tr enc W base spare held m 85 ((cs.drop 0).take (Tryz.prog.cellsOf 85)) := hf 0 _ rfl
  rw [ksCa] at h0
  obtain ⟨v0, l0, e0, q0, o0⟩ := zFZ (ec := zBC) (z := 5) (Q := fun c => c.ok) Tryz.underlying85 kCa (by omega) h0 (fun m' hm' cs' h' => zG8 h')
  have h1 : Tr enc W base spare held m 85 ((cs.drop 1).take (Tryz.prog.cellsOf 85)) := hf 1 _ rfl
  rw [ksCa] at h1
  obtain ⟨v1, l1, e1, q1, o1⟩ := zFZ (ec := zBC) (z := 5) (Q := fun c => c.ok) Tryz.underlying85 kCa (by omega) h1 (fun m' hm' cs' h' => zG8 h')
  have h2 : Tr enc W base spare held m 85 ((cs.drop 2).take (Tryz.prog.cellsOf 85)) := hf 2 _ rfl
  rw [ksCa] at h2
  obtain ⟨v2, l2, e2, q2, o2⟩ := zFZ (ec := zBC) (z := 5) (Q := fun c => c.ok) Tryz.underlying85 kCa (by omega) h2 (fun m' hm' cs' h' => zG8 h')
  have h3 : Tr enc W base spare held m 86 ((cs.drop 3).take (Tryz.prog.cellsOf 86)) := hf 3 _ rfl
  rw [ksBd] at h3
  obtain ⟨v3, l3, e3, q3, o3⟩ := zFZ (ec := zDG) (z := 6) (Q := fun c => c.ok) Tryz.underlying86 kBd (by omega) h3 (fun m' hm' cs' h' => tr_bond h')
  have h4 : Tr enc W base spare held m 3 ((cs.drop 4).take (Tryz.prog.cellsOf 3)) := hf 4 _ rfl
  rw [k3] at h4
  obtain ⟨a4, e4, q4'⟩ := zA6 h4
  exact ⟨⟨l0, l1, l2, l3, a4⟩, ⟨o0, o1, o2, o3, q4'⟩, zA8 (a := 0) (z := 1) (zER e0 q0) rfl (zA8 (z := 1) (zER e1 q1) rfl (zA8 (z := 1) (zER e2 q2) rfl (zA8 (z := 1) (zER e3 q3) rfl (zA8 (z := 1) (zBK e4) rfl (zG7 hl)))))⟩
theorem open_plots (hv : Value.okWide Tryz.prog W r b0 22 v) (h : DataW.Trod enc Tryz.prog W base spare held 22 v d p) : ∃ l : List Plt, Rd W (.row 88 5 (l.map zFU)) v ∧ ∀ c, c ∈ l → c.ok := by
  obtain ⟨s, n, c, rfl⟩ := okWide_slice Tryz.underlying22 hv
  obtain ⟨fuel, hf⟩ := h
  have h : Tr enc W base spare held fuel 22 [.slice s n c] := ⟨_, by simpa [Value.cells] using hf⟩
  obtain ⟨v, l, e, q, o⟩ := zFZ (ec := zFU) (z := 5) (Q := fun c => c.ok) Tryz.underlying22 kPl (by omega) h (fun m' hm' cs' h' => tr_plot h')
  simp only [List.cons.injEq, and_true] at e
  subst e
  exact ⟨l, q, o⟩
end
section
variable {H : Type} {enc : TypeId × Value → H} {W : World} {base b0 : Nat} {r : Reach} {spare : Nat → Bool} {held : Bool} {v : Value} {d : DataW H} {p : List MemPlace}
theorem tr_bool {n : Nat} {cs : List Value} (h : Tr enc W base spare held n 4 cs) : ∃ b, cs = [.bool b] := by
  obtain ⟨x, h⟩ := h
  obtain ⟨b, e, _⟩ := DataW.trod_bool Tryz.underlying4 h
  exact ⟨b, e⟩
theorem k4 : Tryz.prog.cellsOf 4 = 1 := by kernel_rfl
theorem kDe : Tryz.prog.cellsOf 24 = 7 := by kernel_rfl
theorem open_deed (hv : Value.okWide Tryz.prog W r b0 24 v) (h : DataW.Trod enc Tryz.prog W base spare held 24 v d p) : ∃ (a0 a1 a2 a3 a4 : Int) (a5 : ByteArray) (a6 : Bool), v = .agg #[.int .i64 a0, .int .i64 a1, .int .i64 a2, .int .i64 a3, .int .i64 a4, .string a5, .bool a6] ∧ zBE a1 ∧ zBE a2 ∧ zBE a3 ∧ a5.size ≤ maxLen := by
 obtain ⟨cs, rfl, hsz⟩ := okWide_struct Tryz.underlying24 hv
 obtain ⟨fuel, hf⟩ := h
 have h : Tr enc W base spare held fuel 24 cs.toList := ⟨_, by simpa [Value.cells] using hf⟩
 clear hf
 obtain ⟨m, hm, hl, hf⟩ := zH1 Tryz.underlying24 h
 rw [kDe] at hl
 have h0 : Tr enc W base spare held m 3 ((cs.toList.drop 0).take (Tryz.prog.cellsOf 3)) := hf 0 _ rfl
 rw [k3] at h0
 have h1 : Tr enc W base spare held m 3 ((cs.toList.drop 1).take (Tryz.prog.cellsOf 3)) := hf 1 _ rfl
 rw [k3] at h1
 have h2 : Tr enc W base spare held m 3 ((cs.toList.drop 2).take (Tryz.prog.cellsOf 3)) := hf 2 _ rfl
 rw [k3] at h2
 have h3 : Tr enc W base spare held m 3 ((cs.toList.drop 3).take (Tryz.prog.cellsOf 3)) := hf 3 _ rfl
 rw [k3] at h3
 have h4 : Tr enc W base spare held m 3 ((cs.toList.drop 4).take (Tryz.prog.cellsOf 3)) := hf 4 _ rfl
 rw [k3] at h4
 have h5 : Tr enc W base spare held m 9 ((cs.toList.drop 5).take (Tryz.prog.cellsOf 9)) := hf 5 _ rfl
 rw [k9] at h5
 have h6 : Tr enc W base spare held m 4 ((cs.toList.drop 6).take (Tryz.prog.cellsOf 4)) := hf 6 _ rfl
 rw [k4] at h6
 obtain ⟨a0, e0, u0⟩ := zA6 h0
 obtain ⟨a1, e1, u1⟩ := zA6 h1
 obtain ⟨a2, e2, u2⟩ := zA6 h2
 obtain ⟨a3, e3, u3⟩ := zA6 h3
 obtain ⟨a4, e4, u4⟩ := zA6 h4
 obtain ⟨a5, e5, u5⟩ := tr_str h5
 obtain ⟨a6, e6⟩ := tr_bool h6
 refine ⟨a0, a1, a2, a3, a4, a5, a6, ?_, u1, u2, u3, u5⟩
 obtain ⟨l⟩ := cs
 match l, hl with
 | [x0, x1, x2, x3, x4, x5, x6], _ =>
  simp at e0 e1 e2 e3 e4 e5 e6
  rw [e0, e1, e2, e3, e4, e5, e6]
end
end Go.Proofs.YtnlmknbhppdliaaGreatDoor.Chk
