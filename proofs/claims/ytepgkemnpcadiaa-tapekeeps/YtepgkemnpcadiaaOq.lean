/-
  Two operations of raw numbers; one behind an Advance.
-/
import Derived.Test.YtepgkemnpcadiaaOp
namespace Go.Proofs.Ytepgkemnpcadiaa
open Go.ChangeShapes Go.WideShapes Go.ChangeAt Go.RowKit Go.Maps
set_option linter.unusedVariables false
set_option linter.unusedSimpArgs false
set_option maxRecDepth 20000
def opC (o : Opn) (u : Value) : List Value := [.int .i64 o.k, .string o.s, .int .i64 o.a, .int .i64 o.b, u, .int .i64 o.d, .bool o.c]
def advO (x : Int) (c : Bool) : Opn := ⟨2, ⟨#[]⟩, 0, 0, [], x, c⟩
def ty5 (j : Nat) : ByteArray := if j = 0 then ⟨#[97]⟩ else if j = 1 then ⟨#[98]⟩ else if j = 2 then ⟨#[99]⟩ else if j = 3 then ⟨#[100]⟩ else ⟨#[101]⟩
def qryO (j : Nat) : Opn := ⟨3, ty5 j, 0, 0, [], 0, false⟩
/-- The operation of raw numbers, behind an Advance. -/
def rawO (ki ty lo n de : Int) (tx : ByteArray) (co : Bool) : Opn := if pk ki 6 < 3 then insO ty lo n tx (pk n 7) else if pk ki 6 < 5 then advO (pk de 7) co else qryO (pk ty 5).toNat
theorem World.ownsRow.below {w w' : World} {B e z n : Nat} {v : Value} {xs : List Value} (h : w.ownsRow B e z v n xs) (b : Below w.heap.size w w') : w'.ownsRow B e z v n xs := owns_same h fun i hi => b.block i (own_block_some h hi).2
theorem Grw.below {B : Nat} {w w1 w2 : World} {v v' : Value} {e z n : Nat} {xs : List Value} (h : Below B w w1) (g : Grw w1 v w2 v') (hv : w1.ownsRow B e z v n xs) (hB : B ≤ w1.heap.size) : Below B w w2 :=
  h.grown g.1 hB (fun k hk => (World.ownsRow.lt hv k hk).1)
theorem VO.grw {w1 w2 : World} {B e z n C : Nat} {v v' u : Value} {xs : List Value} {l : List Vl} (h : VO w1 C u l) (g : Grw w1 v w2 v') (hv : w1.ownsRow B e z v n xs) (he : e ≠ 79) : VO w2 C u l :=
  h.same fun i hi => g.1.block i (h.lo hi).2 fun c => by
    rcases hv.2 with ⟨rfl, _⟩ | ⟨q, cap, cur, rfl, _, h2, _⟩
    · simp [Value.ownBlock] at c
    · exact own_ne h h2 he (by rw [hi, c]; rfl)
set_option maxHeartbeats 32000000 in
theorem ops2_any (ki ty lo n de : Int) (tx : ByteArray) (co : Bool) (hk1 : -9223372036854775808 ≤ ki) (hk2 : ki ≤ 9223372036854775807) (ht1 : -9223372036854775808 ≤ ty) (ht2 : ty ≤ 9223372036854775807) (hl1 : -9223372036854775808 ≤ lo) (hl2 : lo ≤ 9223372036854775807) (hn1 : -9223372036854775808 ≤ n) (hn2 : n ≤ 9223372036854775807) (hd1 : -9223372036854775808 ≤ de) (hd2 : de ≤ 9223372036854775807) (hs : tx.size ≤ maxLen) (w : World) (g : Nat)
    (hg : w.heap[g]? = some (.cells #[.int .i64 3, .int .i64 0, .int .i64 0, .int .i64 0, .int .i64 n, .string ⟨#[]⟩, .bool false, .int .i64 ki, .int .i64 ty, .int .i64 lo, .int .i64 n, .int .i64 de, .string tx, .bool co] 70 (0, 0))) :
    Calls Try.prog 77 #[.slice (some ⟨g, 0, none⟩) 2 2, .int .i64 2] w fun e w' => ∃ v u, e = .returned v ∧ w'.ownsRow w.heap.size 26 7 v 2 (opC (advO (pk n 7) false) (.slice none 0 0) ++ opC (rawO ki ty lo n de tx co) u) ∧ VO w' w.heap.size u (rawO ki ty lo n de tx co).l ∧ Below w.heap.size w w' := by
  have HPK := hid (fun W => picked_any ki 6 W hk1 hk2 (by decide) (by decide))
  have HP3 : Hid (∀ W, Calls Try.prog 23 #[.int .i64 3, .int .i64 6] W fun e w' => e = .returned (.int .i64 3) ∧ w' = W) := fun W => by
    have h := picked_any 3 6 W (by decide) (by decide) (by decide) (by decide)
    have e3 : pk 3 6 = 3 := by decide
    rw [e3] at h
    exact h
  have HPN := hid (fun W => picked_any n 7 W hn1 hn2 (by decide) (by decide))
  have HPD := hid (fun W => picked_any de 7 W hd1 hd2 (by decide) (by decide))
  have HPT := hid (fun W => picked_any ty 5 W ht1 ht2 (by decide) (by decide))
  have hn7 := pk_bd n 7 (by decide)
  have HIN : Hid (∀ W, Calls Try.prog 82 #[.agg #[.int .i64 ki, .int .i64 ty, .int .i64 lo, .int .i64 n, .int .i64 de, .string tx, .bool co], .int .i64 (pk n 7)] W fun e w' => ∃ v, e = .returned (opv (insO ty lo n tx (pk n 7)) v) ∧ VO w' (W.heap.size + 2) v (insO ty lo n tx (pk n 7)).l ∧ Below W.heap.size W w') := fun W => insert_any ki ty lo n de tx co (pk n 7) ht1 ht2 hl1 hl2 hn1 hn2 hs (by omega) (by omega) W
  have hq5 := pk_bd ty 5 (by decide)
  have hq6 := pk_bd ki 6 (by decide)
  have HG := hid hg
  have HGL := hid (blk_lt hg)
  have HRW : Hid (∀ o, rawO ki ty lo n de tx co = o ↔ (if pk ki 6 < 3 then insO ty lo n tx (pk n 7) else if pk ki 6 < 5 then advO (pk de 7) co else qryO (pk ty 5).toNat) = o) := fun o => Iff.rfl
  obtain ⟨O, hO⟩ : ∃ O, rawO ki ty lo n de tx co = O := ⟨_, rfl⟩
  have hO2 := (HRW.out O).1 hO
  rw [hO]
  obtain ⟨k6, hk6⟩ : ∃ z, pk ki 6 = z := ⟨_, rfl⟩
  obtain ⟨n7, hn7'⟩ : ∃ z, pk n 7 = z := ⟨_, rfl⟩
  obtain ⟨d7, hd7⟩ : ∃ z, pk de 7 = z := ⟨_, rfl⟩
  obtain ⟨t5, ht5⟩ : ∃ z, pk ty 5 = z := ⟨_, rfl⟩
  rw [hk6] at HPK hO2 hq6
  rw [hn7'] at HPN hO2 hn7 HIN ⊢
  rw [hd7] at HPD hO2
  rw [ht5] at HPT hO2 hq5
  obtain ⟨I, hI⟩ : ∃ I, insO ty lo n tx n7 = I := ⟨_, rfl⟩
  rw [hI] at HIN hO2
  have HOE := hid hO2
  obtain ⟨j5, rfl⟩ : ∃ j : Nat, t5 = (j : Int) := ⟨t5.toNat, by omega⟩
  have hj5 : j5 < 5 := by omega
  have HJ5 := hid hj5
  have HQ6 := hid hq6
  have HN7 := hid hn7
  have HW7 : Hid (wrap64 n7 = n7) := by unfold Hid wrap64; omega
  obtain ⟨ik, is, ia, ib, il, id, ic⟩ := I
  unfold opv at HIN
  simp only at HIN
  clear hI hk1 hk2 ht1 ht2 hl1 hl2 hn1 hn2 hd1 hd2 hs hg HRW hO hO2 hk6 hn7' hd7 ht5 hq5 hq6 hn7 hj5
  go_enter Try.func77, Try.ntmps77
  go_wp2_with fail
  go_loopw [5, 6, 7] (fun nw out i wr => (nw = .int .i64 0 ∧ out = .slice none 0 0 ∧ i = .int .i64 0 ∧ w = wr) ∨ (nw = .int .i64 n7 ∧ i = .int .i64 1 ∧ wr.ownsRow w.heap.size 26 7 out 1 (opC (advO n7 false) (.slice none 0 0)) ∧ Below w.heap.size w wr) ∨ (i = .int .i64 2 ∧ ∃ u, wr.ownsRow w.heap.size 26 7 out 2 (opC (advO n7 false) (.slice none 0 0) ++ opC O u) ∧ VO wr w.heap.size u O.l ∧ Below w.heap.size w wr)) (fun _ _ i _ => 3 - (intOf i).toNat)
  case atStart => exact Or.inl ⟨rfl, rfl, rfl, rfl⟩
  case round =>
    rcases hrel with ⟨rfl, rfl, rfl, rfl⟩ | ⟨rfl, rfl, hown, hB⟩ | ⟨rfl, u, hown, hvo, hB⟩
    · have HGW : Hid (w.heap[g]? = some (.cells #[.int .i64 3, .int .i64 0, .int .i64 0, .int .i64 0, .int .i64 n, .string ⟨#[]⟩, .bool false, .int .i64 ki, .int .i64 ty, .int .i64 lo, .int .i64 n, .int .i64 de, .string tx, .bool co] 70 (0, 0))) := HG.out
      have x0 : w.cell? ⟨g, 0, none⟩ = some (.int .i64 3) := by rw [cell_of_blk HGW.out]; rfl
      have x1 : w.cell? ⟨g, 1, none⟩ = some (.int .i64 0) := by rw [cell_of_blk HGW.out]; rfl
      have x2 : w.cell? ⟨g, 2, none⟩ = some (.int .i64 0) := by rw [cell_of_blk HGW.out]; rfl
      have x3 : w.cell? ⟨g, 3, none⟩ = some (.int .i64 0) := by rw [cell_of_blk HGW.out]; rfl
      have x4 : w.cell? ⟨g, 4, none⟩ = some (.int .i64 n) := by rw [cell_of_blk HGW.out]; rfl
      have x5 : w.cell? ⟨g, 5, none⟩ = some (.string ⟨#[]⟩) := by rw [cell_of_blk HGW.out]; rfl
      have x6 : w.cell? ⟨g, 6, none⟩ = some (.bool false) := by rw [cell_of_blk HGW.out]; rfl
      have HBS : Hid (w.heap.size ≤ w.heap.size) := Nat.le_refl _
      go_wp2_with ((with_reducible show wpList _ _ _ (Oper.mk _ (.store 70 _ _) _ _ _ _ :: _) _ _); refine wp_st (by rfl) 70 _ _ (by rfl) w.heap.size 0 [.int .i64 0, .int .i64 0, .int .i64 0, .int .i64 0, .int .i64 0, .string ⟨#[]⟩, .bool false] 70 (.agg #[.int .i64 3, .int .i64 0, .int .i64 0, .int .i64 0, .int .i64 n, .string ⟨#[]⟩, .bool false]) [.int .i64 3, .int .i64 0, .int .i64 0, .int .i64 0, .int .i64 n, .string ⟨#[]⟩, .bool false] (by rfl) (by rfl) (by rfl) (heap_alloc_new _ _) (by simp) (by kernel_rfl) (by rfl) ?_; intro w5 hq1 hq2; have HU5 := hid hq1; have HF5 := hid hq2; have d0 : w5.cell? ⟨w.heap.size, 0, none⟩ = some (.int .i64 3) := (by rw [cell_of_blk hq1]; rfl); clear hq1 hq2)
      clear x0 x1 x2 x3 x4 x5 x6
      have HB5 : Hid (Below w.heap.size w w5) := below_fr ((Below.refl _ w).alloc (Nat.le_refl _) _) HF5.out (Nat.le_refl _)
      have HBS : Hid (w.heap.size ≤ w5.heap.size) := HB5.out.size
      have d4 : w5.cell? ⟨w.heap.size, 4, none⟩ = some (.int .i64 n) := by rw [cell_of_blk HU5.out]; rfl
      have d6 : w5.cell? ⟨w.heap.size, 6, none⟩ = some (.bool false) := by rw [cell_of_blk HU5.out]; rfl
      go_wp2_with fail
      refine (HP3.out _).mono ?_
      rintro e w5 ⟨rfl, rfl⟩
      go_wp2_with fail
      refine (HPN.out _).mono ?_
      rintro e w5 ⟨rfl, rfl⟩
      go_wp2_with (at_builtin; go_loud (refine wp_pushR 26 102 _ 7 80 infoOp Try.underlying102 (by rfl) (by decide) (by decide) (by rfl) _ _ (by rfl) w5 w.heap.size _ 0 ([]) (by rfl) (World.ownsRow_nil _ _ _ _) (by rfl) (by first | rfl | simp) #[.int .i64 2, .string ⟨#[]⟩, .int .i64 0, .int .i64 0, .slice none 0 0, .int .i64 n7, .bool false] (by rfl) (by rfl) (by decide) HBS.out ?_); intro v8 w8 hq1 hq2; have HOW := hid hq1; have HGR := hid hq2; clear hq1 hq2)
      exact ⟨Or.inr (Or.inl ⟨by rw [HW7.out], rfl, HOW.out, Grw.below HB5.out HGR.out (World.ownsRow_nil _ w.heap.size 26 7) HBS.out⟩), by decide⟩
    · have HOW1 := hid hown
      have HB1 := hid hB
      have HGW : Hid (wr.heap[g]? = some (.cells #[.int .i64 3, .int .i64 0, .int .i64 0, .int .i64 0, .int .i64 n, .string ⟨#[]⟩, .bool false, .int .i64 ki, .int .i64 ty, .int .i64 lo, .int .i64 n, .int .i64 de, .string tx, .bool co] 70 (0, 0))) := (hB.block g HGL.out).trans HG.out
      have x0 : wr.cell? ⟨g, 7, none⟩ = some (.int .i64 ki) := by rw [cell_of_blk HGW.out]; rfl
      have x1 : wr.cell? ⟨g, 8, none⟩ = some (.int .i64 ty) := by rw [cell_of_blk HGW.out]; rfl
      have x2 : wr.cell? ⟨g, 9, none⟩ = some (.int .i64 lo) := by rw [cell_of_blk HGW.out]; rfl
      have x3 : wr.cell? ⟨g, 10, none⟩ = some (.int .i64 n) := by rw [cell_of_blk HGW.out]; rfl
      have x4 : wr.cell? ⟨g, 11, none⟩ = some (.int .i64 de) := by rw [cell_of_blk HGW.out]; rfl
      have x5 : wr.cell? ⟨g, 12, none⟩ = some (.string tx) := by rw [cell_of_blk HGW.out]; rfl
      have x6 : wr.cell? ⟨g, 13, none⟩ = some (.bool co) := by rw [cell_of_blk HGW.out]; rfl
      have HBS : Hid (w.heap.size ≤ wr.heap.size) := hB.size
      clear hown hB
      go_wp2_with ((with_reducible show wpList _ _ _ (Oper.mk _ (.store 70 _ _) _ _ _ _ :: _) _ _); refine wp_st (by rfl) 70 _ _ (by rfl) wr.heap.size 0 [.int .i64 0, .int .i64 0, .int .i64 0, .int .i64 0, .int .i64 0, .string ⟨#[]⟩, .bool false] 70 (.agg #[.int .i64 ki, .int .i64 ty, .int .i64 lo, .int .i64 n, .int .i64 de, .string tx, .bool co]) [.int .i64 ki, .int .i64 ty, .int .i64 lo, .int .i64 n, .int .i64 de, .string tx, .bool co] (by rfl) (by rfl) (by rfl) (heap_alloc_new _ _) (by simp) (by kernel_rfl) (by rfl) ?_; intro w5 hq1 hq2; have HU5 := hid hq1; have HF5 := hid hq2; have d0 : w5.cell? ⟨wr.heap.size, 0, none⟩ = some (.int .i64 ki) := (by rw [cell_of_blk hq1]; rfl); clear hq1 hq2)
      clear x0 x1 x2 x3 x4 x5 x6
      have HB5 : Hid (Below wr.heap.size wr w5) := below_fr ((Below.refl _ wr).alloc (Nat.le_refl _) _) HF5.out (Nat.le_refl _)
      have HBT : Hid (Below w.heap.size w w5) := below_trans HB1.out HB5.out HBS.out
      have HOW5 := hid (World.ownsRow.below HOW1.out HB5.out)
      have HBS : Hid (w.heap.size ≤ w5.heap.size) := HBT.out.size
      have d1 : w5.cell? ⟨wr.heap.size, 1, none⟩ = some (.int .i64 ty) := by rw [cell_of_blk HU5.out]; rfl
      have d4 : w5.cell? ⟨wr.heap.size, 4, none⟩ = some (.int .i64 de) := by rw [cell_of_blk HU5.out]; rfl
      have d6 : w5.cell? ⟨wr.heap.size, 6, none⟩ = some (.bool co) := by rw [cell_of_blk HU5.out]; rfl
      have d2 : w5.cell? ⟨wr.heap.size, 2, none⟩ = some (.int .i64 lo) := by rw [cell_of_blk HU5.out]; rfl
      have d3 : w5.cell? ⟨wr.heap.size, 3, none⟩ = some (.int .i64 n) := by rw [cell_of_blk HU5.out]; rfl
      have d5 : w5.cell? ⟨wr.heap.size, 5, none⟩ = some (.string tx) := by rw [cell_of_blk HU5.out]; rfl
      rcases (by have := HQ6.out; omega : (k6 = 0 ∨ k6 = 1 ∨ k6 = 2) ∨ (k6 = 3 ∨ k6 = 4) ∨ k6 = 5) with hk | hk | rfl
      · have HE : Hid (O = ⟨ik, is, ia, ib, il, id, ic⟩) := by have h := HOE.out; rw [if_pos (by omega)] at h; exact h.symm
        rcases hk with rfl | rfl | rfl
        all_goals
          go_wp2_with fail
          refine (HPK.out _).mono ?_
          rintro e w5 ⟨rfl, rfl⟩
          go_wp2_with fail
          refine (HIN.out _).mono ?_
          rintro e w6 ⟨u, rfl, hvo, hb6⟩
          obtain ⟨pu, nu, cu, hsh⟩ := hvo.shape3
          subst hsh
          have HV6 := hid hvo
          have HB6 := hid hb6
          have HOW6 := hid (World.ownsRow.below HOW5.out hb6)
          have HBT6 := hid (below_trans HBT.out hb6 HBS.out)
          have HBS : Hid (w.heap.size ≤ w6.heap.size) := HBT6.out.size
          clear hvo hb6
          go_wp2_with (at_builtin; go_loud (refine wp_pushR 26 102 _ 7 80 infoOp Try.underlying102 (by rfl) (by decide) (by decide) (by rfl) _ _ (by rfl) w6 w.heap.size _ 1 (opC (advO n7 false) (.slice none 0 0)) (by rfl) HOW6.out (by rfl) (by first | rfl | simp) #[.int .i64 ik, .string is, .int .i64 ia, .int .i64 ib, .slice pu nu cu, .int .i64 id, .bool ic] (by rfl) (by rfl) (by decide) HBS.out ?_); intro v8 w8 hq1 hq2; have HOW := hid hq1; have HGR := hid hq2; clear hq1 hq2)
          have hv8 : VO w8 w.heap.size (.slice pu nu cu) il := (HV6.out.grw HGR.out HOW6.out (by decide)).weak (by have := HB5.out.size; have := HBT.out.size; omega)
          exact ⟨Or.inr (Or.inr ⟨rfl, .slice pu nu cu, by rw [HE.out]; exact HOW.out, by rw [HE.out]; exact hv8, Grw.below HBT6.out HGR.out HOW6.out HBS.out⟩), by decide⟩
      · have HE : Hid (O = advO d7 co) := by have h := HOE.out; rw [if_neg (by omega), if_pos (by omega)] at h; exact h.symm
        rcases hk with rfl | rfl
        all_goals
          go_wp2_with fail
          refine (HPK.out _).mono ?_
          rintro e w5 ⟨rfl, rfl⟩
          go_wp2_with fail
          refine (HPD.out _).mono ?_
          rintro e w5 ⟨rfl, rfl⟩
          go_wp2_with (at_builtin; go_loud (refine wp_pushR 26 102 _ 7 80 infoOp Try.underlying102 (by rfl) (by decide) (by decide) (by rfl) _ _ (by rfl) w5 w.heap.size _ 1 (opC (advO n7 false) (.slice none 0 0)) (by rfl) HOW5.out (by rfl) (by first | rfl | simp) #[.int .i64 2, .string ⟨#[]⟩, .int .i64 0, .int .i64 0, .slice none 0 0, .int .i64 d7, .bool co] (by rfl) (by rfl) (by decide) HBS.out ?_); intro v8 w8 hq1 hq2; have HOW := hid hq1; have HGR := hid hq2; clear hq1 hq2)
          exact ⟨Or.inr (Or.inr ⟨rfl, .slice none 0 0, by rw [HE.out]; exact HOW.out, by rw [HE.out]; exact VO.nil _ _, Grw.below HBT.out HGR.out HOW5.out HBS.out⟩), by decide⟩
      · have HE : Hid (O = qryO j5) := by have h := HOE.out; rw [if_neg (by omega), if_neg (by omega)] at h; exact (by simpa using h.symm : O = qryO j5)
        have hx1 : ∀ o, (w5.alloc o).cell? ⟨wr.heap.size, 1, none⟩ = some (.int .i64 ty) := fun o => (World.cell?_alloc_past _ _ _ (blk_lt HU5.out)).trans d1
        have HB6 : Hid (Below w5.heap.size w5 (w5.alloc (.cells #[.string ⟨#[97]⟩, .string ⟨#[98]⟩, .string ⟨#[99]⟩, .string ⟨#[100]⟩, .string ⟨#[101]⟩] 9))) := (Below.refl _ _).alloc (Nat.le_refl _) _
        have c5 : (w5.alloc (.cells #[.string ⟨#[97]⟩, .string ⟨#[98]⟩, .string ⟨#[99]⟩, .string ⟨#[100]⟩, .string ⟨#[101]⟩] 9)).cell? ⟨w5.heap.size, j5, none⟩ = some (.string (ty5 j5)) := by
          have h5 := HJ5.out
          rw [cell_of_blk (heap_alloc_new _ _)]
          rcases (by omega : j5 = 0 ∨ j5 = 1 ∨ j5 = 2 ∨ j5 = 3 ∨ j5 = 4) with rfl | rfl | rfl | rfl | rfl <;> rfl
        have i1 : (0 : Int) ≤ (j5 : Int) := by omega
        have i2 : (j5 : Int) < 5 := by have := HJ5.out; omega
        have HOW6 := hid (World.ownsRow.below HOW5.out HB6.out)
        have HBT6 := hid (below_trans HBT.out HB6.out HBS.out)
        go_wp2_with fail
        refine (HPK.out _).mono ?_
        rintro e w5 ⟨rfl, rfl⟩
        go_wp2_with fail
        refine (HPT.out _).mono ?_
        rintro e W6 ⟨rfl, hW6⟩
        rw [← hW6] at c5 HB6 HOW6 HBT6
        clear hx1 hW6
        have HBS : Hid (w.heap.size ≤ W6.heap.size) := HBT6.out.size
        go_wp2_with (at_builtin; go_loud (refine wp_pushR 26 102 _ 7 80 infoOp Try.underlying102 (by rfl) (by decide) (by decide) (by rfl) _ _ (by rfl) W6 w.heap.size _ 1 (opC (advO n7 false) (.slice none 0 0)) (by rfl) HOW6.out (by rfl) (by first | rfl | simp) #[.int .i64 3, .string (ty5 j5), .int .i64 0, .int .i64 0, .slice none 0 0, .int .i64 0, .bool false] (by rfl) (by rfl) (by decide) HBS.out ?_); intro v8 w8 hq1 hq2; have HOW := hid hq1; have HGR := hid hq2; clear hq1 hq2)
        exact ⟨Or.inr (Or.inr ⟨rfl, .slice none 0 0, by rw [HE.out]; exact HOW.out, by rw [HE.out]; exact VO.nil _ _, Grw.below HBT6.out HGR.out HOW6.out HBS.out⟩), by decide⟩
    · have HOW1 := hid hown
      have HV1 := hid hvo
      have HB1 := hid hB
      clear hown hvo hB
      go_wp2
      go_ret
      exact ⟨_, u, rfl, HOW1.out, HV1.out, HB1.out⟩
end Go.Proofs.Ytepgkemnpcadiaa
